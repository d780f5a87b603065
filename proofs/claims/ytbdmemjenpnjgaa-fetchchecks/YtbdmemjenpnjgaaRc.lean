/- The document's own: which words may be run? -/
import Derived.Test.YtbdmemjenpnjgaaRa
import Derived.Test.YtbdmemjenpnjgaaRb
import Derived.Test.YtbdmemjenpnjgaaLd
namespace Go.Proofs.Ytbdmemjenpnjgaa
open Go.RowKit
set_option linter.unusedVariables false
set_option linter.unusedSimpArgs false
set_option maxRecDepth 8000

open Go.Shelf Go.Maps
/-- The document's own answer. -/
def DocR (w : World) (l : List Nat) (b : Bool) (e : Ending) (w' : World) : Prop := ∃ u, e = .returned (.tuple #[u, .bool b]) ∧ w'.ownsRow w.heap.size 24 1 u l.length (wrdV l) ∧ Below w.heap.size w w'
theorem info3 : (Try.prog.info? 3).map (fun i => (i.zero, i.size, i.bytes)) = some (some (vI 0), 1, 8) := by kernel_rfl
theorem docMay_no {tr : List Nt} {v : Value} {c : Int} {a f : Nat} {w : World} (N : Nts w v tr) (ok : TrOk tr) (ha : a < 18446744073709551616) (h : mayOk tr c a = false) : Calls Try.prog 9 #[v, vI c, vU a, v32 f] w fun e w' => DocR w [] false e w' := by
  have k1 := docRight_c N ok
  obtain ⟨ao, cap, rfl⟩ := N.len
  unfold mayOk at h
  clear N
  cases h1 : rightL tr with
  | false =>
    rw [h1] at k1
    go_enter Try.func9, Try.ntmps9
    go_wp2_with (first | (go_at_call 21; (with_reducible refine k1.mono ?_); clear k1; rintro e w2 ⟨rfl, hB⟩; dsimp only))
    go_ret2
    exact ⟨_, rfl, World.ownsRow_nil _ _ _ _, hB⟩
  | true =>
    rw [h1] at k1 h
    by_cases h2 : c < 0
    · go_enter Try.func9, Try.ntmps9
      go_wp2_with (first | (go_at_call 21; (with_reducible refine k1.mono ?_); clear k1; rintro e w2 ⟨rfl, hB⟩; dsimp only))
      go_ret2
      exact ⟨_, rfl, World.ownsRow_nil _ _ _ _, hB⟩
    · by_cases h3 : c > 7
      · go_enter Try.func9, Try.ntmps9
        go_wp2_with (first | (go_at_call 21; (with_reducible refine k1.mono ?_); clear k1; rintro e w2 ⟨rfl, hB⟩; dsimp only))
        go_ret2
        exact ⟨_, rfl, World.ownsRow_nil _ _ _ _, hB⟩
      · have h4 : ((a : Int) % 4 != 0) = true := by
          have : coreB c = true := by simp [coreB]; omega
          rw [this] at h
          simp [ofWord] at h
          simp; omega
        clear h
        go_enter Try.func9, Try.ntmps9
        go_wp2_with (first | (go_at_call 21; (with_reducible refine k1.mono ?_); clear k1; rintro e w2 ⟨rfl, hB⟩; dsimp only))
        go_ret2
        exact ⟨_, rfl, World.ownsRow_nil _ _ _ _, hB⟩
theorem outL_zero (tr : List Nt) (c : Int) (a f : Nat) : outL tr c a f 0 = [] := by simp [outL]; rfl
abbrev numW (l : List Nat) : List Value := l.map fun (x : Nat) => vI (x : Int)
structure DmI (w : World) (tr : List Nt) (a f k : Nat) (u z : Value) (W : World) : Prop where
  ws : W.ownsRow w.heap.size 24 1 u (vers (tr.take k) a f).length (wrdV (vers (tr.take k) a f))
  is : W.ownsRow w.heap.size 3 1 z (wi (tr.take k) a).length (numW (wi (tr.take k) a))
  low : Below w.heap.size w W
theorem vers_le (tr : List Nt) (a f : Nat) : (vers tr a f).length ≤ tr.length + 1 := by
  unfold vers wordsW
  simp only [List.length_cons, List.length_map]
  have := List.length_filter_le (isW a) tr
  omega
theorem wi_le (tr : List Nt) (a : Nat) : (wi tr a).length ≤ tr.length := by
  have h1 := wi_len tr 0 a
  have h2 := vers_len tr 0 a 0
  have h3 := vers_le tr a 0
  omega
set_option maxHeartbeats 4000000 in
theorem docMay_ok {tr : List Nt} {v : Value} {c : Int} {a f : Nat} {w : World} (N : Nts w v tr) (ok : TrOk tr) (ha : a < 18446744073709551616) (hf : f < 4294967296) (h : mayOk tr c a = true) : Calls Try.prog 9 #[v, vI c, vU a, v32 f] w fun e w' => DocR w (mayL tr c a f) true e w' := by
  have k1 := docRight_c N ok
  obtain ⟨ao, cap, ev⟩ := N.len
  subst ev
  have hmax := N.max
  obtain ⟨i0, hi, hz0, hz1, hz2⟩ := info_parts info24
  obtain ⟨j0, hj, jz0, jz1, jz2⟩ := info_parts info3
  unfold mayOk at h
  simp only [Bool.and_eq_true] at h
  obtain ⟨⟨h1, h2⟩, h3⟩ := h
  rw [h1] at k1
  have c1 : ¬ c < 0 := by simp [coreB] at h2; omega
  have c2 : ¬ c > 7 := by simp [coreB] at h2; omega
  have c3 : ((a : Int) % 4 != 0) = false := by simp [ofWord] at h3; simp; omega
  clear h2 h3 h1
  go_enter Try.func9, Try.ntmps9
  go_upto_region 5 with (first | (go_at_call 21; (with_reducible refine k1.mono ?_); clear k1; rintro e w1 ⟨rfl, hB1⟩; dsimp only))
  have hI0 : DmI w tr a f 0 (.slice (some ⟨w1.heap.size, 0, none⟩) 1 1) (.slice none 0 0) (w1.alloc (.cells #[v32 f] 24)) :=
    ⟨own_new w1 w.heap.size hB1.size (v32 f) 24, World.ownsRow_nil _ _ _ _, below_then hB1 (Nat.le_refl _) (below_alloc _ _)⟩
  generalize w1.alloc (Obj.cells #[Value.int IntKind.u32 _] 24) = w2 at *
  obtain ⟨g1, hg1⟩ : ∃ g1, g1 = w1.heap.size := ⟨_, rfl⟩
  rw [← hg1] at hI0
  rw [← hg1]
  clear hg1 hB1 c1 c2 c3
  go_wp2
  go_loopw [11, 12, 13] (fun s11 s12 s13 wr => ∃ k : Nat, k ≤ tr.length ∧ s13 = vI k ∧ DmI w tr a f k s11 s12 wr) (fun _ _ s13 _ => ((tr.length : Int) - intOf s13).toNat)
  case atStart => exact ⟨0, Nat.zero_le _, rfl, hI0⟩
  case round =>
    obtain ⟨k, hk, rfl, hI⟩ := hrel
    clear hI0
    by_cases hlt : (k : Int) < tr.length
    · have hkl : k < tr.length := by omega
      obtain ⟨n, hn⟩ : ∃ n, tr[k]? = some n := ⟨tr[k], List.getElem?_eq_getElem hkl⟩
      obtain ⟨ra, cap', ev', hc⟩ := (N.low hI.low.size fun b hb => hI.low.block b hb).cell (by omega)
      cases ev'
      obtain ⟨hblk, d0, d1, d2, d3⟩ := hc k n hn
      have okn := ok n (List.mem_of_getElem? hn)
      have vn : vers (tr.take (k + 1)) a f = vers (tr.take k) a f ++ (if isW a n then [n.word] else []) := by rw [List.take_add_one, hn]; exact vers_snoc _ _ _ _
      have wn : wi (tr.take (k + 1)) a = wi (tr.take k) a ++ (if isW a n then [k] else []) := by
        rw [List.take_add_one, hn]
        show wi (tr.take k ++ [n]) a = _
        rw [wi_snoc, List.length_take, Nat.min_eq_left (by omega)]
      have l1 := vers_le (tr.take k) a f
      have l2 := wi_le (tr.take k) a
      rw [List.length_take, Nat.min_eq_left (by omega)] at l1 l2
      clear hc hn
      cases hw : isW a n with
      | true =>
        rw [hw, if_pos rfl] at vn wn
        have hkd : n.kind = 1 ∧ n.addr = a := by simpa [isW] using hw
        rw [hkd.1] at d0
        rw [hkd.2] at d2
        clear hw hkd
        have hsz := hI.low.size
        go_upto_region 11 with (at_builtin; refine wpList_append_own_at _ rfl _ _ 26 rfl w.heap.size 24 i0 (v32 0) 1 4 Try.underlying26 hi hz0 hz1 hz2 rfl (by decide) u11 _ _ rfl (hI.ws.alloc _) ⟨wr.heap.size, 0, none⟩ 1 1 [v32 n.word] rfl rfl (cell_one_new _ _ _) (by simp [Value.oneCell']) (by simp only [maxLen]; omega) (by omega) (by simp; omega) ?_; intro v3 w3 hown3 hgrow _ _)
        have hg3 : wr.grownBy w3 u11.ownBlock := (World.grownBy_alloc _ _ _).trans hgrow
        have is3 := hI.is.kept hg3 (own_apart hI.is hI.ws (by decide))
        have low3 : Below w.heap.size w w3 := hI.low.trans ((goes_grown (F := fun q => u11.ownBlock = some q) hg3 (fun q hq => hq)).below hI.low.size (fun q hq => (hI.ws.lt q hq).1))
        have hsz3 := low3.size
        have ws3 : w3.ownsRow w.heap.size 24 1 v3 (vers (tr.take (k + 1)) a f).length (wrdV (vers (tr.take (k + 1)) a f)) := by rw [vn, List.length_append, wrdV_append]; exact hown3
        clear hown3 hgrow hg3 hI d0 d1 d2 d3 vn
        go_wp2_with (at_builtin; refine wpList_append_own_at _ rfl _ _ 48 rfl w.heap.size 3 j0 (vI 0) 1 8 Try.underlying48 hj jz0 jz1 jz2 rfl (by decide) u12 _ _ rfl (is3.alloc _) ⟨w3.heap.size, 0, none⟩ 1 1 [vI k] rfl rfl (cell_one_new _ _ _) (by simp [Value.oneCell']) (by simp only [maxLen]; omega) (by omega) (by simp; omega) ?_; intro v4 w4 hown4 hgrow4 _ _)
        have hg4 : w3.grownBy w4 u12.ownBlock := (World.grownBy_alloc _ _ _).trans hgrow4
        have ws4 := ws3.kept hg4 (own_apart ws3 is3 (by decide))
        have low4 : Below w.heap.size w w4 := low3.trans ((goes_grown (F := fun q => u12.ownBlock = some q) hg4 (fun q hq => hq)).below low3.size (fun q hq => (is3.lt q hq).1))
        go_roundw
        case rel =>
          refine ⟨k + 1, by omega, by simp, ⟨ws4, ?_, low4⟩⟩
          rw [wn, List.length_append]
          have e : numW (wi (tr.take k) a ++ [k]) = numW (wi (tr.take k) a) ++ [vI k] := by simp [numW]
          rw [e]; exact hown4
        case measure => simp [intOf]; omega
      | false =>
        rw [hw] at vn wn
        simp only [Bool.false_eq_true, if_false, List.append_nil] at vn wn
        have hI2 : DmI w tr a f (k + 1) u11 u12 wr := ⟨by rw [vn]; exact hI.ws, by rw [wn]; exact hI.is, hI.low⟩
        clear vn wn hI
        by_cases h1 : n.kind = 1
        · have h2 : ((n.addr : Int) == (a : Int)) = false := by
            rw [beq_eq_false_iff_ne]
            intro e
            have : n.addr = a := by omega
            simp [isW, h1, this] at hw
          rw [h1] at d0
          clear h1 hw
          go_wp2
          go_roundw
          case rel => exact ⟨k + 1, by omega, by simp, hI2⟩
          case measure => simp [intOf]; omega
        · have g1 : ((n.kind : Int) == 1) = false := beq_eq_false_iff_ne.2 h1
          clear h1 hw
          go_wp2
          go_roundw
          case rel => exact ⟨k + 1, by omega, by simp, hI2⟩
          case measure => simp [intOf]; omega
    · have e : k = tr.length := by omega
      subst e
      obtain ⟨ws, is, low⟩ := hI
      rw [List.take_length] at ws is
      have v1 := vers_le tr a f
      have v2 := wi_le tr a
      have v3 := vers_len tr c a f
      have v4 := wi_len tr c a
      clear hlt hk
      have kl := fun (p : Nat) (hp : p < tr.length) (W : World) (B : Below w.heap.size w W) => docLost_c (c := c) (a := a) (N.low B.size fun b hb => B.block b hb) ok ha hp
      obtain ⟨gw, cw, ew, _, _, hgw, hcw0, _⟩ := own_addr ws (by omega)
      subst ew
      have hcw : ∀ (i y : Nat), (vers tr a f)[i]? = some y → wr.cell? ⟨gw, i, none⟩ = some (v32 y) := fun i y hy => by
        rw [hcw0 i (by have := (List.getElem?_eq_some_iff.1 hy).1; omega)]
        simp [hy]
      clear hcw0 ws
      have hcz : 0 < (wi tr a).length → ∃ gz cz, u12 = .slice (some ⟨gz, 0, none⟩) (wi tr a).length cz ∧ gz < wr.heap.size ∧ ∀ (i y : Nat), (wi tr a)[i]? = some y → wr.cell? ⟨gz, i, none⟩ = some (vI y) := fun h0 => by
        obtain ⟨gz, cz, ez, _, _, hgz, hcz0, _⟩ := own_addr is h0
        refine ⟨gz, cz, ez, hgz, fun i y hy => ?_⟩
        rw [hcz0 i (by have := (List.getElem?_eq_some_iff.1 hy).1; omega)]
        simp [hy]
      obtain ⟨az, cz, ez, _⟩ := own_len is
      subst ez
      obtain ⟨w3, hw3⟩ : ∃ w3, w3 = wr := ⟨_, rfl⟩
      subst hw3
      clear is N
      replace v3 : Hid ((vers tr a f).length = (au tr c a).nw + 1) := v3
      replace v4 : Hid ((wi tr a).length = (au tr c a).nw) := v4
      go_wp2
      go_loopw [14, 15] (fun s14 s15 wq => ∃ k : Nat, k ≤ (vers tr a f).length ∧ s15 = vI k ∧ wq.ownsRow w3.heap.size 24 1 s14 (outL tr c a f k).length (wrdV (outL tr c a f k)) ∧ Below w3.heap.size w3 wq) (fun _ s15 _ => (((vers tr a f).length : Int) - intOf s15).toNat)
      case atStart => exact ⟨0, Nat.zero_le _, rfl, by rw [outL_zero]; exact World.ownsRow_nil _ _ _ _, Below.refl _ _⟩
      case round =>
        obtain ⟨k, hk, rfl, hrow, hB⟩ := hrel
        obtain ⟨wk, hwk⟩ : ∃ wk, wk = wr := ⟨_, rfl⟩
        subst hwk
        by_cases hlt : (k : Int) < (vers tr a f).length
        · have hkl : k < (vers tr a f).length := by omega
          obtain ⟨x, hx⟩ : ∃ x, (vers tr a f)[k]? = some x := ⟨(vers tr a f)[k], List.getElem?_eq_getElem hkl⟩
          have hcx : wk.cell? ⟨gw, k, none⟩ = some (v32 x) := (hB.cell (p := ⟨gw, k, none⟩) hgw).trans (hcw k x hx)
          have hnext := outL_next (c := c) hx
          have hOl : (outL tr c a f k).length ≤ (vers tr a f).length := by
            unfold outL
            refine Nat.le_trans (onceL_len _) ?_
            simp; omega
          have hkw : k ≤ (wi tr a).length := by
            have h3 := v3.out
            have h4 := v4.out
            omega
          obtain ⟨aO, cO, eO, _⟩ := own_len hrow
          subst eO
          clear hcw hx
          go_wp2
          go_loopw [16, 17] (fun s16 s17 wq => Below wk.heap.size wk wq ∧ ∃ j : Nat, k ≤ j ∧ j ≤ (wi tr a).length ∧ s17 = vI j ∧ s16 = .bool (goneB tr c a k j)) (fun _ s17 _ => (((wi tr a).length : Int) - intOf s17).toNat)
          case atStart => exact ⟨Below.refl _ _, k, Nat.le_refl _, hkw, rfl, by rw [goneB_none]⟩
          case round =>
            obtain ⟨hBj, j, hkj, hj, rfl, rfl⟩ := hrel
            by_cases hjl : (j : Int) < (wi tr a).length
            · have hjl' : j < (wi tr a).length := by omega
              obtain ⟨p, hp⟩ : ∃ p, (wi tr a)[j]? = some p := ⟨(wi tr a)[j], List.getElem?_eq_getElem hjl'⟩
              have hpl := wi_lt tr a p (List.mem_of_getElem? hp)
              obtain ⟨gz, cz', ez', hgz, hcz1⟩ := hcz (by omega)
              cases ez'
              have B3 : Below w3.heap.size w3 wr := hB.trans (hBj.mono hB.size)
              have hcp : wr.cell? ⟨gz, j, none⟩ = some (vI p) := (B3.cell (p := ⟨gz, j, none⟩) hgz).trans (hcz1 j p hp)
              have kl1 := kl p hpl wr (low.trans (B3.mono low.size))
              have hgn : goneB tr c a k (j + 1) = (goneB tr c a k j || lostF c a false (tr.drop (p + 1))) := by
                rw [goneB_next _ _ _ _ _ hkj]
                simp [List.getD, hp]
              obtain ⟨L, hL⟩ : ∃ L, lostF c a false (tr.drop (p + 1)) = L := ⟨_, rfl⟩
              rw [hL] at kl1 hgn
              clear hL hcz1 hp hcz kl hnext
              cases hgk : goneB tr c a k j with
              | true =>
                rw [hgk] at hgn
                replace hgn : Hid (goneB tr c a k (j + 1) = (true || L)) := hgn
                clear hgk
                go_wp2_with (go_at_call 22; (with_reducible refine kl1.mono ?_); clear kl1; rintro e wj ⟨rfl, hBq⟩; dsimp only)
                go_roundw
                case rel => exact ⟨below_then hBj (Nat.le_refl _) hBq, j + 1, by omega, by omega, by simp, by rw [hgn.out]; simp⟩
                case measure => simp [intOf]; omega
              | false =>
                rw [hgk] at hgn
                replace hgn : Hid (goneB tr c a k (j + 1) = (false || L)) := hgn
                clear hgk
                go_wp2_with (go_at_call 22; (with_reducible refine kl1.mono ?_); clear kl1; rintro e wj ⟨rfl, hBq⟩; dsimp only)
                go_roundw
                case rel => exact ⟨below_then hBj (Nat.le_refl _) hBq, j + 1, by omega, by omega, by simp, by rw [hgn.out]; simp⟩
                case measure => simp [intOf]; omega
            · have ej : j = (wi tr a).length := by omega
              rw [ej, gone_spec]
              clear ej hjl hj hkj
              obtain ⟨wa, hwa⟩ : ∃ wa, wa = wr := ⟨_, rfl⟩
              subst hwa
              have rowa := own_grow hrow hBj
              have hcxa : wa.cell? ⟨gw, k, none⟩ = some (v32 x) := (hBj.cell (p := ⟨gw, k, none⟩) (Nat.lt_of_lt_of_le hgw hB.size)).trans hcx
              have hgwa : gw < wa.heap.size := Nat.lt_of_lt_of_le (Nat.lt_of_lt_of_le hgw hB.size) hBj.size
              have Ba : Below w3.heap.size w3 wa := hB.trans (hBj.mono hB.size)
              obtain ⟨b0, hb0⟩ : ∃ b0, decide (k < (au tr c a).lost) = b0 := ⟨_, rfl⟩
              rw [hb0] at hnext
              rw [hb0]
              obtain ⟨O, hO⟩ : ∃ O, outL tr c a f k = O := ⟨_, rfl⟩
              rw [hO] at hnext rowa hOl
              rw [hO]
              replace hnext : Hid (_ = _) := hnext
              clear hb0 hO hBj hrow hcx hcz kl j
              have hcO : 0 < O.length → ∃ go co, Value.slice aO O.length cO = .slice (some ⟨go, 0, none⟩) O.length co ∧ go < wa.heap.size ∧ ∀ (i y : Nat), O[i]? = some y → wa.cell? ⟨go, i, none⟩ = some (v32 y) := fun h0 => by
                obtain ⟨gz, cz, ez, _, _, hgz, hcz0, _⟩ := own_addr rowa h0
                refine ⟨gz, cz, ez, hgz, fun i y hy => ?_⟩
                rw [hcz0 i (by have := (List.getElem?_eq_some_iff.1 hy).1; omega)]
                simp [hy]
              go_wp2
              go_loopw [16, 19] (fun s16 s19 wq => Below wa.heap.size wa wq ∧ ∃ q : Nat, q ≤ O.length ∧ s19 = vI q ∧ s16 = .bool (b0 || (O.take q).contains x)) (fun _ s19 _ => ((O.length : Int) - intOf s19).toNat)
              case atStart => exact ⟨Below.refl _ _, 0, Nat.zero_le _, rfl, by simp⟩
              case round =>
                obtain ⟨hBj, q, hj, rfl, rfl⟩ := hrel
                by_cases hjl : (q : Int) < O.length
                · have hjl' : q < O.length := by omega
                  obtain ⟨y, hy⟩ : ∃ y, O[q]? = some y := ⟨O[q], List.getElem?_eq_getElem hjl'⟩
                  obtain ⟨go, co, eo, hgo, hco⟩ := hcO (by omega)
                  cases eo
                  have hcy := hco q y hy
                  have hst2 : (O.take (q + 1)).contains x = ((O.take q).contains x || ((y : Int) == (x : Int))) := by
                    rw [List.take_add_one, hy]
                    by_cases e : y = x
                    · subst e; simp
                    · rw [beq_eq_false_iff_ne.2 (by omega : (y : Int) ≠ (x : Int))]; simp [Ne.symm e]
                  clear hco hcO hy
                  cases hb : (b0 || (O.take q).contains x) with
                  | true =>
                    have hb2 : (b0 || (O.take (q + 1)).contains x) = true := by rw [hst2, ← Bool.or_assoc, hb]; rfl
                    replace hb2 : Hid ((b0 || (O.take (q + 1)).contains x) = true) := hb2
                    clear hst2 hb
                    go_upto_region 25 with fail
                    have hst : (fun (_ : Nat) (W : World) => Below wa.heap.size wa W) 0 _ := hBj.trans ((Rel.below_draws (n := 1) (Below.refl _ _)).mono hBj.size)
                    refine Chg.wp_region_chainG (fun (_ : Nat) (W : World) => Below wa.heap.size wa W) [] [0, 0, 0, 0, 0, 0, 0, 0, 0, 0, 0, 0, 0] [.bool true, .bool true, undef, undef, undef, undef, undef, undef, undef, undef, undef, .bool true, .bool true] (by kernel_rfl) (by kernel_rfl) (by kernel_rfl) (by kernel_rfl) (by kernel_rfl) hst ?_
                    clear hst
                    refine ⟨fun j w1 hj hC => Chg.uponW_yes (by rfl) (by exact Chn.upon_pure hC (fun F hF => by (go_simp <;> exact hF))), ?_⟩
                    simp only [Act.put, List.setIfInBounds_toArray, List.set_cons_succ, List.set_cons_zero]
                    refine ⟨fun j w1 hj hC => Chg.uponW_yes (by rfl) (by exact Chn.upon_pure hC (fun F hF => by (go_simp <;> exact hF))), ?_⟩
                    simp only [Act.put, List.setIfInBounds_toArray, List.set_cons_succ, List.set_cons_zero]
                    refine ⟨fun j w1 hj hC => Chg.uponW_no (by rfl) ⟨rfl, hC⟩, ?_⟩
                    simp only [Act.put, List.setIfInBounds_toArray, List.set_cons_succ, List.set_cons_zero]
                    refine ⟨fun j w1 hj hC => Chg.uponW_no (by rfl) ⟨rfl, hC⟩, ?_⟩
                    simp only [Act.put, List.setIfInBounds_toArray, List.set_cons_succ, List.set_cons_zero]
                    refine ⟨fun j w1 hj hC => Chg.uponW_no (by rfl) ⟨rfl, hC⟩, ?_⟩
                    simp only [Act.put, List.setIfInBounds_toArray, List.set_cons_succ, List.set_cons_zero]
                    refine ⟨fun j w1 hj hC => Chg.uponW_no (by rfl) ⟨rfl, hC⟩, ?_⟩
                    simp only [Act.put, List.setIfInBounds_toArray, List.set_cons_succ, List.set_cons_zero]
                    refine ⟨fun j w1 hj hC => Chg.uponW_no (by rfl) ⟨rfl, hC⟩, ?_⟩
                    simp only [Act.put, List.setIfInBounds_toArray, List.set_cons_succ, List.set_cons_zero]
                    refine ⟨fun j w1 hj hC => Chg.uponW_no (by rfl) ⟨rfl, hC⟩, ?_⟩
                    simp only [Act.put, List.setIfInBounds_toArray, List.set_cons_succ, List.set_cons_zero]
                    refine ⟨fun j w1 hj hC => Chg.uponW_no (by rfl) ⟨rfl, hC⟩, ?_⟩
                    simp only [Act.put, List.setIfInBounds_toArray, List.set_cons_succ, List.set_cons_zero]
                    refine ⟨fun j w1 hj hC => Chg.uponW_no (by rfl) ⟨rfl, hC⟩, ?_⟩
                    simp only [Act.put, List.setIfInBounds_toArray, List.set_cons_succ, List.set_cons_zero]
                    refine ⟨fun j w1 hj hC => Chg.uponW_no (by rfl) ⟨rfl, hC⟩, ?_⟩
                    simp only [Act.put, List.setIfInBounds_toArray, List.set_cons_succ, List.set_cons_zero]
                    refine ⟨fun j w1 hj hC => Chg.uponW_yes (by rfl) (by exact Chn.upon_pure hC (fun F hF => by (go_simp <;> exact hF))), ?_⟩
                    simp only [Act.put, List.setIfInBounds_toArray, List.set_cons_succ, List.set_cons_zero]
                    refine ⟨fun j w1 hj hC => Chg.uponW_yes (by rfl) (by exact Chn.upon_pure hC (fun F hF => by (go_simp <;> exact hF))), ?_⟩
                    simp only [Act.put, List.setIfInBounds_toArray, List.set_cons_succ, List.set_cons_zero]
                    intro w5 hC

                    go_wp2
                    go_roundw
                    case rel => exact ⟨hC, q + 1, by omega, by simp, by rw [hb2.out]⟩
                    case measure => simp [intOf]; omega
                  | false =>
                    have hb2 : (b0 || (O.take (q + 1)).contains x) = ((y : Int) == (x : Int)) := by rw [hst2, ← Bool.or_assoc, hb]; rfl
                    replace hb2 : Hid ((b0 || (O.take (q + 1)).contains x) = ((y : Int) == (x : Int))) := hb2
                    clear hst2 hb
                    go_upto_region 25 with fail
                    have hst : (fun (_ : Nat) (W : World) => Below wa.heap.size wa W) 0 _ := hBj.trans ((Rel.below_draws (n := 1) (Below.refl _ _)).mono hBj.size)
                    refine Chg.wp_region_chainG (fun (_ : Nat) (W : World) => Below wa.heap.size wa W) [] [0, 0, 0, 0, 0, 0, 0, 0, 0, 0, 0, 0, 0] [.bool false, .bool false, .slice (some ⟨go, 0, none⟩) O.length cO, vI q, ptr go q, v32 y, .slice (some ⟨gw, 0, none⟩) (vers tr a f).length cw, vI k, ptr gw k, v32 x, .bool ((y : Int) == (x : Int)), .bool ((y : Int) == (x : Int)), .bool ((y : Int) == (x : Int))] (by kernel_rfl) (by kernel_rfl) (by kernel_rfl) (by kernel_rfl) (by kernel_rfl) hst ?_
                    clear hst
                    refine ⟨fun j w1 hj hC => Chg.uponW_yes (by rfl) (by exact Chn.upon_pure hC (fun F hF => by (go_simp <;> exact hF))), ?_⟩
                    simp only [Act.put, List.setIfInBounds_toArray, List.set_cons_succ, List.set_cons_zero]
                    refine ⟨fun j w1 hj hC => Chg.uponW_yes (by rfl) (by exact Chn.upon_pure hC (fun F hF => by (go_simp <;> exact hF))), ?_⟩
                    simp only [Act.put, List.setIfInBounds_toArray, List.set_cons_succ, List.set_cons_zero]
                    refine ⟨fun j w1 hj hC => Chg.uponW_yes (by rfl) (by exact Chn.upon_pure hC (fun F hF => by (go_simp <;> exact hF))), ?_⟩
                    simp only [Act.put, List.setIfInBounds_toArray, List.set_cons_succ, List.set_cons_zero]
                    refine ⟨fun j w1 hj hC => Chg.uponW_yes (by rfl) (by exact Chn.upon_pure hC (fun F hF => by (go_simp <;> exact hF))), ?_⟩
                    simp only [Act.put, List.setIfInBounds_toArray, List.set_cons_succ, List.set_cons_zero]
                    refine ⟨fun j w1 hj hC => Chg.uponW_yes (by rfl) (by exact Chn.upon_pure hC (fun F hF => by (go_simp <;> exact hF))), ?_⟩
                    simp only [Act.put, List.setIfInBounds_toArray, List.set_cons_succ, List.set_cons_zero]
                    refine ⟨fun j w1 hj hC => Chg.uponW_yes (by rfl) (by
                      have z := (hC.cell (p := ⟨go, q, none⟩) hgo).trans hcy
                      exact Chn.upon_pure hC (fun F hF => by (go_simp <;> exact hF))), ?_⟩
                    simp only [Act.put, List.setIfInBounds_toArray, List.set_cons_succ, List.set_cons_zero]
                    refine ⟨fun j w1 hj hC => Chg.uponW_yes (by rfl) (by exact Chn.upon_pure hC (fun F hF => by (go_simp <;> exact hF))), ?_⟩
                    simp only [Act.put, List.setIfInBounds_toArray, List.set_cons_succ, List.set_cons_zero]
                    refine ⟨fun j w1 hj hC => Chg.uponW_yes (by rfl) (by exact Chn.upon_pure hC (fun F hF => by (go_simp <;> exact hF))), ?_⟩
                    simp only [Act.put, List.setIfInBounds_toArray, List.set_cons_succ, List.set_cons_zero]
                    refine ⟨fun j w1 hj hC => Chg.uponW_yes (by rfl) (by exact Chn.upon_pure hC (fun F hF => by (go_simp <;> exact hF))), ?_⟩
                    simp only [Act.put, List.setIfInBounds_toArray, List.set_cons_succ, List.set_cons_zero]
                    refine ⟨fun j w1 hj hC => Chg.uponW_yes (by rfl) (by
                      have z := (hC.cell (p := ⟨gw, k, none⟩) hgwa).trans hcxa
                      exact Chn.upon_pure hC (fun F hF => by (go_simp <;> exact hF))), ?_⟩
                    simp only [Act.put, List.setIfInBounds_toArray, List.set_cons_succ, List.set_cons_zero]
                    refine ⟨fun j w1 hj hC => Chg.uponW_yes (by rfl) (by exact Chn.upon_pure hC (fun F hF => by (go_simp <;> exact hF))), ?_⟩
                    simp only [Act.put, List.setIfInBounds_toArray, List.set_cons_succ, List.set_cons_zero]
                    refine ⟨fun j w1 hj hC => Chg.uponW_yes (by rfl) (by exact Chn.upon_pure hC (fun F hF => by (go_simp <;> exact hF))), ?_⟩
                    simp only [Act.put, List.setIfInBounds_toArray, List.set_cons_succ, List.set_cons_zero]
                    refine ⟨fun j w1 hj hC => Chg.uponW_yes (by rfl) (by exact Chn.upon_pure hC (fun F hF => by (go_simp <;> exact hF))), ?_⟩
                    simp only [Act.put, List.setIfInBounds_toArray, List.set_cons_succ, List.set_cons_zero]
                    intro w5 hC

                    go_wp2
                    go_roundw
                    case rel => exact ⟨hC, q + 1, by omega, by simp, by rw [hb2.out]⟩
                    case measure => simp [intOf]; omega
                · have ej : q = O.length := by omega
                  rw [ej, List.take_length]
                  clear ej hjl hj
                  obtain ⟨wb, hwb⟩ : ∃ wb, wb = wr := ⟨_, rfl⟩
                  subst hwb
                  have rowb := own_grow rowa hBj
                  have hcxb : wb.cell? ⟨gw, k, none⟩ = some (v32 x) := (hBj.cell (p := ⟨gw, k, none⟩) hgwa).trans hcxa
                  have Bb : Below w3.heap.size w3 wb := Ba.trans (hBj.mono Ba.size)
                  clear hBj rowa hcxa Ba hcO q
                  cases hb : (b0 || O.contains x) with
                  | true =>
                    have hn2 := hnext.out
                    rw [hb, if_pos rfl] at hn2
                    replace hn2 : Hid (_ = O) := hn2
                    clear hnext hb
                    go_wp2
                    go_roundw
                    case rel => exact ⟨k + 1, by omega, by simp, by rw [hn2.out]; exact rowb, Bb⟩
                    case measure => simp [intOf]; omega
                  | false =>
                    have hn2 := hnext.out
                    rw [hb, if_neg (by simp)] at hn2
                    replace hn2 : Hid (_ = O ++ [x]) := hn2
                    have hszb := Bb.size
                    clear hnext hb
                    go_wp2_with (at_builtin; refine wpList_append_own_at _ rfl _ _ 26 rfl w3.heap.size 24 i0 (v32 0) 1 4 Try.underlying26 hi hz0 hz1 hz2 rfl (by decide) (.slice aO O.length cO) _ _ rfl (rowb.alloc _) ⟨wb.heap.size, 0, none⟩ 1 1 [v32 x] rfl rfl (cell_one_new _ _ _) (by simp [Value.oneCell']) (by simp only [maxLen]; omega) (by omega) (by simp; omega) ?_; intro v7 w7 hown7 hgrow7 _ _)
                    have hg7 : wb.grownBy w7 (Value.slice aO O.length cO).ownBlock := (World.grownBy_alloc _ _ _).trans hgrow7
                    go_roundw
                    case rel => exact ⟨k + 1, by omega, by simp, by rw [hn2.out, List.length_append, wrdV_append]; exact hown7, Bb.trans ((goes_grown (F := fun q => (Value.slice aO O.length cO).ownBlock = some q) hg7 (fun q hq => hq)).below Bb.size (fun q hq => (rowb.lt q hq).1))⟩
                    case measure => simp [intOf]; omega
        · have ek : k = (vers tr a f).length := by omega
          rw [ek, outL_all] at hrow
          clear ek hk hcw hcz kl
          go_wp2
          go_ret2
          exact ⟨_, rfl, own_mono hrow low.size, low.trans (hB.mono low.size)⟩
end Go.Proofs.Ytbdmemjenpnjgaa
