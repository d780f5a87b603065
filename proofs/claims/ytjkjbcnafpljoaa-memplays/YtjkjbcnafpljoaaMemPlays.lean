/- Xa, MemPlays of the seat, joined. -/
import Derived.Test.YtjkjbcnafpljoaaXh
import Derived.Test.YtjkjbcnafpljoaaXi
import Derived.Test.YtjkjbcnafpljoaaUf
import Derived.Test.YtjkjbcnafpljoaaPy
import Derived.Test.YtjkjbcnafpljoaaFr
/- Every step of the play; the play. -/
namespace Go.Proofs.Ytjkjbcnafpljoaa
open Go.RowKit
set_option linter.unusedVariables false
set_option linter.unusedSimpArgs false

theorem step_c (w0 : World) (wb g h : Nat) (o : St4) (S : Sta) (X : Doc) (w : World) (H0 : PS w0 wb g h S X w) (K : Lk S X) (hn : S.stamps.length ≤ 300) (ho : o.Ok) : Calls Try.prog 20 #[ptr wb 0, .agg #[vI o.k, vI o.c, vU o.a, vU o.v]] w fun e w' => e = .returned (.bool true) ∧ Done w0 wb g h S.stamps.length w' := by
  by_cases h1 : o.k = 1
  · exact step_1 w0 wb g h o S X w H0 K hn ho h1
  by_cases h2 : o.k = 2
  · exact step_2 w0 wb g h o S X w H0 K hn ho h2
  by_cases h3 : o.k = 3
  · exact step_3 w0 wb g h o S X w H0 K hn ho h3
  by_cases h4 : o.k = 4
  · exact step_4 w0 wb g h o S X w H0 K hn ho h4
  by_cases h5 : o.k = 5
  · exact step_5 w0 wb g h o S X w H0 K hn ho h5
  by_cases h6 : o.k = 6
  · exact step_6 w0 wb g h o S X w H0 K hn ho h6
  by_cases h7 : o.k = 7
  · exact step_7 w0 wb g h o S X w H0 K hn ho h7
  by_cases h8 : o.k = 8
  · exact step_8 w0 wb g h o S X w H0 K hn ho h8
  by_cases h9 : o.k = 9
  · exact step_9 w0 wb g h o S X w H0 K hn ho h9
  exact step_0 w0 wb g h o S X w H0 K hn ho (by omega)
/-- A world in which but the draws have gone on. -/
structure Alike (y w : World) : Prop where
  os : w.os = y.os
  tape : w.tape = y.tape
  output : w.output = y.output
  heap : w.heap = y.heap
theorem Alike.below {y w : World} (h : Alike y w) : Below y.heap.size y w := ⟨h.os, h.tape, h.output, by rw [h.heap]; exact Nat.le_refl _, fun _ _ => by rw [h.heap]⟩
theorem Alike.drew {y w : World} (h : Alike y w) (n : Nat) : Alike y (w.drewN n) := ⟨h.os, h.tape, h.output, h.heap⟩
theorem PS.grow {w0 w w' : World} {wb g h : Nat} {S : Sta} {X : Doc} (H : PS w0 wb g h S X w) (hb : Below w.heap.size w w') : PS w0 wb g h S X w' := by
  obtain ⟨L, M, low⟩ := H.mem
  obtain ⟨D, hD, lowD⟩ := H.doc
  exact ⟨⟨L, M.grow hb, low⟩, ⟨D, hD.grow hb, lowD⟩, H.wb.grow hb, below_then H.below (Nat.le_refl _) hb⟩
set_option maxRecDepth 8000 in
set_option maxHeartbeats 4000000 in
theorem plays_walk (wo co de : Int) (v : Value) (ss : List St4) (w : World) (hwo : I64 wo) (hco : I64 co) (hde : I64 de) (R : Scr w v ss) : Calls Try.prog 4 #[vI wo, vI co, vI de, v] w fun e w' => e = .returned (.bool true) ∧ Below w.heap.size w w' := by
  obtain ⟨ao, cap, ev⟩ := R.len
  have hmx := R.max
  simp only [maxLen] at hmx
  obtain ⟨p0, p1⟩ := pick_in wo (n := 12) (by decide)
  obtain ⟨q0, q1⟩ := pick_in co (n := 8) (by decide)
  obtain ⟨r0, r1⟩ := pick_in de (n := 5) (by decide)
  generalize hp : pickV wo 12 = p at p0 p1
  generalize hq : pickV co 8 = q at q0 q1
  generalize hr : pickV de 5 = r at r0 r1
  obtain ⟨n, hnn⟩ : ∃ n : Nat, (n : Int) = 1 + p := ⟨(1 + p).toNat, by omega⟩
  obtain ⟨c, hcc⟩ : ∃ c : Nat, (c : Int) = 1 + q := ⟨(1 + q).toNat, by omega⟩
  obtain ⟨d, hdd⟩ : ∃ d : Int, d = 1 + r := ⟨_, rfl⟩
  have hB : newB n c d = true := by simp only [newB, Bool.and_eq_true, decide_eq_true_eq]; omega
  have w1 : IntKind.i64.wrap (1 + p) = n := by rw [IntKind.wrap_i64]; omega
  have w2 : IntKind.i64.wrap (1 + q) = c := by rw [IntKind.wrap_i64]; omega
  have w3 : IntKind.i64.wrap (1 + r) = d := by rw [IntKind.wrap_i64]; omega
  have hn12 : n < 1000000 := by omega
  replace hp := show Hid _ from hp
  replace hq := show Hid _ from hq
  replace hr := show Hid _ from hr
  replace hnn := show Hid _ from hnn
  replace hcc := show Hid _ from hcc
  replace hdd := show Hid _ from hdd
  go_enter Try.func4, Try.ntmps4
  go_upto_region 3 with (first | (go_at_call 9; refine (known_c _).mono ?_; rintro e x1 ⟨rfl, hb1⟩; dsimp only) | (go_at_call 18; refine (pick_c wo 12 _ hwo (by decide) (by decide)).mono ?_; rintro e x' ⟨rfl, rfl⟩; dsimp only; rw [hp.out]))
  go_upto_region 4 with (go_at_call 18; refine (pick_c co 8 _ hco (by decide) (by decide)).mono ?_; rintro e x'' ⟨rfl, rfl⟩; dsimp only; rw [hq.out])
  go_upto_region 5 with (go_at_call 18; refine (pick_c de 5 _ hde (by decide) (by decide)).mono ?_; rintro e x3 ⟨rfl, rfl⟩; dsimp only; rw [hr.out])
  go_upto_region 9 with (first | (go_at_call 10; refine (new_c n c d _ hB).mono ?_; rintro e x2 ⟨g, rfl, H1⟩; dsimp only) | (go_at_call 19; refine (newD_c n c d _ hn12).mono ?_; rintro e x4 ⟨h, D, rfl, H2, low2, hB2⟩; dsimp only))
  have P0 : PS x3 x4.heap.size g h (newS n c d) (newD n c d) (x4.alloc (Obj.cells #[ptr g 0, ptr h 0] 40)) := by
    obtain ⟨L, M, lowM, hb⟩ := H1
    have hb3 := below_alloc x4 (Obj.cells #[ptr g 0, ptr h 0] 40)
    exact ⟨⟨L, (M.grow hB2).grow hb3, lowM⟩, ⟨D, H2.grow hb3, fun k hk => Nat.le_trans hb.size (low2 k hk)⟩, heap_alloc_new _ _, below_then (below_then hb (Nat.le_refl _) hB2) (Nat.le_refl _) hb3⟩
  have K0 := lk_new n c d hB
  have hS0 : (newS n c d).stamps.length = 0 := rfl
  generalize newS n c d = S0 at P0 K0 hS0
  generalize newD n c d = X0 at P0 K0
  generalize x4.heap.size = wb at P0 ⊢
  generalize h3 : World.alloc x4 _ = x5
  replace P0 : PS x3 wb g h S0 X0 x5 := by rw [← h3]; exact P0
  have R' := R.grow hb1
  clear R h3 H1 H2 low2 hB2 hB w1 w2 w3 hn12 hp hq hr hnn hcc hdd hwo hco hde p0 p1 q0 q1 r0 r1
  go_wp2
  go_loopw [16] (fun s16 wr => ∃ i : Nat, i ≤ ss.length ∧ i ≤ 200 ∧ s16 = .int .i64 i ∧ Hid (∃ S X, PS x3 wb g h S X wr ∧ Lk S X ∧ S.stamps.length ≤ i)) (fun s16 _ => 200 - (intOf s16).toNat)
  case atStart => exact ⟨0, Nat.zero_le _, Nat.zero_le _, rfl, S0, X0, P0, K0, by omega⟩
  case round =>
    obtain ⟨i, hi1, hi2, rfl, hH⟩ := hrel
    obtain ⟨S, X, P, K, hSi⟩ := hH.out
    clear hH hS0 P0 K0
    by_cases hlt : (i : Int) < ss.length
    · by_cases h200 : (i : Int) < 200
      · obtain ⟨ra, rc, e2, hrc⟩ := R'.cell (by omega)
        have hx : ss[i]? = some ss[i] := List.getElem?_eq_getElem (by omega)
        have hwf := R'.wf ss[i] (List.getElem_mem (by omega))
        have hcl := hrc i _ hx
        generalize ss[i] = s at hx hwf hcl
        clear hx hrc
        have hrow : ∀ (j : Nat) x, s.row[j]? = some x → wr.cell? ((ra.add (i * 4)).add j) = some x := fun j x hx => by
          obtain ⟨h1, h2⟩ := hcl j x hx
          rw [P.below.cell h1]; exact h2
        clear hcl
        subst e2
        have hi0 : (0 : Int) ≤ i := by omega
        go_upto_region 13 with (first | ((with_reducible refine wpList_load43 rfl _ rfl _ rfl s hrow ?_); simp only [Act.put, List.setIfInBounds_toArray, List.set_cons_succ, List.set_cons_zero]) | (go_at_call 20; refine (step_c x3 wb g h s S X _ P K (by omega) hwf).mono ?_; rintro e y ⟨rfl, hDn⟩; dsimp only))
        obtain ⟨S2, X2, P2, K2, hS2⟩ := hDn
        clear P hrow
        obtain ⟨L, M, lowM⟩ := P2.mem
        obtain ⟨D, hD, lowD⟩ := P2.doc
        obtain ⟨aa, ac, ea, _, _⟩ := own_len hD.all
        have c1 := P2.wb.c1
        have c3 := hD.c3
        rw [ea, K2.len] at c3
        clear ea lowM lowD
        go_quiet ((go_at_call 16; exact Calls.quiet_of_same (tickets_c g S2 L _ (M.keep fun _ _ => rfl))))
        have P3 : PS x3 wb g h S2 X2 (y.drewN nq) := P2.grow ⟨rfl, rfl, rfl, Nat.le_refl _, fun _ _ => rfl⟩
        generalize y.drewN nq = y3 at P3 ⊢
        clear c1 c3
        go_wp2
        go_roundw
        case rel => exact ⟨i + 1, by omega, by omega, by go_num, S2, X2, P3, K2, by omega⟩
        case measure => simp [intOf]; omega
      · go_upto_region 15 with fail
        obtain ⟨L0, M0, low0⟩ := P.mem
        have hcnt := K.ok.cnt
        have hpos := K.st2.pos
        have hlen := K.len
        go_upto_region 16 with (go_at_call 17; refine (order_c g S L0 _ M0 K.ok (by omega)).mono ?_; rintro e y1 ⟨v1, rfl, row1, hbb1⟩; dsimp only)
        have P1 := P.grow hbb1
        clear P M0 low0
        obtain ⟨D1, hD1, lowD1⟩ := P1.doc
        have z1 := P1.wb.c1
        obtain ⟨m, hm⟩ : ∃ m : Nat, S.reached = m := ⟨S.reached.toNat, by omega⟩
        have hstm : X.stamps = m := by rw [K.reached, hm]
        have hoe := ord_eq K
        rw [hm, Int.toNat_natCast] at hoe
        obtain ⟨hll, hl⟩ := ord_at K m (by omega)
        rw [hoe] at row1
        go_upto_region 17 with (go_at_call 21; refine (orderD_c h X D1 m _ hD1 (by omega) hstm (by omega)).mono ?_; rintro e y2 ⟨ha, hc, rfl, T⟩; dsimp only)
        have hbb2 := T.below
        have row2 := T.row
        have P2 := P1.grow hbb2
        replace row1 := own_of_block row1 fun b hk => hbb2.block b (row1.lt b hk).2
        generalize ordD X.all m = l at hll hl row1 row2 ⊢
        clear T P1 hD1 lowD1 z1 hoe hstm D1 hbb1 hbb2
        obtain ⟨va, vc, ev1, _, _⟩ := own_len row1
        subst ev1
        obtain ⟨L2, M2, low2⟩ := P2.mem
        obtain ⟨D2, hD2, lowD2⟩ := P2.doc
        obtain ⟨aa, ac, ea, _, _⟩ := own_len hD2.all
        have z1 := P2.wb.c1
        have z3 := hD2.c3
        rw [ea, hlen] at z3
        have hs0 : stampV S 0 = 0 := if_pos (.inl (by decide))
        have hs1 : stampV S (-1) = 0 := if_pos (.inl (by decide))
        have hs2 : stampV S ((S.stamps.length : Int) + 1) = 0 := if_pos (.inr (by omega))
        have wl : IntKind.i64.wrap ((S.stamps.length : Int) + 1) = (S.stamps.length : Int) + 1 := by rw [IntKind.wrap_i64]; omega
        replace hs0 := show Hid _ from hs0
        replace hs1 := show Hid _ from hs1
        replace hs2 := show Hid _ from hs2
        replace hm := show Hid _ from hm
        replace hll := show Hid _ from hll
        have hl200 : l.length ≤ 200 := by have := hll.out; have := hm.out; omega
        clear ea lowD2 low2
        go_wp2_with (go_at_call 22; refine (stamp_c g S L2 _ _ M2).mono ?_; rintro e y' ⟨rfl, rfl⟩; dsimp only; first | rw [hs0.out] | rw [hs1.out] | rw [hs2.out])
        clear z1 z3 wl hs0 hs1 hs2
        go_loopw [20] (fun s20 wq => ∃ j : Nat, j ≤ l.length ∧ s20 = .int .i64 j ∧ Hid (Alike y' wq)) (fun s20 _ => 200 - (intOf s20).toNat)
        case atStart => exact ⟨0, Nat.zero_le _, rfl, ⟨rfl, rfl, rfl, rfl⟩⟩
        case round =>
          obtain ⟨j, hj1, rfl, hA⟩ := hrel
          by_cases hjl : (j : Int) < l.length
          · obtain ⟨k, hk1, hk2⟩ := hl j (by have := hll.out; omega)
            obtain ⟨b1, cc1, e1, _, _, g1, cell1, _⟩ := own_addr row1 (by omega)
            obtain ⟨b2, cc2, e2, _, _, g2, cell2, _⟩ := own_addr row2 (by omega)
            injection e1 with e1 _ e1'
            injection e2 with e2 _ e2'
            subst e1 e1' e2 e2'
            have hmp : (l.map vI)[j]? = some (vI ((k : Int) + 1)) := by rw [List.getElem?_map, hk2]; rfl
            have p1 : wr.cell? ⟨b1, j, none⟩ = some (vI ((k : Int) + 1)) := by rw [hA.out.below.cell (show (⟨b1, j, none⟩ : Addr).block < _ from g1), cell1 j (by omega)]; exact hmp
            have p2 : wr.cell? ⟨b2, j, none⟩ = some (vI ((k : Int) + 1)) := by rw [hA.out.below.cell (show (⟨b2, j, none⟩ : Addr).block < _ from g2), cell2 j (by omega)]; exact hmp
            have hk3 := List.getElem?_eq_some_iff.1 hk1
            have hsv : stampV S ((k : Int) + 1) = (j : Int) + 1 := by
              obtain ⟨hk4, _⟩ := hk3
              have e0 : ((k : Int) + 1 - 1).toNat = k := by omega
              rw [stampV, if_neg (by omega), e0, List.getD_eq_getElem?_getD, hk1]; rfl
            have M3 := M2.grow hA.out.below
            have hcall : ∀ w2, w2.heap = wr.heap → Calls Try.prog 22 #[ptr g 0, vI ((k : Int) + 1)] w2 fun e w' => e = .returned (vI ((j : Int) + 1)) ∧ w' = w2 := fun w2 hw2 => by
              have := stamp_c g S L2 ((k : Int) + 1) w2 (M3.keep fun _ _ => by rw [hw2])
              rw [hsv] at this; exact this
            have wj : IntKind.i64.wrap ((j : Int) + 1) = (j : Int) + 1 := by rw [IntKind.wrap_i64]; omega
            have hj0 : (0 : Int) ≤ j := by omega
            clear cell1 cell2 hmp hk1 hk2 hk3 hsv M3 row1 row2
            go_upto_region 22 with fail
            go_quiet ((go_at_call 22; exact Calls.quiet_of_same (hcall _ rfl)))
            have A3 := hA.out.drew nq
            generalize wr.drewN nq = y3 at A3 ⊢
            clear p1 p2
            go_wp2
            go_roundw
            case rel => exact ⟨j + 1, by omega, by go_num, A3⟩
            case measure => simp [intOf]; omega
          · go_wp2
            go_ret
            exact ⟨rfl, below_then hb1 (Nat.le_refl _) (P2.below.trans (hA.out.below.mono P2.below.size))⟩
    · go_upto_region 15 with fail
      obtain ⟨L0, M0, low0⟩ := P.mem
      have hcnt := K.ok.cnt
      have hpos := K.st2.pos
      have hlen := K.len
      go_upto_region 16 with (go_at_call 17; refine (order_c g S L0 _ M0 K.ok (by omega)).mono ?_; rintro e y1 ⟨v1, rfl, row1, hbb1⟩; dsimp only)
      have P1 := P.grow hbb1
      clear P M0 low0
      obtain ⟨D1, hD1, lowD1⟩ := P1.doc
      have z1 := P1.wb.c1
      obtain ⟨m, hm⟩ : ∃ m : Nat, S.reached = m := ⟨S.reached.toNat, by omega⟩
      have hstm : X.stamps = m := by rw [K.reached, hm]
      have hoe := ord_eq K
      rw [hm, Int.toNat_natCast] at hoe
      obtain ⟨hll, hl⟩ := ord_at K m (by omega)
      rw [hoe] at row1
      go_upto_region 17 with (go_at_call 21; refine (orderD_c h X D1 m _ hD1 (by omega) hstm (by omega)).mono ?_; rintro e y2 ⟨ha, hc, rfl, T⟩; dsimp only)
      have hbb2 := T.below
      have row2 := T.row
      have P2 := P1.grow hbb2
      replace row1 := own_of_block row1 fun b hk => hbb2.block b (row1.lt b hk).2
      generalize ordD X.all m = l at hll hl row1 row2 ⊢
      clear T P1 hD1 lowD1 z1 hoe hstm D1 hbb1 hbb2
      obtain ⟨va, vc, ev1, _, _⟩ := own_len row1
      subst ev1
      obtain ⟨L2, M2, low2⟩ := P2.mem
      obtain ⟨D2, hD2, lowD2⟩ := P2.doc
      obtain ⟨aa, ac, ea, _, _⟩ := own_len hD2.all
      have z1 := P2.wb.c1
      have z3 := hD2.c3
      rw [ea, hlen] at z3
      have hs0 : stampV S 0 = 0 := if_pos (.inl (by decide))
      have hs1 : stampV S (-1) = 0 := if_pos (.inl (by decide))
      have hs2 : stampV S ((S.stamps.length : Int) + 1) = 0 := if_pos (.inr (by omega))
      have wl : IntKind.i64.wrap ((S.stamps.length : Int) + 1) = (S.stamps.length : Int) + 1 := by rw [IntKind.wrap_i64]; omega
      replace hs0 := show Hid _ from hs0
      replace hs1 := show Hid _ from hs1
      replace hs2 := show Hid _ from hs2
      replace hm := show Hid _ from hm
      replace hll := show Hid _ from hll
      have hl200 : l.length ≤ 200 := by have := hll.out; have := hm.out; omega
      clear ea lowD2 low2
      go_wp2_with (go_at_call 22; refine (stamp_c g S L2 _ _ M2).mono ?_; rintro e y' ⟨rfl, rfl⟩; dsimp only; first | rw [hs0.out] | rw [hs1.out] | rw [hs2.out])
      clear z1 z3 wl hs0 hs1 hs2
      go_loopw [20] (fun s20 wq => ∃ j : Nat, j ≤ l.length ∧ s20 = .int .i64 j ∧ Hid (Alike y' wq)) (fun s20 _ => 200 - (intOf s20).toNat)
      case atStart => exact ⟨0, Nat.zero_le _, rfl, ⟨rfl, rfl, rfl, rfl⟩⟩
      case round =>
        obtain ⟨j, hj1, rfl, hA⟩ := hrel
        by_cases hjl : (j : Int) < l.length
        · obtain ⟨k, hk1, hk2⟩ := hl j (by have := hll.out; omega)
          obtain ⟨b1, cc1, e1, _, _, g1, cell1, _⟩ := own_addr row1 (by omega)
          obtain ⟨b2, cc2, e2, _, _, g2, cell2, _⟩ := own_addr row2 (by omega)
          injection e1 with e1 _ e1'
          injection e2 with e2 _ e2'
          subst e1 e1' e2 e2'
          have hmp : (l.map vI)[j]? = some (vI ((k : Int) + 1)) := by rw [List.getElem?_map, hk2]; rfl
          have p1 : wr.cell? ⟨b1, j, none⟩ = some (vI ((k : Int) + 1)) := by rw [hA.out.below.cell (show (⟨b1, j, none⟩ : Addr).block < _ from g1), cell1 j (by omega)]; exact hmp
          have p2 : wr.cell? ⟨b2, j, none⟩ = some (vI ((k : Int) + 1)) := by rw [hA.out.below.cell (show (⟨b2, j, none⟩ : Addr).block < _ from g2), cell2 j (by omega)]; exact hmp
          have hk3 := List.getElem?_eq_some_iff.1 hk1
          have hsv : stampV S ((k : Int) + 1) = (j : Int) + 1 := by
            obtain ⟨hk4, _⟩ := hk3
            have e0 : ((k : Int) + 1 - 1).toNat = k := by omega
            rw [stampV, if_neg (by omega), e0, List.getD_eq_getElem?_getD, hk1]; rfl
          have M3 := M2.grow hA.out.below
          have hcall : ∀ w2, w2.heap = wr.heap → Calls Try.prog 22 #[ptr g 0, vI ((k : Int) + 1)] w2 fun e w' => e = .returned (vI ((j : Int) + 1)) ∧ w' = w2 := fun w2 hw2 => by
            have := stamp_c g S L2 ((k : Int) + 1) w2 (M3.keep fun _ _ => by rw [hw2])
            rw [hsv] at this; exact this
          have wj : IntKind.i64.wrap ((j : Int) + 1) = (j : Int) + 1 := by rw [IntKind.wrap_i64]; omega
          have hj0 : (0 : Int) ≤ j := by omega
          clear cell1 cell2 hmp hk1 hk2 hk3 hsv M3 row1 row2
          go_upto_region 22 with fail
          go_quiet ((go_at_call 22; exact Calls.quiet_of_same (hcall _ rfl)))
          have A3 := hA.out.drew nq
          generalize wr.drewN nq = y3 at A3 ⊢
          clear p1 p2
          go_wp2
          go_roundw
          case rel => exact ⟨j + 1, by omega, by go_num, A3⟩
          case measure => simp [intOf]; omega
        · go_wp2
          go_ret
          exact ⟨rfl, below_then hb1 (Nat.le_refl _) (P2.below.trans (hA.out.below.mono P2.below.size))⟩
end Go.Proofs.Ytjkjbcnafpljoaa
/- What a whole script does to the memory is what it does to the document's own: MemPlays returns true, whatever its arguments. -/
namespace Go.Proofs.Ytjkjbcnafpljoaa.memPlays
open Go.ChangeShapes Go.WideShapes Go.ChangeAt Go.RowKit
set_option linter.unusedVariables false
set_option linter.unusedSimpArgs false

theorem own : ownKnob Try.prog.godebug = none := by kernel_rfl
theorem i64_of {a : Int} (h : (Lit.int .i64 a).wf = true) : I64 a := by
  have := bounds_i64 h
  exact ⟨this.1, this.2⟩

set_option maxRecDepth 100000 in
theorem lifted (os : Os) (started : os.Started) (H : Type) (enc : TypeId × Value → H) :
    ReturnsInHanded {} Try.checked os 4 .any (Rows.memPlaysSpec.pre6 enc Try.prog Try.f4 Rows.memPlaysRow.domain false) (Rows.memPlaysSpec.post enc Try.prog Try.f4 false true false false) := by
  refine returnsInHanded_of_change (C := Try.checked) own started (by kernel_rfl) Try.func4
    (ChangeSpec.witness6 (enc := enc) (C := Try.checked) false ⟨#[], #[.int .i64 0, .int .i64 0, .int .i64 0, .slice none 0 0], []⟩ 8 (by kernel_rfl) (by kernel_rfl) (by kernel_rfl) (by kernel_rfl)) ?_
  intro W base args ds gs before hval0 hW hcnd _
  have hval : ∀ (j : Nat) t v, Try.f4.params[j]? = some t → args[j]? = some v → Value.okWide Try.prog W .any base t v := hval0
  have hW' := hW
  obtain ⟨p, q, hA0, hV, rfl, hfz, hnd⟩ := hW
  have hA : DataW.TrodAll enc Try.prog W 0 (fun _ => true) true Try.f4.params.toList args.toList ds p := hA0
  have hAll := hA
  rw [Try.params4] at hA hval
  obtain ⟨v0, vs0, d0, ds0, p0, q0, hargs, rfl, rfl, h0, r0⟩ := trodAll_cons hA
  obtain ⟨v1, vs1, d1, ds1, p1, q1, rfl, rfl, rfl, h1, r1⟩ := trodAll_cons r0
  obtain ⟨v2, vs2, d2, ds2, p2, q2, rfl, rfl, rfl, h2, r2⟩ := trodAll_cons r1
  obtain ⟨v3, vs3, d3, ds3, p3, q3, rfl, rfl, rfl, h3, r3⟩ := trodAll_cons r2
  obtain ⟨rfl, rfl, rfl⟩ := trodAll_nil r3
  obtain rfl : args = #[v0, v1, v2, v3] := by cases args; simp_all
  obtain ⟨rfl, rfl⟩ := trodVars_none hV
  obtain ⟨a0, rfl, rfl, rfl, w0⟩ := open_int Try.underlying3 (hval 0 3 v0 rfl rfl) h0
  obtain ⟨a1, rfl, rfl, rfl, w1⟩ := open_int Try.underlying3 (hval 1 3 v1 rfl rfl) h1
  obtain ⟨a2, rfl, rfl, rfl, w2⟩ := open_int Try.underlying3 (hval 2 3 v2 rfl rfl) h2
  obtain ⟨z3, R3⟩ := open_script (hval 3 34 v3 rfl rfl) h3
  clear hA0 hval0
  simp only [List.append_nil] at hW' hAll
  refine (plays_walk a0 a1 a2 v3 z3 W (i64_of w0) (i64_of w1) (i64_of w2) R3).mono fun e W' ⟨he, hb⟩ => ?_
  subst he
  refine ⟨_, rfl, post_old (P := Try.prog) (by kernel_rfl) hW' hb hAll ?_ (fun _ _ _ => (trodAll_cons_mk (shut_bool Try.underlying4 _) trodAll_mk0)) rfl (fun _ => rfl) (ok_one (by kernel_rfl) rfl (okWide_bool_mk Try.underlying4 _))⟩
  intro t ht
  rw [Try.params4] at ht
  have ht' : t = 3 ∨ t = 34 := by simpa using ht
  rcases ht' with rfl | rfl <;> exact ⟨by kernel_rfl, of_decide_eq_true (by kernel_rfl)⟩

theorem over : Rows.memPlaysRow.holds Try.pinned (OpenSpec.ofChange Rows.memPlaysSpec) :=
  OpenClaim.holds_of_wide 4 Try.f4 rfl rfl rfl rfl rfl rfl rfl ⟨rfl, rfl, rfl, rfl, rfl⟩ rfl rfl rfl rfl rfl (by kernel_rfl) Try.func4 (by kernel_rfl)
    (of_decide_eq_true (by kernel_rfl)) (by unfold Func.isWrapper; first | (rw [if_pos (by decide +kernel)]; kernel_rfl) | (rw [if_neg (by decide +kernel)]; exact ⟨rfl, rfl⟩))
    (fun os started H enc _ => lifted os started H enc)

theorem proved : Rows.MemPlaysSaid :=
  over
end Go.Proofs.Ytjkjbcnafpljoaa.memPlays

namespace Go.Proofs.Ytjkjbcnafpljoaa
theorem memPlays_holds : Rows.MemPlaysSaid := memPlays.proved
#print axioms memPlays_holds
end Go.Proofs.Ytjkjbcnafpljoaa
