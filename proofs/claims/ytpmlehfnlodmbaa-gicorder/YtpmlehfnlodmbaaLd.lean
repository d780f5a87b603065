/- What a core works at is left and gone back to in the order of ranks: plain, and the walk. -/
import Derived.Test.YtpmlehfnlodmbaaKx
namespace Go.Proofs.Ytpmlehfnlodmbaa
open Go.RowKit
set_option linter.unusedVariables false
set_option linter.unusedSimpArgs false
set_option maxRecDepth 8000

structure NS (i : Nat) (P : Pg) (l : List Trn) : Prop where
  own : ∀ k, (P.src 0 k).e = false
  new : ∀ k, i ≤ k → k < 32 → P.src 1 k = s160
  old : ∀ k, k < i → waitB (P.src 1 k) = false
  lim : P.lim 0 = 255
  wk : P.wk 0 = l
  ids : ∀ (j : Nat) t, l[j]? = some t → ∃ k : Nat, k < i ∧ t.id = 32 + k
  dist : ∀ (j j' : Nat) t t', l[j]? = some t → l[j']? = some t' → t.id = t'.id → j = j'
  len : l.length ≤ i
def sN (r : Int) : Src := ⟨true, true, false, false, r, 0⟩
theorem pr1 {i : Nat} : pr 1 0 (32 + (i : Int)) = 1 := by unfold pr; rw [if_pos (by omega)]
theorem pk1 {i : Nat} : pk (32 + (i : Int)) = i := by unfold pk; rw [if_pos (by omega)]; omega
theorem bad1 {i : Nat} (h : i < 32) : badB 1 0 (32 + (i : Int)) = false := bad_nat (n := 1) (c := 0) (i := 32 + (i : Int)) (by decide) (by omega) (by omega)
theorem look1 {P : Pg} {k : Nat} (hk : k < 64) : lookV 1 P 0 k = if 32 ≤ k then P.src 1 (k - 32) else P.src 0 k := by
  have e := look_nat (n := 1) (c := 0) (P := P) (i := (k : Int)) (by decide) (by omega) (by omega)
  rw [show ((0 : Nat) : Int) = 0 from rfl] at e
  rw [e]
  unfold pr pk
  by_cases h : 32 ≤ k
  · rw [if_pos h, if_pos (by omega), if_pos (by omega)]; congr 1; omega
  · rw [if_neg h, if_neg (by omega), if_neg (by omega)]; rfl
theorem ns_next {i : Nat} {P : Pg} {l : List Trn} (h : NS i P l) (hi : i < 30) {r : Int} (hr : r < 255) : nextV 1 (P.put 1 i (sN r)) 0 = if r < runV l then some ⟨r, 32 + (i : Int)⟩ else none := by
  have hn : nextV 1 (P.put 1 i (sN r)) 0 = bstF 1 (P.put 1 i (sN r)) 0 64 := next_nat (n := 1) (c := 0) (by decide)
  have hl : lookV 1 (P.put 1 i (sN r)) 0 ((32 + i : Nat) : Int) = sN r := by
    rw [look1 (by omega), if_pos (by omega), show 32 + i - 32 = i by omega, put_src]
  have hc : candB 1 (P.put 1 i (sN r)) 0 (32 + i) = decide (r < runV l) := by
    rw [candB, show ((0 : Nat) : Int) = 0 from rfl, hl]
    have e1 : (P.put 1 i (sN r)).lim 0 = 255 := h.lim
    have e2 : (P.put 1 i (sN r)).wk 0 = l := h.wk
    rw [e1, e2]
    have e3 : awayB 0 (32 + i) (sN r) = false := by simp [awayB, sN]
    rw [e3]
    have e4 : decide ((sN r).rank < minV 255 (runV l)) = decide (r < runV l) := by
      apply decide_eq_decide.2
      show r < minV 255 (runV l) ↔ _
      rw [min_lt]; omega
    rw [e4]; rfl
  rw [hn, bst_one (j := 32 + i) (fun k hk hne => ?_) 64 (Nat.le_refl _), hc]
  · have hrk : (lookV 1 (P.put 1 i (sN r)) ((0 : Nat) : Int) ((32 + i : Nat) : Int)).rank = r := by rw [show ((0 : Nat) : Int) = 0 from rfl, hl]; rfl
    by_cases e : r < runV l
    · rw [if_pos ⟨by omega, decide_eq_true e⟩, if_pos e, hrk]; simp
    · rw [if_neg (fun hh => e (of_decide_eq_true hh.2)), if_neg e]
  · rw [candB, show ((0 : Nat) : Int) = 0 from rfl, look1 hk]
    by_cases h32 : 32 ≤ k
    · rw [if_pos h32]
      have e : (P.put 1 i (sN r)).src 1 (k - 32) = P.src 1 (k - 32) := by
        show (if 1 = 1 ∧ k - 32 = i then sN r else P.src 1 (k - 32)) = _
        rw [if_neg (fun hh => hne (by omega))]
      rw [e]
      rcases Nat.lt_or_ge (k - 32) i with hlt | hge
      · rw [h.old _ hlt]; rfl
      · rw [h.new _ hge (by omega)]; rfl
    · rw [if_neg h32]
      have e : (P.put 1 i (sN r)).src 0 k = P.src 0 k := by
        show (if 0 = 1 ∧ k = i then sN r else P.src 0 k) = _
        rw [if_neg (fun hh => by omega)]
      rw [e, waitB, h.own k]; rfl
theorem ns_skip {i : Nat} {P : Pg} {l : List Trn} (h : NS i P l) {s : Src} (hs : waitB s = false) : NS (i + 1) (P.put 1 i s) l := by
  refine ⟨fun k => ?_, fun k h1 h2 => ?_, fun k hk => ?_, h.lim, h.wk, fun j t hj => ?_, h.dist, Nat.le_succ_of_le h.len⟩
  · show (if 0 = 1 ∧ k = i then s else P.src 0 k).e = false
    rw [if_neg (fun hh => by omega)]; exact h.own k
  · show (if 1 = 1 ∧ k = i then s else P.src 1 k) = _
    rw [if_neg (fun hh => by omega)]; exact h.new k (by omega) h2
  · show waitB (if 1 = 1 ∧ k = i then s else P.src 1 k) = false
    split
    · exact hs
    · exact h.old k (by omega)
  · obtain ⟨k, h1, h2⟩ := h.ids j t hj
    exact ⟨k, by omega, h2⟩
theorem ns_take {i : Nat} {P : Pg} {l : List Trn} (h : NS i P l) {s : Src} (hs : waitB s = false) (r : Int) : NS (i + 1) ((P.put 1 i s).setWk 0 (l ++ [⟨r, 32 + (i : Int)⟩])) (l ++ [⟨r, 32 + (i : Int)⟩]) := by
  have h1 := ns_skip h hs
  have hnew : ∀ (j : Nat) (t : Trn), l[j]? = some t → t.id ≠ 32 + (i : Int) := fun j t hj e => by
    obtain ⟨k, g1, g2⟩ := h.ids j t hj
    omega
  have hget : ∀ (j : Nat) t, (l ++ [⟨r, 32 + (i : Int)⟩])[j]? = some t → l[j]? = some t ∨ (j = l.length ∧ t = ⟨r, 32 + (i : Int)⟩) := fun j t hj => by
    rcases Nat.lt_or_ge j l.length with hh | hh
    · rw [List.getElem?_append_left hh] at hj; exact .inl hj
    · rw [List.getElem?_append_right hh] at hj
      have : j - l.length = 0 := by have := (List.getElem?_eq_some_iff.1 hj).1; simp at this; omega
      rw [this] at hj
      cases hj
      exact .inr ⟨by omega, rfl⟩
  refine ⟨h1.own, h1.new, h1.old, h1.lim, by simp [Pg.setWk], fun j t hj => ?_, fun j j' t t' hj hj' he => ?_, by simp; exact h.len⟩
  · rcases hget j t hj with hh | ⟨_, rfl⟩
    · exact h1.ids j t hh
    · exact ⟨i, by omega, rfl⟩
  · rcases hget j t hj with hh | ⟨e1, rfl⟩
    · rcases hget j' t' hj' with hh' | ⟨e2, rfl⟩
      · exact h.dist j j' t t' hh hh' he
      · exact absurd he (hnew j t hh)
    · rcases hget j' t' hj' with hh' | ⟨e2, rfl⟩
      · exact absurd he.symm (hnew j' t' hh')
      · omega
theorem new_ns : NS 0 newP [] := ⟨fun _ => rfl, fun _ _ _ => rfl, fun k hk => by omega, rfl, rfl, fun j t h => by simp at h, fun j j' t t' h => by simp at h, Nat.le_refl _⟩
section
variable {B : Nat} {w0 : World} {g : Nat} {P : Pg} {L : GLay} {v : Value} {xs : List Int} {w : World}
theorem ns_rank (K : KA B w0 g 1 P L v xs w) {i : Nat} (hi : i < 32) {r : Int} (h0 : 0 ≤ r) (h1 : r ≤ 255) : Calls Try.prog 25 #[ptr g 0, vI 0, vI (32 + (i : Int)), vI r] w fun e w' => e = .returned (vI 0) ∧ KA B w0 g 1 (P.put 1 i { P.src 1 i with rank := r }) L v xs w' := by
  have hE : grankE 1 0 (32 + (i : Int)) r = false := by rw [grankE, bad1 hi, decide_eq_true h0, decide_eq_true h1]; rfl
  have h := grank_c K.kw.at_ 0 (32 + (i : Int)) r
  rw [hE, grankP, hE, if_neg (by decide), if_neg (by decide), pr1, pk1] at h
  refine h.mono ?_
  rintro e w' ⟨rfl, hT⟩
  exact ⟨rfl, K.gt hT⟩
theorem ns_enable (K : KA B w0 g 1 P L v xs w) {i : Nat} (hi : i < 32) : Calls Try.prog 26 #[ptr g 0, vI 0, vI (32 + (i : Int)), .bool true] w fun e w' => e = .returned (vI 0) ∧ KA B w0 g 1 (P.put 1 i { P.src 1 i with e := true }) L v xs w' := by
  have hE : genableE 1 0 (32 + (i : Int)) true = false := bad1 hi
  have h := genable_c K.kw.at_ 0 (32 + (i : Int)) true
  rw [hE, genableP, hE, if_neg (by decide), if_neg (by decide), pr1, pk1] at h
  refine h.mono ?_
  rintro e w' ⟨rfl, hT⟩
  exact ⟨rfl, K.gt hT⟩
theorem ns_pend (K : KA B w0 g 1 P L v xs w) {i : Nat} (hi : i < 32) (on : Bool) : Calls Try.prog 27 #[ptr g 0, vI 0, vI (32 + (i : Int)), .bool on] w fun e w' => e = .returned (vI 0) ∧ KA B w0 g 1 (P.put 1 i { P.src 1 i with l := on }) L v xs w' := by
  have hE : gpendE 1 0 (32 + (i : Int)) on = false := bad1 hi
  have h := gpend_c K.kw.at_ 0 (32 + (i : Int)) on
  rw [hE, gpendP, hE, if_neg (by decide), if_neg (by decide), pr1, pk1] at h
  refine h.mono ?_
  rintro e w' ⟨rfl, hT⟩
  exact ⟨rfl, K.gt hT⟩
theorem ns_eoi (K : KA B w0 g 1 P L v xs w) {l : List Trn} (hl : P.wk 0 = l) {id : Int} (hid : badB 1 0 id = false) : Calls Try.prog 28 #[ptr g 0, vI 0, vI id] w fun e w' => e = .returned (.tuple #[.bool (idxF l id).isSome, vI 0]) ∧ ∃ Q L', Q.wk 0 = (match idxF l id with | none => l | some k => l.eraseIdx k) ∧ KA B w0 g 1 Q L' v xs w' := by
  have h := geoi_c K.kw.at_ 0 id
  have e1 : eoiB 1 P 0 id = (idxF l id).isSome := by
    show (!badB 1 0 id && (idxF (P.wk 0) id).isSome) = _
    rw [hid, hl]; rfl
  have e2 : geoiE 1 0 id = 0 := by rw [geoiE, hid]; rfl
  have e3 : (geoiP 1 P 0 id).wk 0 = (match idxF l id with | none => l | some k => l.eraseIdx k) := by
    show (if badB 1 0 id then P else match idxF (P.wk 0) id with | none => P | some k => (P.setWk 0 ((P.wk 0).eraseIdx k)).put (pr 1 0 id) (pk id) { P.src (pr 1 0 id) (pk id) with a := false }).wk 0 = _
    rw [hid, if_neg (by decide), hl]
    cases idxF l id with
    | none => exact hl
    | some k => show (if 0 = 0 then l.eraseIdx k else P.wk 0) = _; rw [if_pos rfl]
  rw [e1, e2] at h
  refine h.mono ?_
  rintro e w' ⟨rfl, hT⟩
  obtain ⟨L', K'⟩ := K.gtl hT
  exact ⟨rfl, _, L', e3, K'⟩
end
theorem take_erase {l : List Trn} {q : Nat} (h : q < l.length) : (l.take (q + 1)).eraseIdx q = l.take q := by
  rw [List.eraseIdx_eq_take_drop_succ, List.take_take, Nat.min_eq_left (by omega), List.drop_eq_nil_of_le (by simp; omega), List.append_nil]
/-- What holds behind i of the numbers. -/
def NsW (W : World) (g i : Nat) (run : Int) (v : Value) (w : World) : Prop := ∃ P L l, NS i P l ∧ run = runV l ∧ KA W.heap.size W g 1 P L v (l.map (·.id)) w
/-- What holds while j are left to be ended. -/
def NsE (W : World) (g : Nat) (l : List Trn) (j : Nat) (v : Value) (w : World) : Prop := ∃ P L, P.wk 0 = l.take j ∧ KA W.heap.size W g 1 P L v (l.map (·.id)) w
theorem Raw.at {w0 w : World} {v : Value} {zs : List Int} (h : Raw w0 v zs) (hb : Below w0.heap.size w0 w) {i : Nat} {x : Int} (hs : zs[i]? = some x) : ∃ ra cap, v = .slice (some ra) zs.length cap ∧ w.cell? (ra.add i) = some (vI x) := by
  have hi := (List.getElem?_eq_some_iff.1 hs).1
  obtain ⟨ra, cap, e, hc⟩ := h.cell (by omega)
  exact ⟨ra, cap, e, by rw [hb.cell (hc i x hs).1]; exact (hc i x hs).2⟩
set_option maxHeartbeats 4000000 in
theorem nests_walk (v : Value) (zs : List Int) (W : World) (R : Raw W v zs) : Calls Try.prog 5 #[v] W fun e w' => e = .returned (.bool true) ∧ Below W.heap.size W w' := by
  obtain ⟨ao, cap, ev⟩ := R.len
  go_enter Try.func5, Try.ntmps5
  go_upto_region 2 with (first | (go_at_call 9; refine (known_c W).mono ?_; rintro e w1 ⟨rfl, hB1⟩; dsimp only))
  have hnew := new_c 1 (by decide) (by decide) w1
  go_upto_region 5 with (first | (go_at_call 10; refine hnew.mono ?_; rintro e w2 ⟨g, rfl, hG, hB2, hg⟩; dsimp only))
  obtain ⟨L, K⟩ := newKW hG hB2
  have hW1 := hB1.size
  have hN : NsW W g 0 256 (.slice none 0 0) w2 := ⟨newP, L, [], new_ns, rfl, ⟨K.at_, fun k hk => Nat.le_trans hW1 (K.foot k hk), below_then hB1 (Nat.le_refl _) K.below, Nat.le_refl _⟩, ⟨rfl, .inl ⟨rfl, rfl⟩⟩⟩
  clear hnew hG hB2 hg hB1 hW1 K
  rw [ev]
  go_wp2
  go_loopw [6, 7, 8, 9, 10] (fun s6 s7 s8 _ _ wr => ∃ (i : Nat) (run : Int), i ≤ 30 ∧ i ≤ zs.length ∧ s8 = .int .i64 i ∧ s6 = .int .i64 run ∧ Hid (NsW W g i run s7 wr)) (fun _ _ s8 _ _ _ => 30 - (intOf s8).toNat)
  case atStart => exact ⟨0, 256, Nat.zero_le _, Nat.zero_le _, rfl, rfl, hN⟩
  case round =>
    clear hN
    obtain ⟨i, run, hi30, hiz, rfl, rfl, hH⟩ := hrel
    obtain ⟨P, L, l, hNS, hrun, K⟩ := hH.out
    clear hH
    by_cases h1 : (i : Int) < zs.length
    · by_cases h2 : (i : Int) < 30
      · have hs := List.getElem?_eq_getElem (l := zs) (i := i) (by omega)
        generalize zs[i] = x at hs
        obtain ⟨ra, cap2, ev2, hc⟩ := R.at K.kw.below hs
        rw [ev] at ev2
        cases ev2
        have hwf := R.wf x (List.mem_of_getElem? hs)
        have hp := gpick_c x 255 (by decide) (by decide) ⟨hwf.1, by have := hwf.2; omega⟩ wr
        have hr := pick_lt (c := x) (n := 255) (by decide)
        generalize pickV x 255 = rn at hp hr
        obtain ⟨r, hrn⟩ : ∃ r : Int, r = rn := ⟨_, rfl⟩
        have hr0 : 0 ≤ r := by omega
        have hr1 : r < 255 := by omega
        rw [← hrn] at hp
        clear hrn hr
        have hi32 : i < 32 := by omega
        have hsi : P.src 1 i = s160 := hNS.new i (Nat.le_refl _) hi32
        have hll : l.length ≤ 30 := Nat.le_trans hNS.len hi30
        go_upto_region 11 with (first | (go_at_call 15; refine hp.mono ?_; rintro e w' ⟨rfl, rfl⟩; dsimp only))
        clear hp hc
        have hrk := ns_rank K hi32 hr0 (show r ≤ 255 by omega)
        rw [hsi] at hrk
        go_upto_region 13 with (first | (go_at_call 25; refine hrk.mono ?_; rintro e w3 ⟨rfl, K1⟩; dsimp only; have hen := ns_enable K1 hi32; rw [put_put, put_src] at hen; clear hrk) | (go_at_call 26; refine hen.mono ?_; rintro e w4 ⟨rfl, K2⟩; dsimp only; have hpe := ns_pend K2 hi32 true; rw [put_put, put_src] at hpe; clear hen) | (go_at_call 27; refine hpe.mono ?_; rintro e w5 ⟨rfl, K3⟩; dsimp only; clear hpe))
        replace K3 : KA W.heap.size W g 1 (P.put 1 i (sN r)) L u7 (l.map (·.id)) w5 := K3
        clear K1 K2 K
        have hN := ns_next hNS (by omega) hr1
        have hack := gack_c K3.kw.at_ 0 (fun c hc => by
          obtain rfl : c = 0 := by omega
          show (P.wk 0).length + 1 < 1000000
          rw [hNS.wk]; omega)
        by_cases hlt : r < run
        · rw [← hrun, if_pos hlt] at hN
          have e1 : ackV 1 (P.put 1 i (sN r)) 0 = 32 + (i : Int) := by rw [ackV, hN]
          have e2 : ackP 1 (P.put 1 i (sN r)) 0 = (P.put 1 i ⟨true, false, false, true, r, 0⟩).setWk 0 (l ++ [⟨r, 32 + (i : Int)⟩]) := by
            rw [ackP, hN]
            dsimp only
            rw [pr1, pk1, put_src, put_put, show (0 : Int).toNat = 0 from rfl, wk_put, hNS.wk]
            rfl
          rw [e1, e2] at hack
          have hNS2 := ns_take hNS (s := ⟨true, false, false, true, r, 0⟩) rfl r
          clear e1 e2 hN
          have hne : ((32 + (i : Int)) == 1023) = false := by simp; omega
          replace hrun := show Hid _ from hrun
          go_upto_region 18 with (first | (go_at_call 24; refine hack.mono ?_; rintro e w6 ⟨rfl, hT⟩; dsimp only))
          obtain ⟨L6, K6⟩ := K3.gtl hT
          clear hT hack K3
          go_upto_region 21 with (first | (refine wpList_app_int rfl _ _ rfl W.heap.size u7 (l.map (·.id)) rfl (K6.grow (below_alloc _ _)).row (Nat.le_trans K6.kw.below.size (below_alloc _ _).size) w6.heap.size 0 1 (32 + (i : Int)) rfl (by rw [cell_of_row _ _ _ _ _ _ (heap_alloc_new _ _)]; rfl) (by simp; omega) ?_; intro gb cp w8 q1 q2 q3 q4; simp only [Act.put, List.setIfInBounds_toArray, List.set_cons_succ, List.set_cons_zero]))
          have K8 := (K6.grow (below_alloc w6 (.cells #[vI (32 + (i : Int))] 3))).app q1 q2
          have eids : l.map (·.id) ++ [32 + (i : Int)] = (l ++ [(⟨r, 32 + (i : Int)⟩ : Trn)]).map (·.id) := by simp
          rw [eids] at K8
          clear q1 q2 q3 q4 K6 eids
          generalize Value.slice (some ⟨gb, 0, none⟩) ((l.map (·.id)).length + 1) cp = u8 at K8 ⊢
          have hr8 := grun_c K8.kw.at_ 0
          have e8 : runC 1 ((P.put 1 i ⟨true, false, false, true, r, 0⟩).setWk 0 (l ++ [⟨r, 32 + (i : Int)⟩])) 0 = r := by
            show (if hasB 1 0 then runV (if 0 = 0 then l ++ [⟨r, 32 + (i : Int)⟩] else P.wk 0) else 0) = r
            rw [if_pos rfl, if_pos (by rfl), runV_app]
          rw [e8] at hr8
          clear e8
          go_wp2_with (first | (go_at_call 17; refine hr8.mono ?_; rintro e w9 ⟨rfl, hb⟩; dsimp only))
          go_roundw
          case rel => exact ⟨i + 1, r, by omega, by omega, by go_num, rfl, _, L6, _, hNS2, by rw [runV_app], K8.grow hb⟩
          case measure => simp [intOf]; omega
        · rw [← hrun, if_neg hlt] at hN
          have e1 : ackV 1 (P.put 1 i (sN r)) 0 = 1023 := by rw [ackV, hN]
          have e2 : ackP 1 (P.put 1 i (sN r)) 0 = P.put 1 i (sN r) := by rw [ackP, hN]
          rw [e1, e2] at hack
          have hNS2 := ns_skip hNS (s := { sN r with l := false }) rfl
          clear e1 e2 hN
          replace hrun := show Hid _ from hrun
          have hge : run ≤ r := by omega
          go_upto_region 21 with (first | (go_at_call 24; refine hack.mono ?_; rintro e w6 ⟨rfl, hT⟩; dsimp only))
          obtain ⟨L6, K6⟩ := K3.gtl hT
          clear hT hack K3
          have hpe := ns_pend K6 hi32 false
          rw [put_put, put_src] at hpe
          go_upto_region 23 with (first | (go_at_call 27; refine hpe.mono ?_; rintro e w7 ⟨rfl, K7⟩; dsimp only))
          have hr8 := grun_c K7.kw.at_ 0
          have e8 : runC 1 (P.put 1 i { sN r with l := false }) 0 = run := by
            show (if hasB 1 0 then runV (P.wk 0) else 0) = run
            rw [if_pos (by rfl), hNS.wk, hrun.out]
          rw [e8] at hr8
          clear e8
          go_wp2_with (first | (go_at_call 17; refine hr8.mono ?_; rintro e w9 ⟨rfl, hb⟩; dsimp only))
          go_roundw
          case rel => exact ⟨i + 1, run, by omega, by omega, by go_num, rfl, _, L6, l, hNS2, hrun.out, K7.grow hb⟩
          case measure => simp [intOf]; omega
      · obtain ⟨ao7, cap7, ev7, _, _⟩ := own_len K.row
        rw [List.length_map] at ev7
        have hE0 : NsE W g l l.length u7 wr := ⟨P, L, by rw [List.take_length]; exact hNS.wk, K⟩
        have hids := hNS.ids
        have hdist := hNS.dist
        have hll : l.length ≤ 30 := Nat.le_trans hNS.len hi30
        clear K hNS hrun
        subst ev7
        go_wp2
        go_loopw [11, 12, 13, 14, 15] (fun s11 _ _ _ _ wr => ∃ j : Nat, j ≤ l.length ∧ s11 = .int .i64 ((j : Int) - 1) ∧ Hid (NsE W g l j (.slice ao7 l.length cap7) wr)) (fun s11 _ _ _ _ _ => (intOf s11 + 1).toNat)
        case atStart => exact ⟨l.length, Nat.le_refl _, rfl, hE0⟩
        case round =>
          clear hE0
          obtain ⟨j, hj, rfl, hH⟩ := hrel
          obtain ⟨P, L, hwk, K⟩ := hH.out
          clear hH
          by_cases h0 : j = 0
          · subst h0
            have hr := grun_c K.kw.at_ 0
            have e1 : runC 1 P 0 = 256 := by
              show (if hasB 1 0 then runV (P.wk 0) else 0) = 256
              rw [hwk]; rfl
            rw [e1] at hr
            clear e1 hwk
            go_wp2_with (first | (go_at_call 17; refine hr.mono ?_; rintro e w9 ⟨rfl, hb⟩; dsimp only))
            go_ret
            exact ⟨rfl, (K.kw.grow hb).below⟩
          · obtain ⟨q, rfl⟩ : ∃ q, j = q + 1 := ⟨j - 1, by omega⟩
            have ht := List.getElem?_eq_getElem (l := l) (i := q) (by omega)
            generalize l[q] = t at ht
            obtain ⟨kk, hk1, hk2⟩ := hids q t ht
            have hbad : badB 1 0 t.id = false := by rw [hk2]; exact bad1 (by omega)
            have hx1 : idxF (l.take (q + 1)) t.id = some q := by
              refine idx_some (t := t) (by rw [List.getElem?_take, if_pos (by omega)]; exact ht) rfl fun j' s' hj' hs' he => ?_
              rw [List.getElem?_take, if_pos (by omega)] at hs'
              have := hdist j' q s' t hs' ht he
              omega
            have hx2 : idxF (l.take q) t.id = none := by
              refine idx_none fun j' s' hs' he => ?_
              have hlt := (List.getElem?_eq_some_iff.1 hs').1
              simp at hlt
              rw [List.getElem?_take, if_pos (by omega)] at hs'
              have := hdist j' q s' t hs' ht he
              omega
            have her : (l.take (q + 1)).eraseIdx q = l.take q := take_erase (by omega)
            have hat : (l.map (·.id))[q]? = some t.id := by rw [List.getElem?_map, ht]; rfl
            have hcell := fun {w' : World} {Q : Pg} {L' : GLay} (K' : KA W.heap.size W g 1 Q L' (.slice ao7 l.length cap7) (l.map (·.id)) w') => (by have h := K'.cell hat; rw [List.length_map] at h; exact h : ∃ b cap, Value.slice ao7 l.length cap7 = .slice (some ⟨b, 0, none⟩) l.length cap ∧ w'.cell? ⟨b, q, none⟩ = some (vI t.id))
            have he1 := ns_eoi K hwk hbad
            rw [hx1] at he1
            dsimp only at he1
            rw [her] at he1
            replace he1 : Calls Try.prog 28 #[ptr g 0, vI 0, vI t.id] wr fun e w' => e = .returned (.tuple #[.bool true, vI 0]) ∧ ∃ Q L', Q.wk 0 = l.take q ∧ KA W.heap.size W g 1 Q L' (.slice ao7 l.length cap7) (l.map (·.id)) w' := he1
            obtain ⟨b, cp, eb, z⟩ := hcell K
            cases eb
            have hq0 : (0 : Int) ≤ q := by omega
            have hqn : (q : Int) < l.length := by omega
            have eq1 : (((q + 1 : Nat) : Int) - 1) = q := by omega
            rw [eq1]
            clear hx1 her hat
            replace hk2 := show Hid _ from hk2
            replace hwk := show Hid _ from hwk
            go_upto_region 29 with (first | (go_at_call 28; refine he1.mono ?_; rintro e w9 ⟨rfl, Q9, L9, hw9, K9⟩; dsimp only))
            clear he1 z
            have he2 := ns_eoi K9 hw9 hbad
            rw [hx2] at he2
            replace he2 : Calls Try.prog 28 #[ptr g 0, vI 0, vI t.id] w9 fun e w' => e = .returned (.tuple #[.bool false, vI 0]) ∧ ∃ Q L', Q.wk 0 = l.take q ∧ KA W.heap.size W g 1 Q L' (.slice (some ⟨b, 0, none⟩) l.length cap7) (l.map (·.id)) w' := he2
            obtain ⟨b2, cp2, eb2, z2⟩ := hcell K9
            cases eb2
            replace hw9 := show Hid _ from hw9
            replace hx2 := show Hid _ from hx2
            go_wp2_with (first | (go_at_call 28; refine he2.mono ?_; rintro e w10 ⟨rfl, Q10, L10, hw10, K10⟩; dsimp only; replace hw10 := show Hid _ from hw10))
            go_roundw
            case rel => exact ⟨q, by omega, by go_num, Q10, L10, hw10.out, K10⟩
            case measure => simp [intOf]
    · obtain ⟨ao7, cap7, ev7, _, _⟩ := own_len K.row
      rw [List.length_map] at ev7
      have hE0 : NsE W g l l.length u7 wr := ⟨P, L, by rw [List.take_length]; exact hNS.wk, K⟩
      have hids := hNS.ids
      have hdist := hNS.dist
      have hll : l.length ≤ 30 := Nat.le_trans hNS.len hi30
      clear K hNS hrun
      subst ev7
      go_wp2
      go_loopw [11, 12, 13, 14, 15] (fun s11 _ _ _ _ wr => ∃ j : Nat, j ≤ l.length ∧ s11 = .int .i64 ((j : Int) - 1) ∧ Hid (NsE W g l j (.slice ao7 l.length cap7) wr)) (fun s11 _ _ _ _ _ => (intOf s11 + 1).toNat)
      case atStart => exact ⟨l.length, Nat.le_refl _, rfl, hE0⟩
      case round =>
        clear hE0
        obtain ⟨j, hj, rfl, hH⟩ := hrel
        obtain ⟨P, L, hwk, K⟩ := hH.out
        clear hH
        by_cases h0 : j = 0
        · subst h0
          have hr := grun_c K.kw.at_ 0
          have e1 : runC 1 P 0 = 256 := by
            show (if hasB 1 0 then runV (P.wk 0) else 0) = 256
            rw [hwk]; rfl
          rw [e1] at hr
          clear e1 hwk
          go_wp2_with (first | (go_at_call 17; refine hr.mono ?_; rintro e w9 ⟨rfl, hb⟩; dsimp only))
          go_ret
          exact ⟨rfl, (K.kw.grow hb).below⟩
        · obtain ⟨q, rfl⟩ : ∃ q, j = q + 1 := ⟨j - 1, by omega⟩
          have ht := List.getElem?_eq_getElem (l := l) (i := q) (by omega)
          generalize l[q] = t at ht
          obtain ⟨kk, hk1, hk2⟩ := hids q t ht
          have hbad : badB 1 0 t.id = false := by rw [hk2]; exact bad1 (by omega)
          have hx1 : idxF (l.take (q + 1)) t.id = some q := by
            refine idx_some (t := t) (by rw [List.getElem?_take, if_pos (by omega)]; exact ht) rfl fun j' s' hj' hs' he => ?_
            rw [List.getElem?_take, if_pos (by omega)] at hs'
            have := hdist j' q s' t hs' ht he
            omega
          have hx2 : idxF (l.take q) t.id = none := by
            refine idx_none fun j' s' hs' he => ?_
            have hlt := (List.getElem?_eq_some_iff.1 hs').1
            simp at hlt
            rw [List.getElem?_take, if_pos (by omega)] at hs'
            have := hdist j' q s' t hs' ht he
            omega
          have her : (l.take (q + 1)).eraseIdx q = l.take q := take_erase (by omega)
          have hat : (l.map (·.id))[q]? = some t.id := by rw [List.getElem?_map, ht]; rfl
          have hcell := fun {w' : World} {Q : Pg} {L' : GLay} (K' : KA W.heap.size W g 1 Q L' (.slice ao7 l.length cap7) (l.map (·.id)) w') => (by have h := K'.cell hat; rw [List.length_map] at h; exact h : ∃ b cap, Value.slice ao7 l.length cap7 = .slice (some ⟨b, 0, none⟩) l.length cap ∧ w'.cell? ⟨b, q, none⟩ = some (vI t.id))
          have he1 := ns_eoi K hwk hbad
          rw [hx1] at he1
          dsimp only at he1
          rw [her] at he1
          replace he1 : Calls Try.prog 28 #[ptr g 0, vI 0, vI t.id] wr fun e w' => e = .returned (.tuple #[.bool true, vI 0]) ∧ ∃ Q L', Q.wk 0 = l.take q ∧ KA W.heap.size W g 1 Q L' (.slice ao7 l.length cap7) (l.map (·.id)) w' := he1
          obtain ⟨b, cp, eb, z⟩ := hcell K
          cases eb
          have hq0 : (0 : Int) ≤ q := by omega
          have hqn : (q : Int) < l.length := by omega
          have eq1 : (((q + 1 : Nat) : Int) - 1) = q := by omega
          rw [eq1]
          clear hx1 her hat
          replace hk2 := show Hid _ from hk2
          replace hwk := show Hid _ from hwk
          go_upto_region 29 with (first | (go_at_call 28; refine he1.mono ?_; rintro e w9 ⟨rfl, Q9, L9, hw9, K9⟩; dsimp only))
          clear he1 z
          have he2 := ns_eoi K9 hw9 hbad
          rw [hx2] at he2
          replace he2 : Calls Try.prog 28 #[ptr g 0, vI 0, vI t.id] w9 fun e w' => e = .returned (.tuple #[.bool false, vI 0]) ∧ ∃ Q L', Q.wk 0 = l.take q ∧ KA W.heap.size W g 1 Q L' (.slice (some ⟨b, 0, none⟩) l.length cap7) (l.map (·.id)) w' := he2
          obtain ⟨b2, cp2, eb2, z2⟩ := hcell K9
          cases eb2
          replace hw9 := show Hid _ from hw9
          replace hx2 := show Hid _ from hx2
          go_wp2_with (first | (go_at_call 28; refine he2.mono ?_; rintro e w10 ⟨rfl, Q10, L10, hw10, K10⟩; dsimp only; replace hw10 := show Hid _ from hw10))
          go_roundw
          case rel => exact ⟨q, by omega, by go_num, Q10, L10, hw10.out, K10⟩
          case measure => simp [intOf]
end Go.Proofs.Ytpmlehfnlodmbaa
