/- The document's own monitor made; it is like the program's. -/
import Derived.Test.YtgloemlbkkjcaaaNa
namespace Go.Proofs.Ytgloemlbkkjcaaa
open Go.RowKit
set_option linter.unusedVariables false
set_option linter.unusedSimpArgs false

def nilR (n : Nat) : List Mk := List.replicate n (false, 0)
def FH (w0 : World) (n : Nat) (v : Value) (w : World) : Prop := ∃ b, v = .slice (some ⟨b, 0, none⟩) n n ∧ w0.heap.size ≤ b ∧ w.heap[b]? = some (.cells (hasR (nilR n)).toArray 4)
def FA (w0 : World) (n : Nat) (v : Value) (w : World) : Prop := ∃ b, v = .slice (some ⟨b, 0, none⟩) n n ∧ w0.heap.size ≤ b ∧ w.heap[b]? = some (.cells (atR (nilR n)).toArray 30)
def FB (w0 : World) (n : Nat) (v : Value) (w : World) : Prop := ∃ v1 v2, v = .agg #[v1, v2] ∧ FH w0 n v1 w ∧ FA w0 n v2 w
def FP (w0 : World) (n : Nat) (v : Value) (w : World) : Prop := ∃ b v1 v2, v = ptr b 0 ∧ w0.heap.size ≤ b ∧ w.heap[b]? = some (.cells #[v1, v2] 39) ∧ FH w0 n v1 w ∧ FA w0 n v2 w
theorem fh_up (w0 : World) (n : Nat) (v : Value) : Rel.Up Rel.Grows (FH w0 n v) := fun _ _ ⟨b, e, hb, hh⟩ hg => ⟨b, e, hb, by rw [hg.block _ (lt_of_some hh)]; exact hh⟩
theorem fa_up (w0 : World) (n : Nat) (v : Value) : Rel.Up Rel.Grows (FA w0 n v) := fun _ _ ⟨b, e, hb, hh⟩ hg => ⟨b, e, hb, by rw [hg.block _ (lt_of_some hh)]; exact hh⟩
theorem fb_up (w0 : World) (n : Nat) (v : Value) : Rel.Up Rel.Grows (FB w0 n v) := fun _ _ ⟨v1, v2, e, h1, h2⟩ hg => ⟨v1, v2, e, fh_up _ _ _ _ _ h1 hg, fa_up _ _ _ _ _ h2 hg⟩
theorem fp_up (w0 : World) (n : Nat) (v : Value) : Rel.Up Rel.Grows (FP w0 n v) := fun _ _ ⟨b, v1, v2, e, hb, hh, h1, h2⟩ hg => ⟨b, v1, v2, e, hb, by rw [hg.block _ (lt_of_some hh)]; exact hh, fh_up _ _ _ _ _ h1 hg, fa_up _ _ _ _ _ h2 hg⟩
theorem inf4 : ∃ i, Try.prog.info? 4 = some i ∧ i.zero = some (.bool false) ∧ i.size = 1 ∧ i.bytes = 1 := by
  have h : (Try.prog.info? 4).map (fun i => (i.zero, i.size, i.bytes)) = some (some (.bool false), 1, 1) := by kernel_rfl
  cases hq : Try.prog.info? 4 with
  | none => rw [hq] at h; cases h
  | some i =>
    rw [hq] at h
    simp only [Option.map_some, Option.some.injEq, Prod.mk.injEq] at h
    exact ⟨i, rfl, h.1, h.2.1, h.2.2⟩
theorem inf30 : ∃ i, Try.prog.info? 30 = some i ∧ i.zero = some (vU 0) ∧ i.size = 1 ∧ i.bytes = 8 := by
  have h : (Try.prog.info? 30).map (fun i => (i.zero, i.size, i.bytes)) = some (some (vU 0), 1, 8) := by kernel_rfl
  cases hq : Try.prog.info? 30 with
  | none => rw [hq] at h; cases h
  | some i =>
    rw [hq] at h
    simp only [Option.map_some, Option.some.injEq, Prod.mk.injEq] at h
    exact ⟨i, rfl, h.1, h.2.1, h.2.2⟩
theorem made_h (n : Nat) : madeCells (Value.cells (.bool false)) (n * 1) = (hasR (nilR n)).toArray := by
  apply Array.ext_getElem?
  intro j
  by_cases hj : j < n
  · simp [madeCells, hj, Value.cells, Nat.mod_one, hasR, nilR]
  · simp [madeCells, hj, Value.cells, hasR, nilR]
theorem made_a (n : Nat) : madeCells (Value.cells (vU 0)) (n * 1) = (atR (nilR n)).toArray := by
  apply Array.ext_getElem?
  intro j
  by_cases hj : j < n
  · simp [madeCells, hj, Value.cells, Nat.mod_one, atR, nilR]
  · simp [madeCells, hj, Value.cells, atR, nilR]
theorem rel_has {o : Oper} {a : Act} {w w0 : World} (n : Nat) (x : Operand) (ho : o.op = .makeSlice 36 x x) (hx : a.eval x = vI n) (hn : n ≤ 8) (h0 : w0.heap.size ≤ w.heap.size) : Rel.relUpon Try.prog Rel.Grows (FH w0 n) w ((execOp a.eval o).run Try.prog w) := by
  obtain ⟨i, h1, h2, h3, h4⟩ := inf4
  have hr := run_make (P := Try.prog) w 36 4 i _ Try.underlying36 h1 h2 .i64 .i64 n n (by omega) (Int.le_refl _) (by rw [h4]; omega) (by omega)
  rw [h3, Int.toNat_natCast, made_h] at hr
  unfold execOp
  simp only [ho, hx, Sem.run_bind, hr, Result.andThen_ok]
  exact ⟨below_alloc _ _, w.heap.size, rfl, h0, heap_alloc_new _ _⟩
theorem rel_at {o : Oper} {a : Act} {w w0 : World} (n : Nat) (x : Operand) (ho : o.op = .makeSlice 37 x x) (hx : a.eval x = vI n) (hn : n ≤ 8) (h0 : w0.heap.size ≤ w.heap.size) : Rel.relUpon Try.prog Rel.Grows (FA w0 n) w ((execOp a.eval o).run Try.prog w) := by
  obtain ⟨i, h1, h2, h3, h4⟩ := inf30
  have hr := run_make (P := Try.prog) w 37 30 i _ Try.underlying37 h1 h2 .i64 .i64 n n (by omega) (Int.le_refl _) (by rw [h4]; omega) (by omega)
  rw [h3, Int.toNat_natCast, made_a] at hr
  unfold execOp
  simp only [ho, hx, Sem.run_bind, hr, Result.andThen_ok]
  exact ⟨below_alloc _ _, w.heap.size, rfl, h0, heap_alloc_new _ _⟩
theorem rel_build {o : Oper} {a : Act} {w w0 : World} {n : Nat} {v1 v2 : Value} (x y : Operand) (ho : o.op = .build 39 #[(0, x), (1, y)]) (h1 : FH w0 n v1 w) (h2 : FA w0 n v2 w) (hx : a.eval x = v1) (hy : a.eval y = v2) : Rel.relUpon Try.prog Rel.Grows (FB w0 n) w ((execOp a.eval o).run Try.prog w) := by
  obtain ⟨b1, rfl, k1⟩ := id h1
  obtain ⟨b2, rfl, k2⟩ := id h2
  have hb : Try.prog.built 39 [(0, .slice (some ⟨b1, 0, none⟩) n n), (1, .slice (some ⟨b2, 0, none⟩) n n)] = some #[.slice (some ⟨b1, 0, none⟩) n n, .slice (some ⟨b2, 0, none⟩) n n] := by kernel_rfl
  unfold execOp
  simp only [ho, List.map_toArray, List.map_cons, List.map_nil, hx, hy, Sem.run_bind, run_build w 39 _ _ hb, Result.andThen_ok]
  exact ⟨Below.refl _ _, _, _, rfl, h1, h2⟩
theorem rel_box {o : Oper} {a : Act} {w w0 : World} {n : Nat} {v : Value} (x : Operand) (ho : o.op = .box 39 x) (h1 : FB w0 n v w) (hx : a.eval x = v) (h0 : w0.heap.size ≤ w.heap.size) : Rel.relUpon Try.prog Rel.Grows (FP w0 n) w ((execOp a.eval o).run Try.prog w) := by
  obtain ⟨v1, v2, rfl, k1, k2⟩ := id h1
  obtain ⟨b1, rfl, _⟩ := id k1
  obtain ⟨b2, rfl, _⟩ := id k2
  have hb := below_alloc w (.cells #[.slice (some ⟨b1, 0, none⟩) n n, .slice (some ⟨b2, 0, none⟩) n n] 39)
  have hr : (Instr.box 39 (.agg #[.slice (some ⟨b1, 0, none⟩) n n, .slice (some ⟨b2, 0, none⟩) n n])).run Try.prog w = .ok (ptr w.heap.size 0) (w.alloc (.cells #[.slice (some ⟨b1, 0, none⟩) n n, .slice (some ⟨b2, 0, none⟩) n n] 39)) := by
    go_simp
  unfold execOp
  simp only [ho, hx, Sem.run_bind, hr, Result.andThen_ok]
  exact ⟨hb, w.heap.size, _, _, rfl, h0, heap_alloc_new _ _, fh_up _ _ _ _ _ k1 hb, fa_up _ _ _ _ _ k2 hb⟩
set_option maxRecDepth 4000 in
theorem rnew_c (n : Nat) (w : World) (hn : n ≤ 8) : Calls Try.prog 9 #[vI n] w fun e w' => ∃ h hb ab, e = .returned (ptr h 0) ∧ RefAt h hb ab (nilR n) w' ∧ (∀ k, RFoot h hb ab k → w.heap.size ≤ k) ∧ Below w.heap.size w w' := by
  go_enter Try.func9, Try.ntmps9
  go_upto_region 1 with fail
  refine Rel.wp_region_rel Rel.Grows (fun x => Below w.heap.size w x) [.inl (vI n), .inr (FH w n), .inl (vI n), .inr (FA w n), .inr (FB w n), .inr (FP w n), .inr (FP w n)] (by kernel_rfl) (by kernel_rfl) (fun a b h1 h2 => below_then h1 (Nat.le_refl _) h2) ⟨rfl, rfl, rfl, Nat.le_refl _, fun _ _ => rfl⟩ ?_ ?_
  · intro k hk
    simp only [List.mem_cons, List.not_mem_nil, or_false] at hk
    rcases hk with rfl | rfl | rfl | rfl | rfl | rfl | rfl
    · trivial
    · exact fh_up _ _
    · trivial
    · exact fa_up _ _
    · exact fb_up _ _
    · exact fp_up _ _
    · exact fp_up _ _
  refine ⟨fun w1 hC hF => by (go_simp <;> exact Below.refl _ _), ?_⟩
  simp only [Act.put, List.setIfInBounds_toArray, List.set_cons_succ, List.set_cons_zero]
  refine ⟨fun w1 hC hF => rel_has n _ rfl rfl hn hC.size, fun v1 => ?_⟩
  simp only [Act.put, List.setIfInBounds_toArray, List.set_cons_succ, List.set_cons_zero]
  refine ⟨fun w1 hC hF => by (go_simp <;> exact Below.refl _ _), ?_⟩
  simp only [Act.put, List.setIfInBounds_toArray, List.set_cons_succ, List.set_cons_zero]
  refine ⟨fun w1 hC hF => rel_at n _ rfl rfl hn hC.size, fun v2 => ?_⟩
  simp only [Act.put, List.setIfInBounds_toArray, List.set_cons_succ, List.set_cons_zero]
  refine ⟨fun w1 hC hF => by
    have f1 : FH w n v1 w1 := (hF 1 (by kernel_rfl)).2.1 rfl
    have f2 : FA w n v2 w1 := (hF 3 (by kernel_rfl)).1 rfl
    exact rel_build _ _ rfl f1 f2 rfl rfl, fun v3 => ?_⟩
  simp only [Act.put, List.setIfInBounds_toArray, List.set_cons_succ, List.set_cons_zero]
  refine ⟨fun w1 hC hF => by
    have f3 : FB w n v3 w1 := (hF 4 (by kernel_rfl)).1 rfl
    exact rel_box _ rfl f3 rfl hC.size, fun v4 => ?_⟩
  simp only [Act.put, List.setIfInBounds_toArray, List.set_cons_succ, List.set_cons_zero]
  refine ⟨fun w1 hC hF => by
    have f4 : FP w n v4 w1 := (hF 5 (by kernel_rfl)).1 rfl
    go_simp
    first | exact Below.refl _ _ | exact ⟨Below.refl _ _, f4⟩, fun v5 => ?_⟩
  simp only [Act.put, List.setIfInBounds_toArray, List.set_cons_succ, List.set_cons_zero]
  intro w2 hC hF
  obtain ⟨g, v1', v2', rfl, hg0, hg, ⟨gw, rfl, hw0, hgw⟩, ⟨gb, rfl, hb0, hgb⟩⟩ : FP w n v5 w2 := (hF 6).1 rfl
  clear hF
  go_wp2
  go_ret
  have hl : (nilR n).length = n := by simp [nilR]
  refine ⟨g, gw, gb, rfl, ⟨by rw [hl]; exact hg, hgw, hgb⟩, ?_, hC⟩
  rintro k (rfl | rfl | rfl)
  · exact hg0
  · exact hw0
  · exact hb0
/-- The two are alike. -/
structure Like (n : Nat) (ms rs : List Mk) : Prop where
  len : rs.length = n
  same : ∀ c : Nat, c < n → (mkAt ms c).1 = (rs.getD c (false, 0)).1 ∧ ((rs.getD c (false, 0)).1 = true → (mkAt ms c).2 = (rs.getD c (false, 0)).2)
  rest : ∀ c : Nat, n ≤ c → c < 8 → mkAt ms c = (false, 0)
theorem like_new (n : Nat) : Like n nilM (nilR n) := by
  refine ⟨by simp [nilR], fun c hc => ?_, fun c h1 h2 => ?_⟩
  · have e : (nilR n).getD c (false, 0) = (false, 0) := by simp [nilR, List.getD_eq_getElem?_getD, hc]
    rw [e]
    have : mkAt nilM c = (false, 0) := by
      simp only [mkAt, nilM, Int.toNat_natCast, List.getD_eq_getElem?_getD, List.getElem?_replicate]
      split <;> rfl
    rw [this]
    exact ⟨rfl, fun h => by cases h⟩
  · simp only [mkAt, nilM, Int.toNat_natCast, List.getD_eq_getElem?_getD, List.getElem?_replicate]
    split <;> rfl
theorem Like.iff {n : Nat} {ms rs : List Mk} (h : Like n ms rs) {c : Nat} (hc : c < n) (a : Int) : mkAt ms c = ofV a ↔ rs.getD c (false, 0) = ofV a := by
  obtain ⟨h1, h2⟩ := h.same c hc
  constructor
  · intro e
    have e1 : (rs.getD c (false, 0)).1 = true := by rw [← h1, e]; rfl
    have e2 := h2 e1
    rw [e] at e2
    exact Prod.ext e1 e2.symm
  · intro e
    have e1 : (rs.getD c (false, 0)).1 = true := by rw [e]; rfl
    have e2 := h2 e1
    rw [e] at e2
    exact Prod.ext (by rw [h1, e]) e2
theorem like_hit {n : Nat} {ms rs : List Mk} (h : Like n ms rs) (hl : ms.length = 8) (hn : n ≤ 8) (k : Int) (a : Int) {c : Nat} (hc : c < n) : hitM ms k (ofV a) c = hitM rs k (ofV a) c := by
  have hr : rs[c]? = some (rs.getD c (false, 0)) := by rw [List.getD_eq_getElem?_getD, List.getElem?_eq_getElem (by rw [h.len]; exact hc)]; rfl
  have := h.iff hc a
  rw [hitM, hitM, mkAt_get (by omega), hr]
  simp only [Option.some.injEq, this]
theorem like_lst {n : Nat} {ms rs : List Mk} (h : Like n ms rs) (hl : ms.length = 8) (hn : n ≤ 8) (k : Int) (a : Int) : ∀ j, (j ≤ n → lst ms k (ofV a) j = lst rs k (ofV a) j) ∧ (n ≤ j → j ≤ 8 → lst ms k (ofV a) j = lst rs k (ofV a) n) := by
  intro j
  induction j with
  | zero => exact ⟨fun _ => rfl, fun h0 _ => by
      have e : n = 0 := by omega
      subst e
      rfl⟩
  | succ j ih =>
    have h1 : j + 1 ≤ n → lst ms k (ofV a) (j + 1) = lst rs k (ofV a) (j + 1) := fun hj => by
      rw [lst, lst, like_hit h hl hn k a (by omega), ih.1 (by omega)]
    refine ⟨h1, fun h2 h3 => ?_⟩
    by_cases e : n = j + 1
    · rw [h1 (by omega), e]
    · have hf : hitM ms k (ofV a) j = false := by
        cases hh : hitM ms k (ofV a) j
        · rfl
        · have := ((hit_iff (by omega)).1 hh).2
          rw [h.rest j (by omega) (by omega)] at this
          exact absurd this.symm (of_ne_nil _)
      rw [lst, hf]
      exact ih.2 (by omega) (by omega)
theorem like_mark {n : Nat} {ms rs : List Mk} (h : Like n ms rs) (hl : ms.length = 8) (hn : n ≤ 8) {k : Nat} (hk : k < n) (a : Int) : Like n (markS n ms k a) (rmarkS rs k a) := by
  have hB : hasB n k = true := hasB_iff.2 ⟨by omega, by omega⟩
  refine ⟨by rw [rmarkS, List.length_set]; exact h.len, fun c hc => ?_, fun c h1 h2 => ?_⟩
  · rw [mark_at hB (by omega) hl _ (by omega), rmarkS, getD_set _ _ _ _ (by rw [h.len]; exact hk)]
    by_cases e : c = k
    · rw [if_pos (by omega), if_pos e]; exact ⟨rfl, fun _ => rfl⟩
    · rw [if_neg (by omega), if_neg e]; exact h.same c hc
  · rw [mark_at hB (by omega) hl _ (by omega), if_neg (by omega)]; exact h.rest c h1 h2
theorem like_clear {n : Nat} {ms rs : List Mk} (h : Like n ms rs) (hl : ms.length = 8) (hn : n ≤ 8) {k : Nat} (hk : k < n) (x : Int) : Like n (clearS n ms k) (rs.set k (false, x)) := by
  have hB : hasB n k = true := hasB_iff.2 ⟨by omega, by omega⟩
  refine ⟨by rw [List.length_set]; exact h.len, fun c hc => ?_, fun c h1 h2 => ?_⟩
  · rw [clear_at hB (by omega) hl (by omega), getD_set _ _ _ _ (by rw [h.len]; exact hk)]
    by_cases e : c = k
    · rw [if_pos (by omega), if_pos e]; exact ⟨rfl, fun h => by cases h⟩
    · rw [if_neg (by omega), if_neg e]; exact h.same c hc
  · rw [clear_at hB (by omega) hl (by omega), if_neg (by omega)]; exact h.rest c h1 h2
theorem rwip_get (rs : List Mk) (c : Int) (s : Mk) (j : Nat) (hj : j ≤ rs.length) (i : Nat) : (rwip rs c s j).getD i (false, 0) = if i < j ∧ hitM rs c s i = true then (false, s.2) else rs.getD i (false, 0) := by
  induction j with
  | zero => simp [rwip]
  | succ j ih =>
    have ih := ih (by omega)
    rw [rwip]
    by_cases h : hitM rs c s j = true
    · rw [if_pos h, getD_set _ _ _ _ (by rw [rwip_len]; omega), ih]
      by_cases e : i = j
      · subst e; simp [h]
      · rw [if_neg e]
        by_cases h2 : i < j
        · simp [h2, Nat.lt_succ_of_lt h2]
        · simp [h2, show ¬ i < j + 1 by omega]
    · rw [if_neg h, ih]
      by_cases e : i = j
      · subst e; simp [h]
      · by_cases h2 : i < j
        · simp [h2, Nat.lt_succ_of_lt h2]
        · simp [h2, show ¬ i < j + 1 by omega]
theorem like_wrote {n : Nat} {ms rs : List Mk} (h : Like n ms rs) (hl : ms.length = 8) (hn : n ≤ 8) {k : Int} (hB : hasB n k = true) (a : Int) : Like n (wroteS n ms k a) (rwip rs k (ofV a) rs.length) := by
  refine ⟨by rw [rwip_len]; exact h.len, fun c hc => ?_, fun c h1 h2 => ?_⟩
  · have hh := like_hit h hl hn k a hc
    rw [wroteS, hB, if_pos rfl, mkAt, Int.toNat_natCast, wip_get _ _ _ _ (by omega), rwip_get _ _ _ _ (Nat.le_refl _), ← hh, h.len]
    by_cases e : hitM ms k (ofV a) c = true
    · rw [if_pos ⟨by omega, e⟩, if_pos ⟨hc, e⟩]; exact ⟨rfl, fun h => by cases h⟩
    · rw [if_neg (fun h => e h.2), if_neg (fun h => e h.2)]; exact h.same c hc
  · rw [wrote_at hB hl _ (by omega) (by omega), if_neg (fun hh => absurd ((h.rest c h1 h2).symm.trans hh.2).symm (of_ne_nil _))]; exact h.rest c h1 h2
theorem like_list {n : Nat} {ms rs : List Mk} (h : Like n ms rs) (hl : ms.length = 8) (hn : n ≤ 8) {k : Int} (hB : hasB n k = true) (a : Int) : wroteL n ms k a = lst rs k (ofV a) rs.length := by
  rw [wroteL, hB, if_pos rfl, h.len]
  exact (like_lst h hl hn k a 8).2 hn (Nat.le_refl _)
theorem like_take {n : Nat} {ms rs : List Mk} (h : Like n ms rs) {k : Nat} (hk : k < n) (a : Int) : takeB n ms k a = rtakeB rs k a := by
  have hB : hasB n k = true := hasB_iff.2 ⟨by omega, by omega⟩
  rw [takeB, hB, Bool.true_and, rtakeB]
  have := h.iff hk a
  rw [Bool.eq_iff_iff, eqM_iff, eqM_iff]
  exact this
end Go.Proofs.Ytgloemlbkkjcaaa
