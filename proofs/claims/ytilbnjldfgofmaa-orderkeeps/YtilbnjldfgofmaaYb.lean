/- What each rule finds, keeps and makes less. -/
import Derived.Test.YtilbnjldfgofmaaYa
namespace Go.Proofs.Ytilbnjldfgofmaa
open Go.RowKit
set_option linter.unusedVariables false
set_option linter.unusedSimpArgs false
set_option maxRecDepth 8000

section
variable {pc words el : Int} {l : List Opr}
theorem orL_len (l : List Opr) (j : Nat) (r : Int) : (orL l j r).length = l.length := by unfold orL; rw [List.length_set]
theorem subst_len (l : List Opr) (k v : Nat) : (substL l k v).length = l.length := by unfold substL; rw [List.length_map]
theorem orL_at {j : Nat} (hj : j < l.length) (r : Int) (i : Nat) : opAt (orL l j r) i = if i = j then { opAt l j with r := orR (opAt l j).r r } else opAt l i := by unfold orL; exact opAt_set hj _ i
theorem orL_kind {j : Nat} (hj : j < l.length) (r : Int) (i : Nat) : (opAt (orL l j r) i).kind = (opAt l i).kind := by
  rw [orL_at hj]
  split
  · rename_i e; rw [e]
  · rfl
/-- What a rule for fences finds. -/
theorem merge_some (h : rightB pc words el l = true) {k j : Nat} (hk : k < l.length) (e : mergeAt l k = some j) :
    (opAt l k).kind = 13 ∧ (opAt l j).kind = 13 ∧ 0 < k ∧ k < j ∧ j + 1 < l.length ∧ j = nextK stopK l k ∧ ∀ i, k < i → i < j → stopK (opAt l i).kind = false := by
  unfold mergeAt at e
  split at e
  · rename_i hc
    cases e
    have hi := inner_k h hk (.inr (.inr hc.1))
    have hn := next_stop h hi.2
    have hj := inner_k h hn.2.1 (.inr (.inr hc.2))
    exact ⟨hc.1, hc.2, hi.1, hn.1, hj.2, rfl, hn.2.2.2⟩
  · cases e
theorem noD_k {i : Nat} (h : (opAt l i).kind = 13 ∨ (opAt l i).kind = 10) : noD l i := by
  unfold noD
  rcases h with q | q <;> rw [q] <;> decide +kernel
theorem or_dropT (h : rightB pc words el l = true) {k j : Nat} (hk : k < l.length) (e : mergeAt l k = some j) : rightB pc words el (orL l j (opAt l k).r) = true ∧ Topo (orL l j (opAt l k).r) (dropP l.length k) := by
  obtain ⟨a, b, c, d, f, -, -⟩ := merge_some h hk e
  have hj : j < l.length := by omega
  have h2 := or_right h hj b (r := (opAt l k).r) (fence_r (op_ok h hk) a)
  refine ⟨h2, ?_⟩
  rw [← orL_len l j (opAt l k).r]
  refine drop_topo h2 (by omega) (by rw [orL_len]; omega) ?_
  intro i hi u hu
  exact use_ne h2 hi hu (by unfold noD; rw [orL_kind hj, a]; decide +kernel)
theorem drop_len {n k : Nat} (hk : k < n) : (dropP n k).length + 1 = n := by
  have h1 : dropP n k = (List.range n).erase k := by
    rw [List.nodup_range.erase_eq_filter]; rfl
  rw [h1, List.length_erase_of_mem (List.mem_range.2 hk), List.length_range]
  omega
theorem good_merge : GoodR pc words el mergeR List.length := by
  constructor
  · intro l k m h hk e
    unfold mergeR at e
    rw [Option.map_eq_some_iff] at e
    obtain ⟨j, ej, rfl⟩ := e
    have := or_dropT h hk ej
    unfold mergeDo
    exact pick_right this.1 this.2
  · intro l k m h hk e
    unfold mergeR at e
    rw [Option.map_eq_some_iff] at e
    obtain ⟨j, ej, rfl⟩ := e
    unfold mergeDo
    rw [pick_len]
    have := drop_len hk
    omega
theorem plain_k {o : Opr} {k : Int} (h : plainB o k = true) : o.kind = k ∧ o.order = 0 := by
  unfold plainB at h
  simpa using h
/-- What is known is a value that is defined ahead. -/
theorem known_some (h : rightB pc words el l = true) {a : Int} : ∀ {k v : Nat}, k ≤ l.length → knownL l a k = some v → ∃ i, i < k ∧ (opAt l i).a = a ∧ (((opAt l i).kind = 9 ∧ v = i) ∨ ((opAt l i).kind = 10 ∧ v = (opAt l i).b.toNat)) ∧ (∀ m, i < m → m < k → forgetB (opAt l m) = false ∧ ¬ ((opAt l m).kind = 9 ∧ (opAt l m).a = a))
  | 0, v, _, e => by cases e
  | k + 1, v, hk, e => by
    unfold knownL at e
    split at e
    · rename_i q
      cases e
      exact ⟨k, by omega, q.2, .inl ⟨q.1, rfl⟩, fun m h1 h2 => by omega⟩
    · rename_i n1
      split at e
      · rename_i q
        cases e
        exact ⟨k, by omega, q.2, .inr ⟨q.1, rfl⟩, fun m h1 h2 => by omega⟩
      · split at e
        · cases e
        · rename_i nf
          obtain ⟨i, h1, h2, h3, h4⟩ := known_some h (by omega) e
          refine ⟨i, by omega, h2, h3, fun m h5 h6 => ?_⟩
          rcases Nat.lt_or_ge m k with q | q
          · exact h4 m h5 q
          · obtain rfl : m = k := by omega
            exact ⟨by simpa using nf, n1⟩
theorem b_lt (h : rightB pc words el l = true) {i : Nat} (hi : i < l.length) (hk : (opAt l i).kind = 10) : 0 ≤ (opAt l i).b ∧ (opAt l i).b.toNat < i ∧ hasP (opAt l (opAt l i).b.toNat).kind 32 = true := use_lt h hi (uses_b (by rw [hk]; decide +kernel))
theorem a_lt (h : rightB pc words el l = true) {i : Nat} (hi : i < l.length) (hk : hasP (opAt l i).kind 2 = true) : 0 ≤ (opAt l i).a ∧ (opAt l i).a.toNat < i ∧ hasP (opAt l (opAt l i).a.toNat).kind 32 = true := use_lt h hi (uses_a hk)
theorem again_some (h : rightB pc words el l = true) {k v : Nat} (hk : k < l.length) (e : againAt l k = some v) :
    (opAt l k).kind = 9 ∧ (opAt l k).order = 0 ∧ knownL l (opAt l k).a k = some v ∧ 0 < k ∧ k + 1 < l.length ∧ v < k ∧ hasP (opAt l v).kind 32 = true := by
  unfold againAt at e
  split at e
  · rename_i hc
    obtain ⟨c1, c2⟩ := plain_k hc
    have hi := inner_k h hk (.inl c1)
    refine ⟨c1, c2, e, hi.1, hi.2, ?_⟩
    obtain ⟨i, h1, h2, h3, -⟩ := known_some h (by omega) e
    rcases h3 with ⟨q1, rfl⟩ | ⟨q1, rfl⟩
    · exact ⟨h1, by rw [q1]; decide +kernel⟩
    · have := b_lt h (by omega) q1
      exact ⟨by omega, this.2.2⟩
  · cases e
theorem again_topo (h : rightB pc words el l = true) {k v : Nat} (hk : k < l.length) (e : againAt l k = some v) : rightB pc words el (substL l k v) = true ∧ Topo (substL l k v) (dropP l.length k) := by
  obtain ⟨c1, c2, c3, c4, c5, c6, c7⟩ := again_some h hk e
  have h2 := subst_right h c6 hk c7
  refine ⟨h2, ?_⟩
  have hlen : (substL l k v).length = l.length := by unfold substL; rw [List.length_map]
  rw [← hlen]
  refine drop_topo h2 (by omega) (by omega) ?_
  intro i hi u hu
  rw [hlen] at hi
  exact subst_off c6 hi h u hu
theorem good_again : GoodR pc words el againR List.length := by
  constructor
  · intro l k m h hk e
    unfold againR at e
    rw [Option.map_eq_some_iff] at e
    obtain ⟨j, ej, rfl⟩ := e
    have := again_topo h hk ej
    unfold againDo
    exact pick_right this.1 this.2
  · intro l k m h hk e
    unfold againR at e
    rw [Option.map_eq_some_iff] at e
    obtain ⟨j, ej, rfl⟩ := e
    unfold againDo
    rw [pick_len]
    have := drop_len hk
    omega
theorem over_some (h : rightB pc words el l = true) {k j : Nat} (hk : k < l.length) (e : overAt l k = some j) :
    (opAt l k).kind = 10 ∧ (opAt l k).order = 0 ∧ (opAt l j).kind = 10 ∧ (opAt l j).order = 0 ∧ (opAt l j).a = (opAt l k).a ∧ 0 < k ∧ k < j ∧ j + 1 < l.length ∧ j = nextK loudK l k ∧ ∀ i, k < i → i < j → loudK (opAt l i).kind = false := by
  unfold overAt at e
  split at e
  · rename_i hc
    cases e
    obtain ⟨c1, c2⟩ := plain_k hc.1
    obtain ⟨c3, c4⟩ := plain_k hc.2.1
    have hi := inner_k h hk (.inr (.inl c1))
    have hn := next_loud h hi.2
    have hj := inner_k h hn.2.1 (.inr (.inl c3))
    exact ⟨c1, c2, c3, c4, hc.2.2, hi.1, hn.1, hj.2, rfl, hn.2.2.2⟩
  · cases e
theorem overT (h : rightB pc words el l = true) {k j : Nat} (hk : k < l.length) (e : overAt l k = some j) : Topo l (overP l k j) := by
  obtain ⟨c1, c2, c3, c4, c5, c6, c7, c8, -, -⟩ := over_some h hk e
  exact over_topo h c6 (by omega) c8 (noD_k (.inr c1))
theorem over_len {k j : Nat} (hk : k ≤ j) (hj : j < l.length) : (overP l k j).length + 1 = l.length := by
  have h1 : overP l k j = (moveP l k j).erase k := by
    rw [(move_nd hk).erase_eq_filter]; rfl
  rw [h1, List.length_erase_of_mem ((mem_move hk hj).2 (by omega)), move_len hk hj]
  omega
theorem good_over : GoodR pc words el overR List.length := by
  constructor
  · intro l k m h hk e
    unfold overR at e
    rw [Option.map_eq_some_iff] at e
    obtain ⟨j, ej, rfl⟩ := e
    unfold overDo
    exact pick_right h (overT h hk ej)
  · intro l k m h hk e
    unfold overR at e
    rw [Option.map_eq_some_iff] at e
    obtain ⟨j, ej, rfl⟩ := e
    obtain ⟨c1, c2, c3, c4, c5, c6, c7, c8, -, -⟩ := over_some h hk ej
    unfold overDo
    rw [pick_len]
    have := over_len (l := l) (k := k) (j := j) (by omega) (by omega)
    omega
theorem good_loads : GoodR pc words el loadsR List.length := by
  constructor
  · intro l k m h hk e
    unfold loadsR at e
    rw [Option.or_eq_some_iff] at e
    rcases e with e | ⟨-, e⟩
    · exact good_again.right l k m h hk e
    · exact good_over.right l k m h hk e
  · intro l k m h hk e
    unfold loadsR at e
    rw [Option.or_eq_some_iff] at e
    rcases e with e | ⟨-, e⟩
    · exact (good_again (pc := pc) (words := words) (el := el)).less l k m h hk e
    · exact (good_over (pc := pc) (words := words) (el := el)).less l k m h hk e
theorem ahead_some (h : rightB pc words el l = true) {k j : Nat} (hk : k < l.length) (e : aheadAt l k = some j) :
    (opAt l k).kind = 10 ∧ (opAt l k).order = 0 ∧ (opAt l j).kind = 9 ∧ (opAt l j).order = 0 ∧ differB l (opAt l k).a (opAt l j).a = true ∧ 0 < k ∧ k < j ∧ j + 1 < l.length ∧ j = nextK loudK l k ∧ ∀ i, k < i → i < j → loudK (opAt l i).kind = false := by
  unfold aheadAt at e
  split at e
  · rename_i hc
    cases e
    obtain ⟨c1, c2⟩ := plain_k hc.1
    obtain ⟨c3, c4⟩ := plain_k hc.2.1
    have hi := inner_k h hk (.inr (.inl c1))
    have hn := next_loud h hi.2
    have hj := inner_k h hn.2.1 (.inl c3)
    exact ⟨c1, c2, c3, c4, hc.2.2, hi.1, hn.1, hj.2, rfl, hn.2.2.2⟩
  · cases e
theorem aheadT (h : rightB pc words el l = true) {k j : Nat} (hk : k < l.length) (e : aheadAt l k = some j) : Topo l (moveP l k j) := by
  obtain ⟨c1, c2, c3, c4, c5, c6, c7, c8, -, -⟩ := ahead_some h hk e
  exact move_topo h c6 (by omega) c8 (noD_k (.inr c1))
/-- How many loads stand behind how many stores. -/
def invs : List Int → Nat
  | [] => 0
  | x :: t => (if x = 10 then t.count 9 else 0) + invs t
def accK (l : List Opr) (p : List Nat) : List Int := (p.map fun i => (opAt l i).kind).filter (fun k => k == 9 || k == 10)
def muL (l : List Opr) : Nat := invs (accK l (List.range l.length))
theorem accK_app (p q : List Nat) : accK l (p ++ q) = accK l p ++ accK l q := by unfold accK; rw [List.map_append, List.filter_append]
theorem pick_kinds {p : List Nat} (t : Topo l p) : accK (pickL l p) (List.range (pickL l p).length) = accK l p := by
  unfold accK
  congr 1
  apply List.ext_getElem?
  intro i
  rw [pick_len, List.getElem?_map, List.getElem?_map]
  rcases Nat.lt_or_ge i p.length with q | q
  · rw [List.getElem?_range q, List.getElem?_eq_getElem q]
    simp only [Option.map_some]
    rw [pick_at (List.getElem?_eq_getElem q)]; rfl
  · rw [List.getElem?_eq_none (by simpa using q), List.getElem?_eq_none q]; rfl
theorem accK_none {p : List Nat} (h : ∀ i ∈ p, loudK (opAt l i).kind = false) : accK l p = [] := by
  unfold accK
  rw [List.filter_eq_nil_iff]
  intro k hk
  obtain ⟨i, hi, rfl⟩ := List.mem_map.1 hk
  have := h i hi
  unfold loudK at this
  simp only [Bool.not_eq_false', Bool.or_eq_true, beq_iff_eq] at this
  simp only [Bool.or_eq_true, beq_iff_eq]
  omega
theorem invs_swap (a b : List Int) : invs (a ++ 10 :: 9 :: b) = invs (a ++ 9 :: 10 :: b) + 1 := by
  induction a with
  | nil =>
    simp only [List.nil_append, invs]
    rw [if_pos trivial, if_neg (by decide), if_pos trivial, if_neg (by decide), List.count_cons]
    simp
    omega
  | cons x t ih =>
    simp only [List.cons_append, invs, ih, List.count_append, List.count_cons]
    simp
    omega
theorem range_parts {k j : Nat} (h1 : k < j) (h2 : j < l.length) : List.range l.length = List.range k ++ ([k] ++ (List.range' (k + 1) (j - k - 1) ++ ([j] ++ List.range' (j + 1) (l.length - (j + 1))))) := by
  have e1 : List.range l.length = List.range' 0 l.length := List.range_eq_range'
  have e2 : List.range k = List.range' 0 k := List.range_eq_range'
  rw [e1, e2, show l.length = k + (1 + ((j - k - 1) + (1 + (l.length - (j + 1))))) by omega]
  rw [show k + (1 + ((j - k - 1) + (1 + (l.length - (j + 1))))) - (j + 1) = l.length - (j + 1) by omega]
  rw [← List.range'_append_1, ← List.range'_append_1, ← List.range'_append_1, ← List.range'_append_1]
  congr 1
  rw [show 0 + k + 1 = k + 1 by omega, show 0 + k = k by omega, show k + 1 + (j - k - 1) = j by omega]
  rfl
theorem seg_parts {k j : Nat} (h1 : k < j) : seg k j = List.range' (k + 1) (j - k - 1) ++ [j] := by
  unfold seg
  have := List.range'_append_1 (s := k + 1) (m := j - k - 1) (n := 1)
  rw [show k + 1 + (j - k - 1) = j by omega, show j - k - 1 + 1 = j - k by omega] at this
  rw [← this]; rfl
theorem quiet_seg {k j i : Nat} (hq : ∀ i, k < i → i < j → loudK (opAt l i).kind = false) (hi : i ∈ List.range' (k + 1) (j - k - 1)) : loudK (opAt l i).kind = false := by
  rw [List.mem_range'_1] at hi
  exact hq i (by omega) (by omega)
theorem acc_swap {k j : Nat} (h1 : k < j) (h2 : j < l.length) (hk : (opAt l k).kind = 10) (hj : (opAt l j).kind = 9) (hq : ∀ i, k < i → i < j → loudK (opAt l i).kind = false) :
    ∃ A B, accK l (List.range l.length) = A ++ 10 :: 9 :: B ∧ accK l (moveP l k j) = A ++ 9 :: 10 :: B := by
  refine ⟨accK l (List.range k), accK l (List.range' (j + 1) (l.length - (j + 1))), ?_, ?_⟩
  · rw [range_parts h1 h2, accK_app, accK_app, accK_app, accK_app, accK_none (fun i hi => quiet_seg hq hi)]
    congr 1
    have e1 : accK l [k] = [10] := by unfold accK; simp [hk]
    have e2 : accK l [j] = [9] := by unfold accK; simp [hj]
    rw [e1, e2]; rfl
  · unfold moveP
    rw [accK_app, accK_app, accK_app, List.append_assoc, List.append_assoc]
    congr 1
    have e1 : accK l (nonAts l k j) = [9] := by
      unfold nonAts
      rw [seg_parts h1, List.filter_append, accK_app, accK_none (fun i hi => quiet_seg hq (List.mem_filter.1 hi).1)]
      unfold accK isAt
      simp [hj]
    have e2 : accK l (k :: ats l k j) = [10] := by
      rw [show k :: ats l k j = [k] ++ ats l k j from rfl, accK_app]
      have : accK l (ats l k j) = [] := by
        refine accK_none (fun i hi => ?_)
        have := (mem_ats.1 hi).2.2
        unfold isAt at this
        rw [beq_iff_eq] at this
        rw [this]; decide
      rw [this]
      unfold accK
      simp [hk]
    rw [e1, e2]; rfl
theorem good_ahead : GoodR pc words el aheadR muL := by
  constructor
  · intro l k m h hk e
    unfold aheadR at e
    rw [Option.map_eq_some_iff] at e
    obtain ⟨j, ej, rfl⟩ := e
    unfold aheadDo
    exact pick_right h (aheadT h hk ej)
  · intro l k m h hk e
    unfold aheadR at e
    rw [Option.map_eq_some_iff] at e
    obtain ⟨j, ej, rfl⟩ := e
    obtain ⟨c1, c2, c3, c4, c5, c6, c7, c8, -, c10⟩ := ahead_some h hk ej
    unfold aheadDo muL
    rw [pick_kinds (aheadT h hk ej)]
    obtain ⟨A, B, e1, e2⟩ := acc_swap c7 (by omega) c1 c3 c10
    rw [e1, e2, invs_swap]
    omega
def mergeL (l : List Opr) : List Opr := runF mergeR l.length l
def loadsL (l : List Opr) : List Opr := runF loadsR l.length l
def moveL (l : List Opr) : List Opr := runF aheadR (muL l) l
end
end Go.Proofs.Ytilbnjldfgofmaa
