/- Heaps, plain. -/
import Derived.Test.YteklkololojamaaGreatQh
namespace Go.Proofs.YteklkololojamaaGreat
set_option linter.unusedVariables false
set_option linter.unusedSimpArgs false

theorem ltT_false {a b : Trn} : ltT a b = false ↔ (b.rank < a.rank ∨ b.rank = a.rank ∧ b.id ≤ a.id) := by
  simp only [ltT, Bool.or_eq_false_iff, Bool.and_eq_false_iff, decide_eq_false_iff_not]
  omega
theorem ltT_true {a b : Trn} : ltT a b = true ↔ (a.rank < b.rank ∨ a.rank = b.rank ∧ a.id < b.id) := by
  simp only [ltT, Bool.or_eq_true, Bool.and_eq_true, decide_eq_true_eq]
theorem le_trans' {a b c : Trn} (h : ltT b a = false) (k : ltT c b = false) : ltT c a = false := by
  rw [ltT_false] at *; omega
theorem lt_asymm' {a b : Trn} (h : ltT a b = true) : ltT b a = false := by
  rw [ltT_true] at h; rw [ltT_false]; omega
def Heap (l : List Trn) : Prop := ∀ k s t, 0 < k → l[k]? = some s → l[(k - 1) / 2]? = some t → ltT s t = false
structure HeapX (l : List Trn) (j : Nat) : Prop where
  up : ∀ k s t, 0 < k → k ≠ j → l[k]? = some s → l[(k - 1) / 2]? = some t → ltT s t = false
  kid : 0 < j → ∀ k s t, 0 < k → (k - 1) / 2 = j → l[k]? = some s → l[(j - 1) / 2]? = some t → ltT s t = false
theorem sw_get {l : List Trn} {i j : Nat} {s t : Trn} (hi : i < l.length) (hj : j < l.length) (k : Nat) : ((l.set i s).set j t)[k]? = if k = j then some t else if k = i then some s else l[k]? := by
  rw [List.getElem?_set]
  by_cases e : j = k
  · subst e; simp [hj]
  · have e' : ¬ k = j := fun h => e h.symm
    rw [if_neg e, if_neg e', List.getElem?_set]
    by_cases e2 : i = k
    · subst e2; simp [hi]
    · have e3 : ¬ k = i := fun h => e2 h.symm
      rw [if_neg e2, if_neg e3]
theorem sw_mem {l : List Trn} {i j : Nat} {s t : Trn} (hi : l[i]? = some t) (hj : l[j]? = some s) (x : Trn) : x ∈ ((l.set i s).set j t) ↔ x ∈ l := by
  have hi' := (List.getElem?_eq_some_iff.1 hi).1
  have hj' := (List.getElem?_eq_some_iff.1 hj).1
  rw [List.mem_iff_getElem?, List.mem_iff_getElem?]
  constructor
  · rintro ⟨k, hk⟩
    rw [sw_get hi' hj'] at hk
    split at hk
    · cases hk; exact ⟨i, hi⟩
    · split at hk
      · cases hk; exact ⟨j, hj⟩
      · exact ⟨k, hk⟩
  · rintro ⟨k, hk⟩
    by_cases e : k = i
    · subst e
      rw [hi] at hk; cases hk
      exact ⟨j, by rw [sw_get hi' hj', if_pos rfl]⟩
    · by_cases e2 : k = j
      · subst e2
        rw [hj] at hk; cases hk
        exact ⟨i, by rw [sw_get hi' hj', if_neg (fun h => e h.symm), if_pos rfl]⟩
      · exact ⟨k, by rw [sw_get hi' hj', if_neg e2, if_neg e]; exact hk⟩
theorem push_heapX {l : List Trn} (h : Heap l) (t : Trn) : HeapX (l ++ [t]) l.length := by
  refine ⟨fun k s u hk hn hs hu => ?_, fun hj k s u hk hp hs hu => ?_⟩
  · have hlt := (List.getElem?_eq_some_iff.1 hs).1
    simp at hlt
    rw [List.getElem?_append_left (by omega)] at hs hu
    exact h k s u hk hs hu
  · have hlt := (List.getElem?_eq_some_iff.1 hs).1
    simp at hlt
    omega
theorem up_step {l : List Trn} {j : Nat} {s t : Trn} (H : HeapX l j) (hj0 : 0 < j) (hj : l[j]? = some s) (hi : l[(j - 1) / 2]? = some t) (hlt : ltT s t = true) : HeapX ((l.set ((j - 1) / 2) s).set j t) ((j - 1) / 2) := by
  have hi' := (List.getElem?_eq_some_iff.1 hi).1
  have hj' := (List.getElem?_eq_some_iff.1 hj).1
  generalize hI : (j - 1) / 2 = i at *
  have hij : i < j := by omega
  refine ⟨fun k a b hk hn ha hb => ?_, fun h0 k a b hk hp ha hb => ?_⟩
  · rw [sw_get hi' hj'] at ha hb
    by_cases e : k = j
    · subst e
      rw [if_pos rfl] at ha
      rw [hI, if_neg (by omega), if_pos rfl] at hb
      cases ha; cases hb
      exact lt_asymm' hlt
    · rw [if_neg e, if_neg hn] at ha
      by_cases e1 : (k - 1) / 2 = j
      · rw [if_pos e1] at hb
        cases hb
        exact H.kid hj0 k a _ hk e1 ha (by rw [hI]; exact hi)
      · rw [if_neg e1] at hb
        by_cases e2 : (k - 1) / 2 = i
        · rw [if_pos e2] at hb
          cases hb
          exact le_trans' (lt_asymm' hlt) (H.up k a t hk e ha (by rw [e2]; exact hi))
        · rw [if_neg e2] at hb
          exact H.up k a b hk e ha hb
  · rw [sw_get hi' hj', if_neg (by omega), if_neg (by omega)] at hb
    have hu := H.up i t b h0 (by omega) hi hb
    rw [sw_get hi' hj'] at ha
    by_cases e : k = j
    · rw [if_pos e] at ha
      cases ha
      exact hu
    · rw [if_neg e, if_neg (by omega)] at ha
      exact le_trans' hu (H.up k a t hk e ha (by rw [hp]; exact hi))
theorem up_stop0 {l : List Trn} (H : HeapX l 0) : Heap l := fun k s t hk hs ht => H.up k s t hk (by omega) hs ht
theorem up_stop {l : List Trn} {j : Nat} {s t : Trn} (H : HeapX l j) (hj : l[j]? = some s) (hi : l[(j - 1) / 2]? = some t) (hle : ltT s t = false) : Heap l := fun k a b hk ha hb => by
  by_cases e : k = j
  · subst e
    rw [hj] at ha; rw [hi] at hb
    cases ha; cases hb
    exact hle
  · exact H.up k a b hk e ha hb
theorem heap_min {l : List Trn} (h : Heap l) : ∀ n k : Nat, k < n → ∀ s t, l[k]? = some s → l[0]? = some t → ltT s t = false
  | 0, _, hk, _, _, _, _ => by omega
  | n + 1, k, hk, s, t, hs, ht => by
    by_cases e : k = 0
    · subst e
      rw [hs] at ht; cases ht
      rw [ltT_false]; omega
    · have hlt := (List.getElem?_eq_some_iff.1 hs).1
      have hp : l[(k - 1) / 2]? = some l[(k - 1) / 2] := List.getElem?_eq_getElem (by omega)
      exact le_trans' (heap_min h n ((k - 1) / 2) (by omega) _ t hp ht) (h k s _ (by omega) hs hp)
end Go.Proofs.YteklkololojamaaGreat
