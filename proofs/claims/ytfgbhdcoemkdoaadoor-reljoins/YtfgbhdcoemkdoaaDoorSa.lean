/- Heaps of numbers, plain: up and down. -/
import Derived.Test.YtfgbhdcoemkdoaaDoorHg
namespace Go.Proofs.YtfgbhdcoemkdoaaDoor.Hq
open Go.RowKit
set_option linter.unusedVariables false
set_option linter.unusedSimpArgs false
set_option maxRecDepth 8000

theorem getT {l : List Nat} {k : Nat} (h : k < l.length) : l[k]? = some l[k] := List.getElem?_eq_getElem h
def Inj (l : List Nat) : Prop := ∀ (i j a : Nat), l[i]? = some a → l[j]? = some a → i = j
/-- Two places exchanged. -/
def swp (l : List Nat) (i j s t : Nat) : List Nat := (l.set i t).set j s
theorem swp_len (l : List Nat) (i j s t : Nat) : (swp l i j s t).length = l.length := by simp [swp]
def tr (i j k : Nat) : Nat := if k = j then i else if k = i then j else k
theorem swp_get {l : List Nat} {i j s t : Nat} (hi : l[i]? = some s) (hj : l[j]? = some t) (k : Nat) : (swp l i j s t)[k]? = l[tr i j k]? := by
  have hi' := (List.getElem?_eq_some_iff.1 hi).1
  have hj' := (List.getElem?_eq_some_iff.1 hj).1
  unfold swp tr
  rw [List.getElem?_set]
  by_cases e : j = k
  · subst e; rw [if_pos rfl, if_pos (by simpa using hj'), if_pos rfl, hi]
  · have e' : ¬ k = j := fun h => e h.symm
    rw [if_neg e, if_neg e', List.getElem?_set]
    by_cases e2 : i = k
    · subst e2; rw [if_pos rfl, if_pos hi', if_pos rfl, hj]
    · have e3 : ¬ k = i := fun h => e2 h.symm
      rw [if_neg e2, if_neg e3]
theorem tr_tr (i j k : Nat) : tr i j (tr i j k) = k := by
  unfold tr
  by_cases h1 : k = j
  · subst h1
    rw [if_pos rfl]
    by_cases h2 : i = k
    · rw [if_pos h2, h2]
    · rw [if_neg h2, if_pos rfl]
  · rw [if_neg h1]
    by_cases h2 : k = i
    · subst h2; rw [if_pos rfl, if_pos rfl]
    · rw [if_neg h2, if_neg h1, if_neg h2]
theorem swp_inj {l : List Nat} {i j s t : Nat} (h : Inj l) (hi : l[i]? = some s) (hj : l[j]? = some t) : Inj (swp l i j s t) := fun a b x ha hb => by
  rw [swp_get hi hj] at ha hb
  have := h _ _ x ha hb
  have e := congrArg (tr i j) this
  rwa [tr_tr, tr_tr] at e
theorem swp_mem {l : List Nat} {i j s t : Nat} (hi : l[i]? = some s) (hj : l[j]? = some t) (x : Nat) : x ∈ swp l i j s t ↔ x ∈ l := by
  rw [List.mem_iff_getElem?, List.mem_iff_getElem?]
  constructor
  · rintro ⟨k, hk⟩
    rw [swp_get hi hj] at hk
    exact ⟨_, hk⟩
  · rintro ⟨k, hk⟩
    exact ⟨tr i j k, by rw [swp_get hi hj, tr_tr]; exact hk⟩
/-- No thing below the first n is less than its parent. -/
def Heap (l : List Nat) (n : Nat) : Prop := ∀ k s t, 0 < k → k < n → l[k]? = some s → l[(k - 1) / 2]? = some t → t ≤ s
structure HeapX (l : List Nat) (n j : Nat) : Prop where
  up : ∀ k s t, 0 < k → k < n → k ≠ j → l[k]? = some s → l[(k - 1) / 2]? = some t → t ≤ s
  kid : 0 < j → ∀ k s t, 0 < k → k < n → (k - 1) / 2 = j → l[k]? = some s → l[(j - 1) / 2]? = some t → t ≤ s
theorem push_heapX {l : List Nat} (h : Heap l l.length) (t : Nat) : HeapX (l ++ [t]) (l.length + 1) l.length := by
  refine ⟨fun k s u hk hkn hn hs hu => ?_, fun hj k s u hk hkn hp hs hu => by omega⟩
  rw [List.getElem?_append_left (by omega)] at hs hu
  exact h k s u hk (by omega) hs hu
theorem up_step {l : List Nat} {n j s t : Nat} (H : HeapX l n j) (hj0 : 0 < j) (hjn : j < n) (hj : l[j]? = some s) (hi : l[(j - 1) / 2]? = some t) (hlt : s < t) : HeapX (swp l ((j - 1) / 2) j t s) n ((j - 1) / 2) := by
  generalize hI : (j - 1) / 2 = i at *
  have hij : i < j := by omega
  have g := swp_get hi hj
  refine ⟨fun k a b hk hkn hn ha hb => ?_, fun h0 k a b hk hkn hp ha hb => ?_⟩
  · rw [g] at ha hb
    unfold tr at ha hb
    by_cases e : k = j
    · subst e
      rw [if_pos rfl, hi] at ha
      rw [hI, if_neg (by omega), if_pos rfl, hj] at hb
      cases ha; cases hb
      omega
    · rw [if_neg e, if_neg hn] at ha
      by_cases e1 : (k - 1) / 2 = j
      · rw [if_pos e1, hi] at hb
        cases hb
        exact H.kid hj0 k a _ hk hkn e1 ha (by rw [hI]; exact hi)
      · rw [if_neg e1] at hb
        by_cases e2 : (k - 1) / 2 = i
        · rw [if_pos e2, hj] at hb
          cases hb
          have := H.up k a t hk hkn e ha (by rw [e2]; exact hi)
          omega
        · rw [if_neg e2] at hb
          exact H.up k a b hk hkn e ha hb
  · rw [g] at ha hb
    unfold tr at ha hb
    rw [if_neg (by omega), if_neg (by omega)] at hb
    have hu := H.up i t b h0 (by omega) (by omega) hi hb
    by_cases e : k = j
    · rw [if_pos e, hi] at ha
      cases ha
      exact hu
    · rw [if_neg e, if_neg (by omega)] at ha
      have := H.up k a t hk hkn e ha (by rw [hp]; exact hi)
      omega
theorem up_stop0 {l : List Nat} {n : Nat} (H : HeapX l n 0) : Heap l n := fun k s t hk hkn hs ht => H.up k s t hk hkn (by omega) hs ht
theorem up_stop {l : List Nat} {n j s t : Nat} (H : HeapX l n j) (hj : l[j]? = some s) (hi : l[(j - 1) / 2]? = some t) (hle : t ≤ s) : Heap l n := fun k a b hk hkn ha hb => by
  by_cases e : k = j
  · subst e
    rw [hj] at ha; rw [hi] at hb
    cases ha; cases hb
    exact hle
  · exact H.up k a b hk hkn e ha hb
theorem heap_min {l : List Nat} {m : Nat} (h : Heap l m) (hm : m ≤ l.length) : ∀ n k : Nat, k < n → k < m → ∀ s t, l[k]? = some s → l[0]? = some t → t ≤ s
  | 0, _, hk, _, _, _, _, _ => by omega
  | n + 1, k, hk, hkm, s, t, hs, ht => by
    by_cases e : k = 0
    · subst e
      rw [hs] at ht; cases ht
      omega
    · have hp : l[(k - 1) / 2]? = some l[(k - 1) / 2] := List.getElem?_eq_getElem (by omega)
      have h1 := heap_min h hm n ((k - 1) / 2) (by omega) (by omega) _ t hp ht
      have h2 := h k s _ (by omega) hkm hs hp
      omega
/-- As a heap, but that the children of i may be less than it. -/
structure HeapD (l : List Nat) (n i : Nat) : Prop where
  up : ∀ k s t, 0 < k → k < n → (k - 1) / 2 ≠ i → l[k]? = some s → l[(k - 1) / 2]? = some t → t ≤ s
  kid : 0 < i → ∀ k s t, 0 < k → k < n → (k - 1) / 2 = i → l[k]? = some s → l[(i - 1) / 2]? = some t → t ≤ s
theorem pop_heapD {l : List Nat} {n s t : Nat} (h : Heap l (n + 1)) (h0 : l[0]? = some s) (hn : l[n]? = some t) : HeapD (swp l 0 n s t) n 0 := by
  refine ⟨fun k a b hk hkn hp ha hb => ?_, fun h0 => absurd h0 (Nat.lt_irrefl _)⟩
  rw [swp_get h0 hn] at ha hb
  unfold tr at ha hb
  rw [if_neg (by omega), if_neg (by omega)] at ha hb
  exact h k a b hk (by omega) ha hb
theorem down_step {l : List Nat} {n i j s t : Nat} (H : HeapD l n i) (hjn : j < n) (hj0 : 0 < j) (hji : (j - 1) / 2 = i) (hi : l[i]? = some t) (hj : l[j]? = some s) (hlt : s < t) (hmin : ∀ k a, 0 < k → k < n → (k - 1) / 2 = i → l[k]? = some a → s ≤ a) : HeapD (swp l i j t s) n j := by
  have g := swp_get hi hj
  have hij : i < j := by omega
  refine ⟨fun k a b hk hkn hp ha hb => ?_, fun _ k a b hk hkn hp ha hb => ?_⟩
  · rw [g] at ha hb
    unfold tr at ha hb
    rw [if_neg hp] at hb
    by_cases e : k = j
    · subst e
      rw [if_pos rfl, hi] at ha
      rw [hji, if_pos rfl, hj] at hb
      cases ha; cases hb
      omega
    · rw [if_neg e] at ha
      by_cases e2 : k = i
      · subst e2
        rw [if_pos rfl, hj] at ha
        rw [if_neg (by omega)] at hb
        cases ha
        exact H.kid (by omega) j s b hj0 hjn hji hj hb
      · rw [if_neg e2] at ha
        by_cases e3 : (k - 1) / 2 = i
        · rw [if_pos e3, hj] at hb
          cases hb
          exact hmin k a hk hkn e3 ha
        · rw [if_neg e3] at hb
          exact H.up k a b hk hkn e3 ha hb
  · rw [g] at ha hb
    unfold tr at ha hb
    rw [hji, if_neg (by omega), if_pos rfl, hj] at hb
    cases hb
    rw [if_neg (by omega), if_neg (by omega)] at ha
    exact H.up k a s hk hkn (by omega) ha (by rw [hp]; exact hj)
theorem down_stop {l : List Nat} {n i t : Nat} (H : HeapD l n i) (hi : l[i]? = some t) (h : ∀ k a, 0 < k → k < n → (k - 1) / 2 = i → l[k]? = some a → t ≤ a) : Heap l n := fun k a b hk hkn ha hb => by
  by_cases e : (k - 1) / 2 = i
  · rw [e, hi] at hb
    cases hb
    exact h k a hk hkn e ha
  · exact H.up k a b hk hkn e ha hb
theorem heap_take {l : List Nat} {n : Nat} (h : Heap l n) (hn : n ≤ l.length) : Heap (l.take n) (l.take n).length := fun k s t hk hkn hs ht => by
  rw [List.length_take, Nat.min_eq_left hn] at hkn
  rw [List.getElem?_take_of_lt hkn] at hs
  rw [List.getElem?_take_of_lt (by omega)] at ht
  exact h k s t hk hkn hs ht
theorem inj_take {l : List Nat} (h : Inj l) (n : Nat) : Inj (l.take n) := fun i j a hi hj => by
  rw [List.getElem?_take] at hi hj
  split at hi
  · split at hj
    · exact h i j a hi hj
    · cases hj
  · cases hi
theorem take_mem {l : List Nat} (h : Inj l) {n t : Nat} (hn : l.length = n + 1) (ht : l[n]? = some t) (x : Nat) : x ∈ l.take n ↔ x ∈ l ∧ x ≠ t := by
  rw [List.mem_iff_getElem?, List.mem_iff_getElem?]
  constructor
  · rintro ⟨k, hk⟩
    rw [List.getElem?_take] at hk
    split at hk
    · rename_i hkn
      refine ⟨⟨k, hk⟩, fun e => ?_⟩
      subst e
      have := h k n x hk ht
      omega
    · cases hk
  · rintro ⟨⟨k, hk⟩, hne⟩
    have hkl := (List.getElem?_eq_some_iff.1 hk).1
    refine ⟨k, ?_⟩
    rw [List.getElem?_take_of_lt]
    · exact hk
    · have : k ≠ n := fun e => by subst e; rw [hk] at ht; cases ht; exact hne rfl
      omega
theorem inj_snoc {l : List Nat} (h : Inj l) {t : Nat} (ht : t ∉ l) : Inj (l ++ [t]) := fun i j a hi hj => by
  have key : ∀ k, (l ++ [t])[k]? = some a → (k < l.length ∧ l[k]? = some a) ∨ (k = l.length ∧ a = t) := fun k hk => by
    by_cases e : k < l.length
    · rw [List.getElem?_append_left e] at hk
      exact .inl ⟨e, hk⟩
    · have hk' := (List.getElem?_eq_some_iff.1 hk).1
      rw [List.length_append, List.length_singleton] at hk'
      obtain rfl : k = l.length := by omega
      rw [List.getElem?_append_right (Nat.le_refl _)] at hk
      simp at hk
      exact .inr ⟨rfl, hk.symm⟩
  rcases key i hi with ⟨h1, h2⟩ | ⟨h1, h2⟩
  · rcases key j hj with ⟨h3, h4⟩ | ⟨h3, h4⟩
    · exact h i j a h2 h4
    · subst h4; exact absurd (List.mem_iff_getElem?.2 ⟨i, h2⟩) ht
  · rcases key j hj with ⟨h3, h4⟩ | ⟨h3, h4⟩
    · subst h2; exact absurd (List.mem_iff_getElem?.2 ⟨j, h4⟩) ht
    · omega
end Go.Proofs.YtfgbhdcoemkdoaaDoor.Hq
