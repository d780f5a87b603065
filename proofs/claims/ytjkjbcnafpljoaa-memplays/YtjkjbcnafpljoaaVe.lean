/- The memory and the document's are alike: plain. -/
import Derived.Test.YtjkjbcnafpljoaaVd
import Derived.Test.YtjkjbcnafpljoaaPo
namespace Go.Proofs.Ytjkjbcnafpljoaa
open Go.RowKit
set_option linter.unusedVariables false
set_option linter.unusedSimpArgs false

/-- What a core's buffer holds, by the document. -/
def hF (c : Int) : List R4 → Nat → List Lt
  | [], _ => []
  | s :: l, i => if s.c = c ∧ s.s = 0 then ⟨s.a, s.v, (i : Int) + 1⟩ :: hF c l (i + 1) else hF c l (i + 1)
theorem hF_held (c : Int) (l : List R4) (i : Nat) : heldF c l i = (hF c l i).map (·.t) := by
  induction l generalizing i with
  | nil => rfl
  | cons s l ih => rw [heldF, hF]; split <;> simp [ih]
theorem hF_app (c : Int) (l m : List R4) (i : Nat) : hF c (l ++ m) i = hF c l i ++ hF c m (i + l.length) := by
  induction l generalizing i with
  | nil => simp [hF]
  | cons s l ih =>
    rw [List.cons_append, hF, hF, ih, List.length_cons, show i + 1 + l.length = i + (l.length + 1) by omega]
    split <;> simp
theorem hF_split {c : Int} {l : List R4} {i : Nat} {y : Lt} {tl : List Lt} (h : hF c l i = y :: tl) : ∃ l1 x l2, l = l1 ++ x :: l2 ∧ hF c l1 i = [] ∧ x.c = c ∧ x.s = 0 ∧ y = (⟨x.a, x.v, ((i + l1.length : Nat) : Int) + 1⟩ : Lt) ∧ tl = hF c l2 (i + l1.length + 1) := by
  induction l generalizing i with
  | nil => cases h
  | cons s l ih =>
    rw [hF] at h
    split at h
    · rename_i hs
      cases h
      exact ⟨[], s, l, rfl, rfl, hs.1, hs.2, rfl, rfl⟩
    · rename_i hs
      obtain ⟨l1, x, l2, e, h1, h2, h3, h4, h5⟩ := ih h
      refine ⟨s :: l1, x, l2, by rw [e]; rfl, by rw [hF, if_neg hs]; exact h1, h2, h3, ?_, ?_⟩
      · rw [h4, List.length_cons, show i + 1 + l1.length = i + (l1.length + 1) by omega]
      · rw [h5, List.length_cons, show i + 1 + l1.length = i + (l1.length + 1) by omega]
theorem pkF_app (a : Int) (l m : List R4) (i : Nat) (p : Int × Int × Int) : pkF a (l ++ m) i p = pkF a m (i + l.length) (pkF a l i p) := by
  induction l generalizing i p with
  | nil => rfl
  | cons s l ih => rw [List.cons_append, pkF, pkF, ih, List.length_cons, show i + 1 + l.length = i + (l.length + 1) by omega]
theorem pkF_le (a : Int) (l : List R4) (i : Nat) (p : Int × Int × Int) (n : Int) (hl : ∀ s ∈ l, s.s ≤ n) (hp : p.2.2 ≤ n) : (pkF a l i p).2.2 ≤ n ∧ p.2.2 ≤ (pkF a l i p).2.2 := by
  induction l generalizing i p with
  | nil => exact ⟨hp, Int.le_refl _⟩
  | cons s l ih =>
    rw [pkF]
    have hs := hl s List.mem_cons_self
    split
    · rename_i h
      obtain ⟨h1, h2⟩ := ih (i + 1) (s.v, (i : Int) + 1, s.s) (fun x hx => hl x (List.mem_cons_of_mem _ hx)) hs
      exact ⟨h1, by have := h.2; dsimp only at h2; omega⟩
    · exact ih (i + 1) p (fun x hx => hl x (List.mem_cons_of_mem _ hx)) hp
theorem pkF_stay (a : Int) (l : List R4) (i : Nat) (p : Int × Int × Int) (hl : ∀ s ∈ l, s.s ≤ p.2.2) : pkF a l i p = p := by
  induction l generalizing i with
  | nil => rfl
  | cons s l ih =>
    have := hl s List.mem_cons_self
    rw [pkF, if_neg (fun h => by have := h.2; omega)]
    exact ih (i + 1) (fun x hx => hl x (List.mem_cons_of_mem _ hx))
/-- A held store that reaches memory. -/
theorem pkF_drain (a : Int) (l1 l2 : List R4) (x : R4) (p : Int × Int × Int) (n : Int) (h1 : ∀ s ∈ l1, s.s ≤ n) (h2 : ∀ s ∈ l2, s.s ≤ n) (hx : x.s = 0) (hp0 : 0 ≤ p.2.2) (hp : p.2.2 ≤ n) : pkF a (l1 ++ { x with s := n + 1 } :: l2) 0 p = if x.a = a then (x.v, (l1.length : Int) + 1, n + 1) else pkF a (l1 ++ x :: l2) 0 p := by
  obtain ⟨e1, e2⟩ := pkF_le a l1 0 p n h1 hp
  rw [pkF_app, pkF_app, pkF, pkF]
  by_cases ha : x.a = a
  · rw [if_pos ha, if_pos ⟨ha, by dsimp only; omega⟩, pkF_stay _ _ _ _ (fun s hs => by have := h2 s hs; dsimp only; omega), Nat.zero_add]
  · rw [if_neg ha, if_neg (fun h => ha h.1), if_neg (fun h => ha h.1)]
/-- Each stamp is one store's. -/
structure St2 (l : List Int) (n : Int) : Prop where
  inj : ∀ (i j : Nat) x, l[i]? = some x → l[j]? = some x → 0 < x → i = j
  sur : ∀ r : Int, 1 ≤ r → r ≤ n → ∃ k : Nat, l[k]? = some r
  bnd : ∀ x ∈ l, 0 ≤ x ∧ x ≤ n
  pos : 0 ≤ n
theorem St2.bndAt {l : List Int} {n : Int} (h : St2 l n) {i : Nat} {x : Int} (hx : l[i]? = some x) : 0 ≤ x ∧ x ≤ n := h.bnd x (List.mem_of_getElem? hx)
theorem getElem?_snoc {α : Type} (l : List α) (y : α) (i : Nat) : (l ++ [y])[i]? = if i < l.length then l[i]? else if i = l.length then some y else none := by
  by_cases h : i < l.length
  · rw [if_pos h, List.getElem?_append_left h]
  · rw [if_neg h, List.getElem?_append_right (by omega)]
    by_cases e : i = l.length
    · subst e; simp
    · rw [if_neg e]; simp; omega
theorem St2.zero {l : List Int} {n : Int} (h : St2 l n) : St2 (l ++ [0]) n := by
  refine ⟨fun i j x hi hj h0 => ?_, fun r h1 h2 => ?_, fun x hx => ?_, h.pos⟩
  · rw [getElem?_snoc] at hi hj
    split at hi
    · split at hj
      · exact h.inj i j x hi hj h0
      · split at hj
        · cases hj; omega
        · cases hj
    · split at hi
      · cases hi; omega
      · cases hi
  · obtain ⟨k, hk⟩ := h.sur r h1 h2
    exact ⟨k, by rw [List.getElem?_append_left (List.getElem?_eq_some_iff.1 hk).1]; exact hk⟩
  · rcases List.mem_append.1 hx with hx | hx
    · exact h.bnd x hx
    · simp at hx; subst hx; exact ⟨Int.le_refl _, h.pos⟩
theorem St2.app {l : List Int} {n : Int} (h : St2 l n) : St2 (l ++ [n + 1]) (n + 1) := by
  have hp := h.pos
  refine ⟨fun i j x hi hj h0 => ?_, fun r h1 h2 => ?_, fun x hx => ?_, by omega⟩
  · rw [getElem?_snoc] at hi hj
    split at hi
    · have b1 := h.bndAt hi
      split at hj
      · exact h.inj i j x hi hj h0
      · split at hj
        · cases hj; omega
        · cases hj
    · split at hi
      · cases hi
        split at hj
        · have b1 := h.bndAt hj
          omega
        · split at hj
          · omega
          · cases hj
      · cases hi
  · by_cases e : r = n + 1
    · exact ⟨l.length, by rw [e]; simp⟩
    · obtain ⟨k, hk⟩ := h.sur r h1 (by omega)
      exact ⟨k, by rw [List.getElem?_append_left (List.getElem?_eq_some_iff.1 hk).1]; exact hk⟩
  · rcases List.mem_append.1 hx with hx | hx
    · have := h.bnd x hx; omega
    · simp at hx; omega
theorem St2.set {l : List Int} {n : Int} (h : St2 l n) {k : Nat} (hk : l[k]? = some 0) : St2 (l.set k (n + 1)) (n + 1) := by
  have hp := h.pos
  have hkl : k < l.length := (List.getElem?_eq_some_iff.1 hk).1
  refine ⟨fun i j x hi hj h0 => ?_, fun r h1 h2 => ?_, fun x hx => ?_, by omega⟩
  · rw [List.getElem?_set] at hi hj
    split at hi
    · cases hi
      split at hj
      · omega
      · have := h.bndAt hj; omega
    · have b1 := h.bndAt hi
      split at hj
      · cases hj; omega
      · exact h.inj i j x hi hj h0
  · by_cases e : r = n + 1
    · exact ⟨k, by rw [List.getElem?_set, if_pos rfl, if_pos hkl, e]⟩
    · obtain ⟨m, hm⟩ := h.sur r h1 (by omega)
      have hne : ¬ k = m := fun e2 => by
        subst e2
        rw [hk] at hm; cases hm; omega
      exact ⟨m, by rw [List.getElem?_set, if_neg hne]; exact hm⟩
  · rcases List.mem_or_eq_of_mem_set hx with hx | rfl
    · have := h.bnd x hx; omega
    · omega
/-- The memory and the document's are alike. -/
structure Lk (S : Sta) (X : Doc) : Prop where
  ok : S.Ok
  first : X.first.length = S.words.length
  cores : X.cores = S.bufs.length
  depth : X.depth = S.depth
  stamps : S.stamps = X.all.map (·.s)
  reached : X.stamps = S.reached
  bufs : ∀ c : Nat, c < S.bufs.length → S.bufs[c]? = some (hF c X.all 0)
  words : ∀ k : Nat, k < S.words.length → S.words[k]? = some ((pkD X (8 * k)).1, (pkD X (8 * k)).2.1)
  st2 : St2 S.stamps S.reached
theorem Lk.len {S : Sta} {X : Doc} (h : Lk S X) : X.all.length = S.stamps.length := by rw [h.stamps, List.length_map]
theorem Lk.le {S : Sta} {X : Doc} (h : Lk S X) : ∀ s ∈ X.all, 0 ≤ s.s ∧ s.s ≤ X.stamps := fun s hs => by
  rw [h.reached]
  exact h.st2.bnd s.s (by rw [h.stamps]; exact List.mem_map.2 ⟨s, hs, rfl⟩)
theorem Lk.core {S : Sta} {X : Doc} (h : Lk S X) {c : Int} (hc : hasCoreB S c = true) : ∃ k : Nat, c = k ∧ k < S.bufs.length ∧ bufOf S c = hF c X.all 0 := by
  obtain ⟨k, rfl, hk⟩ := core_nat hc
  refine ⟨k, rfl, hk, ?_⟩
  have := core_buf hc
  rw [Int.toNat_natCast, h.bufs k hk] at this
  exact (Option.some.inj this).symm
theorem Lk.bad {S : Sta} {X : Doc} (h : Lk S X) (c a : Int) (ha : 0 ≤ a) : badB X c a = !(okB S c a) := by
  have e : (X.first.length : Int) = S.words.length := by rw [h.first]
  have hc := h.cores
  rw [Bool.eq_iff_iff]
  simp only [badB, okB, hasCoreB, hasWordB, withinB, Bool.or_eq_true, decide_eq_true_eq, Bool.not_eq_true', Bool.and_eq_false_iff, decide_eq_false_iff_not, beq_eq_false_iff_ne, ne_eq]
  omega
theorem Lk.bad0 {S : Sta} {X : Doc} (h : Lk S X) (c : Int) : badB X c 0 = !(hasCoreB S c) := by
  have e : (X.first.length : Int) = S.words.length := by rw [h.first]
  have hc := h.cores
  have hw := h.ok.w1
  rw [Bool.eq_iff_iff]
  simp only [badB, hasCoreB, Bool.or_eq_true, decide_eq_true_eq, Bool.not_eq_true', Bool.and_eq_false_iff, decide_eq_false_iff_not, ne_eq]
  omega
theorem lk_new (n c : Nat) (d : Int) (h : newB n c d = true) : Lk (newS n c d) (newD n c d) := by
  refine ⟨new_ok h, by simp [newD, newS], by simp [newD, newS], rfl, rfl, rfl, fun k hk => ?_, fun k hk => ?_, ⟨fun i j x h => by simp [newS] at h, fun r h1 h2 => ?_, fun x hx => by simp [newS] at hx, Int.le_refl _⟩⟩
  · simp [newS] at hk
    simp [newS, newD, hF, hk]
  · simp [newS] at hk
    simp [newS, newD, pkD, pkF, hk]
  · have : (newS n c d).reached = 0 := rfl
    omega
theorem Lk.peek {S : Sta} {X : Doc} (h : Lk S X) {a : Int} (h0 : 0 ≤ a) (hw : hasWordB S a = true) : peekV S a = (pkD X a).1 ∧ peekT S a = (pkD X a).2.1 := by
  obtain ⟨k, rfl, hk⟩ := word_nat h0 hw
  have e : (8 * (k : Int) / 8).toNat = k := by omega
  rw [peekV, peekT, hw, if_pos rfl, if_pos rfl, e, List.getD_eq_getElem?_getD, h.words k hk]
  exact ⟨rfl, rfl⟩
theorem ldG_nw (A : List R4) (c a : Int) (d : Int × Int) : ∀ n, n ≤ A.length → ldG A c a d n = (match nw (hF c (A.take n) 0) a with | some s => (s.v, s.t) | none => d) := by
  intro n
  induction n with
  | zero => intro _; rfl
  | succ n ih =>
    intro hn
    have hx : A[n]? = some A[n] := List.getElem?_eq_getElem (by omega)
    generalize A[n] = s at hx
    have hl : (A.take n).length = n := by rw [List.length_take]; omega
    rw [ldG_step hx, take_snoc hx, hF_app, hl, Nat.zero_add]
    have e1 : hF c [s] n = if s.c = c ∧ s.s = 0 then [⟨s.a, s.v, (n : Int) + 1⟩] else [] := by rw [hF]; split <;> rfl
    rw [e1]
    by_cases h1 : s.c = c ∧ s.s = 0
    · rw [if_pos h1]
      by_cases h2 : s.a = a
      · subst h2
        rw [if_pos ⟨h1, rfl⟩, nw_last (hF c (A.take n) 0) ⟨s.a, s.v, (n : Int) + 1⟩]
      · rw [if_neg (fun h => h2 h.2), nw_skip (hF c (A.take n) 0) ⟨s.a, s.v, (n : Int) + 1⟩ (a := a) h2]
        exact ih (by omega)
    · rw [if_neg (fun h => h1 h.1), if_neg h1, List.append_nil]
      exact ih (by omega)
theorem Lk.load {S : Sta} {X : Doc} (h : Lk S X) {c a : Int} (h0 : 0 ≤ a) (ho : okB S c a = true) : loadP S c a = ldD X c a := by
  have hc : hasCoreB S c = true := by simp only [okB, Bool.and_eq_true] at ho; exact ho.1
  have hw : hasWordB S a = true := by simp only [okB, Bool.and_eq_true] at ho; exact ho.2
  obtain ⟨k, rfl, hk, hb⟩ := h.core hc
  obtain ⟨p1, p2⟩ := h.peek h0 hw
  rw [load_of hc hw, hb, ldD, ldG_nw _ _ _ _ _ (Nat.le_refl _), List.take_length, p1, p2]
  cases nw (hF k X.all 0) a <;> rfl
theorem Lk.held {S : Sta} {X : Doc} (h : Lk S X) {c : Int} (hc : hasCoreB S c = true) : heldD X c = (bufOf S c).map (·.t) ∧ (heldD X c).length = (bufOf S c).length := by
  obtain ⟨k, rfl, hk, hb⟩ := h.core hc
  have : heldD X (k : Int) = (bufOf S k).map (·.t) := by rw [heldD, hF_held, hb]
  exact ⟨this, by rw [this, List.length_map]⟩
theorem hF_mem {c : Int} {l : List R4} {i : Nat} {y : Lt} (h : y ∈ hF c l i) : ∃ k s, y = (⟨s.a, s.v, ((i + k : Nat) : Int) + 1⟩ : Lt) ∧ l[k]? = some s := by
  induction l generalizing i with
  | nil => cases h
  | cons x l ih =>
    rw [hF] at h
    have up : y ∈ hF c l (i + 1) → ∃ k s, y = (⟨s.a, s.v, ((i + k : Nat) : Int) + 1⟩ : Lt) ∧ (x :: l)[k]? = some s := fun h => by
      obtain ⟨k, s, e, h1⟩ := ih h
      exact ⟨k + 1, s, by rw [e, show i + 1 + k = i + (k + 1) by omega], by simpa using h1⟩
    split at h
    · rcases List.mem_cons.1 h with rfl | h
      · exact ⟨0, x, rfl, rfl⟩
      · exact up h
    · exact up h
/-- What is told of held stores, by their tickets. -/
theorem Lk.lates {S : Sta} {X : Doc} (h : Lk S X) {c : Int} (hc : hasCoreB S c = true) : ∀ (i : Nat) (s : Lt), (bufOf S c)[i]? = some s → ∃ (k : Nat) (x : R4), (heldD X c)[i]? = some ((k : Int) + 1) ∧ X.all[k]? = some x ∧ s = (⟨x.a, x.v, (k : Int) + 1⟩ : Lt) := by
  intro i s hs
  obtain ⟨m, rfl, hm, hb⟩ := h.core hc
  obtain ⟨e, _⟩ := h.held hc
  obtain ⟨k, x, e2, hx⟩ := hF_mem (by rw [hb] at hs; exact List.mem_of_getElem? hs)
  rw [Nat.zero_add] at e2
  refine ⟨k, x, ?_, hx, e2⟩
  rw [e, List.getElem?_map, hs, e2]; rfl
theorem Lk.full {S : Sta} {X : Doc} (h : Lk S X) {c : Int} (hc : hasCoreB S c = true) : fullD X c = decide (S.depth ≤ ((bufOf S c).length : Int)) := by
  rw [fullD, h.depth, (h.held hc).2]
theorem lk_store {S : Sta} {X : Doc} (h : Lk S X) {c a : Int} (v : Int) (h0 : 0 ≤ a) (ho : okB S c a = true) (hd : ((bufOf S c).length : Int) < S.depth) : Lk (storeS S c a v) (storeDS X c a v) ∧ storeE S c a = 0 ∧ storeT S c a = S.stamps.length + 1 := by
  have hc : hasCoreB S c = true := by simp only [okB, Bool.and_eq_true] at ho; exact ho.1
  have hw : hasWordB S a = true := by simp only [okB, Bool.and_eq_true] at ho; exact ho.2
  obtain ⟨e1, e2, H⟩ := store_hold (v := v) hc hw hd
  have hO := h.ok.store c a v h0
  have hf : fullD X c = false := by rw [h.full hc]; simpa using hd
  obtain ⟨k, rfl, hk, hb⟩ := h.core hc
  refine ⟨?_, e1, e2⟩
  rw [storeDS, hf]
  simp only [Bool.false_eq_true, if_false]
  refine ⟨hO, by rw [H.w]; exact h.first, by rw [H.b, List.length_set]; exact h.cores, by rw [H.d]; exact h.depth, by rw [H.s, h.stamps]; simp, by rw [H.r]; exact h.reached, fun m hm => ?_, fun m hm => ?_, by rw [H.s, H.r]; exact h.st2.zero⟩
  · rw [H.b, List.length_set] at hm
    have eH : hF (m : Int) (X.all ++ [⟨k, a, v, 0⟩]) 0 = hF m X.all 0 ++ (if (k : Int) = m then [⟨a, v, (X.all.length : Int) + 1⟩] else []) := by
      rw [hF_app, Nat.zero_add, hF]
      by_cases e : (k : Int) = m
      · rw [if_pos ⟨e, rfl⟩, if_pos e]; rfl
      · rw [if_neg (fun h => e h.1), if_neg e]; rfl
    show (storeS S k a v).bufs[m]? = some (hF m (X.all ++ [⟨k, a, v, 0⟩]) 0)
    rw [H.b, eH, Int.toNat_natCast, List.getElem?_set]
    by_cases e : k = m
    · subst e
      rw [if_pos rfl, if_pos hk, if_pos rfl, hb, h.len]
    · rw [if_neg e, if_neg (by omega), List.append_nil]
      exact h.bufs m hm
  · rw [H.w] at hm ⊢
    rw [h.words m hm]
    have : pkD { X with all := X.all ++ [⟨k, a, v, 0⟩] } (8 * m) = pkD X (8 * m) := by
      show pkF _ (X.all ++ [⟨k, a, v, 0⟩]) 0 _ = _
      rw [pkF_snoc, if_neg]
      · rfl
      · rintro ⟨_, h2⟩
        have := (pkF_le (8 * m) X.all 0 (X.first.getD (8 * (m : Int) / 8).toNat 0, 0, 0) X.stamps (fun s hs => (h.le s hs).2) (by rw [h.reached]; exact h.st2.pos)).2
        dsimp only at this h2
        omega
    rw [this]
end Go.Proofs.Ytjkjbcnafpljoaa
