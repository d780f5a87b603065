/- The program's controller and the document's own: alike. -/
import Derived.Test.YtpmlehfnlodmbaaLa
import Derived.Test.YtpmlehfnlodmbaaGl
namespace Go.Proofs.Ytpmlehfnlodmbaa
open Go.RowKit
set_option linter.unusedVariables false
set_option linter.unusedSimpArgs false

structure SameS (s : Src) (x : Doc.In8) : Prop where
  e : s.e = x.e
  l : s.l = x.l
  h : s.h = x.h
  a : s.a = x.a
  rank : s.rank = x.rank
structure Lk (n : Nat) (P : Pg) (X : Doc.Ref) : Prop where
  len : ∀ r, r ≤ n → (X.rows r).length = 32
  limn : X.lims.length = n
  src : ∀ r k, r ≤ n → k < 32 → SameS (P.src r k) (X.get r k)
  goN : ∀ k, k < 32 → (P.src n k).goes = (X.get n k).core
  goO : ∀ r k, r < n → k < 32 → (P.src r k).goes = 0
  lim : ∀ c, c < n → Doc.limOf X c = P.lim c
  wk : ∀ c, c < n → ∀ t, t ∈ P.wk c ↔ ∃ i : Nat, i < 64 ∧ t.id = i ∧ (X.of n c i).a = true ∧ (X.of n c i).own = c ∧ t.rank = (X.of n c i).was
  srt : ∀ c, c < n → (P.wk c).Pairwise (fun a b => b.rank < a.rank)
  top : ∀ c, c < n → ∀ t ∈ P.wk c, t.rank < 256
theorem bad_eq (n : Nat) (core id : Int) : Doc.rbadB n core id = badB n core id := by
  unfold Doc.rbadB badB hasB
  rw [Bool.eq_iff_iff]
  simp only [Bool.or_eq_true, decide_eq_true_eq, Bool.not_eq_true', Bool.and_eq_false_iff, decide_eq_false_iff_not]
  omega
theorem pos_eq (n : Nat) (core id : Int) : Doc.posR n core id = pr n core id ∧ Doc.posK id = pk id := ⟨rfl, rfl⟩
theorem get_put {X : Doc.Ref} {r k : Nat} (hk : k < (X.rows r).length) (x : Doc.In8) (r' k' : Nat) : (X.put r k x).get r' k' = if r' = r ∧ k' = k then x else X.get r' k' := by
  unfold Doc.Ref.get Doc.Ref.put
  by_cases e : r' = r
  · subst e
    simp only [if_pos rfl]
    by_cases e2 : k' = k
    · subst e2; simp [hk]
    · have : ¬ k = k' := fun h => e2 h.symm
      simp [List.getElem?_set, this, e2]
  · simp [e]
theorem pos_inj {n c : Nat} {i j : Nat} (hc : c < n) (hi : i < 64) (hj : j < 64) (h : pr n c i = pr n c j ∧ pk i = pk j) : i = j := by
  obtain ⟨h1, h2⟩ := h
  unfold pr at h1
  unfold pk at h2
  by_cases a : 32 ≤ (i : Int)
  · by_cases b : 32 ≤ (j : Int)
    · rw [if_pos a, if_pos b] at h2; omega
    · rw [if_pos a, if_neg b, Int.toNat_natCast] at h1; omega
  · by_cases b : 32 ≤ (j : Int)
    · rw [if_neg a, if_pos b, Int.toNat_natCast] at h1; omega
    · rw [if_neg a, if_neg b] at h2; omega
theorem pos_le {n c : Nat} {i : Nat} (hc : c < n) (hi : i < 64) : pr n c i ≤ n ∧ pk i < 32 := ⟨pr_le (bad_nat hc (by omega) (by omega)), pk_lt (n := n) (core := c) (bad_nat hc (by omega) (by omega))⟩
section
variable {n : Nat} {P : Pg} {X : Doc.Ref}
theorem Lk.of (H : Lk n P X) {c i : Nat} (hc : c < n) (hi : i < 64) : SameS (lookV n P c i) (X.of n c i) := by
  rw [look_nat hc (by omega) (by omega)]
  exact H.src _ _ (pos_le hc hi).1 (pos_le hc hi).2
/-- A field set that is nothing to what is worked at. -/
theorem Lk.set (H : Lk n P X) {r k : Nat} (hr : r ≤ n) (hk : k < 32) {s : Src} {x : Doc.In8} (hs : SameS s x) (hg : r = n → s.goes = x.core) (hg' : r < n → s.goes = 0) (ha : x.a = (X.get r k).a) (ho : x.own = (X.get r k).own) (hw : x.was = (X.get r k).was) : Lk n (P.put r k s) (X.put r k x) := by
  have hgp := get_put (X := X) (r := r) (k := k) (by rw [H.len r hr]; exact hk) x
  have hps : ∀ i j, (P.put r k s).src i j = if i = r ∧ j = k then s else P.src i j := fun i j => rfl
  have hof : ∀ (c : Nat) (i : Nat), ((X.put r k x).of n c i).a = (X.of n c i).a ∧ ((X.put r k x).of n c i).own = (X.of n c i).own ∧ ((X.put r k x).of n c i).was = (X.of n c i).was := fun c i => by
    unfold Doc.Ref.of
    rw [hgp]
    split
    · rename_i h
      rw [h.1, h.2, ha, ho, hw]
      exact ⟨rfl, rfl, rfl⟩
    · exact ⟨rfl, rfl, rfl⟩
  refine ⟨fun i hi => ?_, H.limn, fun i j hi hj => ?_, fun j hj => ?_, fun i j hi hj => ?_, H.lim, fun c hc t => ?_, H.srt, H.top⟩
  · unfold Doc.Ref.put
    dsimp only
    split
    · rename_i e; subst e; rw [List.length_set]; exact H.len i hi
    · exact H.len i hi
  · rw [hps, hgp]
    split
    · exact hs
    · exact H.src i j hi hj
  · rw [hps, hgp]
    split
    · rename_i e; exact hg e.1.symm
    · exact H.goN j hj
  · rw [hps]
    split
    · rename_i e; exact hg' (by omega)
    · exact H.goO i j hi hj
  · rw [show (P.put r k s).wk c = P.wk c from rfl, H.wk c hc t]
    constructor
    · rintro ⟨i, h1, h2, h3, h4, h5⟩
      exact ⟨i, h1, h2, by rw [(hof c i).1]; exact h3, by rw [(hof c i).2.1]; exact h4, by rw [(hof c i).2.2]; exact h5⟩
    · rintro ⟨i, h1, h2, h3, h4, h5⟩
      exact ⟨i, h1, h2, by rw [← (hof c i).1]; exact h3, by rw [← (hof c i).2.1]; exact h4, by rw [← (hof c i).2.2]; exact h5⟩
theorem Lk.mask (H : Lk n P X) {c : Nat} (hc : c < n) (v : Int) : Lk n (P.setLim c v) { X with lims := X.lims.set c v } := by
  refine ⟨H.len, by simp [H.limn], H.src, H.goN, H.goO, fun d hd => ?_, H.wk, H.srt, H.top⟩
  show ((X.lims.set c v)[(d : Int).toNat]?).getD 0 = if d = c then v else P.lim d
  rw [Int.toNat_natCast, List.getElem?_set]
  by_cases e : c = d
  · subst e
    rw [if_pos rfl, if_pos (by rw [H.limn]; exact hc), if_pos rfl]; rfl
  · rw [if_neg e, if_neg (fun h => e h.symm)]
    have := H.lim d hd
    rw [Doc.limOf, Int.toNat_natCast] at this
    exact this
/-- Of two that a core works at, they are one if they have one number. -/
theorem Lk.one (H : Lk n P X) {c : Nat} (hc : c < n) {j j' : Nat} {t t' : Trn} (hj : (P.wk c)[j]? = some t) (hj' : (P.wk c)[j']? = some t') (he : t.id = t'.id) : j = j' := by
  obtain ⟨i, h1, h2, h3, h4, h5⟩ := (H.wk c hc t).1 (List.mem_of_getElem? hj)
  obtain ⟨i', g1, g2, g3, g4, g5⟩ := (H.wk c hc t').1 (List.mem_of_getElem? hj')
  obtain rfl : i = i' := by omega
  have hr : t.rank = t'.rank := by rw [h5, g5]
  have hp := List.pairwise_iff_getElem.1 (H.srt c hc)
  obtain ⟨l1, e1⟩ := List.getElem?_eq_some_iff.1 hj
  obtain ⟨l2, e2⟩ := List.getElem?_eq_some_iff.1 hj'
  rcases Nat.lt_trichotomy j j' with h | h | h
  · have := hp j j' l1 l2 h
    rw [e1, e2] at this; omega
  · exact h
  · have := hp j' j l2 l1 h
    rw [e1, e2] at this; omega
theorem runF_le (c : Int) : ∀ m (i : Nat), i < m → (X.of n c i).a = true → (X.of n c i).own = c → Doc.runF X n c m ≤ (X.of n c i).was
  | 0, i, hi, _, _ => by omega
  | m + 1, i, hi, h1, h2 => by
    have hr : Doc.runF X n c (m + 1) = if (X.of n c m).a = true ∧ (X.of n c m).own = c ∧ (X.of n c m).was < Doc.runF X n c m then (X.of n c m).was else Doc.runF X n c m := rfl
    rw [hr]
    rcases Nat.lt_or_ge i m with h | h
    · have := runF_le c m i h h1 h2
      split <;> omega
    · obtain rfl : i = m := by omega
      split
      · omega
      · rename_i hn
        have : ¬ (X.of n c i).was < Doc.runF X n c i := fun h5 => hn ⟨h1, h2, h5⟩
        omega
theorem runF_in (c : Int) : ∀ m, Doc.runF X n c m = 256 ∨ ∃ i : Nat, i < m ∧ (X.of n c i).a = true ∧ (X.of n c i).own = c ∧ Doc.runF X n c m = (X.of n c i).was
  | 0 => .inl rfl
  | m + 1 => by
    have hr : Doc.runF X n c (m + 1) = if (X.of n c m).a = true ∧ (X.of n c m).own = c ∧ (X.of n c m).was < Doc.runF X n c m then (X.of n c m).was else Doc.runF X n c m := rfl
    rw [hr]
    split
    · rename_i h
      exact .inr ⟨m, by omega, h.1, h.2.1, rfl⟩
    · rcases runF_in c m with h | ⟨i, h1, h2, h3, h4⟩
      · exact .inl h
      · exact .inr ⟨i, by omega, h2, h3, h4⟩
theorem Lk.run (H : Lk n P X) {c : Nat} (hc : c < n) : Doc.runF X n c 64 = runV (P.wk c) := by
  rcases List.eq_nil_or_concat (P.wk c) with e | ⟨l, t, e⟩
  · rw [e, runV_nil]
    rcases runF_in (X := X) (n := n) (c : Int) 64 with h | ⟨i, h1, h2, h3, h4⟩
    · exact h
    · have := (H.wk c hc ⟨(X.of n c i).was, i⟩).2 ⟨i, h1, rfl, h2, h3, rfl⟩
      rw [e] at this
      cases this
  · rw [List.concat_eq_append] at e
    have ht : t ∈ P.wk c := by rw [e]; simp
    rw [e, runV_app]
    obtain ⟨i, h1, h2, h3, h4, h5⟩ := (H.wk c hc t).1 ht
    have hle := runF_le (X := X) (n := n) (c : Int) 64 i h1 h3 h4
    have htop := H.top c hc t ht
    have hmin : ∀ u ∈ P.wk c, t.rank ≤ u.rank := fun u hu => by
      have hs := H.srt c hc
      rw [e] at hs hu
      rw [List.pairwise_append] at hs
      rcases List.mem_append.1 hu with hu | hu
      · have := hs.2.2 u hu t (by simp); omega
      · simp at hu; subst hu; omega
    rcases runF_in (X := X) (n := n) (c : Int) 64 with h | ⟨j, g1, g2, g3, g4⟩
    · omega
    · have := hmin ⟨(X.of n c j).was, j⟩ ((H.wk c hc _).2 ⟨j, g1, rfl, g2, g3, rfl⟩)
      dsimp only at this
      omega
end
end Go.Proofs.Ytpmlehfnlodmbaa
