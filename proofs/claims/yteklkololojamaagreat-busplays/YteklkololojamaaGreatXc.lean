/- Va, Vb, Vc of the seat, joined. -/
import Derived.Test.YteklkololojamaaGreatLh
import Derived.Test.YteklkololojamaaGreatXa
/- The program's controller and the document's own: alike. -/
namespace Go.Proofs.YteklkololojamaaGreat
open Go.RowKit
set_option linter.unusedVariables false
set_option linter.unusedSimpArgs false

structure SameS (s : Src) (x : Doc.In8) : Prop where
  e : s.e = x.e
  l : s.l = x.l
  h : s.h = x.h
  a : s.a = x.a
  rank : s.rank = x.rank
structure Lk (n : Nat) (P : Pg) (X : Doc.Ref) : Prop where
  len : ∀ r, r ≤ n → (X.rows r).length = 32
  limn : X.lims.length = n
  src : ∀ r k, r ≤ n → k < 32 → SameS (P.src r k) (X.get r k)
  goN : ∀ k, k < 32 → (P.src n k).goes = (X.get n k).core
  goO : ∀ r k, r < n → k < 32 → (P.src r k).goes = 0
  lim : ∀ c, c < n → Doc.limOf X c = P.lim c
  wk : ∀ c, c < n → ∀ t, t ∈ P.wk c ↔ ∃ i : Nat, i < 64 ∧ t.id = i ∧ (X.of n c i).a = true ∧ (X.of n c i).own = c ∧ t.rank = (X.of n c i).was
  srt : ∀ c, c < n → (P.wk c).Pairwise (fun a b => b.rank < a.rank)
  top : ∀ c, c < n → ∀ t ∈ P.wk c, t.rank < 256
theorem bad_eq (n : Nat) (core id : Int) : Doc.rbadB n core id = badB n core id := by
  unfold Doc.rbadB badB hasB
  rw [Bool.eq_iff_iff]
  simp only [Bool.or_eq_true, decide_eq_true_eq, Bool.not_eq_true', Bool.and_eq_false_iff, decide_eq_false_iff_not]
  omega
theorem pos_eq (n : Nat) (core id : Int) : Doc.posR n core id = pr n core id ∧ Doc.posK id = pk id := ⟨rfl, rfl⟩
theorem get_put {X : Doc.Ref} {r k : Nat} (hk : k < (X.rows r).length) (x : Doc.In8) (r' k' : Nat) : (X.put r k x).get r' k' = if r' = r ∧ k' = k then x else X.get r' k' := by
  unfold Doc.Ref.get Doc.Ref.put
  by_cases e : r' = r
  · subst e
    simp only [if_pos rfl]
    by_cases e2 : k' = k
    · subst e2; simp [hk]
    · have : ¬ k = k' := fun h => e2 h.symm
      simp [List.getElem?_set, this, e2]
  · simp [e]
theorem pos_inj {n c : Nat} {i j : Nat} (hc : c < n) (hi : i < 64) (hj : j < 64) (h : pr n c i = pr n c j ∧ pk i = pk j) : i = j := by
  obtain ⟨h1, h2⟩ := h
  unfold pr at h1
  unfold pk at h2
  by_cases a : 32 ≤ (i : Int)
  · by_cases b : 32 ≤ (j : Int)
    · rw [if_pos a, if_pos b] at h2; omega
    · rw [if_pos a, if_neg b, Int.toNat_natCast] at h1; omega
  · by_cases b : 32 ≤ (j : Int)
    · rw [if_neg a, if_pos b, Int.toNat_natCast] at h1; omega
    · rw [if_neg a, if_neg b] at h2; omega
theorem pos_le {n c : Nat} {i : Nat} (hc : c < n) (hi : i < 64) : pr n c i ≤ n ∧ pk i < 32 := ⟨pr_le (bad_nat hc (by omega) (by omega)), pk_lt (n := n) (core := c) (bad_nat hc (by omega) (by omega))⟩
section
variable {n : Nat} {P : Pg} {X : Doc.Ref}
theorem Lk.of (H : Lk n P X) {c i : Nat} (hc : c < n) (hi : i < 64) : SameS (lookV n P c i) (X.of n c i) := by
  rw [look_nat hc (by omega) (by omega)]
  exact H.src _ _ (pos_le hc hi).1 (pos_le hc hi).2
/-- A field set that is nothing to what is worked at. -/
theorem Lk.set (H : Lk n P X) {r k : Nat} (hr : r ≤ n) (hk : k < 32) {s : Src} {x : Doc.In8} (hs : SameS s x) (hg : r = n → s.goes = x.core) (hg' : r < n → s.goes = 0) (ha : x.a = (X.get r k).a) (ho : x.own = (X.get r k).own) (hw : x.was = (X.get r k).was) : Lk n (P.put r k s) (X.put r k x) := by
  have hgp := get_put (X := X) (r := r) (k := k) (by rw [H.len r hr]; exact hk) x
  have hps : ∀ i j, (P.put r k s).src i j = if i = r ∧ j = k then s else P.src i j := fun i j => rfl
  have hof : ∀ (c : Nat) (i : Nat), ((X.put r k x).of n c i).a = (X.of n c i).a ∧ ((X.put r k x).of n c i).own = (X.of n c i).own ∧ ((X.put r k x).of n c i).was = (X.of n c i).was := fun c i => by
    unfold Doc.Ref.of
    rw [hgp]
    split
    · rename_i h
      rw [h.1, h.2, ha, ho, hw]
      exact ⟨rfl, rfl, rfl⟩
    · exact ⟨rfl, rfl, rfl⟩
  refine ⟨fun i hi => ?_, H.limn, fun i j hi hj => ?_, fun j hj => ?_, fun i j hi hj => ?_, H.lim, fun c hc t => ?_, H.srt, H.top⟩
  · unfold Doc.Ref.put
    dsimp only
    split
    · rename_i e; subst e; rw [List.length_set]; exact H.len i hi
    · exact H.len i hi
  · rw [hps, hgp]
    split
    · exact hs
    · exact H.src i j hi hj
  · rw [hps, hgp]
    split
    · rename_i e; exact hg e.1.symm
    · exact H.goN j hj
  · rw [hps]
    split
    · rename_i e; exact hg' (by omega)
    · exact H.goO i j hi hj
  · rw [show (P.put r k s).wk c = P.wk c from rfl, H.wk c hc t]
    constructor
    · rintro ⟨i, h1, h2, h3, h4, h5⟩
      exact ⟨i, h1, h2, by rw [(hof c i).1]; exact h3, by rw [(hof c i).2.1]; exact h4, by rw [(hof c i).2.2]; exact h5⟩
    · rintro ⟨i, h1, h2, h3, h4, h5⟩
      exact ⟨i, h1, h2, by rw [← (hof c i).1]; exact h3, by rw [← (hof c i).2.1]; exact h4, by rw [← (hof c i).2.2]; exact h5⟩
theorem Lk.mask (H : Lk n P X) {c : Nat} (hc : c < n) (v : Int) : Lk n (P.setLim c v) { X with lims := X.lims.set c v } := by
  refine ⟨H.len, by simp [H.limn], H.src, H.goN, H.goO, fun d hd => ?_, H.wk, H.srt, H.top⟩
  show ((X.lims.set c v)[(d : Int).toNat]?).getD 0 = if d = c then v else P.lim d
  rw [Int.toNat_natCast, List.getElem?_set]
  by_cases e : c = d
  · subst e
    rw [if_pos rfl, if_pos (by rw [H.limn]; exact hc), if_pos rfl]; rfl
  · rw [if_neg e, if_neg (fun h => e h.symm)]
    have := H.lim d hd
    rw [Doc.limOf, Int.toNat_natCast] at this
    exact this
/-- Of two that a core works at, they are one if they have one number. -/
theorem Lk.one (H : Lk n P X) {c : Nat} (hc : c < n) {j j' : Nat} {t t' : Trn} (hj : (P.wk c)[j]? = some t) (hj' : (P.wk c)[j']? = some t') (he : t.id = t'.id) : j = j' := by
  obtain ⟨i, h1, h2, h3, h4, h5⟩ := (H.wk c hc t).1 (List.mem_of_getElem? hj)
  obtain ⟨i', g1, g2, g3, g4, g5⟩ := (H.wk c hc t').1 (List.mem_of_getElem? hj')
  obtain rfl : i = i' := by omega
  have hr : t.rank = t'.rank := by rw [h5, g5]
  have hp := List.pairwise_iff_getElem.1 (H.srt c hc)
  obtain ⟨l1, e1⟩ := List.getElem?_eq_some_iff.1 hj
  obtain ⟨l2, e2⟩ := List.getElem?_eq_some_iff.1 hj'
  rcases Nat.lt_trichotomy j j' with h | h | h
  · have := hp j j' l1 l2 h
    rw [e1, e2] at this; omega
  · exact h
  · have := hp j' j l2 l1 h
    rw [e1, e2] at this; omega
theorem runF_le (c : Int) : ∀ m (i : Nat), i < m → (X.of n c i).a = true → (X.of n c i).own = c → Doc.runF X n c m ≤ (X.of n c i).was
  | 0, i, hi, _, _ => by omega
  | m + 1, i, hi, h1, h2 => by
    have hr : Doc.runF X n c (m + 1) = if (X.of n c m).a = true ∧ (X.of n c m).own = c ∧ (X.of n c m).was < Doc.runF X n c m then (X.of n c m).was else Doc.runF X n c m := rfl
    rw [hr]
    rcases Nat.lt_or_ge i m with h | h
    · have := runF_le c m i h h1 h2
      split <;> omega
    · obtain rfl : i = m := by omega
      split
      · omega
      · rename_i hn
        have : ¬ (X.of n c i).was < Doc.runF X n c i := fun h5 => hn ⟨h1, h2, h5⟩
        omega
theorem runF_in (c : Int) : ∀ m, Doc.runF X n c m = 256 ∨ ∃ i : Nat, i < m ∧ (X.of n c i).a = true ∧ (X.of n c i).own = c ∧ Doc.runF X n c m = (X.of n c i).was
  | 0 => .inl rfl
  | m + 1 => by
    have hr : Doc.runF X n c (m + 1) = if (X.of n c m).a = true ∧ (X.of n c m).own = c ∧ (X.of n c m).was < Doc.runF X n c m then (X.of n c m).was else Doc.runF X n c m := rfl
    rw [hr]
    split
    · rename_i h
      exact .inr ⟨m, by omega, h.1, h.2.1, rfl⟩
    · rcases runF_in c m with h | ⟨i, h1, h2, h3, h4⟩
      · exact .inl h
      · exact .inr ⟨i, by omega, h2, h3, h4⟩
theorem Lk.run (H : Lk n P X) {c : Nat} (hc : c < n) : Doc.runF X n c 64 = runV (P.wk c) := by
  rcases List.eq_nil_or_concat (P.wk c) with e | ⟨l, t, e⟩
  · rw [e, runV_nil]
    rcases runF_in (X := X) (n := n) (c : Int) 64 with h | ⟨i, h1, h2, h3, h4⟩
    · exact h
    · have := (H.wk c hc ⟨(X.of n c i).was, i⟩).2 ⟨i, h1, rfl, h2, h3, rfl⟩
      rw [e] at this
      cases this
  · rw [List.concat_eq_append] at e
    have ht : t ∈ P.wk c := by rw [e]; simp
    rw [e, runV_app]
    obtain ⟨i, h1, h2, h3, h4, h5⟩ := (H.wk c hc t).1 ht
    have hle := runF_le (X := X) (n := n) (c : Int) 64 i h1 h3 h4
    have htop := H.top c hc t ht
    have hmin : ∀ u ∈ P.wk c, t.rank ≤ u.rank := fun u hu => by
      have hs := H.srt c hc
      rw [e] at hs hu
      rw [List.pairwise_append] at hs
      rcases List.mem_append.1 hu with hu | hu
      · have := hs.2.2 u hu t (by simp); omega
      · simp at hu; subst hu; omega
    rcases runF_in (X := X) (n := n) (c : Int) 64 with h | ⟨j, g1, g2, g3, g4⟩
    · omega
    · have := hmin ⟨(X.of n c j).was, j⟩ ((H.wk c hc _).2 ⟨j, g1, rfl, g2, g3, rfl⟩)
      dsimp only at this
      omega
end
end Go.Proofs.YteklkololojamaaGreat
/- The likeness is kept: Best, Ack, Eoi, Send, and what is set. -/
namespace Go.Proofs.YteklkololojamaaGreat
open Go.RowKit
set_option linter.unusedVariables false
set_option linter.unusedSimpArgs false

section
variable {n : Nat} {P : Pg} {X : Doc.Ref}
theorem Lk.goes (H : Lk n P X) {c i : Nat} (hc : c < n) (h32 : 32 ≤ (i : Int)) (hi : i < 64) : (lookV n P c i).goes = (X.of n c i).core := by
  rw [look_nat hc (by omega) (by omega)]
  have e : pr n c i = n := by unfold pr; rw [if_pos h32]
  unfold Doc.Ref.of
  rw [(pos_eq n c i).1, (pos_eq n c i).2, e]
  exact H.goN _ (pos_le hc hi).2
theorem Lk.cand (H : Lk n P X) {c i : Nat} (hc : c < n) (hi : i < 64) : Doc.candB (X.of n c i) c (Doc.runF X n c 64) (Doc.limOf X c) i = candB n P c i := by
  have hs := H.of hc hi
  rw [H.run hc, H.lim c hc]
  unfold Doc.candB candB waitB awayB
  rw [← hs.l, ← hs.h, ← hs.e, ← hs.a, ← hs.rank]
  have hm : decide ((lookV n P c i).rank < minV (P.lim c) (runV (P.wk c))) = (decide ((lookV n P c i).rank < P.lim c) && decide ((lookV n P c i).rank < runV (P.wk c))) := by
    rw [Bool.eq_iff_iff]
    simp only [Bool.and_eq_true, decide_eq_true_eq]
    exact min_lt
  rw [hm]
  by_cases h32 : 32 ≤ (i : Int)
  · rw [← H.goes hc h32 hi, decide_eq_true h32, decide_eq_false (show ¬ (i : Int) < 32 by omega)]
    by_cases e : (lookV n P c i).goes = (c : Int)
    · have e2 : ((lookV n P c i).goes != (c : Int)) = false := by simpa using e
      rw [e2, decide_eq_true e]
      cases (lookV n P c i).l <;> cases (lookV n P c i).h <;> cases (lookV n P c i).e <;> cases (lookV n P c i).a <;> simp
    · have e2 : ((lookV n P c i).goes != (c : Int)) = true := by simpa using e
      rw [e2, decide_eq_false e]
      simp
  · rw [decide_eq_false h32, decide_eq_true (show (i : Int) < 32 by omega)]
    cases (lookV n P c i).l <;> cases (lookV n P c i).h <;> cases (lookV n P c i).e <;> cases (lookV n P c i).a <;> simp
theorem Lk.best (H : Lk n P X) {c : Nat} (hc : c < n) : ∀ i, i ≤ 64 → Doc.bestF X n c (Doc.runF X n c 64) (Doc.limOf X c) i = match bstF n P c i with | none => -1 | some t => t.id
  | 0, _ => rfl
  | i + 1, hi => by
    have ih := H.best hc i (by omega)
    have hcd := H.cand hc (show i < 64 by omega)
    have hb : Doc.bestF X n c (Doc.runF X n c 64) (Doc.limOf X c) (i + 1) = if Doc.candB (X.of n c i) c (Doc.runF X n c 64) (Doc.limOf X c) i = true ∧ (Doc.bestF X n c (Doc.runF X n c 64) (Doc.limOf X c) i < 0 ∨ (X.of n c i).rank < (X.of n c (Doc.bestF X n c (Doc.runF X n c 64) (Doc.limOf X c) i)).rank) then (i : Int) else Doc.bestF X n c (Doc.runF X n c 64) (Doc.limOf X c) i := rfl
    rw [hb, hcd, ih, bstF]
    cases hc1 : candB n P c i with
    | false => rw [if_neg (fun h => by cases h.1), if_neg (by decide)]
    | true =>
      rw [if_pos rfl]
      cases hb0 : bstF n P c i with
      | none => dsimp only; rw [if_pos ⟨rfl, .inl (by decide)⟩]
      | some t =>
        obtain ⟨⟨k0, g1, _, g3⟩, _⟩ := bst_some i t hb0
        have hid : t.id = k0 := by rw [g3]
        have hrk : (X.of n c k0).rank = t.rank := by rw [← (H.of hc (show k0 < 64 by omega)).rank, g3]
        have hri : (X.of n c i).rank = (lookV n P c i).rank := (H.of hc (show i < 64 by omega)).rank.symm
        have hrk' : (X.of n c t.id).rank = t.rank := by rw [hid]; exact hrk
        dsimp only
        by_cases hlt : (lookV n P c i).rank < t.rank
        · rw [if_pos ⟨rfl, .inr (by rw [hri, hrk']; exact hlt)⟩, if_pos hlt]
        · rw [if_neg (fun h => by
            rcases h.2 with h | h
            · omega
            · rw [hri, hrk'] at h; exact hlt h), if_neg hlt]
theorem Lk.bestV (H : Lk n P X) (core : Int) : Doc.bestV X n core = match nextV n P core with | none => -1 | some t => t.id := by
  unfold Doc.bestV nextV
  rw [bad_eq]
  have e0 : badB n core 0 = !hasB n core := by simp [badB]
  rw [e0]
  cases h1 : hasB n core with
  | false => rfl
  | true =>
    obtain ⟨h2, h3⟩ := has_of h1
    obtain ⟨c, rfl⟩ : ∃ c : Nat, core = (c : Int) := ⟨core.toNat, by omega⟩
    rw [if_neg (by decide), if_pos rfl, Int.toNat_natCast]
    exact H.best (by omega) 64 (Nat.le_refl _)
theorem next_id {core : Int} {t : Trn} (h : nextV n P core = some t) : 0 ≤ t.id := by
  obtain ⟨c, k, _, _, _, e, _, _⟩ := next_in h
  rw [e]; exact Int.natCast_nonneg k
theorem Lk.ackV (H : Lk n P X) (core : Int) : Doc.ackV X n core = ackV n P core := by
  unfold Doc.ackV Go.Proofs.YteklkololojamaaGreat.ackV
  rw [H.bestV core]
  cases hN : nextV n P core with
  | none => rfl
  | some t =>
    have := next_id hN
    dsimp only
    rw [if_neg (by omega)]
theorem Lk.ack (H : Lk n P X) (core : Int) : Lk n (ackP n P core) (Doc.ackR X n core) := by
  have hbv := H.bestV core
  unfold Doc.ackR ackP
  cases hN : nextV n P core with
  | none =>
    rw [hN] at hbv
    dsimp only at hbv ⊢
    rw [hbv, if_pos (by decide)]
    exact H
  | some t =>
    rw [hN] at hbv
    dsimp only at hbv ⊢
    obtain ⟨c, k, rfl, hc, hk, et, hcd, hbd⟩ := next_in hN
    have hid : t.id = k := by rw [et]
    rw [hbv, hid, if_neg (by omega), Int.toNat_natCast, (pos_eq n c k).1, (pos_eq n c k).2]
    obtain ⟨hr, hk32⟩ := pos_le hc hk
    have hs := H.of hc hk
    have hof : X.of n c k = X.get (pr n c k) (pk k) := rfl
    have hlk : lookV n P c k = P.src (pr n c k) (pk k) := look_nat hc (by omega) (by omega)
    have hrank : t.rank = (X.get (pr n c k) (pk k)).rank := by rw [et]; dsimp only; rw [hs.rank, hof]
    have hna : (X.of n c k).a = false := by
      rw [← hs.a]
      unfold candB waitB at hcd
      cases ha : (lookV n P c k).a
      · rfl
      · rw [ha] at hcd; simp at hcd
    have hltr : t.rank < runV (P.wk c) := by
      unfold candB at hcd
      simp only [Bool.and_eq_true, decide_eq_true_eq] at hcd
      rw [et]; exact (min_lt.1 hcd.2).2
    have hgp := get_put (X := X) (r := pr n c k) (k := pk k) (by rw [H.len _ hr]; exact hk32) { X.of n c k with l := false, a := true, own := (c : Int), was := (X.of n c k).rank }
    have hofp : ∀ (d i : Nat), d < n → i < 64 → (X.put (pr n c k) (pk k) { X.of n c k with l := false, a := true, own := (c : Int), was := (X.of n c k).rank }).of n d i = if pr n d i = pr n c k ∧ pk i = pk k then { X.of n c k with l := false, a := true, own := (c : Int), was := (X.of n c k).rank } else X.of n d i := fun d i hd hi => hgp (pr n d i) (pk i)
    have hsrc := H.src _ _ hr hk32
    have hrun := H.run hc
    refine ⟨fun i hi => ?_, H.limn, fun i j hi hj => ?_, fun j hj => ?_, fun i j hi hj => ?_, H.lim, fun d hd u => ?_, fun d hd => ?_, fun d hd u hu => ?_⟩
    · unfold Doc.Ref.put
      dsimp only
      split
      · rename_i e; subst e; rw [List.length_set]; exact H.len _ hi
      · exact H.len i hi
    · show SameS (if i = pr n c k ∧ j = pk k then _ else P.src i j) _
      rw [hgp]
      split
      · exact ⟨hsrc.e, rfl, hsrc.h, rfl, hsrc.rank⟩
      · exact H.src i j hi hj
    · show (if n = pr n c k ∧ j = pk k then _ else P.src n j).goes = _
      rw [hgp]
      split
      · rename_i e
        have := H.goN j hj
        rw [e.1, e.2] at this
        exact this
      · exact H.goN j hj
    · show (if i = pr n c k ∧ j = pk k then _ else P.src i j).goes = 0
      split
      · rename_i e
        have := H.goO i j hi hj
        rw [e.1, e.2] at this
        exact this
      · exact H.goO i j hi hj
    · show u ∈ (if d = c then P.wk c ++ [t] else P.wk d) ↔ _
      by_cases e : d = c
      · subst e
        rw [if_pos rfl, List.mem_append, H.wk d hd u]
        constructor
        · rintro (⟨i, h1, h2, h3, h4, h5⟩ | h)
          · have hne : ¬ (pr n d i = pr n d k ∧ pk i = pk k) := fun h => by
              have := pos_inj hd h1 hk h
              subst this
              rw [hna] at h3; cases h3
            exact ⟨i, h1, h2, by rw [hofp d i hd h1, if_neg hne]; exact h3, by rw [hofp d i hd h1, if_neg hne]; exact h4, by rw [hofp d i hd h1, if_neg hne]; exact h5⟩
          · simp at h
            subst h
            exact ⟨k, hk, hid, by rw [hofp d k hd hk, if_pos ⟨rfl, rfl⟩], by rw [hofp d k hd hk, if_pos ⟨rfl, rfl⟩], by rw [hofp d k hd hk, if_pos ⟨rfl, rfl⟩]; exact hrank⟩
        · rintro ⟨i, h1, h2, h3, h4, h5⟩
          rw [hofp d i hd h1] at h3 h4 h5
          by_cases hne : pr n d i = pr n d k ∧ pk i = pk k
          · right
            rw [if_pos hne] at h5
            have := pos_inj hd h1 hk hne
            subst this
            simp
            cases u; cases t
            simp only [Trn.mk.injEq]
            dsimp only at *
            exact ⟨by rw [h5, hrank]; rfl, by rw [h2, hid]⟩
          · rw [if_neg hne] at h3 h4 h5
            exact .inl ⟨i, h1, h2, h3, h4, h5⟩
      · rw [if_neg e, H.wk d hd u]
        have key : ∀ i : Nat, i < 64 → ((((X.put (pr n c k) (pk k) { X.of n c k with l := false, a := true, own := (c : Int), was := (X.of n c k).rank }).of n d i).a = true ∧ ((X.put (pr n c k) (pk k) { X.of n c k with l := false, a := true, own := (c : Int), was := (X.of n c k).rank }).of n d i).own = d) → ¬ (pr n d i = pr n c k ∧ pk i = pk k)) := fun i hi h hne => by
          rw [hofp d i hd hi, if_pos hne] at h
          have := h.2
          dsimp only at this
          omega
        constructor
        · rintro ⟨i, h1, h2, h3, h4, h5⟩
          have hne : ¬ (pr n d i = pr n c k ∧ pk i = pk k) := fun h => by
            have e3 : X.of n d i = X.of n c k := by
              show X.get (pr n d i) (pk i) = X.get (pr n c k) (pk k)
              rw [h.1, h.2]
            rw [e3, hna] at h3; cases h3
          exact ⟨i, h1, h2, by rw [hofp d i hd h1, if_neg hne]; exact h3, by rw [hofp d i hd h1, if_neg hne]; exact h4, by rw [hofp d i hd h1, if_neg hne]; exact h5⟩
        · rintro ⟨i, h1, h2, h3, h4, h5⟩
          have hne := key i h1 ⟨h3, h4⟩
          rw [hofp d i hd h1, if_neg hne] at h3 h4 h5
          exact ⟨i, h1, h2, h3, h4, h5⟩
    · show (if d = c then P.wk c ++ [t] else P.wk d).Pairwise _
      by_cases e : d = c
      · subst e
        rw [if_pos rfl, List.pairwise_append]
        refine ⟨H.srt d hd, by simp, fun a ha b hb => ?_⟩
        simp at hb
        subst hb
        obtain ⟨i, h1, h2, h3, h4, h5⟩ := (H.wk d hd a).1 ha
        have := runF_le (X := X) (n := n) (d : Int) 64 i h1 h3 h4
        rw [hrun] at this
        omega
      · rw [if_neg e]; exact H.srt d hd
    · have hu' : u ∈ (if d = c then P.wk c ++ [t] else P.wk d) := hu
      by_cases e : d = c
      · subst e
        rw [if_pos rfl, List.mem_append] at hu'
        rcases hu' with h | h
        · exact H.top d hd u h
        · simp at h
          subst h
          have hle : runV (P.wk d) ≤ 256 := by
            rcases List.eq_nil_or_concat (P.wk d) with e | ⟨l, t', e⟩
            · rw [e, runV_nil]; decide
            · rw [List.concat_eq_append] at e
              have := H.top d hd t' (by rw [e]; simp)
              rw [e, runV_app]; omega
          omega
      · rw [if_neg e] at hu'
        exact H.top d hd u hu'
end
end Go.Proofs.YteklkololojamaaGreat
/- The likeness is kept: Eoi, Send, and what is set; the errors are the same. -/
namespace Go.Proofs.YteklkololojamaaGreat
open Go.RowKit
set_option linter.unusedVariables false
set_option linter.unusedSimpArgs false

theorem idx_iff {l : List Trn} {id : Int} : (idxF l id).isSome = true ↔ ∃ t ∈ l, t.id = id := by
  cases h : idxF l id with
  | none =>
    constructor
    · intro h; cases h
    · rintro ⟨t, h1, h2⟩; exact absurd h2 (idx_out h t h1)
  | some k =>
    obtain ⟨t, h1, h2⟩ := idx_in h
    exact ⟨fun _ => ⟨t, List.mem_of_getElem? h1, h2⟩, fun _ => rfl⟩
section
variable {n : Nat} {P : Pg} {X : Doc.Ref}
theorem Lk.eoiB (H : Lk n P X) (core id : Int) : Doc.eoiB X n core id = eoiB n P core id := by
  unfold Doc.eoiB Go.Proofs.YteklkololojamaaGreat.eoiB
  rw [bad_eq]
  cases hb : badB n core id with
  | true => rfl
  | false =>
    obtain ⟨h1, h2, h3⟩ := bad_of hb
    obtain ⟨h4, h5⟩ := has_of h1
    obtain ⟨c, rfl⟩ : ∃ c : Nat, core = (c : Int) := ⟨core.toNat, by omega⟩
    obtain ⟨i, rfl⟩ : ∃ i : Nat, id = (i : Int) := ⟨id.toNat, by omega⟩
    have hc : c < n := by omega
    rw [Int.toNat_natCast, (pos_eq n c i).1, (pos_eq n c i).2]
    show (true && (X.of n c i).a && decide ((X.of n c i).own = c)) = (true && (idxF (P.wk c) i).isSome)
    rw [Bool.true_and, Bool.true_and, Bool.eq_iff_iff, idx_iff]
    simp only [Bool.and_eq_true, decide_eq_true_eq]
    constructor
    · rintro ⟨g1, g2⟩
      exact ⟨⟨(X.of n c i).was, i⟩, (H.wk c hc _).2 ⟨i, by omega, rfl, g1, g2, rfl⟩, rfl⟩
    · rintro ⟨t, g1, g2⟩
      obtain ⟨j, k1, k2, k3, k4, _⟩ := (H.wk c hc t).1 g1
      obtain rfl : j = i := by omega
      exact ⟨k3, k4⟩
theorem Lk.eoiE (core id : Int) : Doc.eoiE n core id = geoiE n core id := by
  unfold Doc.eoiE geoiE
  rw [bad_eq]
theorem Lk.eoi (H : Lk n P X) (core id : Int) : Lk n (geoiP n P core id) (Doc.eoiR X n core id) := by
  have hB := H.eoiB core id
  unfold Doc.eoiR geoiP
  rw [hB]
  unfold Go.Proofs.YteklkololojamaaGreat.eoiB
  cases hb : badB n core id with
  | true => exact H
  | false =>
    obtain ⟨h1, h2, h3⟩ := bad_of hb
    obtain ⟨h4, h5⟩ := has_of h1
    obtain ⟨c, rfl⟩ : ∃ c : Nat, core = (c : Int) := ⟨core.toNat, by omega⟩
    obtain ⟨m, rfl⟩ : ∃ i : Nat, id = (i : Int) := ⟨id.toNat, by omega⟩
    have hc : c < n := by omega
    have hm : m < 64 := by omega
    rw [Int.toNat_natCast, if_neg (by decide)]
    cases hx : idxF (P.wk c) m with
    | none => exact H
    | some q =>
      obtain ⟨t, hq, htid⟩ := idx_in hx
      dsimp only
      rw [if_pos (by rfl), (pos_eq n c m).1, (pos_eq n c m).2]
      obtain ⟨hr, hk32⟩ := pos_le hc hm
      have hsrc := H.src _ _ hr hk32
      have hgp := get_put (X := X) (r := pr n c m) (k := pk m) (by rw [H.len _ hr]; exact hk32) { X.get (pr n c m) (pk m) with a := false, own := -1 }
      have hofp : ∀ (d i : Nat), (X.put (pr n c m) (pk m) { X.get (pr n c m) (pk m) with a := false, own := -1 }).of n d i = if pr n d i = pr n c m ∧ pk i = pk m then { X.get (pr n c m) (pk m) with a := false, own := -1 } else X.of n d i := fun d i => hgp (pr n d i) (pk i)
      have hmem : ∀ u, u ∈ (P.wk c).eraseIdx q ↔ u ∈ P.wk c ∧ u.id ≠ m := fun u => by
        rw [List.mem_eraseIdx_iff_getElem?]
        constructor
        · rintro ⟨j, hj, hju⟩
          exact ⟨List.mem_of_getElem? hju, fun e => hj (H.one hc hju hq (by omega))⟩
        · rintro ⟨hu, hne⟩
          obtain ⟨j, hj⟩ := List.mem_iff_getElem?.1 hu
          refine ⟨j, fun e => ?_, hj⟩
          subst e
          rw [hq] at hj
          cases hj
          exact hne htid
      have hown : (X.of n c m).own = c ∧ (X.of n c m).a = true := by
        obtain ⟨j, k1, k2, k3, k4, _⟩ := (H.wk c hc t).1 (List.mem_of_getElem? hq)
        obtain rfl : j = m := by omega
        exact ⟨k4, k3⟩
      refine ⟨fun i hi => ?_, H.limn, fun i j hi hj => ?_, fun j hj => ?_, fun i j hi hj => ?_, H.lim, fun d hd u => ?_, fun d hd => ?_, fun d hd u hu => ?_⟩
      · unfold Doc.Ref.put
        dsimp only
        split
        · rename_i e; subst e; rw [List.length_set]; exact H.len _ hi
        · exact H.len i hi
      · show SameS (if i = pr n c m ∧ j = pk m then _ else P.src i j) _
        rw [hgp]
        split
        · exact ⟨hsrc.e, hsrc.l, hsrc.h, rfl, hsrc.rank⟩
        · exact H.src i j hi hj
      · show (if n = pr n c m ∧ j = pk m then _ else P.src n j).goes = _
        rw [hgp]
        split
        · rename_i e
          have := H.goN j hj
          rw [e.1, e.2] at this
          exact this
        · exact H.goN j hj
      · show (if i = pr n c m ∧ j = pk m then _ else P.src i j).goes = 0
        split
        · rename_i e
          have := H.goO i j hi hj
          rw [e.1, e.2] at this
          exact this
        · exact H.goO i j hi hj
      · show u ∈ (if d = c then (P.wk c).eraseIdx q else P.wk d) ↔ _
        have key : ∀ i : Nat, ((X.put (pr n c m) (pk m) { X.get (pr n c m) (pk m) with a := false, own := -1 }).of n d i).a = true → ¬ (pr n d i = pr n c m ∧ pk i = pk m) := fun i h hne => by
          rw [hofp d i, if_pos hne] at h; cases h
        by_cases e : d = c
        · subst e
          rw [if_pos rfl, hmem u, H.wk d hd u]
          constructor
          · rintro ⟨⟨i, g1, g2, g3, g4, g5⟩, hne⟩
            have hne' : ¬ (pr n d i = pr n d m ∧ pk i = pk m) := fun h => hne (by rw [g2, pos_inj hd g1 hm h])
            exact ⟨i, g1, g2, by rw [hofp d i, if_neg hne']; exact g3, by rw [hofp d i, if_neg hne']; exact g4, by rw [hofp d i, if_neg hne']; exact g5⟩
          · rintro ⟨i, g1, g2, g3, g4, g5⟩
            have hne' := key i g3
            rw [hofp d i, if_neg hne'] at g3 g4 g5
            exact ⟨⟨i, g1, g2, g3, g4, g5⟩, fun h => hne' (by have e : i = m := (by omega); rw [e]; exact ⟨rfl, rfl⟩)⟩
        · rw [if_neg e, H.wk d hd u]
          constructor
          · rintro ⟨i, g1, g2, g3, g4, g5⟩
            have hne' : ¬ (pr n d i = pr n c m ∧ pk i = pk m) := fun h => by
              have e3 : X.of n d i = X.of n c m := by
                show X.get (pr n d i) (pk i) = X.get (pr n c m) (pk m)
                rw [h.1, h.2]
              rw [e3, hown.1] at g4; omega
            exact ⟨i, g1, g2, by rw [hofp d i, if_neg hne']; exact g3, by rw [hofp d i, if_neg hne']; exact g4, by rw [hofp d i, if_neg hne']; exact g5⟩
          · rintro ⟨i, g1, g2, g3, g4, g5⟩
            have hne' := key i g3
            rw [hofp d i, if_neg hne'] at g3 g4 g5
            exact ⟨i, g1, g2, g3, g4, g5⟩
      · show (if d = c then (P.wk c).eraseIdx q else P.wk d).Pairwise _
        by_cases e : d = c
        · subst e
          rw [if_pos rfl]
          exact (H.srt d hd).sublist (List.eraseIdx_sublist _ _)
        · rw [if_neg e]; exact H.srt d hd
      · have hu' : u ∈ (if d = c then (P.wk c).eraseIdx q else P.wk d) := hu
        by_cases e : d = c
        · subst e
          rw [if_pos rfl, hmem u] at hu'
          exact H.top d hd u hu'.1
        · rw [if_neg e] at hu'
          exact H.top d hd u hu'
theorem sendE_eq (t id : Int) : Doc.sendE n t id = if gsendE n t id then 1 else 0 := by
  unfold Doc.sendE gsendE
  by_cases h : id < 0 ∨ 15 < id ∨ t < 0 ∨ 2 ^ n ≤ t
  · rw [if_pos h, if_pos (by simp only [Bool.or_eq_true, decide_eq_true_eq]; omega)]
  · rw [if_neg h, if_neg (by simp only [Bool.or_eq_true, decide_eq_true_eq]; omega)]
theorem Lk.sendF (H : Lk n P X) (t : Int) {id : Nat} (hid : id < 16) : ∀ c, c ≤ n → Lk n (gsendF P t id c) (Doc.sendF X t id c)
  | 0, _ => H
  | c + 1, hc => by
    have ih := H.sendF t hid c (by omega)
    unfold gsendF Doc.sendF
    split
    · have hs := ih.src c id (by omega) (by omega)
      exact ih.set (by omega) (by omega) ⟨hs.e, rfl, hs.h, hs.a, hs.rank⟩ (fun h => by omega) (fun h => ih.goO c id h (by omega)) rfl rfl rfl
    · exact ih
theorem Lk.send (H : Lk n P X) (t id : Int) : Lk n (gsendP n P t id) (Doc.sendR X n t id) := by
  unfold gsendP Doc.sendR
  rw [sendE_eq]
  cases hE : gsendE n t id with
  | true => exact H
  | false =>
    have h16 : 0 ≤ id ∧ id < 16 := by
      simp only [gsendE, Bool.or_eq_false_iff, decide_eq_false_iff_not] at hE
      omega
    exact H.sendF t (by omega) n (Nat.le_refl _)
theorem setE0 (core id v : Int) (on : Bool) : Doc.setE n 0 core id v = if genableE n core id on then 1 else 0 := by
  unfold Doc.setE genableE
  rw [bad_eq]
  cases badB n core id <;> simp
theorem setE1 (core id v : Int) (on : Bool) : Doc.setE n 1 core id v = if gpendE n core id on then 1 else 0 := by
  unfold Doc.setE gpendE
  rw [bad_eq]
  cases badB n core id <;> simp
theorem setE2 (core id v : Int) (on : Bool) : Doc.setE n 2 core id v = if glineE n core id on then 1 else 0 := by
  unfold Doc.setE glineE
  rw [bad_eq]
  cases badB n core id <;> by_cases h : id < 16 <;> simp [h]
theorem setE3 (core id v : Int) : Doc.setE n 3 core id v = if grankE n core id v then 1 else 0 := by
  unfold Doc.setE grankE
  rw [bad_eq]
  cases badB n core id <;> by_cases h : v < 0 <;> by_cases h2 : 255 < v <;> simp [h, h2] <;> omega
theorem routeE_eq (id v : Int) : Doc.routeE n id v = if grouteE n id v then 1 else 0 := by
  unfold Doc.routeE grouteE
  rw [bad_eq]
  cases badB n v id <;> by_cases h : id < 32 <;> simp [h]
theorem maskE_eq (core v : Int) : Doc.maskE n core v = if gmaskE n core v then 1 else 0 := by
  unfold Doc.maskE gmaskE
  rw [bad_eq]
  have e0 : badB n core 0 = !hasB n core := by simp [badB]
  rw [e0]
  cases hasB n core <;> by_cases h : v < 0 <;> by_cases h2 : 255 < v <;> simp [h, h2] <;> omega
theorem Lk.mskP (H : Lk n P X) (core v : Int) : Lk n (gmaskP n P core v) (Doc.maskR X n core v) := by
  unfold gmaskP Doc.maskR
  rw [maskE_eq]
  cases hE : gmaskE n core v with
  | true => exact H
  | false =>
    have hh : hasB n core = true := by
      unfold gmaskE at hE
      cases h : hasB n core
      · rw [h] at hE; cases hE
      · rfl
    obtain ⟨h4, h5⟩ := has_of hh
    exact H.mask (by omega) v
theorem Lk.put (H : Lk n P X) {core id : Int} (hb : badB n core id = false) {s : Src} {x : Doc.In8} (hs : SameS s x) (hg : s.goes = (P.src (pr n core id) (pk id)).goes) (hg' : x.core = (X.get (pr n core id) (pk id)).core) (ha : x.a = (X.get (pr n core id) (pk id)).a) (ho : x.own = (X.get (pr n core id) (pk id)).own) (hw : x.was = (X.get (pr n core id) (pk id)).was) : Lk n (P.put (pr n core id) (pk id) s) (X.put (pr n core id) (pk id) x) := by
  refine H.set (pr_le hb) (pk_lt hb) hs (fun h => ?_) (fun h => ?_) ha ho hw
  · rw [hg, hg', h]; exact H.goN _ (pk_lt hb)
  · rw [hg]; exact H.goO _ _ h (pk_lt hb)
theorem Lk.en (H : Lk n P X) (core id v : Int) (on : Bool) : Lk n (genableP n P core id on) (Doc.setR X n 0 core id on v) := by
  unfold genableP Doc.setR
  rw [setE0 core id v on]
  cases hE : genableE n core id on with
  | true => exact H
  | false =>
    have hb : badB n core id = false := hE
    have hs := H.src _ _ (pr_le hb) (pk_lt hb)
    exact H.put hb (x := { X.get (pr n core id) (pk id) with e := on }) ⟨rfl, hs.l, hs.h, hs.a, hs.rank⟩ rfl rfl rfl rfl rfl
theorem Lk.pe (H : Lk n P X) (core id v : Int) (on : Bool) : Lk n (gpendP n P core id on) (Doc.setR X n 1 core id on v) := by
  unfold gpendP Doc.setR
  rw [setE1 core id v on]
  cases hE : gpendE n core id on with
  | true => exact H
  | false =>
    have hb : badB n core id = false := hE
    have hs := H.src _ _ (pr_le hb) (pk_lt hb)
    exact H.put hb (x := { X.get (pr n core id) (pk id) with l := on }) ⟨hs.e, rfl, hs.h, hs.a, hs.rank⟩ rfl rfl rfl rfl rfl
theorem Lk.li (H : Lk n P X) (core id v : Int) (on : Bool) : Lk n (glineP n P core id on) (Doc.setR X n 2 core id on v) := by
  unfold glineP Doc.setR
  rw [setE2 core id v on]
  cases hE : glineE n core id on with
  | true => exact H
  | false =>
    have hb : badB n core id = false := by
      unfold glineE at hE
      rw [Bool.or_eq_false_iff] at hE
      exact hE.2
    have hs := H.src _ _ (pr_le hb) (pk_lt hb)
    exact H.put hb (x := { X.get (pr n core id) (pk id) with h := on }) ⟨hs.e, hs.l, rfl, hs.a, hs.rank⟩ rfl rfl rfl rfl rfl
theorem Lk.ra (H : Lk n P X) (core id v : Int) (on : Bool) : Lk n (grankP n P core id v) (Doc.setR X n 3 core id on v) := by
  unfold grankP Doc.setR
  rw [setE3 core id v]
  cases hE : grankE n core id v with
  | true => exact H
  | false =>
    have hb : badB n core id = false := by
      unfold grankE at hE
      rw [Bool.or_eq_false_iff] at hE
      exact hE.2
    have hs := H.src _ _ (pr_le hb) (pk_lt hb)
    exact H.put hb (x := { X.get (pr n core id) (pk id) with rank := v }) ⟨hs.e, hs.l, hs.h, hs.a, rfl⟩ rfl rfl rfl rfl rfl
theorem Lk.ro (H : Lk n P X) (id v : Int) : Lk n (grouteP n P id v) (Doc.routeR X n id v) := by
  unfold grouteP Doc.routeR
  rw [routeE_eq]
  cases hE : grouteE n id v with
  | true => exact H
  | false =>
    unfold grouteE at hE
    rw [Bool.or_eq_false_iff, decide_eq_false_iff_not] at hE
    have hb : badB n v id = false := hE.2
    have e : pr n v id = n := by unfold pr; rw [if_pos (by omega)]
    have hs := H.src _ _ (pr_le hb) (pk_lt hb)
    rw [e] at hs ⊢
    exact H.set (Nat.le_refl _) (pk_lt hb) (x := { X.get n (pk id) with core := v }) ⟨hs.e, hs.l, hs.h, hs.a, hs.rank⟩ (fun _ => rfl) (fun h => by omega) rfl rfl rfl
end
theorem new_lk (n : Nat) : Lk n newP (Doc.newR n) := by
  have hget : ∀ r k, k < 32 → (Doc.newR n).get r k = Doc.z0 := fun r k hk => by
    show ((List.replicate 32 Doc.z0)[k]?).getD _ = _
    rw [List.getElem?_replicate, if_pos hk]; rfl
  refine ⟨fun r hr => by simp [Doc.newR], by simp [Doc.newR], fun r k hr hk => ?_, fun k hk => ?_, fun r k hr hk => rfl, fun c hc => ?_, fun c hc t => ?_, fun c hc => List.Pairwise.nil, fun c hc t ht => by cases ht⟩
  · rw [hget r k hk]; exact ⟨rfl, rfl, rfl, rfl, rfl⟩
  · rw [hget n k hk]; rfl
  · unfold Doc.limOf Doc.newR
    simp [List.getElem?_replicate, hc]
    rfl
  · constructor
    · intro h; cases h
    · rintro ⟨i, h1, h2, h3, _⟩
      unfold Doc.Ref.of at h3
      rw [(pos_eq n c i).1, (pos_eq n c i).2, hget _ _ (pos_le hc h1).2] at h3
      cases h3
end Go.Proofs.YteklkololojamaaGreat
