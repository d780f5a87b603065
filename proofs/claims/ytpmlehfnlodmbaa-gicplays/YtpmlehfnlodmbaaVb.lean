/- The likeness is kept: Best, Ack, Eoi, Send, and what is set. -/
import Derived.Test.YtpmlehfnlodmbaaVa
namespace Go.Proofs.Ytpmlehfnlodmbaa
open Go.RowKit
set_option linter.unusedVariables false
set_option linter.unusedSimpArgs false

section
variable {n : Nat} {P : Pg} {X : Doc.Ref}
theorem Lk.goes (H : Lk n P X) {c i : Nat} (hc : c < n) (h32 : 32 ≤ (i : Int)) (hi : i < 64) : (lookV n P c i).goes = (X.of n c i).core := by
  rw [look_nat hc (by omega) (by omega)]
  have e : pr n c i = n := by unfold pr; rw [if_pos h32]
  unfold Doc.Ref.of
  rw [(pos_eq n c i).1, (pos_eq n c i).2, e]
  exact H.goN _ (pos_le hc hi).2
theorem Lk.cand (H : Lk n P X) {c i : Nat} (hc : c < n) (hi : i < 64) : Doc.candB (X.of n c i) c (Doc.runF X n c 64) (Doc.limOf X c) i = candB n P c i := by
  have hs := H.of hc hi
  rw [H.run hc, H.lim c hc]
  unfold Doc.candB candB waitB awayB
  rw [← hs.l, ← hs.h, ← hs.e, ← hs.a, ← hs.rank]
  have hm : decide ((lookV n P c i).rank < minV (P.lim c) (runV (P.wk c))) = (decide ((lookV n P c i).rank < P.lim c) && decide ((lookV n P c i).rank < runV (P.wk c))) := by
    rw [Bool.eq_iff_iff]
    simp only [Bool.and_eq_true, decide_eq_true_eq]
    exact min_lt
  rw [hm]
  by_cases h32 : 32 ≤ (i : Int)
  · rw [← H.goes hc h32 hi, decide_eq_true h32, decide_eq_false (show ¬ (i : Int) < 32 by omega)]
    by_cases e : (lookV n P c i).goes = (c : Int)
    · have e2 : ((lookV n P c i).goes != (c : Int)) = false := by simpa using e
      rw [e2, decide_eq_true e]
      cases (lookV n P c i).l <;> cases (lookV n P c i).h <;> cases (lookV n P c i).e <;> cases (lookV n P c i).a <;> simp
    · have e2 : ((lookV n P c i).goes != (c : Int)) = true := by simpa using e
      rw [e2, decide_eq_false e]
      simp
  · rw [decide_eq_false h32, decide_eq_true (show (i : Int) < 32 by omega)]
    cases (lookV n P c i).l <;> cases (lookV n P c i).h <;> cases (lookV n P c i).e <;> cases (lookV n P c i).a <;> simp
theorem Lk.best (H : Lk n P X) {c : Nat} (hc : c < n) : ∀ i, i ≤ 64 → Doc.bestF X n c (Doc.runF X n c 64) (Doc.limOf X c) i = match bstF n P c i with | none => -1 | some t => t.id
  | 0, _ => rfl
  | i + 1, hi => by
    have ih := H.best hc i (by omega)
    have hcd := H.cand hc (show i < 64 by omega)
    have hb : Doc.bestF X n c (Doc.runF X n c 64) (Doc.limOf X c) (i + 1) = if Doc.candB (X.of n c i) c (Doc.runF X n c 64) (Doc.limOf X c) i = true ∧ (Doc.bestF X n c (Doc.runF X n c 64) (Doc.limOf X c) i < 0 ∨ (X.of n c i).rank < (X.of n c (Doc.bestF X n c (Doc.runF X n c 64) (Doc.limOf X c) i)).rank) then (i : Int) else Doc.bestF X n c (Doc.runF X n c 64) (Doc.limOf X c) i := rfl
    rw [hb, hcd, ih, bstF]
    cases hc1 : candB n P c i with
    | false => rw [if_neg (fun h => by cases h.1), if_neg (by decide)]
    | true =>
      rw [if_pos rfl]
      cases hb0 : bstF n P c i with
      | none => dsimp only; rw [if_pos ⟨rfl, .inl (by decide)⟩]
      | some t =>
        obtain ⟨⟨k0, g1, _, g3⟩, _⟩ := bst_some i t hb0
        have hid : t.id = k0 := by rw [g3]
        have hrk : (X.of n c k0).rank = t.rank := by rw [← (H.of hc (show k0 < 64 by omega)).rank, g3]
        have hri : (X.of n c i).rank = (lookV n P c i).rank := (H.of hc (show i < 64 by omega)).rank.symm
        have hrk' : (X.of n c t.id).rank = t.rank := by rw [hid]; exact hrk
        dsimp only
        by_cases hlt : (lookV n P c i).rank < t.rank
        · rw [if_pos ⟨rfl, .inr (by rw [hri, hrk']; exact hlt)⟩, if_pos hlt]
        · rw [if_neg (fun h => by
            rcases h.2 with h | h
            · omega
            · rw [hri, hrk'] at h; exact hlt h), if_neg hlt]
theorem Lk.bestV (H : Lk n P X) (core : Int) : Doc.bestV X n core = match nextV n P core with | none => -1 | some t => t.id := by
  unfold Doc.bestV nextV
  rw [bad_eq]
  have e0 : badB n core 0 = !hasB n core := by simp [badB]
  rw [e0]
  cases h1 : hasB n core with
  | false => rfl
  | true =>
    obtain ⟨h2, h3⟩ := has_of h1
    obtain ⟨c, rfl⟩ : ∃ c : Nat, core = (c : Int) := ⟨core.toNat, by omega⟩
    rw [if_neg (by decide), if_pos rfl, Int.toNat_natCast]
    exact H.best (by omega) 64 (Nat.le_refl _)
theorem next_id {core : Int} {t : Trn} (h : nextV n P core = some t) : 0 ≤ t.id := by
  obtain ⟨c, k, _, _, _, e, _, _⟩ := next_in h
  rw [e]; exact Int.natCast_nonneg k
theorem Lk.ackV (H : Lk n P X) (core : Int) : Doc.ackV X n core = ackV n P core := by
  unfold Doc.ackV Go.Proofs.Ytpmlehfnlodmbaa.ackV
  rw [H.bestV core]
  cases hN : nextV n P core with
  | none => rfl
  | some t =>
    have := next_id hN
    dsimp only
    rw [if_neg (by omega)]
theorem Lk.ack (H : Lk n P X) (core : Int) : Lk n (ackP n P core) (Doc.ackR X n core) := by
  have hbv := H.bestV core
  unfold Doc.ackR ackP
  cases hN : nextV n P core with
  | none =>
    rw [hN] at hbv
    dsimp only at hbv ⊢
    rw [hbv, if_pos (by decide)]
    exact H
  | some t =>
    rw [hN] at hbv
    dsimp only at hbv ⊢
    obtain ⟨c, k, rfl, hc, hk, et, hcd, hbd⟩ := next_in hN
    have hid : t.id = k := by rw [et]
    rw [hbv, hid, if_neg (by omega), Int.toNat_natCast, (pos_eq n c k).1, (pos_eq n c k).2]
    obtain ⟨hr, hk32⟩ := pos_le hc hk
    have hs := H.of hc hk
    have hof : X.of n c k = X.get (pr n c k) (pk k) := rfl
    have hlk : lookV n P c k = P.src (pr n c k) (pk k) := look_nat hc (by omega) (by omega)
    have hrank : t.rank = (X.get (pr n c k) (pk k)).rank := by rw [et]; dsimp only; rw [hs.rank, hof]
    have hna : (X.of n c k).a = false := by
      rw [← hs.a]
      unfold candB waitB at hcd
      cases ha : (lookV n P c k).a
      · rfl
      · rw [ha] at hcd; simp at hcd
    have hltr : t.rank < runV (P.wk c) := by
      unfold candB at hcd
      simp only [Bool.and_eq_true, decide_eq_true_eq] at hcd
      rw [et]; exact (min_lt.1 hcd.2).2
    have hgp := get_put (X := X) (r := pr n c k) (k := pk k) (by rw [H.len _ hr]; exact hk32) { X.of n c k with l := false, a := true, own := (c : Int), was := (X.of n c k).rank }
    have hofp : ∀ (d i : Nat), d < n → i < 64 → (X.put (pr n c k) (pk k) { X.of n c k with l := false, a := true, own := (c : Int), was := (X.of n c k).rank }).of n d i = if pr n d i = pr n c k ∧ pk i = pk k then { X.of n c k with l := false, a := true, own := (c : Int), was := (X.of n c k).rank } else X.of n d i := fun d i hd hi => hgp (pr n d i) (pk i)
    have hsrc := H.src _ _ hr hk32
    have hrun := H.run hc
    refine ⟨fun i hi => ?_, H.limn, fun i j hi hj => ?_, fun j hj => ?_, fun i j hi hj => ?_, H.lim, fun d hd u => ?_, fun d hd => ?_, fun d hd u hu => ?_⟩
    · unfold Doc.Ref.put
      dsimp only
      split
      · rename_i e; subst e; rw [List.length_set]; exact H.len _ hi
      · exact H.len i hi
    · show SameS (if i = pr n c k ∧ j = pk k then _ else P.src i j) _
      rw [hgp]
      split
      · exact ⟨hsrc.e, rfl, hsrc.h, rfl, hsrc.rank⟩
      · exact H.src i j hi hj
    · show (if n = pr n c k ∧ j = pk k then _ else P.src n j).goes = _
      rw [hgp]
      split
      · rename_i e
        have := H.goN j hj
        rw [e.1, e.2] at this
        exact this
      · exact H.goN j hj
    · show (if i = pr n c k ∧ j = pk k then _ else P.src i j).goes = 0
      split
      · rename_i e
        have := H.goO i j hi hj
        rw [e.1, e.2] at this
        exact this
      · exact H.goO i j hi hj
    · show u ∈ (if d = c then P.wk c ++ [t] else P.wk d) ↔ _
      by_cases e : d = c
      · subst e
        rw [if_pos rfl, List.mem_append, H.wk d hd u]
        constructor
        · rintro (⟨i, h1, h2, h3, h4, h5⟩ | h)
          · have hne : ¬ (pr n d i = pr n d k ∧ pk i = pk k) := fun h => by
              have := pos_inj hd h1 hk h
              subst this
              rw [hna] at h3; cases h3
            exact ⟨i, h1, h2, by rw [hofp d i hd h1, if_neg hne]; exact h3, by rw [hofp d i hd h1, if_neg hne]; exact h4, by rw [hofp d i hd h1, if_neg hne]; exact h5⟩
          · simp at h
            subst h
            exact ⟨k, hk, hid, by rw [hofp d k hd hk, if_pos ⟨rfl, rfl⟩], by rw [hofp d k hd hk, if_pos ⟨rfl, rfl⟩], by rw [hofp d k hd hk, if_pos ⟨rfl, rfl⟩]; exact hrank⟩
        · rintro ⟨i, h1, h2, h3, h4, h5⟩
          rw [hofp d i hd h1] at h3 h4 h5
          by_cases hne : pr n d i = pr n d k ∧ pk i = pk k
          · right
            rw [if_pos hne] at h5
            have := pos_inj hd h1 hk hne
            subst this
            simp
            cases u; cases t
            simp only [Trn.mk.injEq]
            dsimp only at *
            exact ⟨by rw [h5, hrank]; rfl, by rw [h2, hid]⟩
          · rw [if_neg hne] at h3 h4 h5
            exact .inl ⟨i, h1, h2, h3, h4, h5⟩
      · rw [if_neg e, H.wk d hd u]
        have key : ∀ i : Nat, i < 64 → ((((X.put (pr n c k) (pk k) { X.of n c k with l := false, a := true, own := (c : Int), was := (X.of n c k).rank }).of n d i).a = true ∧ ((X.put (pr n c k) (pk k) { X.of n c k with l := false, a := true, own := (c : Int), was := (X.of n c k).rank }).of n d i).own = d) → ¬ (pr n d i = pr n c k ∧ pk i = pk k)) := fun i hi h hne => by
          rw [hofp d i hd hi, if_pos hne] at h
          have := h.2
          dsimp only at this
          omega
        constructor
        · rintro ⟨i, h1, h2, h3, h4, h5⟩
          have hne : ¬ (pr n d i = pr n c k ∧ pk i = pk k) := fun h => by
            have e3 : X.of n d i = X.of n c k := by
              show X.get (pr n d i) (pk i) = X.get (pr n c k) (pk k)
              rw [h.1, h.2]
            rw [e3, hna] at h3; cases h3
          exact ⟨i, h1, h2, by rw [hofp d i hd h1, if_neg hne]; exact h3, by rw [hofp d i hd h1, if_neg hne]; exact h4, by rw [hofp d i hd h1, if_neg hne]; exact h5⟩
        · rintro ⟨i, h1, h2, h3, h4, h5⟩
          have hne := key i h1 ⟨h3, h4⟩
          rw [hofp d i hd h1, if_neg hne] at h3 h4 h5
          exact ⟨i, h1, h2, h3, h4, h5⟩
    · show (if d = c then P.wk c ++ [t] else P.wk d).Pairwise _
      by_cases e : d = c
      · subst e
        rw [if_pos rfl, List.pairwise_append]
        refine ⟨H.srt d hd, by simp, fun a ha b hb => ?_⟩
        simp at hb
        subst hb
        obtain ⟨i, h1, h2, h3, h4, h5⟩ := (H.wk d hd a).1 ha
        have := runF_le (X := X) (n := n) (d : Int) 64 i h1 h3 h4
        rw [hrun] at this
        omega
      · rw [if_neg e]; exact H.srt d hd
    · have hu' : u ∈ (if d = c then P.wk c ++ [t] else P.wk d) := hu
      by_cases e : d = c
      · subst e
        rw [if_pos rfl, List.mem_append] at hu'
        rcases hu' with h | h
        · exact H.top d hd u h
        · simp at h
          subst h
          have hle : runV (P.wk d) ≤ 256 := by
            rcases List.eq_nil_or_concat (P.wk d) with e | ⟨l, t', e⟩
            · rw [e, runV_nil]; decide
            · rw [List.concat_eq_append] at e
              have := H.top d hd t' (by rw [e]; simp)
              rw [e, runV_app]; omega
          omega
      · rw [if_neg e] at hu'
        exact H.top d hd u hu'
end
end Go.Proofs.Ytpmlehfnlodmbaa
