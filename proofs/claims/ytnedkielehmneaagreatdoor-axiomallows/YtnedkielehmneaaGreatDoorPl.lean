/- Things that happened one behind the other. -/
import Derived.Test.YtnedkielehmneaaGreatDoorPb
namespace Go.Proofs.YtnedkielehmneaaGreatDoor.Axm
open Go.RowKit
set_option linter.unusedVariables false
set_option linter.unusedSimpArgs false
set_option maxRecDepth 8000

open Rlw
def Inc (R : Nat → Nat → Bool) : Prop := ∀ a b, R a b = true → a < b
def IncE (R : Nat → Nat → Bool) : Prop := ∀ a b, R a b = true → a ≤ b
theorem Inc.e {R : Nat → Nat → Bool} (h : Inc R) : IncE R := fun a b e => Nat.le_of_lt (h a b e)
theorem Inc.un {R S : Nat → Nat → Bool} (h : Inc R) (k : Inc S) : Inc (unR R S) := fun a b e => by
  rcases unR_iff.1 e with e | e
  · exact h _ _ e
  · exact k _ _ e
theorem Inc.inn {R : Nat → Nat → Bool} (h : Inc R) (S : Nat → Nat → Bool) : Inc (inR R S) := fun a b e => h _ _ (inR_iff.1 e).1
theorem Inc.mi {R : Nat → Nat → Bool} (h : Inc R) (S : Nat → Nat → Bool) : Inc (miR R S) := fun a b e => h _ _ (miR_iff.1 e).1
theorem Inc.th {n : Nat} {R S : Nat → Nat → Bool} (h : Inc R) (k : IncE S) : Inc (thR n R S) := fun a c e => by
  obtain ⟨b, _, h1, h2⟩ := thR_any.1 e
  exact Nat.lt_of_lt_of_le (h _ _ h1) (k _ _ h2)
theorem IncE.th {n : Nat} {R S : Nat → Nat → Bool} (h : IncE R) (k : Inc S) : Inc (thR n R S) := fun a c e => by
  obtain ⟨b, _, h1, h2⟩ := thR_any.1 e
  exact Nat.lt_of_le_of_lt (h _ _ h1) (k _ _ h2)
theorem inc_only {n : Nat} {K : Nat → Bool} : IncE (onlyR n K) := fun a b e => by
  obtain ⟨_, rfl, _⟩ := onlyR_iff.1 e
  exact Nat.le_refl _
theorem Inc.none {R : Nat → Nat → Bool} (h : Inc R) (a : Nat) : ¬ Rlw.Way (fun u v => R u v = true) a a := order_no_loop (p := fun k => k) h
/-- Things that happened one behind the other. -/
structure Serial (n : Nat) (x : Nat → Ev) : Prop where
  po : ∀ a, a < n → (x a).po = a
  ww : ∀ a b, a < b → b < n → wt x a = true → wt x b = true → (x a).stamp < (x b).stamp
  wr : ∀ a b, a < b → b < n → wt x a = true → rd x b = true → (x a).addr = (x b).addr → (x a).stamp ≤ (x b).stamp
  rw : ∀ a b, a < b → b < n → rd x a = true → wt x b = true → (x a).stamp < (x b).stamp
  dep : ∀ b, b < n → ∀ p, p ∈ (x b).adr ∨ p ∈ (x b).dat ∨ p ∈ (x b).ctl → ∃ a, a < b ∧ rd x a = true ∧ (x a).core = (x b).core ∧ p = (a : Int)
  core : ∀ a, a < n → 0 ≤ (x a).core ∧ (x a).core < 8
  form : ∀ a, a < n → formE (x a) = true
  own : ∀ a, a < n → wt x a = true → 1 ≤ (x a).stamp
  src : ∀ a, a < n → rd x a = true → ((x a).stamp = 0 ∧ (x a).value = 0) ∨ ((x a).stamp ≠ 0 ∧ ∃ b, b < n ∧ wt x b = true ∧ (x b).addr = (x a).addr ∧ (x b).stamp = (x a).stamp ∧ (x b).value = (x a).value)
section
variable {n : Nat} {x : Nat → Ev}
theorem rd_wt {a : Nat} (h : rd x a = true) (k : wt x a = true) : False := by
  simp [rd, wt] at h k
  omega
theorem beh_iff {a b : Nat} : behR n x a b = true ↔ exc x a = true ∧ poR n x a b = true ∧ exc x b = true := by
  unfold behR exR
  rw [th_only ((only_fits _ _).th fit_po), only_th fit_po, and_assoc]
variable (S : Serial n x)
include S
theorem Serial.i_po : Inc (poR n x) := fun a b e => by
  obtain ⟨ha, hb, h⟩ := suchR_iff.1 e
  simp only [poB, Bool.and_eq_true, decide_eq_true_eq, S.po a ha, S.po b hb] at h
  omega
theorem Serial.i_rf : Inc (rfR n x) := fun a b e => by
  obtain ⟨ha, hb, h⟩ := suchR_iff.1 e
  simp only [rfB, oneStamp, Bool.and_eq_true, decide_eq_true_eq] at h
  obtain ⟨⟨h1, h2⟩, _, h4⟩ := h
  rcases Nat.lt_trichotomy a b with k | k | k
  · exact k
  · subst k; exact (rd_wt h2 h1).elim
  · have := S.rw b a k ha h2 h1; omega
theorem Serial.i_co : Inc (coR n x) := fun a b e => by
  obtain ⟨h1, h2⟩ := (only_th fit_older).1 e
  obtain ⟨ha, hb, h⟩ := suchR_iff.1 h2
  simp only [olderB, Bool.and_eq_true, decide_eq_true_eq] at h
  obtain ⟨⟨h3, h4⟩, h5⟩ := h
  rcases Nat.lt_trichotomy a b with k | k | k
  · exact k
  · subst k; omega
  · have := S.ww b a k ha h3 h1; omega
theorem Serial.i_fr : Inc (frR n x) := fun a b e => by
  obtain ⟨h1, h2⟩ := (only_th fit_older).1 e
  obtain ⟨ha, hb, h⟩ := suchR_iff.1 h2
  simp only [olderB, oneAddr, Bool.and_eq_true, decide_eq_true_eq] at h
  obtain ⟨⟨h3, _, h4⟩, h5⟩ := h
  rcases Nat.lt_trichotomy a b with k | k | k
  · exact k
  · subst k; omega
  · have := S.wr b a k ha h3 h1 h4.symm; omega
theorem Serial.i_dep (f : Ev → List Int) (hf : ∀ b p, p ∈ f (x b) → p ∈ (x b).adr ∨ p ∈ (x b).dat ∨ p ∈ (x b).ctl) : Inc (depR n x f) := fun a b e => by
  simp only [depR, Bool.and_eq_true, decide_eq_true_eq, List.any_eq_true, beq_iff_eq] at e
  obtain ⟨hb, p, h2, h3⟩ := e
  obtain ⟨c, hc, _, _, rfl⟩ := S.dep b hb p (hf b p h2)
  obtain ⟨h4, h5⟩ := readAt_some h3
  have := (isAt_iff.1 h5).2.2
  rw [S.po a h4] at this
  omega
theorem Serial.i_addr : Inc (addrR n x) := S.i_dep _ fun _ _ h => .inl h
theorem Serial.i_data : Inc (dataR n x) := S.i_dep _ fun _ _ h => .inr (.inl h)
theorem Serial.i_ctrl : Inc (ctrlR n x) := S.i_dep _ fun _ _ h => .inr (.inr h)
theorem Serial.i_rmw : Inc (rmwR n x) := fun a b e => by
  have h1 := (inR_iff.1 e).1
  rw [th_only ((only_fits _ _).th fit_next), only_th fit_next] at h1
  have h2 := (miR_iff.1 h1.1.2).1
  exact S.i_po _ _ ((beh_iff).1 h2).2.1
theorem Serial.one_rmw {r a b : Nat} (h : rmwR n x r a = true) (k : rmwR n x r b = true) : a = b := by
  have h1 := (inR_iff.1 h).1
  have k1 := (inR_iff.1 k).1
  rw [th_only ((only_fits _ _).th fit_next), only_th fit_next] at h1 k1
  obtain ⟨h2, h3⟩ := miR_iff.1 h1.1.2
  obtain ⟨k2, k3⟩ := miR_iff.1 k1.1.2
  have h4 := (beh_iff).1 h2
  have k4 := (beh_iff).1 k2
  obtain ⟨ra, aa, ha⟩ := suchR_iff.1 h4.2.1
  obtain ⟨_, bb, kb⟩ := suchR_iff.1 k4.2.1
  simp only [poB, oneCore, Bool.and_eq_true, decide_eq_true_eq] at ha kb
  have step : ∀ u v, u < v → u < n → v < n → (x r).core = (x u).core → (x r).core = (x v).core → exc x u = true → exc x v = true → behR n x r u = true → behR n x u v = true := fun u v huv hu hv c1 c2 e1 e2 _ =>
    (beh_iff).2 ⟨e1, suchR_iff.2 ⟨hu, hv, by
      simp only [poB, oneCore, Bool.and_eq_true, decide_eq_true_eq, S.po u hu, S.po v hv]
      exact ⟨c1.symm.trans c2, by omega⟩⟩, e2⟩
  rcases Nat.lt_trichotomy a b with c | c | c
  · have := step a b c aa bb ha.1 kb.1 h4.2.2 k4.2.2 h2
    rw [thR_any.2 ⟨a, aa, h2, this⟩] at k3
    cases k3
  · exact c
  · have := step b a c bb aa kb.1 ha.1 k4.2.2 h4.2.2 k2
    rw [thR_any.2 ⟨b, bb, k2, this⟩] at h3
    cases h3
theorem Serial.i_sec : IncE (secR n x) := fun a b e => by
  obtain ⟨r, _, h1, h2⟩ := thR_any.1 e
  rw [S.one_rmw h1 h2]
  exact Nat.le_refl _
theorem Serial.i_all : Inc (allR n x) := by
  have A := S.i_addr; have D := S.i_data; have C := S.i_ctrl; have P := S.i_po
  have coi : Inc (coiR n x) := S.i_co.inn _
  have rfi : Inc (rfiR n x) := S.i_rf.inn _
  refine ((((((S.i_rf.mi _).un (S.i_fr.mi _)).un (S.i_co.mi _))).un ?_).un ?_).un ?_
  · exact (((((A.un D).un (C.th inc_only)).un ((((C.un (A.th P.e)).th inc_only).th P.e).th inc_only)).un ((A.th P.e).th inc_only)).un ((C.un D).th coi.e)).un ((A.un D).th rfi.e)
  · exact S.i_rmw.un ((S.i_sec.th rfi).th inc_only)
  · exact (((((((P.th inc_only).th P.e).un ((IncE.th inc_only P).th inc_only)).un (((IncE.th inc_only P).th inc_only).th P.e)).un (IncE.th inc_only P)).un ((((IncE.th inc_only P).th inc_only).th P.e).th inc_only)).un (P.th inc_only)).un ((P.th inc_only).th coi.e)
theorem Serial.ext : extV n x = true := extV_iff.2 fun a ha => S.i_all.none a ha
theorem Serial.int : intV n x = true := intV_iff.2 fun a ha => ((((S.i_po.inn _).un S.i_rf).un S.i_co).un S.i_fr).none a ha
omit S in
theorem ato_of (h : ∀ a, a < n → (x a).ex = false) : atoV n x = true := atoV_iff.2 fun a b => by
  cases e : atoR n x a b with
  | false => rfl
  | true =>
    have h1 := (inR_iff.1 (inR_iff.1 e).1).1
    rw [th_only ((only_fits _ _).th fit_next), only_th fit_next] at h1
    have h2 := (beh_iff).1 (miR_iff.1 h1.1.2).1
    have := h a (suchR_iff.1 h2.2.1).1
    rw [exc, this] at h2
    cases h2.1
theorem Serial.formed (a : Nat) (ha : a < n) : formed n x a = true := by
  have hc := S.core a ha
  have hp := S.po a ha
  have ht : twin n x a = false := someB_no.2 fun b hb => by
    have hq := S.po b hb
    by_cases e : a = b
    · simp [e]
    · have : ¬ ((x a).po = (x b).po) := by rw [hp, hq]; omega
      simp [onePlace, this]
  unfold Axm.formed
  rw [if_neg (by omega), if_neg (by omega), if_neg (by omega), ht, if_neg (by decide)]
  exact S.form a ha
theorem Serial.behind (b : Nat) (hb : b < n) (l : List Int) (hl : ∀ p, p ∈ l → p ∈ (x b).adr ∨ p ∈ (x b).dat ∨ p ∈ (x b).ctl) : behind n x b l = true := by
  unfold Axm.behind
  rw [List.all_eq_true]
  intro p hp
  obtain ⟨a, h1, h2, h3, rfl⟩ := S.dep b hb p (hl p hp)
  rw [Bool.and_eq_true, decide_eq_true_eq, S.po b hb, readAt_isSome]
  simp only [rd, decide_eq_true_eq] at h2
  exact ⟨by omega, a, by omega, isAt_iff.2 ⟨h2, h3, S.po a (by omega)⟩⟩
theorem Serial.agrees (a : Nat) (ha : a < n) : agrees n x a = true := by
  unfold Axm.agrees
  have h1 : (wt x a && !ownStamp n x a) = false := by
    cases hw : wt x a with
    | false => rfl
    | true =>
      have : ownStamp n x a = true := by
        unfold ownStamp
        have hs := S.own a ha hw
        rw [Bool.and_eq_true, decide_eq_true_eq, Bool.not_eq_true']
        refine ⟨hs, someB_no.2 fun b hb => ?_⟩
        by_cases e : a = b
        · simp [e]
        · cases hw2 : wt x b with
          | false => simp
          | true =>
            have : ¬ ((x a).stamp = (x b).stamp) := by
              rcases Nat.lt_or_gt_of_ne e with k | k
              · have := S.ww a b k hb hw hw2; omega
              · have := S.ww b a k ha hw2 hw; omega
            simp [oneStamp, this]
      rw [this]; rfl
  have h2 : (rd x a && !readRight n x a) = false := by
    cases hr : rd x a with
    | false => rfl
    | true =>
      have : readRight n x a = true := by
        unfold readRight
        rcases S.src a ha hr with ⟨h0, hv⟩ | ⟨h0, b, hb, hw, had, hst, hva⟩
        · rw [if_pos h0, Bool.not_eq_true']
          refine someB_no.2 fun b hb => ?_
          cases hr2 : rd x b with
          | false => simp
          | true =>
            cases ho : oneStamp x a b with
            | false => simp
            | true =>
              simp only [oneStamp, Bool.and_eq_true, decide_eq_true_eq] at ho
              rcases S.src b hb hr2 with ⟨_, hv2⟩ | ⟨h3, _⟩
              · simp [hv, hv2]
              · exact absurd (ho.2.symm.trans h0) h3
        · rw [if_neg h0]
          refine someB_iff.2 ⟨b, hb, ?_⟩
          simp [hw, oneStamp, oneAddr, touch, hr, had, hst, hva]
      rw [this]; rfl
  rw [h1, h2, if_neg (by decide), if_neg (by decide), S.behind a ha _ (fun _ h => .inl h), S.behind a ha _ (fun _ h => .inr (.inl h)), S.behind a ha _ (fun _ h => .inr (.inr h))]
  rfl
theorem Serial.right (hn : n ≤ 64) : rightE n x = 0 := by
  unfold rightE
  rw [if_neg (by omega), allB_iff.2 S.formed, allB_iff.2 S.agrees]
  rfl
end
end Go.Proofs.YtnedkielehmneaaGreatDoor.Axm
