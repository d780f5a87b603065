/- Of the relations: what fits, what a verdict says. -/
import Derived.Test.YtnedkielehmneaaGreatDoorPa
namespace Go.Proofs.YtnedkielehmneaaGreatDoor.Axm
open Go.RowKit
set_option linter.unusedVariables false
set_option linter.unusedSimpArgs false
set_option maxRecDepth 8000

open Rlw
theorem thR_any {n : Nat} {R S : Nat → Nat → Bool} {a c : Nat} : thR n R S a c = true ↔ ∃ b, b < n ∧ R a b = true ∧ S b c = true := by
  simp [thR]
theorem unR_iff {R S : Nat → Nat → Bool} {a b : Nat} : unR R S a b = true ↔ R a b = true ∨ S a b = true := by simp [unR]
theorem inR_iff {R S : Nat → Nat → Bool} {a b : Nat} : inR R S a b = true ↔ R a b = true ∧ S a b = true := by simp [inR]
theorem miR_iff {R S : Nat → Nat → Bool} {a b : Nat} : miR R S a b = true ↔ R a b = true ∧ S a b = false := by simp [miR]
theorem th_only {n : Nat} {R : Nat → Nat → Bool} (h : Fits n R) {K : Nat → Bool} {a c : Nat} : thR n R (onlyR n K) a c = true ↔ R a c = true ∧ K c = true := by
  rw [thR_any]
  constructor
  · rintro ⟨b, hb, h1, h2⟩
    obtain ⟨_, rfl, h3⟩ := onlyR_iff.1 h2
    exact ⟨h1, h3⟩
  · rintro ⟨h1, h2⟩
    exact ⟨c, (h _ _ h1).2, h1, onlyR_iff.2 ⟨(h _ _ h1).2, rfl, h2⟩⟩
theorem only_th {n : Nat} {R : Nat → Nat → Bool} (h : Fits n R) {K : Nat → Bool} {a c : Nat} : thR n (onlyR n K) R a c = true ↔ K a = true ∧ R a c = true := by
  rw [thR_any]
  constructor
  · rintro ⟨b, hb, h1, h2⟩
    obtain ⟨_, rfl, h3⟩ := onlyR_iff.1 h1
    exact ⟨h3, h2⟩
  · rintro ⟨h1, h2⟩
    exact ⟨a, (h _ _ h2).1, onlyR_iff.2 ⟨(h _ _ h2).1, rfl, h1⟩, h2⟩
theorem th_fits {n : Nat} {R S : Nat → Nat → Bool} (h : Fits n R) (k : Fits n S) : Fits n (thR n R S) := h.th k
section
variable {n : Nat} {x : Nat → Ev}
theorem readAt_some {core po : Int} {a : Nat} (h : readAt n x core po = some a) : a < n ∧ isAt x core po a = true := by
  have := Rlw.find_range.1 h
  exact ⟨this.1, this.2.1⟩
theorem readAt_isSome {core po : Int} : (readAt n x core po).isSome = true ↔ ∃ a, a < n ∧ isAt x core po a = true := by
  unfold readAt
  simp [List.find?_isSome]
theorem isAt_iff {core po : Int} {a : Nat} : isAt x core po a = true ↔ (x a).kind = 1 ∧ (x a).core = core ∧ (x a).po = po := by
  simp [isAt, rd, and_assoc]
theorem fit_dep (f : Ev → List Int) : Fits n (depR n x f) := fun a b h => by
  simp only [depR, Bool.and_eq_true, decide_eq_true_eq, List.any_eq_true, beq_iff_eq] at h
  obtain ⟨hb, p, _, hp⟩ := h
  exact ⟨(readAt_some hp).1, hb⟩
theorem fit_po : Fits n (poR n x) := such_fits _ _
theorem fit_loc : Fits n (locR n x) := such_fits _ _
theorem fit_core : Fits n (coreR n x) := such_fits _ _
theorem fit_rf : Fits n (rfR n x) := such_fits _ _
theorem fit_older : Fits n (olderR n x) := such_fits _ _
theorem fit_co : Fits n (coR n x) := (only_fits _ _).th fit_older
theorem fit_fr : Fits n (frR n x) := (only_fits _ _).th fit_older
theorem fit_rfi : Fits n (rfiR n x) := fit_rf.inn _
theorem fit_rfe : Fits n (rfeR n x) := fit_rf.mi _
theorem fit_coi : Fits n (coiR n x) := fit_co.inn _
theorem fit_coe : Fits n (coeR n x) := fit_co.mi _
theorem fit_fri : Fits n (friR n x) := fit_fr.inn _
theorem fit_fre : Fits n (freR n x) := fit_fr.mi _
theorem fit_addr : Fits n (addrR n x) := fit_dep _
theorem fit_data : Fits n (dataR n x) := fit_dep _
theorem fit_ctrl : Fits n (ctrlR n x) := fit_dep _
theorem fit_ex : Fits n (exR n x) := only_fits _ _
theorem fit_beh : Fits n (behR n x) := (fit_ex.th fit_po).th fit_ex
theorem fit_next : Fits n (nextR n x) := fit_beh.mi _
theorem fit_rmw : Fits n (rmwR n x) := (((only_fits _ _).th fit_next).th (only_fits _ _)).inn _
theorem fit_obs : Fits n (obsR n x) := (fit_rfe.un fit_fre).un fit_coe
theorem fit_d1 : Fits n (d1R n x) := fit_ctrl.th (only_fits _ _)
theorem fit_d2 : Fits n (d2R n x) := ((((fit_ctrl.un (fit_addr.th fit_po)).th (only_fits _ _)).th fit_po).th (only_fits _ _))
theorem fit_d3 : Fits n (d3R n x) := (fit_addr.th fit_po).th (only_fits _ _)
theorem fit_d4 : Fits n (d4R n x) := (fit_ctrl.un fit_data).th fit_coi
theorem fit_d5 : Fits n (d5R n x) := (fit_addr.un fit_data).th fit_rfi
theorem fit_dob : Fits n (dobR n x) := (((((fit_addr.un fit_data).un fit_d1).un fit_d2).un fit_d3).un fit_d4).un fit_d5
theorem fit_sec : Fits n (secR n x) := fit_rmw.tu.th fit_rmw
theorem fit_aob : Fits n (aobR n x) := fit_rmw.un ((fit_sec.th fit_rfi).th (only_fits _ _))
theorem fit_b1 : Fits n (b1R n x) := (fit_po.th (only_fits _ _)).th fit_po
theorem fit_b2 : Fits n (b2R n x) := ((only_fits _ _).th fit_po).th (only_fits _ _)
theorem fit_b3 : Fits n (b3R n x) := (((only_fits _ _).th fit_po).th (only_fits _ _)).th fit_po
theorem fit_b4 : Fits n (b4R n x) := (only_fits _ _).th fit_po
theorem fit_b5 : Fits n (b5R n x) := ((((only_fits _ _).th fit_po).th (only_fits _ _)).th fit_po).th (only_fits _ _)
theorem fit_b6 : Fits n (b6R n x) := fit_po.th (only_fits _ _)
theorem fit_b7 : Fits n (b7R n x) := (fit_po.th (only_fits _ _)).th fit_coi
theorem fit_bob : Fits n (bobR n x) := (((((fit_b1.un fit_b2).un fit_b3).un fit_b4).un fit_b5).un fit_b6).un fit_b7
theorem fit_all : Fits n (allR n x) := ((fit_obs.un fit_dob).un fit_aob).un fit_bob
theorem fit_ob : Fits n (obR n x) := fit_all.wa n
theorem fit_inb : Fits n (inbR n x) := (((fit_po.inn _).un fit_rf).un fit_co).un fit_fr
theorem fit_ato : Fits n (atoR n x) := fit_rmw.inn _
/-- The three. -/
theorem loopF_no {R : Nat → Nat → Bool} (h : Fits n R) : (!(loopF n R).isSome) = true ↔ ∀ a, ¬ Rlw.Way (fun u v => R u v = true) a a := by
  rw [Bool.not_eq_true', Bool.eq_false_iff, Ne, loopF_iff h]
  exact ⟨fun k a ha => k ⟨a, ha⟩, fun k ⟨a, ha⟩ => k a ha⟩
theorem intV_iff : intV n x = true ↔ ∀ a, ¬ Rlw.Way (fun u v => inbR n x u v = true) a a := loopF_no fit_inb
theorem extV_iff : extV n x = true ↔ ∀ a, ¬ Rlw.Way (fun u v => allR n x u v = true) a a := by
  unfold extV
  rw [loopF_no fit_ob]
  constructor
  · intro h a ha
    exact h a (Rlw.Way.mono (fun u v huv => (war_iff_way fit_all u v).2 (.one huv)) ha)
  · intro h a ha
    exact h a (Rlw.Way.closed (Rlw.Way.mono (fun u v huv => (war_iff_way fit_all u v).1 huv) ha))
theorem atoV_iff : atoV n x = true ↔ ∀ a b, atoR n x a b = false := by
  unfold atoV
  rw [decide_eq_true_eq, List.length_eq_zero_iff]
  constructor
  · intro h a b
    cases e : atoR n x a b with
    | false => rfl
    | true =>
      have : (a, b) ∈ prsN n n (atoR n x) := mem_prs.2 ⟨(fit_ato a b e).1, (fit_ato a b e).2, e⟩
      rw [h] at this
      cases this
  · intro h
    apply List.eq_nil_iff_forall_not_mem.2
    rintro ⟨a, b⟩ hm
    have := (mem_prs.1 hm).2.2
    rw [h] at this
    cases this
end
/-- One within the other. -/
def Le (R S : Nat → Nat → Bool) : Prop := ∀ a b, R a b = true → S a b = true
theorem Le.refl (R : Nat → Nat → Bool) : Le R R := fun _ _ h => h
theorem Le.th {n : Nat} {R R' S S' : Nat → Nat → Bool} (h : Le R R') (k : Le S S') : Le (thR n R S) (thR n R' S') := fun a c e => by
  obtain ⟨b, hb, h1, h2⟩ := thR_any.1 e
  exact thR_any.2 ⟨b, hb, h _ _ h1, k _ _ h2⟩
theorem Le.un {R R' S S' : Nat → Nat → Bool} (h : Le R R') (k : Le S S') : Le (unR R S) (unR R' S') := fun a c e => by
  rcases unR_iff.1 e with h1 | h1
  · exact unR_iff.2 (.inl (h _ _ h1))
  · exact unR_iff.2 (.inr (k _ _ h1))
theorem Le.only {n : Nat} {K K' : Nat → Bool} (h : ∀ a, K a = true → K' a = true) : Le (onlyR n K) (onlyR n K') := fun a b e => by
  obtain ⟨h1, h2, h3⟩ := onlyR_iff.1 e
  exact onlyR_iff.2 ⟨h1, h2, h _ h3⟩
end Go.Proofs.YtnedkielehmneaaGreatDoor.Axm
