/- Events in another order. -/
import Derived.Test.YtnedkielehmneaaGreatDoorPb
namespace Go.Proofs.YtnedkielehmneaaGreatDoor.Axm
open Go.RowKit
set_option linter.unusedVariables false
set_option linter.unusedSimpArgs false
set_option maxRecDepth 8000

open Rlw
/-- Another order of n things. -/
structure Turn (n : Nat) (s t : Nat → Nat) : Prop where
  ls : ∀ a, a < n → s a < n
  lt : ∀ a, a < n → t a < n
  ts : ∀ a, a < n → t (s a) = a
  st : ∀ a, a < n → s (t a) = a
structure Iso (n : Nat) (s : Nat → Nat) (R S : Nat → Nat → Bool) : Prop where
  fr : Fits n R
  fs : Fits n S
  eq : ∀ a b, a < n → b < n → S a b = R (s a) (s b)
section
variable {n : Nat} {s t : Nat → Nat} (P : Turn n s t)
include P
theorem Iso.th {R S R' S' : Nat → Nat → Bool} (h : Iso n s R S) (k : Iso n s R' S') : Iso n s (thR n R R') (thR n S S') := ⟨h.fr.th k.fr, h.fs.th k.fs, fun a c ha hc => by
  rw [Bool.eq_iff_iff, thR_any, thR_any]
  constructor
  · rintro ⟨b, hb, h1, h2⟩
    exact ⟨s b, P.ls b hb, by rw [← h.eq a b ha hb]; exact h1, by rw [← k.eq b c hb hc]; exact h2⟩
  · rintro ⟨b, hb, h1, h2⟩
    have e := P.st b hb
    have hb' := P.lt b hb
    exact ⟨t b, hb', by rw [h.eq a _ ha hb', e]; exact h1, by rw [k.eq _ c hb' hc, e]; exact h2⟩⟩
omit P in
theorem Iso.un {R S R' S' : Nat → Nat → Bool} (h : Iso n s R S) (k : Iso n s R' S') : Iso n s (unR R R') (unR S S') := ⟨h.fr.un k.fr, h.fs.un k.fs, fun a c ha hc => by simp only [unR, h.eq a c ha hc, k.eq a c ha hc]⟩
omit P in
theorem Iso.inn {R S R' S' : Nat → Nat → Bool} (h : Iso n s R S) (k : Iso n s R' S') : Iso n s (inR R R') (inR S S') := ⟨h.fr.inn _, h.fs.inn _, fun a c ha hc => by simp only [inR, h.eq a c ha hc, k.eq a c ha hc]⟩
omit P in
theorem Iso.mi {R S R' S' : Nat → Nat → Bool} (h : Iso n s R S) (k : Iso n s R' S') : Iso n s (miR R R') (miR S S') := ⟨h.fr.mi _, h.fs.mi _, fun a c ha hc => by simp only [miR, h.eq a c ha hc, k.eq a c ha hc]⟩
omit P in
theorem Iso.tu {R S : Nat → Nat → Bool} (h : Iso n s R S) : Iso n s (tuR R) (tuR S) := ⟨h.fr.tu, h.fs.tu, fun a c ha hc => by simp only [tuR, h.eq c a hc ha]⟩
theorem iso_such {A B : Nat → Nat → Bool} (h : ∀ a b, a < n → b < n → B a b = A (s a) (s b)) : Iso n s (suchR n A) (suchR n B) := ⟨such_fits _ _, such_fits _ _, fun a b ha hb => by
  have h1 := P.ls a ha; have h2 := P.ls b hb
  simp [suchR, ha, hb, h1, h2, h a b ha hb]⟩
theorem iso_only {A B : Nat → Bool} (h : ∀ a, a < n → B a = A (s a)) : Iso n s (onlyR n A) (onlyR n B) := ⟨only_fits _ _, only_fits _ _, fun a b ha hb => by
  have h1 := P.ls a ha
  have e : (b = a) ↔ (s b = s a) := ⟨fun e => by rw [e], fun e => by rw [← P.ts a ha, ← e, P.ts b hb]⟩
  rw [Bool.eq_iff_iff, onlyR_iff, onlyR_iff, e, h a ha]
  exact ⟨fun k => ⟨h1, k.2⟩, fun k => ⟨ha, k.2⟩⟩⟩
theorem some_turn {A B : Nat → Bool} (h : ∀ a, a < n → B a = A (s a)) : someB n B = someB n A := by
  rw [Bool.eq_iff_iff, someB_iff, someB_iff]
  constructor
  · rintro ⟨a, ha, k⟩
    exact ⟨s a, P.ls a ha, by rw [← h a ha]; exact k⟩
  · rintro ⟨a, ha, k⟩
    exact ⟨t a, P.lt a ha, by rw [h _ (P.lt a ha), P.st a ha]; exact k⟩
theorem all_turn {A B : Nat → Bool} (h : ∀ a, a < n → B a = A (s a)) : allB n B = allB n A := by
  rw [Bool.eq_iff_iff, allB_iff, allB_iff]
  constructor
  · intro k a ha
    have := k _ (P.lt a ha)
    rwa [h _ (P.lt a ha), P.st a ha] at this
  · intro k a ha
    rw [h a ha]; exact k _ (P.ls a ha)
omit P in
theorem way_to {R S : Nat → Nat → Bool} (h : Iso n s R S) {a b : Nat} (w : Rlw.Way (fun u v => S u v = true) a b) : Rlw.Way (fun u v => R u v = true) (s a) (s b) := by
  induction w with
  | one e => have f := h.fs _ _ e; exact .one (by rw [← h.eq _ _ f.1 f.2]; exact e)
  | more e _ ih => have f := h.fs _ _ e; exact .more (by rw [← h.eq _ _ f.1 f.2]; exact e) ih
theorem way_back {R S : Nat → Nat → Bool} (h : Iso n s R S) {a b : Nat} (w : Rlw.Way (fun u v => R u v = true) a b) : Rlw.Way (fun u v => S u v = true) (t a) (t b) := by
  have one : ∀ u v, R u v = true → S (t u) (t v) = true := fun u v e => by
    have f := h.fr _ _ e
    rw [h.eq _ _ (P.lt u f.1) (P.lt v f.2), P.st u f.1, P.st v f.2]; exact e
  induction w with
  | one e => exact .one (one _ _ e)
  | more e _ ih => exact .more (one _ _ e) ih
theorem loops {R S : Nat → Nat → Bool} (h : Iso n s R S) : (∀ a, ¬ Rlw.Way (fun u v => S u v = true) a a) ↔ ∀ a, ¬ Rlw.Way (fun u v => R u v = true) a a :=
  ⟨fun k a w => k _ (way_back P h w), fun k a w => k _ (way_to h w)⟩
variable {x y : Nat → Ev} (hy : ∀ a, a < n → y a = x (s a))
include hy
theorem t_form (a : Nat) (ha : a < n) : formed n y a = formed n x (s a) := by
  have e : twin n y a = twin n x (s a) := some_turn P fun b hb => by
    have q : (a = b) ↔ (s a = s b) := ⟨fun e => by rw [e], fun e => by rw [← P.ts a ha, e, P.ts b hb]⟩
    simp only [onePlace, oneCore, hy a ha, hy b hb, q]
  unfold formed
  rw [e, hy a ha]
theorem t_some (core po : Int) : (readAt n y core po).isSome = (readAt n x core po).isSome := by
  rw [Bool.eq_iff_iff, readAt_isSome, readAt_isSome, ← someB_iff, ← someB_iff, some_turn P (A := isAt x core po) (B := isAt y core po) fun a ha => by simp only [isAt, rd, hy a ha]]
theorem t_behind (a : Nat) (ha : a < n) (l : List Int) : behind n y a l = behind n x (s a) l := by
  unfold behind
  rw [hy a ha]
  congr 1
  funext p
  rw [t_some P hy]
theorem t_agrees (a : Nat) (ha : a < n) : agrees n y a = agrees n x (s a) := by
  have q : ∀ b, b < n → ((a = b) ↔ (s a = s b)) := fun b hb => ⟨fun e => by rw [e], fun e => by rw [← P.ts a ha, e, P.ts b hb]⟩
  have e1 : ownStamp n y a = ownStamp n x (s a) := by
    unfold ownStamp
    rw [hy a ha, some_turn P (A := fun b => !decide (s a = b) && wt x b && oneStamp x (s a) b) fun b hb => by simp only [wt, oneStamp, oneAddr, touch, rd, hy a ha, hy b hb, q b hb]]
  have f1 : (someB n fun b => rd y b && oneStamp y a b && !decide ((y a).value = (y b).value)) = someB n fun b => rd x b && oneStamp x (s a) b && !decide ((x (s a)).value = (x b).value) := some_turn P fun b hb => by simp only [wt, oneStamp, oneAddr, touch, rd, hy a ha, hy b hb]
  have f2 : (someB n fun b => wt y b && oneStamp y a b && decide ((y a).value = (y b).value)) = someB n fun b => wt x b && oneStamp x (s a) b && decide ((x (s a)).value = (x b).value) := some_turn P fun b hb => by simp only [wt, oneStamp, oneAddr, touch, rd, hy a ha, hy b hb]
  have e2 : readRight n y a = readRight n x (s a) := by
    unfold readRight
    rw [f1, f2, hy a ha]
  have e3 : wt y a = wt x (s a) := by simp only [wt, hy a ha]
  have e4 : rd y a = rd x (s a) := by simp only [rd, hy a ha]
  unfold agrees
  rw [e1, e2, e3, e4, t_behind P hy a ha, t_behind P hy a ha, t_behind P hy a ha, hy a ha]
theorem t_right : rightE n y = rightE n x := by
  unfold rightE
  rw [all_turn P (t_form P hy), all_turn P (t_agrees P hy)]
theorem i_po : Iso n s (poR n x) (poR n y) := iso_such P fun a b ha hb => by simp only [poB, oneCore, hy a ha, hy b hb]
theorem i_loc : Iso n s (locR n x) (locR n y) := iso_such P fun a b ha hb => by simp only [oneAddr, touch, rd, wt, hy a ha, hy b hb]
theorem i_core : Iso n s (coreR n x) (coreR n y) := iso_such P fun a b ha hb => by simp only [oneCore, hy a ha, hy b hb]
theorem i_rf : Iso n s (rfR n x) (rfR n y) := iso_such P fun a b ha hb => by simp only [rfB, oneStamp, oneAddr, touch, rd, wt, hy a ha, hy b hb]
theorem i_older : Iso n s (olderR n x) (olderR n y) := iso_such P fun a b ha hb => by simp only [olderB, oneAddr, touch, rd, wt, hy a ha, hy b hb]
theorem k_rd : Iso n s (onlyR n (rd x)) (onlyR n (rd y)) := iso_only P fun a ha => by simp only [rd, hy a ha]
theorem k_wt : Iso n s (onlyR n (wt x)) (onlyR n (wt y)) := iso_only P fun a ha => by simp only [wt, hy a ha]
theorem k_ib : Iso n s (onlyR n (ib x)) (onlyR n (ib y)) := iso_only P fun a ha => by simp only [ib, hy a ha]
theorem k_exc : Iso n s (onlyR n (exc x)) (onlyR n (exc y)) := iso_only P fun a ha => by simp only [exc, hy a ha]
theorem k_full : Iso n s (onlyR n (full x)) (onlyR n (full y)) := iso_only P fun a ha => by simp only [full, hy a ha]
theorem k_ld : Iso n s (onlyR n (ld x)) (onlyR n (ld y)) := iso_only P fun a ha => by simp only [ld, full, hy a ha]
theorem k_st : Iso n s (onlyR n (st x)) (onlyR n (st y)) := iso_only P fun a ha => by simp only [st, full, hy a ha]
theorem k_acqs : Iso n s (onlyR n (acqs x)) (onlyR n (acqs y)) := iso_only P fun a ha => by simp only [acqs, rd, hy a ha]
theorem k_takes : Iso n s (onlyR n (takes x)) (onlyR n (takes y)) := iso_only P fun a ha => by simp only [takes, rd, hy a ha]
theorem k_rels : Iso n s (onlyR n (rels x)) (onlyR n (rels y)) := iso_only P fun a ha => by simp only [rels, wt, hy a ha]
theorem i_co : Iso n s (coR n x) (coR n y) := Iso.th P (k_wt P hy) (i_older P hy)
theorem i_fr : Iso n s (frR n x) (frR n y) := Iso.th P (k_rd P hy) (i_older P hy)
theorem i_rfi : Iso n s (rfiR n x) (rfiR n y) := (i_rf P hy).inn (i_core P hy)
theorem i_rfe : Iso n s (rfeR n x) (rfeR n y) := (i_rf P hy).mi (i_core P hy)
theorem i_coi : Iso n s (coiR n x) (coiR n y) := (i_co P hy).inn (i_core P hy)
theorem i_coe : Iso n s (coeR n x) (coeR n y) := (i_co P hy).mi (i_core P hy)
theorem i_fre : Iso n s (freR n x) (freR n y) := (i_fr P hy).mi (i_core P hy)
theorem i_beh : Iso n s (behR n x) (behR n y) := Iso.th P (Iso.th P (k_exc P hy) (i_po P hy)) (k_exc P hy)
theorem i_next : Iso n s (nextR n x) (nextR n y) := (i_beh P hy).mi (Iso.th P (i_beh P hy) (i_beh P hy))
theorem i_rmw : Iso n s (rmwR n x) (rmwR n y) := (Iso.th P (Iso.th P (k_rd P hy) (i_next P hy)) (k_wt P hy)).inn (i_loc P hy)
theorem i_inb : Iso n s (inbR n x) (inbR n y) := ((((i_po P hy).inn (i_loc P hy)).un (i_rf P hy)).un (i_co P hy)).un (i_fr P hy)
theorem i_ato : Iso n s (atoR n x) (atoR n y) := (i_rmw P hy).inn (Iso.th P (i_fre P hy) (i_coe P hy))
end
/-- Places of their own. -/
def Own (n : Nat) (x : Nat → Ev) : Prop := ∀ a b, a < n → b < n → onePlace x a b = true → a = b
theorem own_right {n : Nat} {x : Nat → Ev} (h : rightE n x = 0) : Own n x := fun a b ha hb e => by
  have h1 : allB n (formed n x) = true := by
    cases k : allB n (formed n x) with
    | true => rfl
    | false =>
      unfold rightE at h
      rw [k] at h
      split at h
      · cases h
      · cases h
  have h2 := allB_iff.1 h1 a ha
  have h3 : twin n x a = false := by
    cases k : twin n x a with
    | false => rfl
    | true =>
      unfold formed at h2
      rw [k] at h2
      simp at h2
  have := someB_no.1 h3 b hb
  rw [e] at this
  simpa using this
theorem readAt_own {n : Nat} {x : Nat → Ev} (h : Own n x) {core po : Int} {a : Nat} : readAt n x core po = some a ↔ a < n ∧ isAt x core po a = true := by
  constructor
  · exact readAt_some
  · rintro ⟨ha, hi⟩
    cases k : readAt n x core po with
    | none => rw [Rlw.find_none.1 k a ha] at hi; cases hi
    | some b =>
      obtain ⟨hb, hj⟩ := readAt_some k
      have e1 := isAt_iff.1 hi
      have e2 := isAt_iff.1 hj
      rw [h b a hb ha (by simp [onePlace, oneCore, e1.2.1, e2.2.1, e1.2.2, e2.2.2])]
theorem dep_iff {n : Nat} {x : Nat → Ev} (h : Own n x) {f : Ev → List Int} {a b : Nat} : depR n x f a b = true ↔ a < n ∧ b < n ∧ ∃ p, p ∈ f (x b) ∧ isAt x (x b).core p a = true := by
  simp only [depR, Bool.and_eq_true, decide_eq_true_eq, List.any_eq_true, beq_iff_eq, readAt_own h]
  constructor
  · rintro ⟨hb, p, hp, ha, hi⟩; exact ⟨ha, hb, p, hp, hi⟩
  · rintro ⟨ha, hb, p, hp, hi⟩; exact ⟨hb, p, hp, ha, hi⟩
section
variable {n : Nat} {s t : Nat → Nat} (P : Turn n s t) {x y : Nat → Ev} (hy : ∀ a, a < n → y a = x (s a)) (ox : Own n x) (oy : Own n y)
include P hy ox oy
theorem i_dep (f : Ev → List Int) : Iso n s (depR n x f) (depR n y f) := ⟨fit_dep _, fit_dep _, fun a b ha hb => by
  rw [Bool.eq_iff_iff, dep_iff oy, dep_iff ox]
  have h1 := P.ls a ha; have h2 := P.ls b hb
  simp only [isAt_iff, hy a ha, hy b hb, ha, hb, h1, h2, true_and]⟩
theorem i_dob : Iso n s (dobR n x) (dobR n y) := by
  have A : Iso n s (addrR n x) (addrR n y) := i_dep P hy ox oy _
  have D : Iso n s (dataR n x) (dataR n y) := i_dep P hy ox oy _
  have C : Iso n s (ctrlR n x) (ctrlR n y) := i_dep P hy ox oy _
  have po := i_po P hy
  exact (((((A.un D).un (Iso.th P C (k_wt P hy))).un (Iso.th P (Iso.th P (Iso.th P (C.un (Iso.th P A po)) (k_ib P hy)) po) (k_rd P hy))).un (Iso.th P (Iso.th P A po) (k_wt P hy))).un (Iso.th P (C.un D) (i_coi P hy))).un (Iso.th P (A.un D) (i_rfi P hy))
omit ox oy in
theorem i_aob : Iso n s (aobR n x) (aobR n y) := (i_rmw P hy).un (Iso.th P (Iso.th P (Iso.th P (i_rmw P hy).tu (i_rmw P hy)) (i_rfi P hy)) (k_takes P hy))
omit ox oy in
theorem i_bob : Iso n s (bobR n x) (bobR n y) := by
  have po := i_po P hy
  exact ((((((Iso.th P (Iso.th P po (k_full P hy)) po).un (Iso.th P (Iso.th P (k_rels P hy) po) (k_acqs P hy))).un (Iso.th P (Iso.th P (Iso.th P (k_rd P hy) po) (k_ld P hy)) po)).un (Iso.th P (k_takes P hy) po)).un (Iso.th P (Iso.th P (Iso.th P (Iso.th P (k_wt P hy) po) (k_st P hy)) po) (k_wt P hy))).un (Iso.th P po (k_rels P hy))).un (Iso.th P (Iso.th P po (k_rels P hy)) (i_coi P hy))
theorem i_all : Iso n s (allR n x) (allR n y) := (((((i_rfe P hy).un (i_fre P hy)).un (i_coe P hy)).un (i_dob P hy ox oy)).un (i_aob P hy)).un (i_bob P hy)
theorem turn_ext : extV n y = extV n x := by
  rw [Bool.eq_iff_iff, extV_iff, extV_iff]
  exact loops P (i_all P hy ox oy)
omit ox oy in
theorem turn_int : intV n y = intV n x := by
  rw [Bool.eq_iff_iff, intV_iff, intV_iff]
  exact loops P (i_inb P hy)
omit ox oy in
theorem turn_ato : atoV n y = atoV n x := by
  have h := i_ato P hy
  rw [Bool.eq_iff_iff, atoV_iff, atoV_iff]
  constructor
  · intro k a b
    cases e : atoR n x a b with
    | false => rfl
    | true =>
      have f := h.fr _ _ e
      have := k (t a) (t b)
      rw [h.eq _ _ (P.lt a f.1) (P.lt b f.2), P.st a f.1, P.st b f.2, e] at this
      cases this
  · intro k a b
    cases e : atoR n y a b with
    | false => rfl
    | true =>
      have f := h.fs _ _ e
      rw [h.eq a b f.1 f.2, k] at e
      cases e
end
/-- Behind, from the k-th on, backwards. -/
def back (n k : Nat) (a : Nat) : Nat := (n - 1 - a + k) % n
theorem back_turn {n k : Nat} (hk : k < n) : Turn n (back n k) (back n k) := by
  have h : ∀ a, a < n → back n k a < n := fun a ha => Nat.mod_lt _ (by omega)
  have h2 : ∀ a, a < n → back n k (back n k a) = a := fun a ha => by
    unfold back
    have e : n - 1 - a + k < n ∨ n ≤ n - 1 - a + k := by omega
    rcases e with e | e
    · rw [Nat.mod_eq_of_lt e]
      rw [show n - 1 - (n - 1 - a + k) + k = a by omega]
      exact Nat.mod_eq_of_lt ha
    · have e1 : (n - 1 - a + k) % n = n - 1 - a + k - n := by rw [Nat.mod_eq_sub_mod e, Nat.mod_eq_of_lt (by omega)]
      rw [e1, show n - 1 - (n - 1 - a + k - n) + k = a + n by omega, Nat.add_mod_right]
      exact Nat.mod_eq_of_lt ha
  exact ⟨h, h, h2, h2⟩
end Go.Proofs.YtnedkielehmneaaGreatDoor.Axm
