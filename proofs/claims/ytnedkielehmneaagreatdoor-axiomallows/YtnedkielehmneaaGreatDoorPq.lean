/- What is kept of things that happen one behind the other. -/
import Derived.Test.YtnedkielehmneaaGreatDoorPl
namespace Go.Proofs.YtnedkielehmneaaGreatDoor.Axm
open Go.RowKit
set_option linter.unusedVariables false
set_option linter.unusedSimpArgs false
set_option maxRecDepth 8000

open Rlw
/-- One thing more. -/
theorem Serial.snoc {n : Nat} {x y : Nat → Ev} (S : Serial n x) {e : Ev} (h0 : ∀ a, a < n → y a = x a) (h1 : y n = e) (hpo : e.po = n) (hc : 0 ≤ e.core ∧ e.core < 8) (hf : formE e = true)
    (hw : e.kind = 2 → 1 ≤ e.stamp ∧ (∀ a, a < n → wt x a = true → (x a).stamp < e.stamp) ∧ ∀ a, a < n → rd x a = true → (x a).stamp < e.stamp)
    (hr : e.kind = 1 → (∀ a, a < n → wt x a = true → (x a).addr = e.addr → (x a).stamp ≤ e.stamp) ∧ ((e.stamp = 0 ∧ e.value = 0) ∨ (e.stamp ≠ 0 ∧ ∃ b, b < n ∧ wt x b = true ∧ (x b).addr = e.addr ∧ (x b).stamp = e.stamp ∧ (x b).value = e.value)))
    (hd : ∀ p, p ∈ e.adr ∨ p ∈ e.dat ∨ p ∈ e.ctl → ∃ a, a < n ∧ rd x a = true ∧ (x a).core = e.core ∧ p = (a : Int)) : Serial (n + 1) y := by
  have low : ∀ a, a < n + 1 → a ≠ n → a < n := fun a h k => by omega
  have rdl : ∀ a, a < n → rd y a = rd x a := fun a h => by simp only [rd, h0 a h]
  have wtl : ∀ a, a < n → wt y a = wt x a := fun a h => by simp only [wt, h0 a h]
  have rdn : rd y n = true → e.kind = 1 := fun h => by simpa [rd, h1] using h
  have wtn : wt y n = true → e.kind = 2 := fun h => by simpa [wt, h1] using h
  refine ⟨fun a ha => ?_, fun a b hab hb p q => ?_, fun a b hab hb p q r => ?_, fun a b hab hb p q => ?_, fun b hb p hp => ?_, fun a ha => ?_, fun a ha => ?_, fun a ha p => ?_, fun a ha p => ?_⟩
  · by_cases k : a = n
    · subst k; rw [h1]; exact hpo
    · rw [h0 a (low a ha k)]; exact S.po a (low a ha k)
  · have ha : a < n := by omega
    rw [wtl a ha] at p
    by_cases k : b = n
    · subst k; rw [h0 a ha, h1]; exact (hw (wtn q)).2.1 a ha p
    · have hb' := low b hb k
      rw [wtl b hb'] at q
      rw [h0 a ha, h0 b hb']; exact S.ww a b hab hb' p q
  · have ha : a < n := by omega
    rw [wtl a ha] at p
    by_cases k : b = n
    · subst k; rw [h0 a ha, h1] at r ⊢; exact (hr (rdn q)).1 a ha p r
    · have hb' := low b hb k
      rw [rdl b hb'] at q
      rw [h0 a ha, h0 b hb'] at r ⊢; exact S.wr a b hab hb' p q r
  · have ha : a < n := by omega
    rw [rdl a ha] at p
    by_cases k : b = n
    · subst k; rw [h0 a ha, h1]; exact (hw (wtn q)).2.2 a ha p
    · have hb' := low b hb k
      rw [wtl b hb'] at q
      rw [h0 a ha, h0 b hb']; exact S.rw a b hab hb' p q
  · by_cases k : b = n
    · subst k
      rw [h1] at hp ⊢
      obtain ⟨a, ha, h2, h3, h4⟩ := hd p hp
      exact ⟨a, ha, by rw [rdl a ha]; exact h2, by rw [h0 a ha]; exact h3, h4⟩
    · have hb' := low b hb k
      rw [h0 b hb'] at hp ⊢
      obtain ⟨a, ha, h2, h3, h4⟩ := S.dep b hb' p hp
      have ha' : a < n := by omega
      exact ⟨a, ha, by rw [rdl a ha']; exact h2, by rw [h0 a ha']; exact h3, h4⟩
  · by_cases k : a = n
    · subst k; rw [h1]; exact hc
    · rw [h0 a (low a ha k)]; exact S.core a (low a ha k)
  · by_cases k : a = n
    · subst k; rw [h1]; exact hf
    · rw [h0 a (low a ha k)]; exact S.form a (low a ha k)
  · by_cases k : a = n
    · subst k; rw [h1]; exact (hw (wtn p)).1
    · have ha' := low a ha k
      rw [wtl a ha'] at p
      rw [h0 a ha']; exact S.own a ha' p
  · have keep : ∀ b, b < n → wt x b = true → (y b) = x b ∧ wt y b = true := fun b hb q => ⟨h0 b hb, by rw [wtl b hb]; exact q⟩
    by_cases k : a = n
    · subst k
      rw [h1]
      rcases (hr (rdn p)).2 with q | ⟨q, b, hb, h2, h3, h4, h5⟩
      · exact .inl q
      · exact .inr ⟨q, b, by omega, (keep b hb h2).2, by rw [(keep b hb h2).1]; exact h3, by rw [(keep b hb h2).1]; exact h4, by rw [(keep b hb h2).1]; exact h5⟩
    · have ha' := low a ha k
      rw [rdl a ha'] at p
      rw [h0 a ha']
      rcases S.src a ha' p with q | ⟨q, b, hb, h2, h3, h4, h5⟩
      · exact .inl q
      · exact .inr ⟨q, b, by omega, (keep b hb h2).2, by rw [(keep b hb h2).1]; exact h3, by rw [(keep b hb h2).1]; exact h4, by rw [(keep b hb h2).1]; exact h5⟩
theorem serial_zero (x : Nat → Ev) : Serial 0 x := ⟨fun _ h => by omega, fun _ _ _ h => by omega, fun _ _ _ h => by omega, fun _ _ _ h => by omega, fun _ h => by omega, fun _ h => by omega, fun _ h => by omega, fun _ h => by omega, fun _ h => by omega⟩
/-- What is kept of the writes: the last stamp, and for each of four addresses the last stamp and value. -/
structure Kept (n : Nat) (x : Nat → Ev) (m : Nat) (st : Nat → Nat) (va : Nat → Int) : Prop where
  s : Serial n x
  up : ∀ a, a < n → (rd x a = true ∨ wt x a = true) → (x a).stamp ≤ m
  le : ∀ k, k < 4 → st k ≤ m
  top : ∀ (a k : Nat), a < n → k < 4 → wt x a = true → (x a).addr = 8 * (k : Int) → (x a).stamp ≤ st k
  src : ∀ k, k < 4 → (st k = 0 ∧ va k = 0) ∨ (st k ≠ 0 ∧ ∃ b, b < n ∧ wt x b = true ∧ (x b).addr = 8 * (k : Int) ∧ (x b).stamp = st k ∧ (x b).value = va k)
theorem kept_zero (x : Nat → Ev) : Kept 0 x 0 (fun _ => 0) (fun _ => 0) := ⟨serial_zero x, fun _ h => by omega, fun _ _ => Nat.le_refl _, fun _ _ h => by omega, fun _ _ => .inl ⟨rfl, rfl⟩⟩
section
variable {n m : Nat} {x y : Nat → Ev} {st : Nat → Nat} {va : Nat → Int} {e : Ev}
/-- A read, a fence, an isb. -/
theorem Kept.quiet (K : Kept n x m st va) (h0 : ∀ a, a < n → y a = x a) (h1 : y n = e) (S : Serial (n + 1) y) (hk : e.kind ≠ 2) (hs : e.stamp ≤ m) : Kept (n + 1) y m st va := by
  have low : ∀ a, a < n + 1 → a ≠ n → a < n := fun a h k => by omega
  have nw : ¬ wt y n = true := fun h => hk (by simpa [wt, h1] using h)
  refine ⟨S, fun a ha p => ?_, K.le, fun a k ha hk4 p q => ?_, fun k hk4 => ?_⟩
  · by_cases k : a = n
    · subst k; rw [h1]; exact hs
    · have ha' := low a ha k
      rw [h0 a ha']
      exact K.up a ha' (by simpa only [rd, wt, h0 a ha'] using p)
  · by_cases k : a = n
    · subst k; exact absurd p nw
    · have ha' := low a ha k
      rw [h0 a ha'] at q ⊢
      exact K.top a _ ha' hk4 (by simpa only [wt, h0 a ha'] using p) q
  · rcases K.src k hk4 with q | ⟨q, b, hb, h2, h3, h4, h5⟩
    · exact .inl q
    · exact .inr ⟨q, b, by omega, by simpa only [wt, h0 b hb] using h2, by rw [h0 b hb]; exact h3, by rw [h0 b hb]; exact h4, by rw [h0 b hb]; exact h5⟩
theorem Kept.fence (K : Kept n x m st va) (h0 : ∀ a, a < n → y a = x a) (h1 : y n = e) (hpo : e.po = n) (hc : 0 ≤ e.core ∧ e.core < 8) (hf : formE e = true) (hk1 : e.kind ≠ 1) (hk2 : e.kind ≠ 2) (hs : e.stamp = 0) (hd : ∀ p, p ∈ e.adr ∨ p ∈ e.dat ∨ p ∈ e.ctl → ∃ a, a < n ∧ rd x a = true ∧ (x a).core = e.core ∧ p = (a : Int)) : Kept (n + 1) y m st va :=
  K.quiet h0 h1 (K.s.snoc h0 h1 hpo hc hf (fun h => absurd h hk2) (fun h => absurd h hk1) hd) hk2 (by omega)
theorem Kept.read (K : Kept n x m st va) (h0 : ∀ a, a < n → y a = x a) (h1 : y n = e) (hpo : e.po = n) (hc : 0 ≤ e.core ∧ e.core < 8) (hf : formE e = true) (hk : e.kind = 1) {k : Nat} (hk4 : k < 4) (ha : e.addr = 8 * (k : Int)) (hs : e.stamp = st k) (hv : e.value = va k) (hd : ∀ p, p ∈ e.adr ∨ p ∈ e.dat ∨ p ∈ e.ctl → ∃ a, a < n ∧ rd x a = true ∧ (x a).core = e.core ∧ p = (a : Int)) : Kept (n + 1) y m st va := by
  refine K.quiet h0 h1 (K.s.snoc h0 h1 hpo hc hf (fun h => by omega) (fun _ => ⟨fun a ha' p q => by rw [hs]; exact K.top a k ha' hk4 p (by rw [q, ha]), ?_⟩) hd) (by omega) (by have := K.le k hk4; omega)
  rcases K.src k hk4 with ⟨q1, q2⟩ | ⟨q, b, hb, h2, h3, h4, h5⟩
  · exact .inl ⟨by rw [hs, q1]; rfl, by rw [hv, q2]⟩
  · exact .inr ⟨by rw [hs]; omega, b, hb, h2, by rw [h3, ha], by rw [h4, hs], by rw [h5, hv]⟩
def setN {α : Type} (f : Nat → α) (k : Nat) (v : α) : Nat → α := fun j => if j = k then v else f j
theorem Kept.write (K : Kept n x m st va) (h0 : ∀ a, a < n → y a = x a) (h1 : y n = e) (hpo : e.po = n) (hc : 0 ≤ e.core ∧ e.core < 8) (hf : formE e = true) (hk : e.kind = 2) {k : Nat} (hk4 : k < 4) (ha : e.addr = 8 * (k : Int)) (hs : e.stamp = ((m + 1 : Nat) : Int)) (hd : ∀ p, p ∈ e.adr ∨ p ∈ e.dat ∨ p ∈ e.ctl → ∃ a, a < n ∧ rd x a = true ∧ (x a).core = e.core ∧ p = (a : Int)) : Kept (n + 1) y (m + 1) (setN st k (m + 1)) (setN va k e.value) := by
  have low : ∀ a, a < n + 1 → a ≠ n → a < n := fun a h k => by omega
  have S : Serial (n + 1) y := K.s.snoc h0 h1 hpo hc hf (fun _ => ⟨by omega, fun a ha' p => by have := K.up a ha' (.inr p); omega, fun a ha' p => by have := K.up a ha' (.inl p); omega⟩) (fun h => by omega) hd
  refine ⟨S, fun a ha' p => ?_, fun j hj => ?_, fun a j ha' hj p q => ?_, fun j hj => ?_⟩
  · by_cases c : a = n
    · subst c; rw [h1, hs]; exact Int.le_refl _
    · have hb := low a ha' c
      rw [h0 a hb]
      have := K.up a hb (by simpa only [rd, wt, h0 a hb] using p)
      omega
  · unfold setN
    have := K.le j hj
    split <;> omega
  · unfold setN
    by_cases c : a = n
    · subst c
      rw [h1] at q ⊢
      have : j = k := by rw [ha] at q; omega
      rw [if_pos this, hs]; exact Int.le_refl _
    · have hb := low a ha' c
      rw [h0 a hb] at q ⊢
      have p' : wt x a = true := by simpa only [wt, h0 a hb] using p
      have h3 := K.top a j hb hj p' q
      have h4 := K.up a hb (.inr p')
      split <;> omega
  · unfold setN
    by_cases c : j = k
    · rw [if_pos c, if_pos c]
      exact .inr ⟨by omega, n, by omega, by simp [wt, h1, hk], by rw [h1, ha, c], by rw [h1, hs], by rw [h1]⟩
    · rw [if_neg c, if_neg c]
      rcases K.src j hj with q | ⟨q, b, hb, h2, h3, h4, h5⟩
      · exact .inl q
      · exact .inr ⟨q, b, by omega, by simpa only [wt, h0 b hb] using h2, by rw [h0 b hb]; exact h3, by rw [h0 b hb]; exact h4, by rw [h0 b hb]; exact h5⟩
end
end Go.Proofs.YtnedkielehmneaaGreatDoor.Axm
