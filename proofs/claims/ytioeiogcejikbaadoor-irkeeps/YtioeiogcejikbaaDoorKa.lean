/- What a run leaves as it was. -/
import Derived.Test.YtioeiogcejikbaaDoorFa
namespace Go.Proofs.YtioeiogcejikbaaDoor
open Go.RowKit
set_option linter.unusedVariables false
set_option linter.unusedSimpArgs false
set_option maxRecDepth 8000

/-- Some operation from the k-th on is such. -/
def Ex (l : List Opr) (k : Nat) (p : Opr → Prop) : Prop := ∃ q, k ≤ q ∧ q < l.length ∧ p (opAt l q)
theorem Ex.no {l : List Opr} {k : Nat} {p : Opr → Prop} {A : Prop} (h : A ∨ Ex l k p) (hn : ¬ p (opAt l k)) : A ∨ Ex l (k + 1) p := by
  rcases h with h | ⟨q, h1, h2, h3⟩
  · exact .inl h
  · refine .inr ⟨q, ?_, h2, h3⟩
    rcases Nat.lt_or_ge k q with hq | hq
    · exact hq
    · obtain rfl : q = k := by omega
      exact absurd h3 hn
theorem Ex.end_ {l : List Opr} {p : Opr → Prop} {A : Prop} (h : A ∨ Ex l l.length p) : A := by
  rcases h with h | ⟨q, h1, h2, _⟩
  · exact h
  · omega
/-- What differs is set by an operation from the k-th on (the PC aside). -/
structure Und (l : List Opr) (e : Int) (c0 : Cor) (k : Nat) (d : Cor) : Prop where
  x : ∀ (i : Nat) (h : i < 31), d.x[i] = c0.x[i] ∨ Ex l k (fun o => o.kind = 3 ∧ o.r = (i : Int))
  s0 : d.sp0 = c0.sp0 ∨ Ex l k (fun o => o.kind = 5 ∧ e = 0)
  s1 : d.sp1 = c0.sp1 ∨ Ex l k (fun o => o.kind = 5 ∧ e = 1)
  n : d.n = c0.n ∨ Ex l k (fun o => o.kind = 7 ∧ o.r = 0)
  z : d.z = c0.z ∨ Ex l k (fun o => o.kind = 7 ∧ o.r = 1)
  c : d.c = c0.c ∨ Ex l k (fun o => o.kind = 7 ∧ o.r = 2)
  v : d.v = c0.v ∨ Ex l k (fun o => o.kind = 7 ∧ o.r = 3)
  rest : d.el = c0.el ∧ d.mask = c0.mask ∧ d.spsr = c0.spsr ∧ d.elr = c0.elr ∧ d.esr = c0.esr ∧ d.far = c0.far ∧ d.vbar = c0.vbar ∧ d.tpidr = c0.tpidr ∧ d.id = c0.id ∧ d.wait = c0.wait ∧ d.event = c0.event
theorem Und.start (l : List Opr) (e : Int) (c : Cor) : Und l e c 0 c := ⟨fun _ _ => .inl rfl, .inl rfl, .inl rfl, .inl rfl, .inl rfl, .inl rfl, .inl rfl, ⟨rfl, rfl, rfl, rfl, rfl, rfl, rfl, rfl, rfl, rfl, rfl⟩⟩
theorem Und.pc {l : List Opr} {e : Int} {c d : Cor} {k : Nat} (h : Und l e c k d) (p : Int) : Und l e c k { d with pc := p } := ⟨h.x, h.s0, h.s1, h.n, h.z, h.c, h.v, h.rest⟩
theorem Und.end_ {l : List Opr} {e : Int} {c d : Cor} (h : Und l e c l.length d) (hp : d.pc = c.pc) : d = c := by
  have hx : d.x = c.x := Vector.ext fun i hi => Ex.end_ (h.x i hi)
  have h0 := Ex.end_ h.s0
  have h1 := Ex.end_ h.s1
  have h2 := Ex.end_ h.n
  have h3 := Ex.end_ h.z
  have h4 := Ex.end_ h.c
  have h5 := Ex.end_ h.v
  obtain ⟨r1, r2, r3, r4, r5, r6, r7, r8, r9, r10, r11⟩ := h.rest
  obtain ⟨x, sp0, sp1, pc, n, z, cc, v, el, mask, spsr, elr, esr, far, vbar, tpidr, id, wait, event⟩ := c
  obtain ⟨x', sp0', sp1', pc', n', z', cc', v', el', mask', spsr', elr', esr', far', vbar', tpidr', id', wait', event'⟩ := d
  simp_all
theorem Und.no {l : List Opr} {e : Int} {c d : Cor} {k : Nat} (h : Und l e c k d) (h3 : (opAt l k).kind ≠ 3) (h5 : (opAt l k).kind ≠ 5) (h7 : (opAt l k).kind ≠ 7) : Und l e c (k + 1) d :=
  ⟨fun i hi => Ex.no (h.x i hi) (fun q => h3 q.1), Ex.no h.s0 (fun q => h5 q.1), Ex.no h.s1 (fun q => h5 q.1), Ex.no h.n (fun q => h7 q.1), Ex.no h.z (fun q => h7 q.1), Ex.no h.c (fun q => h7 q.1), Ex.no h.v (fun q => h7 q.1), h.rest⟩
theorem Und.setx {l : List Opr} {e : Int} {c d : Cor} {k i : Nat} (h : Und l e c k d) (hk : (opAt l k).kind = 3) (hr : (opAt l k).r = (i : Int)) (hi : i < 31) : Und l e c (k + 1) { d with x := d.x.set i c.x[i] } := by
  have n5 : (opAt l k).kind ≠ 5 := by omega
  have n7 : (opAt l k).kind ≠ 7 := by omega
  refine ⟨fun j hj => ?_, Ex.no h.s0 (fun q => n5 q.1), Ex.no h.s1 (fun q => n5 q.1), Ex.no h.n (fun q => n7 q.1), Ex.no h.z (fun q => n7 q.1), Ex.no h.c (fun q => n7 q.1), Ex.no h.v (fun q => n7 q.1), h.rest⟩
  show (d.x.set i c.x[i])[j] = _ ∨ _
  by_cases hij : i = j
  · subst hij
    exact .inl (by simp)
  · rw [Vector.getElem_set_ne _ _ hij]
    exact Ex.no (h.x j hj) (fun q => hij (by have := q.2; rw [hr] at this; omega))
theorem Und.set_s0 {l : List Opr} {e : Int} {c d : Cor} {k : Nat} (h : Und l e c k d) (hk : (opAt l k).kind = 5) (he : e = 0) : Und l e c (k + 1) { d with sp0 := c.sp0 } :=
  ⟨fun i hi => Ex.no (h.x i hi) (fun q => by have h1 := q.1; omega), .inl rfl, Ex.no h.s1 (fun q => by have h1 := q.1; have h2 := q.2; omega), Ex.no h.n (fun q => by have h1 := q.1; have h2 := q.2; omega), Ex.no h.z (fun q => by have h1 := q.1; have h2 := q.2; omega), Ex.no h.c (fun q => by have h1 := q.1; have h2 := q.2; omega), Ex.no h.v (fun q => by have h1 := q.1; have h2 := q.2; omega), h.rest⟩
theorem Und.set_s1 {l : List Opr} {e : Int} {c d : Cor} {k : Nat} (h : Und l e c k d) (hk : (opAt l k).kind = 5) (he : e = 1) : Und l e c (k + 1) { d with sp1 := c.sp1 } :=
  ⟨fun i hi => Ex.no (h.x i hi) (fun q => by have h1 := q.1; omega), Ex.no h.s0 (fun q => by have h1 := q.1; have h2 := q.2; omega), .inl rfl, Ex.no h.n (fun q => by have h1 := q.1; have h2 := q.2; omega), Ex.no h.z (fun q => by have h1 := q.1; have h2 := q.2; omega), Ex.no h.c (fun q => by have h1 := q.1; have h2 := q.2; omega), Ex.no h.v (fun q => by have h1 := q.1; have h2 := q.2; omega), h.rest⟩
theorem Und.set_n {l : List Opr} {e : Int} {c d : Cor} {k : Nat} (h : Und l e c k d) (hk : (opAt l k).kind = 7) (hr : (opAt l k).r = 0) : Und l e c (k + 1) { d with n := c.n } :=
  ⟨fun i hi => Ex.no (h.x i hi) (fun q => by have h1 := q.1; omega), Ex.no h.s0 (fun q => by have h1 := q.1; have h2 := q.2; omega), Ex.no h.s1 (fun q => by have h1 := q.1; have h2 := q.2; omega), .inl rfl, Ex.no h.z (fun q => by have h1 := q.1; have h2 := q.2; omega), Ex.no h.c (fun q => by have h1 := q.1; have h2 := q.2; omega), Ex.no h.v (fun q => by have h1 := q.1; have h2 := q.2; omega), h.rest⟩
theorem Und.set_z {l : List Opr} {e : Int} {c d : Cor} {k : Nat} (h : Und l e c k d) (hk : (opAt l k).kind = 7) (hr : (opAt l k).r = 1) : Und l e c (k + 1) { d with z := c.z } :=
  ⟨fun i hi => Ex.no (h.x i hi) (fun q => by have h1 := q.1; omega), Ex.no h.s0 (fun q => by have h1 := q.1; have h2 := q.2; omega), Ex.no h.s1 (fun q => by have h1 := q.1; have h2 := q.2; omega), Ex.no h.n (fun q => by have h1 := q.1; have h2 := q.2; omega), .inl rfl, Ex.no h.c (fun q => by have h1 := q.1; have h2 := q.2; omega), Ex.no h.v (fun q => by have h1 := q.1; have h2 := q.2; omega), h.rest⟩
theorem Und.set_c {l : List Opr} {e : Int} {c d : Cor} {k : Nat} (h : Und l e c k d) (hk : (opAt l k).kind = 7) (hr : (opAt l k).r = 2) : Und l e c (k + 1) { d with c := c.c } :=
  ⟨fun i hi => Ex.no (h.x i hi) (fun q => by have h1 := q.1; omega), Ex.no h.s0 (fun q => by have h1 := q.1; have h2 := q.2; omega), Ex.no h.s1 (fun q => by have h1 := q.1; have h2 := q.2; omega), Ex.no h.n (fun q => by have h1 := q.1; have h2 := q.2; omega), Ex.no h.z (fun q => by have h1 := q.1; have h2 := q.2; omega), .inl rfl, Ex.no h.v (fun q => by have h1 := q.1; have h2 := q.2; omega), h.rest⟩
theorem Und.set_v {l : List Opr} {e : Int} {c d : Cor} {k : Nat} (h : Und l e c k d) (hk : (opAt l k).kind = 7) (hr : (opAt l k).r = 3) : Und l e c (k + 1) { d with v := c.v } :=
  ⟨fun i hi => Ex.no (h.x i hi) (fun q => by have h1 := q.1; omega), Ex.no h.s0 (fun q => by have h1 := q.1; have h2 := q.2; omega), Ex.no h.s1 (fun q => by have h1 := q.1; have h2 := q.2; omega), Ex.no h.n (fun q => by have h1 := q.1; have h2 := q.2; omega), Ex.no h.z (fun q => by have h1 := q.1; have h2 := q.2; omega), Ex.no h.c (fun q => by have h1 := q.1; have h2 := q.2; omega), .inl rfl, h.rest⟩

theorem rng3 {o : Opr} (h : rangeB o = true) (hk : o.kind = 3) : 0 ≤ o.r ∧ o.r < 31 := by
  obtain ⟨kind, r, a, b, order, imm⟩ := o
  simp only at hk; subst hk
  simp [rangeB] at h
  show 0 ≤ r ∧ r < 31
  omega
theorem rng7 {o : Opr} (h : rangeB o = true) (hk : o.kind = 7) : 0 ≤ o.r ∧ o.r < 4 := by
  obtain ⟨kind, r, a, b, order, imm⟩ := o
  simp only at hk; subst hk
  simp [rangeB] at h
  show 0 ≤ r ∧ r < 4
  omega
theorem step_und {l : List Opr} {e : Int} {c0 : Cor} {S : Rn} (h : Und l e c0 0 S.c) (hn : S.next < l.length) (fk : OpFit l (opAt l S.next)) (he : e = 0 ∨ e = 1) (hc0 : c0.el = e) : Und l e c0 0 (stepV l S).c := by
  unfold stepV carryV
  generalize ho : opAt l S.next = o at *
  split
  · exact h
  · exact h
  · rename_i hk
    refine ⟨fun i hi => ?_, h.s0, h.s1, h.n, h.z, h.c, h.v, h.rest⟩
    have hr := fk.rng
    have hk3 : o.kind = 3 := by omega
    show (S.c.x.setIfInBounds o.r.toNat _)[i] = _ ∨ _
    rw [Vector.getElem_setIfInBounds]
    split
    · exact .inr ⟨S.next, Nat.zero_le _, hn, by rw [ho]; exact ⟨hk3, by have := rng3 hr hk3; omega⟩⟩
    · exact h.x i hi
  · exact h
  · rename_i hk
    have hk5 : o.kind = 5 := by omega
    have hel : S.c.el = e := h.rest.1.trans hc0
    unfold Rn.setSP
    split
    · rename_i h0
      exact ⟨h.x, .inr ⟨S.next, Nat.zero_le _, hn, by rw [ho]; exact ⟨hk5, hel.symm.trans h0⟩⟩, h.s1, h.n, h.z, h.c, h.v, h.rest⟩
    · rename_i h0
      exact ⟨h.x, h.s0, .inr ⟨S.next, Nat.zero_le _, hn, by rw [ho]; exact ⟨hk5, he.resolve_left (fun h9 => h0 (hel.trans h9))⟩⟩, h.n, h.z, h.c, h.v, h.rest⟩
  · exact h
  · rename_i hk
    have hk7 : o.kind = 7 := by omega
    have hr := rng7 fk.rng hk7
    unfold Rn.setF
    split
    · exact ⟨h.x, h.s0, h.s1, .inr ⟨S.next, Nat.zero_le _, hn, by rw [ho]; exact ⟨hk7, by omega⟩⟩, h.z, h.c, h.v, h.rest⟩
    · split
      · exact ⟨h.x, h.s0, h.s1, h.n, .inr ⟨S.next, Nat.zero_le _, hn, by rw [ho]; exact ⟨hk7, by omega⟩⟩, h.c, h.v, h.rest⟩
      · split
        · exact ⟨h.x, h.s0, h.s1, h.n, h.z, .inr ⟨S.next, Nat.zero_le _, hn, by rw [ho]; exact ⟨hk7, by omega⟩⟩, h.v, h.rest⟩
        · exact ⟨h.x, h.s0, h.s1, h.n, h.z, h.c, .inr ⟨S.next, Nat.zero_le _, hn, by rw [ho]; exact ⟨hk7, by omega⟩⟩, h.rest⟩
  · exact h
  · unfold Rn.acc
    split
    · exact h
    · exact h
  · unfold Rn.acc
    split
    · exact h
    · exact h
  · unfold Rn.acc
    split
    · exact h
    · exact h
  · unfold Rn.acc
    split
    · exact h
    · exact h
  · exact h
  · exact h.pc _
  · split
    · exact h.pc _
    · exact h
  · exact h.pc _
  · exact h.pc _
  · exact h
  · exact h

theorem runs_und {l : List Opr} {e : Int} {c0 : Cor} (fit : ∀ k, k < l.length → OpFit l (opAt l k)) (he : e = 0 ∨ e = 1) (hc0 : c0.el = e) : ∀ (f : Nat) (S : Rn), Und l e c0 0 S.c → Und l e c0 0 (runN l f S).c
  | 0, S, h => h
  | f + 1, S, h => by
    unfold runN
    split
    · rename_i hc
      exact runs_und fit he hc0 f _ (step_und h hc.2 (fit _ hc.2) he hc0)
    · exact h
theorem next_und {l : List Opr} {e : Int} {c0 : Cor} {S : Rn} (fit : ∀ k, k < l.length → OpFit l (opAt l k)) (he : e = 0 ∨ e = 1) (hc0 : c0.el = e) (h : Und l e c0 0 S.c) : Und l e c0 0 (nextV l S).c := runs_und fit he hc0 _ _ h
theorem told_cor {n : Nat} {S : Rn} (t : Gt) : (S.told n t).c = S.c := by unfold Rn.told; split <;> rfl
theorem take_cor {n : Nat} {S : Rn} (t : Gt) : (takeV n S t).c = S.c := by
  unfold takeV
  split
  · rfl
  · exact told_cor t
  · exact told_cor t
  · exact told_cor t
  · rfl
end Go.Proofs.YtioeiogcejikbaaDoor
