/- What holds of every memory stays so: plain. -/
import Derived.Test.YtjkjbcnafpljoaaRk
namespace Go.Proofs.Ytjkjbcnafpljoaa
open Go.RowKit
set_option linter.unusedVariables false
set_option linter.unusedSimpArgs false

theorem sum_set {L : List (List Lt)} {k : Nat} {l : List Lt} (h : L[k]? = some l) (l' : List Lt) : ((L.set k l').map List.length).sum + l.length = (L.map List.length).sum + l'.length := by
  induction L generalizing k with
  | nil => simp at h
  | cons a L ih =>
    cases k with
    | zero => simp at h; subst h; simp; omega
    | succ k =>
      have := ih (k := k) (by simpa using h)
      simp only [List.set_cons_succ, List.map_cons, List.sum_cons] at this ⊢
      omega
theorem core_buf {S : Sta} {core : Int} (h : hasCoreB S core = true) : S.bufs[core.toNat]? = some (bufOf S core) := by
  obtain ⟨k, rfl, hk⟩ := core_nat h
  simp [bufOf, List.getD, List.getElem?_eq_getElem hk]
theorem buf_ne_core {S : Sta} {core : Int} (h : hasCoreB S core = false) (h0 : 0 ≤ core) : bufOf S core = [] := by
  simp only [hasCoreB, Bool.and_eq_false_imp, decide_eq_true_eq, decide_eq_false_iff_not] at h
  have := h h0
  rw [bufOf, List.getD, List.getElem?_eq_none (by omega)]
  rfl
theorem word_nat {S : Sta} {addr : Int} (h0 : 0 ≤ addr) (h : hasWordB S addr = true) : ∃ k : Nat, addr = 8 * k ∧ k < S.words.length := by
  simp only [hasWordB, withinB, Bool.and_eq_true, beq_iff_eq, decide_eq_true_eq] at h
  exact ⟨(addr / 8).toNat, by omega, by omega⟩
theorem storeE_zero {S : Sta} {core addr : Int} (h : storeE S core addr = 0) : hasWordB S addr = true ∧ hasCoreB S core = true ∧ ¬ S.depth ≤ (bufOf S core).length := by
  unfold storeE at h
  cases h1 : hasWordB S addr
  · rw [h1] at h; simp at h
  · cases h2 : hasCoreB S core
    · rw [h1, h2] at h; simp at h
    · rw [h1, h2] at h
      simp only [if_true] at h
      by_cases h3 : S.depth ≤ (bufOf S core).length
      · rw [if_pos h3] at h; simp at h
      · exact ⟨rfl, rfl, h3⟩
theorem Sta.Ok.store {S : Sta} (O : S.Ok) (core addr value : Int) (h0 : 0 ≤ addr) : (storeS S core addr value).Ok := by
  unfold storeS
  by_cases h : storeE S core addr = 0
  · rw [if_pos h]
    obtain ⟨h1, h2, h3⟩ := storeE_zero h
    have hb := core_buf h2
    have hk : core.toNat < S.bufs.length := (List.getElem?_eq_some_iff.1 hb).1
    have hs := sum_set hb (bufOf S core ++ [⟨addr, value, S.stamps.length + 1⟩])
    have hm : ∀ l ∈ S.bufs.set core.toNat (bufOf S core ++ [⟨addr, value, S.stamps.length + 1⟩]), l ∈ S.bufs ∨ l = bufOf S core ++ [⟨addr, value, S.stamps.length + 1⟩] := fun l hl => List.mem_or_eq_of_mem_set hl
    refine ⟨O.w1, O.w2, by simpa using O.c1, by simpa using O.c2, O.d1, O.d2, ?_, ?_, ?_, O.pos, ?_⟩
    · intro l hl s hs
      simp only [List.length_append, List.length_cons, List.length_nil]
      rcases hm l hl with e | e
      · obtain ⟨a, b, c⟩ := O.held l e s hs
        exact ⟨a, b, by omega⟩
      · subst e
        rcases List.mem_append.1 hs with hs | hs
        · obtain ⟨a, b, c⟩ := O.held _ (List.mem_of_getElem? hb) s hs
          exact ⟨a, b, by omega⟩
        · simp only [List.mem_singleton] at hs
          subst hs
          exact ⟨word_nat h0 h1, by simp; omega, by simp⟩
    · intro l hl
      rcases hm l hl with e | e
      · exact O.lens l e
      · subst e
        simp only [List.length_append, List.length_cons, List.length_nil]
        omega
    · have := O.cnt
      simp only [List.length_append, List.length_cons, List.length_nil] at hs ⊢
      omega
    · intro x hx
      rcases List.mem_append.1 hx with hx | hx
      · exact O.st x hx
      · simp only [List.mem_singleton] at hx
        subst hx
        exact ⟨by decide, O.pos⟩
  · rw [if_neg h]; exact O
theorem drainE_zero {S : Sta} {core : Int} (h : drainE S core = 0) : hasCoreB S core = true ∧ ∃ s l, bufOf S core = s :: l ∧ drainL S core = s := by
  unfold drainE at h
  cases h2 : hasCoreB S core
  · rw [h2] at h; simp at h
  · refine ⟨rfl, ?_⟩
    cases hb : bufOf S core with
    | nil => rw [h2, hb] at h; simp at h
    | cons s l => exact ⟨s, l, rfl, by rw [drainL, h2, hb]; rfl⟩
theorem Sta.Ok.drain {S : Sta} (O : S.Ok) (core : Int) : (drainS S core).Ok := by
  unfold drainS
  by_cases h : drainE S core = 0
  · rw [if_pos h]
    obtain ⟨h2, s, l, hb, hd⟩ := drainE_zero h
    rw [hd, hb, List.tail_cons]
    have hc := core_buf h2
    rw [hb] at hc
    have hs := sum_set hc l
    have hm : ∀ z ∈ S.bufs.set core.toNat l, z ∈ S.bufs ∨ z = l := fun z hz => List.mem_or_eq_of_mem_set hz
    have hsub : ∀ z ∈ S.bufs.set core.toNat l, ∀ x ∈ z, ∃ y ∈ S.bufs, x ∈ y := fun z hz x hx => by
      rcases hm z hz with e | e
      · exact ⟨z, e, hx⟩
      · subst e; exact ⟨_, List.mem_of_getElem? hc, List.mem_cons_of_mem _ hx⟩
    unfold reachS
    refine ⟨by simpa using O.w1, by simpa using O.w2, by simpa using O.c1, by simpa using O.c2, O.d1, O.d2, ?_, ?_, ?_, ?_, ?_⟩
    · intro z hz x hx
      obtain ⟨y, hy, hxy⟩ := hsub z hz x hx
      simpa using O.held y hy x hxy
    · intro z hz
      rcases hm z hz with e | e
      · exact O.lens z e
      · subst e
        have := O.lens _ (List.mem_of_getElem? hc)
        simp only [List.length_cons] at this ⊢
        omega
    · have := O.cnt
      simp only [List.length_set, List.length_cons] at hs ⊢
      omega
    · have := O.pos
      show 0 ≤ S.reached + 1
      omega
    · intro x hx
      show 0 ≤ x ∧ x ≤ S.reached + 1
      have := O.pos
      rcases List.mem_or_eq_of_mem_set hx with e | e
      · have := O.st x e; omega
      · have e : x = S.reached + 1 := e
        omega
  · rw [if_neg h]; exact O
theorem Sta.Ok.set {S : Sta} (O : S.Ok) (addr value : Int) : (setS S addr value).Ok := by
  unfold setS
  split
  · exact ⟨by simpa using O.w1, by simpa using O.w2, O.c1, O.c2, O.d1, O.d2, by simpa using O.held, O.lens, O.cnt, O.pos, O.st⟩
  · exact O
theorem hasCore_len {S T : Sta} (h : T.bufs.length = S.bufs.length) (core : Int) : hasCoreB T core = hasCoreB S core := by simp [hasCoreB, h]
theorem drain_len (S : Sta) (core : Int) : (drainS S core).bufs.length = S.bufs.length ∧ (drainS S core).stamps.length = S.stamps.length ∧ (drainS S core).words.length = S.words.length := by
  unfold drainS
  split
  · simp [reachS]
  · exact ⟨rfl, rfl, rfl⟩
theorem drain_buf {S : Sta} {core : Int} (h : hasCoreB S core = true) : bufOf (drainS S core) core = (bufOf S core).tail := by
  unfold drainS
  by_cases he : drainE S core = 0
  · rw [if_pos he]
    obtain ⟨k, rfl, hk⟩ := core_nat h
    simp [bufOf, reachS, List.getD, List.getElem?_set_self hk]
  · rw [if_neg he]
    cases hb : bufOf S core with
    | nil => rfl
    | cons s l =>
      exact absurd (by rw [drainE, h, hb]; rfl) he
/-- Drained so often. -/
def dr (S : Sta) (core : Int) : Nat → Sta
  | 0 => S
  | n + 1 => drainS (dr S core n) core
theorem dr_len (S : Sta) (core : Int) (n : Nat) : (dr S core n).bufs.length = S.bufs.length ∧ (dr S core n).stamps.length = S.stamps.length ∧ (dr S core n).words.length = S.words.length := by
  induction n with
  | zero => exact ⟨rfl, rfl, rfl⟩
  | succ n ih =>
    have := drain_len (dr S core n) core
    exact ⟨this.1.trans ih.1, this.2.1.trans ih.2.1, this.2.2.trans ih.2.2⟩
theorem dr_ok {S : Sta} (O : S.Ok) (core : Int) (n : Nat) : (dr S core n).Ok := by
  induction n with
  | zero => exact O
  | succ n ih => exact ih.drain core
theorem dr_core {S : Sta} (core : Int) (n : Nat) : hasCoreB (dr S core n) core = hasCoreB S core := hasCore_len (dr_len S core n).1 core
theorem dr_buf {S : Sta} {core : Int} (h : hasCoreB S core = true) (n : Nat) : bufOf (dr S core n) core = (bufOf S core).drop n := by
  induction n with
  | zero => rfl
  | succ n ih => rw [dr, drain_buf (by rw [dr_core]; exact h), ih, List.tail_drop]
def flushS (S : Sta) (core : Int) : Sta := dr S core (bufOf S core).length
theorem Sta.Ok.flush {S : Sta} (O : S.Ok) (core : Int) : (flushS S core).Ok := dr_ok O core _
theorem dr_end {S : Sta} {core : Int} (h : hasCoreB S core = true) : drainS (flushS S core) core = flushS S core := by
  have : bufOf (flushS S core) core = [] := by rw [flushS, dr_buf h, List.drop_length]
  rw [drainS, drainE, flushS, dr_core, h]
  rw [flushS] at this
  rw [this]
  rfl
end Go.Proofs.Ytjkjbcnafpljoaa
