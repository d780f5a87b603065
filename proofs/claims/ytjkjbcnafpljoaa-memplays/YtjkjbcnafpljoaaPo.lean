/- Each stamp is one store's: plain. -/
import Derived.Test.YtjkjbcnafpljoaaPp
namespace Go.Proofs.Ytjkjbcnafpljoaa
open Go.RowKit
set_option linter.unusedVariables false
set_option linter.unusedSimpArgs false

structure Bij (S : Sta) : Prop where
  inj : ∀ (i j : Nat) x, S.stamps[i]? = some x → S.stamps[j]? = some x → 0 < x → i = j
  sur : ∀ r : Int, 1 ≤ r → r ≤ S.reached → ∃ k : Nat, S.stamps[k]? = some r
  zer : ∀ l ∈ S.bufs, ∀ s ∈ l, S.stamps[(s.t - 1).toNat]? = some 0
  dis : ∀ (k m : Nat) l n, k ≠ m → S.bufs[k]? = some l → S.bufs[m]? = some n → ∀ s ∈ l, ∀ u ∈ n, s.t ≠ u.t
theorem bij_new (n c : Nat) (d : Int) : Bij (newS n c d) := by
  refine ⟨fun i j x h => by simp [newS] at h, fun r h1 h2 => ?_, fun l hl s hs => ?_, fun k m l n _ hl _ s hs => ?_⟩
  · have : (newS n c d).reached = 0 := rfl
    omega
  · simp only [newS, List.mem_replicate] at hl
    rw [hl.2] at hs; cases hs
  · have hl := List.mem_of_getElem? hl
    simp only [newS, List.mem_replicate] at hl
    rw [hl.2] at hs; cases hs
theorem bij_store {S : Sta} (O : S.Ok) (B : Bij S) (core addr value : Int) : Bij (storeS S core addr value) := by
  unfold storeS
  split
  · rename_i h
    obtain ⟨h1, h2, h3⟩ := storeE_zero h
    have hb := core_buf h2
    have hk : core.toNat < S.bufs.length := (List.getElem?_eq_some_iff.1 hb).1
    have old : ∀ (i : Nat) x, (S.stamps ++ [0])[i]? = some x → 0 < x → S.stamps[i]? = some x := fun i x hx h0 => by
      by_cases hi : i < S.stamps.length
      · rwa [List.getElem?_append_left hi] at hx
      · rw [List.getElem?_append_right (by omega)] at hx
        have := List.mem_of_getElem? hx
        simp at this; omega
    have zold : ∀ l ∈ S.bufs, ∀ s ∈ l, (S.stamps ++ [0])[(s.t - 1).toNat]? = some 0 := fun l hl s hs => by
      have := O.held l hl s hs
      rw [List.getElem?_append_left (by omega)]
      exact B.zer l hl s hs
    refine ⟨fun i j x hi hj h0 => B.inj i j x (old i x hi h0) (old j x hj h0) h0, fun r h1 h2 => ?_, fun l hl s hs => ?_, fun k m l n hkm hl hn s hs u hu => ?_⟩
    · obtain ⟨k, hk⟩ := B.sur r h1 h2
      exact ⟨k, by rw [List.getElem?_append_left (List.getElem?_eq_some_iff.1 hk).1]; exact hk⟩
    · rcases List.mem_or_eq_of_mem_set hl with e | e
      · exact zold l e s hs
      · subst e
        rcases List.mem_append.1 hs with hs | hs
        · exact zold _ (List.mem_of_getElem? hb) s hs
        · simp only [List.mem_singleton] at hs
          subst hs
          show (S.stamps ++ [0])[((S.stamps.length : Int) + 1 - 1).toNat]? = some 0
          rw [show ((S.stamps.length : Int) + 1 - 1).toNat = S.stamps.length by omega]
          simp
    · have key : ∀ (k : Nat) l, (S.bufs.set core.toNat (bufOf S core ++ [⟨addr, value, S.stamps.length + 1⟩]))[k]? = some l → ∀ s ∈ l, (∃ l0, S.bufs[k]? = some l0 ∧ s ∈ l0) ∨ (k = core.toNat ∧ s.t = S.stamps.length + 1) := by
        intro k l hl s hs
        by_cases e : k = core.toNat
        · subst e
          rw [List.getElem?_set_self hk] at hl
          cases hl
          rcases List.mem_append.1 hs with hs | hs
          · exact .inl ⟨_, hb, hs⟩
          · simp only [List.mem_singleton] at hs; subst hs; exact .inr ⟨rfl, rfl⟩
        · rw [List.getElem?_set_ne (Ne.symm e)] at hl
          exact .inl ⟨l, hl, hs⟩
      rcases key k l hl s hs with ⟨l0, e1, e2⟩ | ⟨e1, e2⟩ <;> rcases key m n hn u hu with ⟨n0, f1, f2⟩ | ⟨f1, f2⟩
      · exact B.dis k m l0 n0 hkm e1 f1 s e2 u f2
      · have := (O.held l0 (List.mem_of_getElem? e1) s e2).2.2; omega
      · have := (O.held n0 (List.mem_of_getElem? f1) u f2).2.2; omega
      · omega
  · exact B
theorem bij_drain {S : Sta} (O : S.Ok) (I : Inc S) (B : Bij S) (core : Int) : Bij (drainS S core) := by
  by_cases h : drainE S core = 0
  · obtain ⟨h2, x, l, hb, hd⟩ := drainE_zero h
    obtain ⟨_, _, G⟩ := drain_gone h2 hb
    have hc := core_buf h2
    rw [hb] at hc
    have hk : core.toNat < S.bufs.length := (List.getElem?_eq_some_iff.1 hc).1
    have hxm := List.mem_of_getElem? hc
    have hx := (O.held _ hxm x List.mem_cons_self).2
    have hz := B.zer _ hxm x List.mem_cons_self
    have hp : (x.t - 1).toNat < S.stamps.length := by omega
    have key : ∀ (k : Nat) z, (S.bufs.set core.toNat l)[k]? = some z → ∃ y, S.bufs[k]? = some y ∧ (∀ s ∈ z, s ∈ y) ∧ ∀ s ∈ z, s.t ≠ x.t := by
      intro k z hz
      by_cases e : k = core.toNat
      · subst e
        rw [List.getElem?_set_self hk] at hz
        cases hz
        refine ⟨_, hc, fun s hs => List.mem_cons_of_mem _ hs, fun s hs => ?_⟩
        have := (List.pairwise_cons.1 (I _ hxm)).1 s hs
        omega
      · rw [List.getElem?_set_ne (Ne.symm e)] at hz
        exact ⟨z, hz, fun s hs => hs, fun s hs => B.dis k core.toNat z _ e hz hc s hs x List.mem_cons_self⟩
    refine ⟨fun i j y hi hj h0 => ?_, fun r h1 h3 => ?_, fun z hz s hs => ?_, fun k m z n hkm hzk hn s hs u hu => ?_⟩
    · rw [G.s] at hi hj
      by_cases e1 : i = (x.t - 1).toNat <;> by_cases e2 : j = (x.t - 1).toNat
      · omega
      · rw [e1, List.getElem?_set_self hp] at hi
        rw [List.getElem?_set_ne (Ne.symm e2)] at hj
        cases hi
        have := O.st _ (List.mem_of_getElem? hj); omega
      · rw [e2, List.getElem?_set_self hp] at hj
        rw [List.getElem?_set_ne (Ne.symm e1)] at hi
        cases hj
        have := O.st _ (List.mem_of_getElem? hi); omega
      · rw [List.getElem?_set_ne (Ne.symm e1)] at hi
        rw [List.getElem?_set_ne (Ne.symm e2)] at hj
        exact B.inj i j y hi hj h0
    · rw [G.r] at h3
      rw [G.s]
      by_cases e : r = S.reached + 1
      · exact ⟨(x.t - 1).toNat, by rw [List.getElem?_set_self hp, e]⟩
      · obtain ⟨k, hk⟩ := B.sur r h1 (by omega)
        refine ⟨k, ?_⟩
        rw [List.getElem?_set_ne (fun e2 => ?_)]
        · exact hk
        · rw [← e2, hz] at hk
          cases hk; omega
    · rw [G.b] at hz
      obtain ⟨k, hk⟩ := List.mem_iff_getElem?.1 hz
      obtain ⟨y, hy, hsub, hne⟩ := key k z hk
      have h3 := (O.held y (List.mem_of_getElem? hy) s (hsub s hs)).2
      have h4 := hne s hs
      rw [G.s, List.getElem?_set_ne (by omega)]
      exact B.zer y (List.mem_of_getElem? hy) s (hsub s hs)
    · rw [G.b] at hzk hn
      obtain ⟨y, hy, hsub, _⟩ := key k z hzk
      obtain ⟨y2, hy2, hsub2, _⟩ := key m n hn
      exact B.dis k m y y2 hkm hy hy2 s (hsub s hs) u (hsub2 u hu)
  · rw [drainS, if_neg h]; exact B
/-- All that is kept. -/
structure All (S : Sta) : Prop where
  ok : S.Ok
  inc : Inc S
  bij : Bij S
theorem All.drain {S : Sta} (A : All S) (c : Int) : All (drainS S c) := ⟨A.ok.drain c, inc_drain A.inc c, bij_drain A.ok A.inc A.bij c⟩
theorem All.store {S : Sta} (A : All S) (c a v : Int) (h : 0 ≤ a) : All (storeS S c a v) := ⟨A.ok.store c a v h, inc_store A.ok A.inc c a v, bij_store A.ok A.bij c a v⟩
theorem all_new {n c : Nat} {d : Int} (h : newB n c d = true) : All (newS n c d) := ⟨new_ok h, inc_new n c d, bij_new n c d⟩
theorem All.dr {S : Sta} (A : All S) (c : Int) (n : Nat) : All (dr S c n) := by
  induction n with
  | zero => exact A
  | succ n ih => exact ih.drain c
theorem All.flush {S : Sta} (A : All S) (c : Int) : All (flushS S c) := A.dr c _
theorem All.pl {S : Sta} (A : All S) (zs : List Int) (i : Nat) : All (plS S zs i) := by
  induction i with
  | zero => exact A
  | succ i ih =>
    rw [plS, plStep]
    have hp := pick_in (zs.getD i 0) (n := 36) (by decide)
    split
    · exact ih.drain _
    · exact ih.store _ _ _ (by omega)
theorem ord_get {S : Sta} (B : Bij S) (hst : ∀ x ∈ S.stamps, 0 ≤ x ∧ x ≤ S.reached) (h0 : 0 ≤ S.reached) {k : Nat} {r : Int} (hk : S.stamps[k]? = some r) (hr : 0 < r) : (orderL S)[(r - 1).toNat]? = some ((k : Int) + 1) := by
  have key : ∀ j, j ≤ S.stamps.length → k < j → (ordF (S.stamps.take j) 0 (List.replicate S.reached.toNat 0))[(r - 1).toNat]? = some ((k : Int) + 1) := by
    intro j
    induction j with
    | zero => intro _ h; omega
    | succ j ih =>
      intro hj hkj
      have hx : S.stamps[j]? = some S.stamps[j] := List.getElem?_eq_getElem (by omega)
      rw [ordF_take _ _ _ _ hx]
      have hrr := hst r (List.mem_of_getElem? hk)
      by_cases e : k = j
      · subst e
        rw [hk] at hx
        have e2 : S.stamps[k] = r := by cases hx; rfl
        rw [e2, if_pos hr, List.getElem?_set_self (by rw [ordF_len, List.length_replicate]; omega)]
      · have ih' := ih (by omega) (by omega)
        split
        · rename_i hpos
          have hne : S.stamps[j] ≠ r := fun e2 => e (B.inj k j r hk (by rw [hx, e2]) hr)
          have := hst _ (List.mem_of_getElem? hx)
          rw [List.getElem?_set_ne (by omega)]
          exact ih'
        · exact ih'
  have := key S.stamps.length (Nat.le_refl _) (List.getElem?_eq_some_iff.1 hk).1
  rwa [List.take_length] at this
end Go.Proofs.Ytjkjbcnafpljoaa
