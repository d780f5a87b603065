/- What a store that reaches memory at once leaves: plain. -/
import Derived.Test.YtjkjbcnafpljoaaOw
namespace Go.Proofs.Ytjkjbcnafpljoaa
open Go.RowKit
set_option linter.unusedVariables false
set_option linter.unusedSimpArgs false

/-- Tickets rise in each buffer. -/
def Inc (S : Sta) : Prop := ∀ l ∈ S.bufs, l.Pairwise fun x y => x.t < y.t
theorem inc_new (n c : Nat) (d : Int) : Inc (newS n c d) := by
  intro l hl
  simp only [newS, List.mem_replicate] at hl
  rw [hl.2]
  exact List.Pairwise.nil
theorem inc_store {S : Sta} (O : S.Ok) (I : Inc S) (core addr value : Int) : Inc (storeS S core addr value) := by
  unfold storeS
  split
  · rename_i h
    obtain ⟨h1, h2, h3⟩ := storeE_zero h
    have hb := core_buf h2
    intro l hl
    rcases List.mem_or_eq_of_mem_set hl with e | e
    · exact I l e
    · subst e
      rw [List.pairwise_append]
      refine ⟨I _ (List.mem_of_getElem? hb), List.pairwise_singleton _ _, fun x hx y hy => ?_⟩
      simp only [List.mem_singleton] at hy
      subst hy
      have := (O.held _ (List.mem_of_getElem? hb) x hx).2.2
      show x.t < S.stamps.length + 1
      omega
  · exact I
theorem inc_drain {S : Sta} (I : Inc S) (core : Int) : Inc (drainS S core) := by
  unfold drainS
  split
  · rename_i h
    obtain ⟨h2, s, l, hb, hd⟩ := drainE_zero h
    have hc := core_buf h2
    rw [hb] at hc
    intro z hz
    rw [hb, List.tail_cons] at hz
    rcases List.mem_or_eq_of_mem_set hz with e | e
    · exact I z e
    · subst e
      exact (List.pairwise_cons.1 (I _ (List.mem_of_getElem? hc))).2
  · exact I
theorem inc_pl {S : Sta} (O : S.Ok) (I : Inc S) (zs : List Int) (i : Nat) : Inc (plS S zs i) := by
  induction i with
  | zero => exact I
  | succ i ih =>
    rw [plS, plStep]
    split
    · exact inc_drain ih _
    · exact inc_store (pl_ok O zs i).1 ih _ _ _
theorem pair_lt {l : List Lt} (h : l.Pairwise fun x y => x.t < y.t) {i j : Nat} {x y : Lt} (hx : l[i]? = some x) (hy : l[j]? = some y) (hij : i < j) : x.t < y.t := by
  obtain ⟨h1, rfl⟩ := List.getElem?_eq_some_iff.1 hx
  obtain ⟨h2, rfl⟩ := List.getElem?_eq_some_iff.1 hy
  exact List.pairwise_iff_getElem.1 h i j h1 h2 hij
/-- The stamps behind so many drains. -/
theorem dr_stamps {S : Sta} (O : S.Ok) (I : Inc S) {c : Int} (hc : hasCoreB S c = true) (n : Nat) (hn : n ≤ (bufOf S c).length) :
    (dr S c n).reached = S.reached + n ∧ (∀ j x, j < n → (bufOf S c)[j]? = some x → (dr S c n).stamps[(x.t - 1).toNat]? = some (S.reached + j + 1)) := by
  induction n with
  | zero => exact ⟨by simp [dr], fun j x hj => by omega⟩
  | succ n ih =>
    obtain ⟨ih1, ih2⟩ := ih (by omega)
    have hlt : n < (bufOf S c).length := by omega
    have hx : (bufOf S c)[n]? = some (bufOf S c)[n] := List.getElem?_eq_getElem hlt
    have hb := dr_buf hc n
    rw [List.drop_eq_getElem_cons hlt] at hb
    have hcn : hasCoreB (dr S c n) c = true := by rw [dr_core]; exact hc
    obtain ⟨_, _, G⟩ := drain_gone hcn hb
    have hbm : bufOf S c ∈ S.bufs := List.mem_of_getElem? (core_buf hc)
    have hh := (O.held _ hbm _ (List.getElem_mem hlt)).2
    have hP := I _ hbm
    refine ⟨by rw [dr, G.r, ih1]; omega, fun j x hj hjx => ?_⟩
    rw [dr, G.s, ih1]
    by_cases e : j = n
    · subst e
      rw [hx] at hjx
      cases hjx
      rw [List.getElem?_set_self (by rw [(dr_len S c j).2.1]; omega)]
    · have := pair_lt hP hjx hx (by omega)
      have h1 := (O.held _ hbm x (List.mem_of_getElem? hjx)).2
      rw [List.getElem?_set_ne (by omega)]
      exact ih2 j x (by omega) hjx
theorem held_t {S : Sta} (O : S.Ok) {c a : Int} {x : Lt} (h : nw (bufOf S c) a = some x) : 1 ≤ x.t ∧ x.t ≤ S.stamps.length := by
  have hm : x ∈ bufOf S c := List.mem_reverse.1 (List.mem_of_find?_eq_some h)
  by_cases hk : c.toNat < S.bufs.length
  · have : bufOf S c ∈ S.bufs := by
      rw [bufOf, List.getD, List.getElem?_eq_getElem hk]
      exact List.getElem_mem hk
    exact (O.held _ this x hm).2
  · rw [bufOf, List.getD, List.getElem?_eq_none (by omega)] at hm
    cases hm
structure PutF (T S : Sta) (c a v : Int) : Prop where
  g1 : putT T c a = T.stamps.length + 1
  g2 : okB T c a = true
  g3 : putL T c a = bufOf T c
  g4 : heldL S c = []
  g5 : stampV S (T.stamps.length + 1) = T.reached + (bufOf T c).length + 1
  g6 : ∀ (i : Nat) x, (bufOf T c)[i]? = some x → stampV S x.t = T.reached + i + 1
  g7 : ∀ o, hasCoreB T o = true → (((heldL S o).any fun s => s.a == a) = true ∧ (loadP S o a).2 ≠ T.stamps.length + 1) ∨ (((heldL S o).any fun s => s.a == a) = false ∧ loadP S o a = (v, (T.stamps.length : Int) + 1))
  g8 : ∀ o, hasCoreB T o = true → okB S o a = true
  g9 : S.bufs.length = T.bufs.length
theorem put_plain {T : Sta} (O : T.Ok) (I : Inc T) {c a v : Int} (hc : hasCoreB T c = true) (h0 : 0 ≤ a) (hw : hasWordB T a = true) : PutF T (putS T c a v) c a v := by
  have hok : okB T c a = true := by rw [okB, hc, hw]; rfl
  have hc0 : 0 ≤ c := by simp only [hasCoreB, Bool.and_eq_true, decide_eq_true_eq] at hc; exact hc.1
  obtain ⟨d1, d2⟩ := dr_stamps O I hc (bufOf T c).length (Nat.le_refl _)
  have hl := flush_len T c
  have OF := O.flush c
  have hS : putS T c a v = reachS { flushS T c with stamps := (flushS T c).stamps ++ [0] } ⟨a, v, T.stamps.length + 1⟩ := by rw [putS, hok, if_pos rfl]
  have hbS : (putS T c a v).bufs = (flushS T c).bufs := by rw [hS]; rfl
  have hwS : (putS T c a v).words = (flushS T c).words.set (a / 8).toNat (v, (T.stamps.length : Int) + 1) := by rw [hS]; rfl
  have hr : (flushS T c).reached = T.reached + (bufOf T c).length := d1
  have hsS : (putS T c a v).stamps = ((flushS T c).stamps ++ [0]).set T.stamps.length (T.reached + (bufOf T c).length + 1) := by
    rw [hS, reachS]
    show List.set _ ((T.stamps.length : Int) + 1 - 1).toNat ((flushS T c).reached + 1) = _
    rw [hr, show ((T.stamps.length : Int) + 1 - 1).toNat = T.stamps.length by omega]
  have hcore : ∀ o, hasCoreB (putS T c a v) o = hasCoreB T o := fun o => hasCore_len (by rw [hbS, hl.1]) o
  have hbuf : ∀ o, bufOf (putS T c a v) o = bufOf (flushS T c) o := fun o => by rw [bufOf, hbS]; rfl
  have hwF : hasWordB (flushS T c) a = true := by
    simp only [hasWordB, withinB, hl.2.2] at hw ⊢; exact hw
  have hpk := set_peek (T := putS T c a v) h0 hwF hwS
  have hheld : ∀ o, hasCoreB T o = true → heldL (putS T c a v) o = bufOf (flushS T c) o := fun o ho => by rw [heldL, hcore, ho, if_pos rfl, hbuf]
  refine ⟨by rw [putT, hok, if_pos rfl], hok, by rw [putL, hok, if_pos rfl], by rw [hheld c hc, flush_buf hc], ?_, ?_, ?_, ?_, by rw [hbS, hl.1]⟩
  · refine stamp_at ?_
    rw [hsS, List.getElem?_set_self (by simp [hl.2.1])]
  · intro i x hx
    have hi : i < (bufOf T c).length := (List.getElem?_eq_some_iff.1 hx).1
    have ht := (O.held _ (List.mem_of_getElem? (core_buf hc)) x (List.mem_of_getElem? hx)).2
    have hst := d2 i x hi hx
    have e1 : (putS T c a v).stamps[(x.t - 1).toNat]? = some (T.reached + i + 1) := by
      rw [hsS, List.getElem?_set_ne (by omega), List.getElem?_append_left (by rw [hl.2.1]; omega)]
      exact hst
    have e2 := stamp_at e1
    rw [show (((x.t - 1).toNat : Nat) : Int) + 1 = x.t by omega] at e2
    exact e2
  · intro o ho
    have ho0 : 0 ≤ o := by simp only [hasCoreB, Bool.and_eq_true, decide_eq_true_eq] at ho; exact ho.1
    rw [hheld o ho, load_of (by rw [hcore]; exact ho) hpk.1, hbuf]
    cases hn : nw (bufOf (flushS T c) o) a with
    | none =>
      right
      refine ⟨?_, by simp only [hpk.2.1, hpk.2.2]⟩
      simp only [nw, List.find?_eq_none, List.mem_reverse, beq_iff_eq] at hn
      simpa using hn
    | some s =>
      left
      have hs := List.find?_some hn
      have hm : s ∈ bufOf (flushS T c) o := List.mem_reverse.1 (List.mem_of_find?_eq_some hn)
      refine ⟨List.any_eq_true.2 ⟨s, hm, hs⟩, ?_⟩
      have := (held_t OF hn).2
      rw [hl.2.1] at this
      show s.t ≠ _
      omega
  · intro o ho
    rw [okB, hcore, ho, hpk.1]; rfl
theorem put_szs (S : Sta) (core addr value : Int) : (putS S core addr value).stamps.length ≤ S.stamps.length + 1 := by
  unfold putS
  split
  · have := (flush_len S core).2.1
    simp only [reachS, List.length_set, List.length_append, List.length_cons, List.length_nil]
    omega
  · omega
end Go.Proofs.Ytjkjbcnafpljoaa
