/- What a load tells: plain. -/
import Derived.Test.YtjkjbcnafpljoabPo
import Derived.Test.YtjkjbcnafpljoabLx
namespace Go.Proofs.Ytjkjbcnafpljoab
open Go.RowKit
set_option linter.unusedVariables false
set_option linter.unusedSimpArgs false

/-- What is known of a ticket. -/
def Told (ad : List Int) (a v t : Int) : Prop := (t = 0 ∧ v = 0) ∨ (1 ≤ t ∧ t ≤ ad.length ∧ v = 1000 + t ∧ ad[(t - 1).toNat]? = some a)
structure Tel (S : Sta) (ad : List Int) : Prop where
  len : S.stamps.length = ad.length
  held : ∀ l ∈ S.bufs, ∀ s ∈ l, s.v = 1000 + s.t ∧ ad[(s.t - 1).toNat]? = some s.a
  word : ∀ (k : Nat) p, S.words[k]? = some p → Told ad (8 * k) p.1 p.2
  zero : ((S.stamps.countP (· == 0) : Nat) : Int) + S.reached = S.stamps.length
theorem tel_new (n c : Nat) (d : Int) : Tel (newS n c d) [] := by
  refine ⟨rfl, fun l hl s hs => ?_, fun k p hp => ?_, rfl⟩
  · simp only [newS, List.mem_replicate] at hl
    rw [hl.2] at hs; cases hs
  · have := List.mem_of_getElem? hp
    simp only [newS, List.mem_replicate] at this
    rw [this.2]
    exact .inl ⟨rfl, rfl⟩
theorem Told.more {ad : List Int} {a v t : Int} (h : Told ad a v t) (b : Int) : Told (ad ++ [b]) a v t := by
  rcases h with h | ⟨h1, h2, h3, h4⟩
  · exact .inl h
  · refine .inr ⟨h1, by simp only [List.length_append, List.length_singleton]; omega, h3, ?_⟩
    rw [List.getElem?_append_left (List.getElem?_eq_some_iff.1 h4).1]; exact h4
theorem tel_store {S : Sta} {ad : List Int} (T : Tel S ad) {c a : Int} (h : storeE S c a = 0) : Tel (storeS S c a (1000 + ad.length + 1)) (ad ++ [a]) := by
  rw [storeS, if_pos h]
  have hb := core_buf (storeE_zero h).2.1
  have old : ∀ l ∈ S.bufs, ∀ s ∈ l, s.v = 1000 + s.t ∧ (ad ++ [a])[(s.t - 1).toNat]? = some s.a := fun l hl s hs => by
    obtain ⟨h1, h2⟩ := T.held l hl s hs
    exact ⟨h1, by rw [List.getElem?_append_left (List.getElem?_eq_some_iff.1 h2).1]; exact h2⟩
  refine ⟨by simp [T.len], fun l hl s hs => ?_, fun k p hp => (T.word k p hp).more a, ?_⟩
  · rcases List.mem_or_eq_of_mem_set hl with e | e
    · exact old l e s hs
    · subst e
      rcases List.mem_append.1 hs with hs | hs
      · exact old _ (List.mem_of_getElem? hb) s hs
      · simp only [List.mem_singleton] at hs
        subst hs
        refine ⟨by show (1000 : Int) + ad.length + 1 = 1000 + (S.stamps.length + 1); rw [T.len]; omega, ?_⟩
        show (ad ++ [a])[((S.stamps.length : Int) + 1 - 1).toNat]? = some a
        rw [T.len, show ((ad.length : Int) + 1 - 1).toNat = ad.length by omega]
        simp
  · have := T.zero
    simp only [List.countP_append, List.length_append, List.length_singleton]
    have e : List.countP (fun x : Int => x == 0) [0] = 1 := rfl
    rw [e]
    omega
theorem tel_drain {S : Sta} {ad : List Int} (A : All S) (T : Tel S ad) (c : Int) : Tel (drainS S c) ad := by
  by_cases h : drainE S c = 0
  · obtain ⟨h2, x, l, hb, hd⟩ := drainE_zero h
    obtain ⟨_, _, G⟩ := drain_gone h2 hb
    have hc := core_buf h2
    rw [hb] at hc
    have hxm := List.mem_of_getElem? hc
    obtain ⟨⟨k0, hk0, _⟩, hx1, hx2⟩ := A.ok.held _ hxm x List.mem_cons_self
    have hz := A.bij.zer _ hxm x List.mem_cons_self
    have hp : (x.t - 1).toNat < S.stamps.length := by omega
    obtain ⟨hv, ha⟩ := T.held _ hxm x List.mem_cons_self
    refine ⟨by rw [G.s, List.length_set]; exact T.len, fun z hz s hs => ?_, fun k p hp => ?_, ?_⟩
    · rw [G.b] at hz
      rcases List.mem_or_eq_of_mem_set hz with e | e
      · exact T.held z e s hs
      · subst e
        exact T.held _ hxm s (List.mem_cons_of_mem _ hs)
    · rw [G.w] at hp
      by_cases e : (x.a / 8).toNat = k
      · have hk : (x.a / 8).toNat < S.words.length := by
          have := (List.getElem?_eq_some_iff.1 hp).1
          rw [List.length_set] at this; omega
        subst e
        rw [List.getElem?_set_self hk] at hp
        cases hp
        refine .inr ⟨hx1, by have := T.len; omega, hv, ?_⟩
        show ad[(x.t - 1).toNat]? = _
        rw [ha]
        congr 1
        omega
      · rw [List.getElem?_set_ne e] at hp
        exact T.word k p hp
    · have h0 := T.zero
      have hpos := A.ok.pos
      have hg : S.stamps[(x.t - 1).toNat] = 0 := (List.getElem?_eq_some_iff.1 hz).2
      have hm : 0 < S.stamps.countP (· == 0) := List.countP_pos_iff.2 ⟨0, List.mem_of_getElem? hz, rfl⟩
      rw [G.s, G.r, List.length_set, List.countP_set hp, hg]
      have e : (S.reached + 1 == 0) = false := by simp; omega
      rw [e]
      simp
      omega
  · rw [drainS, if_neg h]; exact T
theorem tel_load {S : Sta} {ad : List Int} (O : S.Ok) (T : Tel S ad) {c : Int} {k : Nat} (hc : hasCoreB S c = true) (hk : k < S.words.length) (hw : hasWordB S (8 * k) = true) : Told ad (8 * k) (loadP S c (8 * k)).1 (loadP S c (8 * k)).2 := by
  rw [load_of hc hw]
  cases hn : nw (bufOf S c) (8 * k) with
  | some s =>
    have hs : s ∈ bufOf S c ∧ s.a = 8 * k := by
      rw [nw] at hn
      exact ⟨List.mem_reverse.1 (List.mem_of_find?_eq_some hn), by simpa using List.find?_some hn⟩
    obtain ⟨h1, h2⟩ := T.held _ (List.mem_of_getElem? (core_buf hc)) s hs.1
    have h0 := (O.held _ (List.mem_of_getElem? (core_buf hc)) s hs.1).2.1
    refine .inr ⟨h0, ?_, h1, by rw [← hs.2]; exact h2⟩
    have := (List.getElem?_eq_some_iff.1 h2).1
    show s.t ≤ _
    omega
  | none =>
    have hx : S.words[k]? = some S.words[k] := List.getElem?_eq_getElem hk
    have := T.word k _ hx
    have e : (8 * (k : Int) / 8).toNat = k := by omega
    simpa [peekV, peekT, hw, e, List.getD, hx] using this
/-- The zeros among the first n. -/
def zc (S : Sta) (n : Nat) : Nat := (S.stamps.take n).countP (· == 0)
theorem zc_step {S : Sta} {n : Nat} {x : Int} (h : S.stamps[n]? = some x) : zc S (n + 1) = zc S n + if x = 0 then 1 else 0 := by
  obtain ⟨hn, e⟩ := List.getElem?_eq_some_iff.1 h
  rw [zc, zc, List.take_add_one, h, List.countP_append]
  congr 1
  by_cases e : x = 0 <;> simp [e]
theorem zc_le (S : Sta) (n : Nat) : zc S n ≤ n := Nat.le_trans List.countP_le_length (by simp; omega)
theorem zc_all {S : Sta} {ad : List Int} (T : Tel S ad) (A : All S) (hb : S.bufs.length = 3) : (zc S ad.length : Int) = (bufOf S 0).length + (bufOf S 1).length + (bufOf S 2).length ∧ S.reached + zc S ad.length = S.stamps.length := by
  have h0 := T.zero
  have h1 := A.ok.cnt
  have e : zc S ad.length = S.stamps.countP (· == 0) := by rw [zc, ← T.len, List.take_length]
  rw [e]
  refine ⟨?_, by omega⟩
  match hX : S.bufs, hb with
  | [x, y, z], _ =>
    rw [hX] at h1
    simp only [bufOf, hX]
    simp at h1 ⊢
    omega
end Go.Proofs.Ytjkjbcnafpljoab
