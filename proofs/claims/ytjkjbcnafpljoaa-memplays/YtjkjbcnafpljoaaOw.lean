/- What a store and a drain of one core do: plain; and MemOwn's walk. -/
import Derived.Test.YtjkjbcnafpljoaaPy
namespace Go.Proofs.Ytjkjbcnafpljoaa
open Go.RowKit
set_option linter.unusedVariables false
set_option linter.unusedSimpArgs false

theorem Raw.grow {w w' : World} {v : Value} {zs : List Int} (h : Raw w v zs) (hb : Below w.heap.size w w') : Raw w' v zs :=
  ⟨h.len, h.max, fun h0 => by
    obtain ⟨ra, cap, e, hc⟩ := h.cell h0
    exact ⟨ra, cap, e, fun i x hx => ⟨Nat.lt_of_lt_of_le (hc i x hx).1 hb.size, by rw [hb.cell (p := ra.add i) (hc i x hx).1]; exact (hc i x hx).2⟩⟩, h.wf⟩
theorem flush_buf {S : Sta} {core : Int} (h : hasCoreB S core = true) : bufOf (flushS S core) core = [] := by rw [flushS, dr_buf h, List.drop_length]
theorem drain_other {S : Sta} {c o : Int} (hc : 0 ≤ c) (ho : 0 ≤ o) (hne : c ≠ o) : bufOf (drainS S c) o = bufOf S o := by
  unfold drainS
  split
  · simp only [bufOf, reachS, List.getD, List.getElem?_set_ne (show c.toNat ≠ o.toNat by omega)]
  · rfl
theorem dr_other {S : Sta} {c o : Int} (hc : 0 ≤ c) (ho : 0 ≤ o) (hne : c ≠ o) (n : Nat) : bufOf (dr S c n) o = bufOf S o := by
  induction n with
  | zero => rfl
  | succ n ih => rw [dr, drain_other hc ho hne, ih]
theorem peek_congr {S T : Sta} (h : T.words = S.words) (a : Int) : peekV T a = peekV S a ∧ peekT T a = peekT S a ∧ hasWordB T a = hasWordB S a := by
  have e : hasWordB T a = hasWordB S a := by simp [hasWordB, withinB, h]
  simp only [peekV, peekT, e, h, and_self]
/-- A store that is held. -/
structure Hold (S T : Sta) (k : Nat) (l : List Lt) (x : Lt) : Prop where
  w : T.words = S.words
  d : T.depth = S.depth
  s : T.stamps = S.stamps ++ [0]
  r : T.reached = S.reached
  b : T.bufs = S.bufs.set k (l ++ [x])
theorem store_hold {S : Sta} {c a v : Int} (hc : hasCoreB S c = true) (hw : hasWordB S a = true) (hd : ((bufOf S c).length : Int) < S.depth) : storeE S c a = 0 ∧ storeT S c a = S.stamps.length + 1 ∧ Hold S (storeS S c a v) c.toNat (bufOf S c) ⟨a, v, S.stamps.length + 1⟩ := by
  have e : storeE S c a = 0 := by rw [storeE, hw, hc, if_pos rfl, if_pos rfl, if_neg (by omega)]
  refine ⟨e, by rw [storeT, if_pos e], ?_⟩
  rw [storeS, if_pos e]
  exact ⟨rfl, rfl, rfl, rfl, rfl⟩
theorem Hold.own {S T : Sta} {c : Int} {l : List Lt} {x : Lt} (h : Hold S T c.toNat l x) (hc : hasCoreB S c = true) : bufOf T c = l ++ [x] := by
  obtain ⟨k, rfl, hk⟩ := core_nat hc
  simp only [bufOf, h.b, Int.toNat_natCast, List.getD, List.getElem?_set_self hk]
  rfl
theorem Hold.other {S T : Sta} {c o : Int} {l : List Lt} {x : Lt} (h : Hold S T c.toNat l x) (hc : 0 ≤ c) (ho : 0 ≤ o) (hne : c ≠ o) : bufOf T o = bufOf S o := by
  simp only [bufOf, h.b, List.getD, List.getElem?_set_ne (show c.toNat ≠ o.toNat by omega)]
theorem Hold.core {S T : Sta} {k : Nat} {l : List Lt} {x : Lt} (h : Hold S T k l x) (o : Int) : hasCoreB T o = hasCoreB S o := hasCore_len (by rw [h.b]; simp) o
theorem load_of {S : Sta} {c a : Int} (hc : hasCoreB S c = true) (hw : hasWordB S a = true) : loadP S c a = (match nw (bufOf S c) a with | some s => (s.v, s.t) | none => (peekV S a, peekT S a)) := by
  rw [loadP, okB, hc, hw]; rfl
theorem nw_last (l : List Lt) (x : Lt) : nw (l ++ [x]) x.a = some x := by
  rw [nw, List.reverse_append]; simp
theorem nw_skip (l : List Lt) (x : Lt) {a : Int} (h : x.a ≠ a) : nw (l ++ [x]) a = nw l a := by
  rw [nw, nw, List.reverse_append]; simp [h]
/-- The oldest one, which reaches memory. -/
structure Gone (S T : Sta) (k : Nat) (x : Lt) (l : List Lt) : Prop where
  w : T.words = S.words.set (x.a / 8).toNat (x.v, x.t)
  d : T.depth = S.depth
  s : T.stamps = S.stamps.set (x.t - 1).toNat (S.reached + 1)
  r : T.reached = S.reached + 1
  b : T.bufs = S.bufs.set k l
theorem drain_gone {S : Sta} {c : Int} {x : Lt} {l : List Lt} (hc : hasCoreB S c = true) (hb : bufOf S c = x :: l) : drainE S c = 0 ∧ drainL S c = x ∧ Gone S (drainS S c) c.toNat x l := by
  have e : drainE S c = 0 := by rw [drainE, hc, hb]; rfl
  have e2 : drainL S c = x := by rw [drainL, hc, hb]; rfl
  refine ⟨e, e2, ?_⟩
  rw [drainS, if_pos e, e2, hb]
  exact ⟨rfl, rfl, rfl, rfl, rfl⟩
theorem set_peek {S T : Sta} {a v t : Int} (h0 : 0 ≤ a) (hw : hasWordB S a = true) (h : T.words = S.words.set (a / 8).toNat (v, t)) : hasWordB T a = true ∧ peekV T a = v ∧ peekT T a = t := by
  obtain ⟨k, rfl, hk⟩ := word_nat h0 hw
  have e : hasWordB T (8 * k) = true := by
    simp only [hasWordB, withinB, h, List.length_set] at hw ⊢; exact hw
  have e1 : ((8 * (k : Int)) / 8).toNat = k := by omega
  rw [e1] at h
  refine ⟨e, ?_, ?_⟩
  · simp only [peekV, e, if_true, e1, h, List.getD, List.getElem?_set_self hk]; rfl
  · simp only [peekT, e, if_true, e1, h, List.getD, List.getElem?_set_self hk]; rfl
theorem set_peek_other {S T : Sta} {a b v t : Int} (h0 : 0 ≤ a) (h1 : 0 ≤ b) (hne : a ≠ b) (hwa : hasWordB S a = true) (h : T.words = S.words.set (a / 8).toNat (v, t)) : hasWordB T b = hasWordB S b ∧ peekV T b = peekV S b ∧ peekT T b = peekT S b := by
  have e : hasWordB T b = hasWordB S b := by simp [hasWordB, withinB, h]
  refine ⟨e, ?_, ?_⟩
  · rw [peekV, peekV, e]
    split
    · rename_i hb
      obtain ⟨k, rfl, _⟩ := word_nat h0 hwa
      obtain ⟨m, rfl, _⟩ := word_nat h1 hb
      rw [h]
      simp only [List.getD, List.getElem?_set_ne (show ((8 * (k : Int)) / 8).toNat ≠ ((8 * (m : Int)) / 8).toNat by omega)]
    · rfl
  · rw [peekT, peekT, e]
    split
    · rename_i hb
      obtain ⟨k, rfl, _⟩ := word_nat h0 hwa
      obtain ⟨m, rfl, _⟩ := word_nat h1 hb
      rw [h]
      simp only [List.getD, List.getElem?_set_ne (show ((8 * (k : Int)) / 8).toNat ≠ ((8 * (m : Int)) / 8).toNat by omega)]
    · rfl
theorem order_len (S : Sta) : (orderL S).length = S.reached.toNat := by rw [orderL, ordF_len, List.length_replicate]
theorem stamp_at {S : Sta} {n : Nat} {x : Int} (h : S.stamps[n]? = some x) : stampV S (n + 1) = x := by
  have hn : n < S.stamps.length := (List.getElem?_eq_some_iff.1 h).1
  rw [stampV, if_neg (by omega), show ((n : Int) + 1 - 1).toNat = n by omega]
  simp [List.getD, h]
end Go.Proofs.Ytjkjbcnafpljoaa
