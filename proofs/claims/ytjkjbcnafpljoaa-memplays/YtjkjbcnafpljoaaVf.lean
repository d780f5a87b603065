/- The memory and the document's stay alike: Drain, Flush, Put, Set; Order. -/
import Derived.Test.YtjkjbcnafpljoaaVe
namespace Go.Proofs.Ytjkjbcnafpljoaa
open Go.RowKit
set_option linter.unusedVariables false
set_option linter.unusedSimpArgs false

theorem Lk.none {S : Sta} {X : Doc} (h : Lk S X) {c : Int} (hc : hasCoreB S c = true) (hb : bufOf S c = []) : heldD X c = [] ∧ drainS S c = S ∧ drainE S c = 31 ∧ drainL S c = nilL ∧ drainDS X c = X ∧ drainDE X c = 31 := by
  have e : heldD X c = [] := by rw [(h.held hc).1, hb]; rfl
  have e2 : drainE S c = 31 := by rw [drainE, hc, hb]; rfl
  exact ⟨e, by rw [drainS, e2, if_neg (by decide)], e2, by rw [drainL, hc, hb]; rfl, by rw [drainDS, e], by rw [drainDE, e]; rfl⟩
theorem lk_drain {S : Sta} {X : Doc} (h : Lk S X) {c : Int} (hc : hasCoreB S c = true) : Lk (drainS S c) (drainDS X c) := by
  cases hb : bufOf S c with
  | nil =>
    obtain ⟨_, e1, _, _, e2, _⟩ := h.none hc hb
    rw [e1, e2]; exact h
  | cons y tl =>
    obtain ⟨_, _, G⟩ := drain_gone hc hb
    have hO := h.ok.drain c
    obtain ⟨k, rfl, hk, hbe⟩ := h.core hc
    have hh : heldD X k = y.t :: tl.map (·.t) := by rw [(h.held hc).1, hb]; rfl
    obtain ⟨l1, x, l2, eA, z1, z2, z3, z4, z5⟩ := hF_split (hbe.symm.trans hb)
    rw [Nat.zero_add] at z4 z5
    have yt : y.t = (l1.length : Int) + 1 := by rw [z4]
    have ya : y.a = x.a := by rw [z4]
    have yv : y.v = x.v := by rw [z4]
    have eT : (y.t - 1).toNat = l1.length := by omega
    have eX : drainDS X k = { X with stamps := X.stamps + 1, all := l1 ++ { x with s := X.stamps + 1 } :: l2 } := by
      rw [drainDS, hh]
      dsimp only
      rw [eT, eA]
      congr 1
      have e1 : (l1 ++ x :: l2).getD l1.length ⟨0, 0, 0, 0⟩ = x := by simp [List.getD_eq_getElem?_getD]
      rw [e1, List.set_append_right _ _ (Nat.le_refl _), Nat.sub_self]
      rfl
    have hle := h.le
    rw [eA] at hle
    have hl1 : ∀ s ∈ l1, s.s ≤ X.stamps := fun s hs => (hle s (List.mem_append_left _ hs)).2
    have hl2 : ∀ s ∈ l2, s.s ≤ X.stamps := fun s hs => (hle s (List.mem_append_right _ (List.mem_cons_of_mem _ hs))).2
    have hp : 0 ≤ X.stamps := by rw [h.reached]; exact h.st2.pos
    have hz : S.stamps[l1.length]? = some 0 := by rw [h.stamps, eA]; simp [z3]
    obtain ⟨⟨m0, ha8, hm0⟩, _⟩ := h.ok.held _ (List.mem_of_getElem? (core_buf hc)) y (by rw [hb]; exact List.mem_cons_self)
    rw [eX]
    refine ⟨hO, by rw [G.w, List.length_set]; exact h.first, by rw [G.b, List.length_set]; exact h.cores, by rw [G.d]; exact h.depth, ?_, by rw [G.r]; show X.stamps + 1 = _; rw [h.reached], fun m hm => ?_, fun m hm => ?_, ?_⟩
    · rw [G.s, eT, h.stamps, eA, h.reached]
      simp
    · rw [G.b, List.length_set] at hm
      show (drainS S k).bufs[m]? = some (hF m (l1 ++ { x with s := X.stamps + 1 } :: l2) 0)
      have hold := h.bufs m hm
      rw [eA, hF_app, Nat.zero_add, hF] at hold
      have hnew : hF (m : Int) (l1 ++ { x with s := X.stamps + 1 } :: l2) 0 = hF m l1 0 ++ hF m l2 (l1.length + 1) := by
        rw [hF_app, Nat.zero_add, hF, if_neg (fun e => by have := e.2; dsimp only at this; omega)]
      rw [hnew, G.b, Int.toNat_natCast, List.getElem?_set]
      by_cases e : k = m
      · subst e
        rw [if_pos rfl, if_pos hk, z1, List.nil_append, z5]
      · rw [if_neg e, hold, if_neg (fun e2 => e (by have := e2.1; rw [z2] at this; omega))]
    · rw [G.w, List.length_set] at hm
      rw [G.w, List.getElem?_set]
      have hpk : ∀ a, pkD { X with stamps := X.stamps + 1, all := l1 ++ { x with s := X.stamps + 1 } :: l2 } a = if x.a = a then (x.v, (l1.length : Int) + 1, X.stamps + 1) else pkD X a := fun a => by
        show pkF a (l1 ++ { x with s := X.stamps + 1 } :: l2) 0 _ = _
        rw [pkF_drain a l1 l2 x _ X.stamps hl1 hl2 z3 (Int.le_refl _) hp, ← eA]
        rfl
      rw [hpk]
      have e8 : (y.a / 8).toNat = m0 := by omega
      by_cases e : (y.a / 8).toNat = m
      · have ex : x.a = 8 * (m : Int) := by rw [← ya]; omega
        rw [if_pos e, if_pos (show (y.a / 8).toNat < S.words.length by omega), if_pos ex, yv, yt]
      · have ex : ¬ x.a = 8 * (m : Int) := by rw [← ya]; omega
        rw [if_neg e, if_neg ex]
        exact h.words m hm
    · rw [G.s, G.r, eT]
      exact h.st2.set hz
theorem dr_hasCore (S : Sta) (c : Int) (n : Nat) (o : Int) : hasCoreB (dr S c n) o = hasCoreB S o := hasCore_len (dr_len S c n).1 o
theorem lk_dr {S : Sta} {X : Doc} (h : Lk S X) {c : Int} (hc : hasCoreB S c = true) (n : Nat) : Lk (dr S c n) (drD X c n) := by
  induction n with
  | zero => exact h
  | succ n ih => exact lk_drain ih (by rw [dr_hasCore]; exact hc)
theorem lk_flush {S : Sta} {X : Doc} (h : Lk S X) {c : Int} (hc : hasCoreB S c = true) : Lk (flushS S c) (flushDS X c) := by
  rw [flushS, flushDS, (h.held hc).2]
  exact lk_dr h hc _
theorem lk_put {S : Sta} {X : Doc} (h : Lk S X) {c a : Int} (v : Int) (h0 : 0 ≤ a) (ho : okB S c a = true) : Lk (putS S c a v) (putDS X c a v) := by
  have hc : hasCoreB S c = true := by simp only [okB, Bool.and_eq_true] at ho; exact ho.1
  have hw : hasWordB S a = true := by simp only [okB, Bool.and_eq_true] at ho; exact ho.2
  have hO := h.ok.put c a v h0
  have hF' := lk_flush h hc
  have hfl := flush_len S c
  have hbl : (flushS S c).bufs.length = S.bufs.length := (dr_len S c _).1
  have hsl : (flushS S c).stamps.length = S.stamps.length := (dr_len S c _).2.1
  have hwl : (flushS S c).words.length = S.words.length := (dr_len S c _).2.2
  have eS : putS S c a v = reachS { flushS S c with stamps := (flushS S c).stamps ++ [0] } ⟨a, v, S.stamps.length + 1⟩ := by rw [putS, ho, if_pos rfl]
  rw [eS] at hO ⊢
  rw [putDS]
  generalize flushS S c = T at *
  generalize flushDS X c = Y at *
  have hp : 0 ≤ Y.stamps := by rw [hF'.reached]; exact hF'.st2.pos
  obtain ⟨m0, rfl, hm0⟩ := word_nat h0 hw
  have eT : ((S.stamps.length : Int) + 1 - 1).toNat = T.stamps.length := by omega
  have e8 : (8 * (m0 : Int) / 8).toNat = m0 := by omega
  have hst : (reachS { T with stamps := T.stamps ++ [0] } ⟨8 * (m0 : Int), v, (S.stamps.length : Int) + 1⟩).stamps = T.stamps ++ [T.reached + 1] := by
    show (T.stamps ++ [0]).set ((S.stamps.length : Int) + 1 - 1).toNat (T.reached + 1) = _
    rw [eT, List.set_append_right _ _ (Nat.le_refl _), Nat.sub_self]; rfl
  refine ⟨hO, by simp only [reachS, List.length_set]; exact hF'.first, hF'.cores, hF'.depth, ?_, ?_, fun m hm => ?_, fun m hm => ?_, ?_⟩
  · rw [hst, hF'.stamps, hF'.reached]; simp
  · show Y.stamps + 1 = T.reached + 1
    rw [hF'.reached]
  · show T.bufs[m]? = some (hF m (Y.all ++ [⟨c, 8 * (m0 : Int), v, Y.stamps + 1⟩]) 0)
    have : hF (m : Int) (Y.all ++ [⟨c, 8 * (m0 : Int), v, Y.stamps + 1⟩]) 0 = hF m Y.all 0 := by
      rw [hF_app, hF, if_neg (fun e => by have := e.2; dsimp only at this; omega)]
      simp [hF]
    rw [this]
    exact hF'.bufs m hm
  · have hm' : m < T.words.length := by simpa [reachS] using hm
    show (T.words.set (8 * (m0 : Int) / 8).toNat (v, (S.stamps.length : Int) + 1))[m]? = _
    have hpk : ∀ b, pkD { Y with stamps := Y.stamps + 1, all := Y.all ++ [⟨c, 8 * (m0 : Int), v, Y.stamps + 1⟩] } b = if 8 * (m0 : Int) = b then (v, (Y.all.length : Int) + 1, Y.stamps + 1) else pkD Y b := fun b => by
      show pkF b (Y.all ++ [⟨c, 8 * (m0 : Int), v, Y.stamps + 1⟩]) 0 (Y.first.getD (b / 8).toNat 0, 0, 0) = _
      have hb := (pkF_le b Y.all 0 (Y.first.getD (b / 8).toNat 0, 0, 0) Y.stamps (fun s hs => (hF'.le s hs).2) hp).1
      rw [pkF_snoc]
      by_cases e : 8 * (m0 : Int) = b
      · rw [if_pos ⟨e, by dsimp only; omega⟩, if_pos e, Nat.zero_add]
      · rw [if_neg (fun h => e h.1), if_neg e]; rfl
    rw [hpk, e8, List.getElem?_set]
    by_cases e : m0 = m
    · subst e
      rw [if_pos rfl, if_pos hm', if_pos rfl, hF'.len, hsl]
    · rw [if_neg e, if_neg (by omega)]
      exact hF'.words m hm'
  · rw [hst]
    exact hF'.st2.app
theorem lk_set {S : Sta} {X : Doc} (h : Lk S X) (a v : Int) (h0 : 0 ≤ a) : Lk (setS S a v) (setD X a v) ∧ setE S a = dsetE X a := by
  have hb := h.bad 0 a h0
  have hc : hasCoreB S 0 = true := by simp only [hasCoreB, Bool.and_eq_true, decide_eq_true_eq]; have := h.ok.c1; omega
  rw [okB, hc, Bool.true_and] at hb
  have hlen := h.len
  have eE : setE S a = dsetE X a := by
    rw [setE, dsetE, hb]
    cases hw : hasWordB S a
    · rfl
    · simp only [if_true, Bool.not_true, Bool.false_eq_true, if_false]
      by_cases e : 0 < S.stamps.length
      · rw [if_pos e, if_pos (by omega)]
      · rw [if_neg e, if_neg (by omega)]
  refine ⟨?_, eE⟩
  rw [setS, setD, ← eE]
  by_cases e : hasWordB S a = true ∧ S.stamps.length = 0
  · have e0 : setE S a = 0 := by rw [setE, e.1, if_pos rfl, if_neg (by omega)]
    rw [if_pos e, if_pos e0]
    have hA : X.all = [] := List.eq_nil_of_length_eq_zero (by omega)
    obtain ⟨m0, rfl, hm0⟩ := word_nat h0 e.1
    have e8 : (8 * (m0 : Int) / 8).toNat = m0 := by omega
    rw [e8]
    have hO : Sta.Ok { S with words := S.words.set m0 (v, (S.words.getD m0 (0, 0)).2) } := by
      have O := h.ok
      exact ⟨by simpa using O.w1, by simpa using O.w2, O.c1, O.c2, O.d1, O.d2, by simpa using O.held, O.lens, O.cnt, O.pos, O.st⟩
    refine ⟨hO, by simpa using h.first, h.cores, h.depth, h.stamps, h.reached, h.bufs, fun m hm => ?_, h.st2⟩
    have hm' : m < S.words.length := by simpa using hm
    have hw := h.words m hm'
    have hw0 := h.words m0 hm0
    have pk0 : ∀ (F : List Int) (b : Int), pkD { X with first := F } b = (F.getD (b / 8).toNat 0, 0, 0) := fun F b => by rw [pkD, hA]; rfl
    have pk1 : ∀ b, pkD X b = (X.first.getD (b / 8).toNat 0, 0, 0) := fun b => by rw [pkD, hA]; rfl
    rw [pk1] at hw hw0
    rw [pk0, List.getElem?_set]
    have e9 : (8 * (m : Int) / 8).toNat = m := by omega
    rw [e9]
    have hfl : m0 < X.first.length := by rw [h.first]; exact hm0
    by_cases e2 : m0 = m
    · subst e2
      rw [if_pos rfl, if_pos hm']
      simp [List.getD_eq_getElem?_getD, hfl, hw0]
    · rw [if_neg e2]
      rw [e9] at hw
      simp only [List.getD_eq_getElem?_getD, List.getElem?_set_ne e2] at hw ⊢
      exact hw
  · rw [if_neg e]
    have e0 : ¬ setE S a = 0 := by
      rw [setE]
      by_cases hw : hasWordB S a = true
      · have hne : S.stamps.length ≠ 0 := fun h0 => e ⟨hw, h0⟩
        rw [if_pos hw, if_pos (by omega)]; decide
      · rw [if_neg hw]; decide
    rw [if_neg e0]
    exact h
/-- The orders are one. -/
theorem ordI_one (A : List R4) (st : Int) (k : Nat) (hk : (A.map (·.s))[k]? = some st) (hu : ∀ j : Nat, (A.map (·.s))[j]? = some st → j = k) : ∀ i, i ≤ A.length → ordI A st i = if k < i then [(k : Int) + 1] else [] := by
  intro i
  induction i with
  | zero => intro _; simp [ordI]
  | succ i ih =>
    intro hi
    have ih := ih (by omega)
    have hx : A[i]? = some A[i] := List.getElem?_eq_getElem (by omega)
    have hg : A.getD i ⟨0, 0, 0, 0⟩ = A[i] := by rw [List.getD_eq_getElem?_getD, hx]; rfl
    rw [ordI, hg]
    by_cases e : A[i].s = st
    · have := hu i (by rw [List.getElem?_map, hx]; simp [e])
      subst this
      rw [if_pos e, ih, if_neg (by omega), if_pos (by omega)]; rfl
    · rw [if_neg e, ih]
      have hne : i ≠ k := fun e2 => by
        subst e2
        rw [List.getElem?_map, hx] at hk
        exact e (by simpa using hk)
      by_cases h1 : k < i
      · rw [if_pos h1, if_pos (by omega)]
      · rw [if_neg h1, if_neg (by omega)]
theorem Lk.bij {S : Sta} {X : Doc} (h : Lk S X) : ∀ (i j : Nat) x, S.stamps[i]? = some x → S.stamps[j]? = some x → 0 < x → i = j := h.st2.inj
theorem ord_at {S : Sta} {X : Doc} (h : Lk S X) : ∀ n : Nat, (n : Int) ≤ S.reached → (ordD X.all n).length = n ∧ ∀ (i : Nat), i < n → ∃ k : Nat, S.stamps[k]? = some ((i : Int) + 1) ∧ (ordD X.all n)[i]? = some ((k : Int) + 1) := by
  intro n
  induction n with
  | zero => intro _; exact ⟨rfl, fun i hi => by omega⟩
  | succ n ih =>
    intro hn
    obtain ⟨h1, h2⟩ := ih (by omega)
    obtain ⟨k, hk⟩ := h.st2.sur ((n : Int) + 1) (by omega) (by omega)
    have hk' := hk
    rw [h.stamps] at hk'
    have hkl : k < X.all.length := by have := (List.getElem?_eq_some_iff.1 hk).1; rw [h.len]; exact this
    have e := ordI_one X.all ((n : Int) + 1) k hk' (fun j hj => h.st2.inj j k _ (by rw [h.stamps]; exact hj) hk (by omega)) X.all.length (Nat.le_refl _)
    rw [if_pos hkl] at e
    rw [ordD, e]
    refine ⟨by rw [List.length_append, h1]; rfl, fun i hi => ?_⟩
    by_cases hin : i < n
    · obtain ⟨k2, e1, e2⟩ := h2 i hin
      exact ⟨k2, e1, by rw [List.getElem?_append_left (by omega)]; exact e2⟩
    · obtain rfl : i = n := by omega
      exact ⟨k, hk, by rw [List.getElem?_append_right (by omega), h1]; simp⟩
theorem Lk.full_bij {S : Sta} {X : Doc} (h : Lk S X) : ordF S.stamps 0 (List.replicate S.reached.toNat 0) = orderL S := rfl
end Go.Proofs.Ytjkjbcnafpljoaa
