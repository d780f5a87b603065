/- A block without what nobody sees: plain. -/
import Derived.Test.YtilbnjldfgofmaaKa
namespace Go.Proofs.Ytilbnjldfgofmaa
open Go.RowKit
set_option linter.unusedVariables false
set_option linter.unusedSimpArgs false
set_option maxRecDepth 8000

/-- How many are kept ahead of a place; where an operation lies then. -/
def cntS (s : Nat → Bool) : Nat → Nat
  | 0 => 0
  | k + 1 => cntS s k + (if s k = true then 1 else 0)
def plS (s : Nat → Bool) (k : Nat) : Nat := if s k = true then cntS s k else 0
def tellO (o : Opr) (s : Nat → Bool) : Opr := { o with a := (plS s o.a.toNat : Nat), b := (plS s o.b.toNat : Nat) }
def keepF (l : List Opr) (s : Nat → Bool) : Nat → List Opr
  | 0 => []
  | k + 1 => if s k = true then keepF l s k ++ [tellO (opAt l k) s] else keepF l s k
def onlyL (l : List Opr) : List Opr := keepF l (seenAt l) l.length
def allSeen (l : List Opr) : Bool := (List.range l.length).all (seenAt l)
def deadF : Nat → List Opr → List Opr
  | 0, l => l
  | f + 1, l => if allSeen l = true then l else deadF f (onlyL l)
def deadL (l : List Opr) : List Opr := deadF l.length l
theorem cnt_le (s : Nat → Bool) : ∀ k, cntS s k ≤ k
  | 0 => Nat.le_refl _
  | k + 1 => by
    have := cnt_le s k
    show cntS s k + (if s k = true then 1 else 0) ≤ _
    split <;> omega
theorem cnt_mono (s : Nat → Bool) : ∀ {j k}, j ≤ k → cntS s j ≤ cntS s k := by
  intro j k h
  induction k with
  | zero => rw [Nat.le_zero.1 h]; exact Nat.le_refl _
  | succ k ih =>
    rcases Nat.lt_or_ge k j with q | q
    · rw [show j = k + 1 by omega]; exact Nat.le_refl _
    · have := ih q
      show cntS s j ≤ cntS s k + _
      omega
theorem cnt_succ {s : Nat → Bool} {k : Nat} (h : s k = true) : cntS s (k + 1) = cntS s k + 1 := by
  show cntS s k + (if s k = true then 1 else 0) = _
  rw [if_pos h]
theorem cnt_off {s : Nat → Bool} {k : Nat} (h : s k = false) : cntS s (k + 1) = cntS s k := by
  show cntS s k + (if s k = true then 1 else 0) = _
  rw [h, if_neg (by decide)]; rfl
theorem cnt_lt {s : Nat → Bool} {j k : Nat} (h : s j = true) (hj : j < k) : cntS s j < cntS s k := by
  have := cnt_mono s (show j + 1 ≤ k by omega)
  rw [cnt_succ h] at this
  omega
theorem keep_len (l : List Opr) (s : Nat → Bool) : ∀ k, (keepF l s k).length = cntS s k
  | 0 => rfl
  | k + 1 => by
    have ih := keep_len l s k
    cases h : s k with
    | true => rw [cnt_succ h]; unfold keepF; rw [if_pos h, List.length_append, ih]; rfl
    | false => rw [cnt_off h]; unfold keepF; rw [h, if_neg (by decide), ih]
theorem keep_on {l : List Opr} {s : Nat → Bool} {k : Nat} (h : s k = true) : keepF l s (k + 1) = keepF l s k ++ [tellO (opAt l k) s] := by
  show (if s k = true then _ else _) = _
  rw [if_pos h]
theorem keep_off {l : List Opr} {s : Nat → Bool} {k : Nat} (h : s k = false) : keepF l s (k + 1) = keepF l s k := by
  show (if s k = true then _ else _) = _
  rw [h, if_neg (by decide)]
theorem opAt_left_ {l m : List Opr} {k : Nat} (h : k < l.length) : opAt (l ++ m) k = opAt l k := by
  unfold opAt; rw [List.getElem?_append_left h]
theorem opAt_end_ (l : List Opr) (o : Opr) : opAt (l ++ [o]) l.length = o := by
  unfold opAt; simp
/-- Where a kept operation lies. -/
theorem keep_at (l : List Opr) (s : Nat → Bool) : ∀ n k, k < n → s k = true → opAt (keepF l s n) (cntS s k) = tellO (opAt l k) s
  | 0, k, hk, _ => by omega
  | n + 1, k, hk, hs => by
    rcases Nat.lt_or_ge k n with q | q
    · have ih := keep_at l s n k q hs
      have hlt := cnt_lt hs q
      cases h : s n with
      | true => rw [keep_on h, opAt_left_ (by rw [keep_len]; exact hlt)]; exact ih
      | false => rw [keep_off h]; exact ih
    · obtain rfl : k = n := by omega
      rw [keep_on hs]
      have := opAt_end_ (keepF l s k) (tellO (opAt l k) s)
      rwa [keep_len] at this
/-- Every kept one was one. -/
theorem keep_from (l : List Opr) (s : Nat → Bool) : ∀ n j, j < cntS s n → ∃ k, k < n ∧ s k = true ∧ cntS s k = j
  | 0, j, h => by simp [cntS] at h
  | n + 1, j, h => by
    cases hs : s n with
    | true =>
      rw [cnt_succ hs] at h
      rcases Nat.lt_or_ge j (cntS s n) with q | q
      · obtain ⟨k, h1, h2, h3⟩ := keep_from l s n j q
        exact ⟨k, by omega, h2, h3⟩
      · exact ⟨n, by omega, hs, by omega⟩
    | false =>
      rw [cnt_off hs] at h
      obtain ⟨k, h1, h2, h3⟩ := keep_from l s n j h
      exact ⟨k, by omega, h2, h3⟩
section
variable {pc words el : Int} {l : List Opr}
theorem plS_on {s : Nat → Bool} {k : Nat} (h : s k = true) : plS s k = cntS s k := by unfold plS; rw [if_pos h]
theorem plS_zero (s : Nat → Bool) : plS s 0 = 0 := by unfold plS; split <;> rfl
theorem noA {l : List Opr} {k : Nat} (h : okAt l k = true) (hp : hasP (opAt l k).kind 2 = false) : (opAt l k).a = 0 := by
  unfold okAt opB at h
  simp only [Bool.and_eq_true, Bool.or_eq_true, beq_iff_eq] at h
  rcases h.1.2.1.1.1.1.2 with q | q
  · rw [hp] at q; cases q
  · exact q
theorem noB {l : List Opr} {k : Nat} (h : okAt l k = true) (hp : hasP (opAt l k).kind 4 = false) : (opAt l k).b = 0 := by
  unfold okAt opB at h
  simp only [Bool.and_eq_true, Bool.or_eq_true, beq_iff_eq] at h
  rcases h.1.2.1.1.1.2 with q | q
  · rw [hp] at q; cases q
  · exact q
theorem right_at (h : rightB pc words el l = true) {k : Nat} (hk : k < l.length) : okAt l k = true := by
  unfold rightB at h
  rw [Bool.and_eq_true] at h
  exact ops_at h.2 hk
theorem right_head (h : rightB pc words el l = true) : headB pc words el l = true := by
  unfold rightB at h
  rw [Bool.and_eq_true] at h
  exact h.1
theorem right_lens (h : rightB pc words el l = true) : 0 < l.length ∧ l.length ≤ 512 ∧ opAt l 0 = ⟨14, 0, 0, 0, 0, pc⟩ := by
  have := right_head h
  unfold headB at this
  simp only [Bool.and_eq_true, decide_eq_true_eq] at this
  exact ⟨this.1.1.2, this.1.2, this.2⟩
theorem uses_a {o : Opr} (h : hasP o.kind 2 = true) : o.a ∈ usesL o := by unfold usesL; rw [if_pos h]; simp
theorem uses_b {o : Opr} (h : hasP o.kind 4 = true) : o.b ∈ usesL o := by unfold usesL; rw [if_pos h]; simp
/-- What a kept operation is told anew: its values' new places, or 0. -/
theorem told_uses (h : rightB pc words el l = true) {k : Nat} (hk : k < l.length) (hs : seenAt l k = true) {u : Int} (hu : u ∈ usesL (tellO (opAt l k) (seenAt l))) : ∃ v : Int, v ∈ usesL (opAt l k) ∧ u = (cntS (seenAt l) v.toNat : Nat) := by
  have e : (tellO (opAt l k) (seenAt l)).kind = (opAt l k).kind := rfl
  unfold usesL at hu
  rw [e] at hu
  rw [List.mem_append] at hu
  rcases hu with hu | hu
  · by_cases q : hasP (opAt l k).kind 2 = true
    · rw [if_pos q] at hu
      have hm := uses_a q
      refine ⟨_, hm, ?_⟩
      rw [List.mem_singleton] at hu
      rw [hu]
      show ((plS (seenAt l) (opAt l k).a.toNat : Nat) : Int) = _
      rw [plS_on (seen_uses h hk hs hm)]
    · rw [if_neg q] at hu; cases hu
  · by_cases q : hasP (opAt l k).kind 4 = true
    · rw [if_pos q] at hu
      have hm := uses_b q
      refine ⟨_, hm, ?_⟩
      rw [List.mem_singleton] at hu
      rw [hu]
      show ((plS (seenAt l) (opAt l k).b.toNat : Nat) : Int) = _
      rw [plS_on (seen_uses h hk hs hm)]
    · rw [if_neg q] at hu; cases hu
theorem has128_64 {k : Int} (hK : isK k = true) (h : hasP k 128 = true) : hasP k 64 = true := by
  rcases isK_cases hK with rfl | rfl | rfl | rfl | rfl | rfl | rfl | rfl | rfl | rfl | rfl | rfl | rfl | rfl | rfl | rfl | rfl | rfl <;> revert h <;> decide +kernel
theorem last_seen (h : rightB pc words el l = true) {k : Nat} (hk : k + 1 = l.length) : seenAt l k = true := by
  have := right_at h (show k < l.length by omega)
  unfold okAt at this
  simp only [Bool.and_eq_true, beq_iff_eq] at this
  have h128 : hasP (opAt l k).kind 128 = true := by rw [this.1.1.2]; exact decide_eq_true hk
  exact seen_leaves h (by omega) (.inl (has128_64 this.1.1.1 h128))
theorem only_len (l : List Opr) : (onlyL l).length = cntS (seenAt l) l.length := keep_len _ _ _
theorem only_at (l : List Opr) {k : Nat} (hk : k < l.length) (hs : seenAt l k = true) : opAt (onlyL l) (cntS (seenAt l) k) = tellO (opAt l k) (seenAt l) := keep_at _ _ _ _ hk hs
theorem only_from (l : List Opr) {j : Nat} (hj : j < (onlyL l).length) : ∃ k, k < l.length ∧ seenAt l k = true ∧ cntS (seenAt l) k = j := by rw [only_len] at hj; exact keep_from l _ _ _ hj
theorem tell_first {o : Opr} (s : Nat → Bool) (ha : o.a = 0) (hb : o.b = 0) : tellO o s = o := by
  obtain ⟨k, r, a, b, od, i⟩ := o
  dsimp only at ha hb
  subst ha hb
  unfold tellO
  simp only [Int.toNat_zero, plS_zero]
  rfl
theorem only_right (h : rightB pc words el l = true) : rightB pc words el (onlyL l) = true := by
  obtain ⟨h0, h512, hf⟩ := right_lens h
  have hs0 := seen_first h0
  have hle : (onlyL l).length ≤ l.length := by rw [only_len]; exact cnt_le _ _
  have hpos : 0 < (onlyL l).length := by rw [only_len]; exact Nat.lt_of_le_of_lt (Nat.zero_le _) (cnt_lt hs0 h0)
  have e0 : opAt (onlyL l) 0 = ⟨14, 0, 0, 0, 0, pc⟩ := by
    have := only_at l h0 hs0
    rw [show cntS (seenAt l) 0 = 0 from rfl, hf] at this
    rw [this]
    exact tell_first _ rfl rfl
  unfold rightB
  rw [Bool.and_eq_true]
  constructor
  · have hh := right_head h
    unfold headB at hh ⊢
    simp only [Bool.and_eq_true, decide_eq_true_eq] at hh ⊢
    exact ⟨⟨⟨hh.1.1.1, by omega⟩, by omega⟩, e0⟩
  · unfold opsB
    rw [List.all_eq_true]
    intro j hj
    rw [List.mem_range] at hj
    obtain ⟨k, hk, hs, rfl⟩ := only_from l hj
    have hok := right_at h hk
    have ea := only_at l hk hs
    have hok0 := hok
    unfold okAt at hok ⊢
    rw [ea]
    simp only [Bool.and_eq_true, beq_iff_eq] at hok ⊢
    refine ⟨⟨⟨hok.1.1.1, ?_⟩, ?_⟩, ?_⟩
    · show hasP (opAt l k).kind 128 = _
      rw [hok.1.1.2, decide_eq_decide, only_len]
      constructor
      · intro e; rw [← e, cnt_succ hs]
      · intro e
        rcases Nat.lt_or_ge (k + 1) l.length with q | q
        · exfalso
          have hl := last_seen h (k := l.length - 1) (by omega)
          have h1 := cnt_lt hl (show l.length - 1 < l.length by omega)
          have h2 := cnt_lt hs (show k < l.length - 1 by omega)
          omega
        · omega
    · have := hok.1.2
      unfold opB at this ⊢
      simp only [Bool.and_eq_true, Bool.or_eq_true, beq_iff_eq] at this ⊢
      refine ⟨⟨⟨⟨⟨this.1.1.1.1.1, ?_⟩, ?_⟩, this.1.1.2⟩, this.1.2⟩, this.2⟩
      · cases q : hasP (opAt l k).kind 2 with
        | true => exact .inl q
        | false =>
          right
          show ((plS (seenAt l) (opAt l k).a.toNat : Nat) : Int) = 0
          rw [noA hok0 q, Int.toNat_zero, plS_zero]; rfl
      · cases q : hasP (opAt l k).kind 4 with
        | true => exact .inl q
        | false =>
          right
          show ((plS (seenAt l) (opAt l k).b.toNat : Nat) : Int) = 0
          rw [noB hok0 q, Int.toNat_zero, plS_zero]; rfl
    · rw [List.all_eq_true]
      intro u hu
      obtain ⟨v, hv, rfl⟩ := told_uses h hk hs hu
      obtain ⟨v0, v1, v2⟩ := use_lt h hk hv
      have hsv := seen_uses h hk hs hv
      unfold defB
      simp only [Bool.and_eq_true, decide_eq_true_eq]
      have := cnt_lt hsv v1
      refine ⟨⟨by omega, by omega⟩, ?_⟩
      rw [Int.toNat_natCast, only_at l (by omega) hsv]
      exact v2
theorem only_less (h : allSeen l = false) : (onlyL l).length < l.length := by
  rw [only_len]
  unfold allSeen at h
  rw [List.all_eq_false] at h
  obtain ⟨k, hk, hs⟩ := h
  rw [List.mem_range] at hk
  have hs : seenAt l k = false := by simpa using hs
  have h1 := cnt_off hs
  have h2 := cnt_le (seenAt l) k
  have h3 : ∀ e, cntS (seenAt l) (k + 1 + e) ≤ cntS (seenAt l) (k + 1) + e := by
    intro e
    induction e with
    | zero => exact Nat.le_refl _
    | succ e ih =>
      show cntS (seenAt l) (k + 1 + e) + _ ≤ _
      split <;> omega
  have := h3 (l.length - (k + 1))
  rw [show k + 1 + (l.length - (k + 1)) = l.length by omega] at this
  omega
theorem only_imm (hu : ∀ k, U64 (opAt l k).imm) : ∀ k, U64 (opAt (onlyL l) k).imm := by
  intro j
  by_cases hj : j < (onlyL l).length
  · obtain ⟨k, hk, hs, rfl⟩ := only_from l hj
    rw [only_at l hk hs]
    exact hu k
  · unfold opAt
    rw [List.getElem?_eq_none (by omega)]
    exact ⟨by decide, by decide⟩
/-- What is left in the end. -/
theorem dead_all {pc words el : Int} : ∀ (f : Nat) (l : List Opr), rightB pc words el l = true → (∀ k, U64 (opAt l k).imm) → l.length ≤ f → rightB pc words el (deadF f l) = true ∧ allSeen (deadF f l) = true ∧ (deadF f l).length ≤ l.length ∧ ∀ k, U64 (opAt (deadF f l) k).imm
  | 0, l, h, hu, hf => by have := (right_lens h).1; omega
  | f + 1, l, h, hu, hf => by
    show rightB pc words el (if allSeen l = true then l else deadF f (onlyL l)) = true ∧ allSeen (if allSeen l = true then l else deadF f (onlyL l)) = true ∧ (if allSeen l = true then l else deadF f (onlyL l)).length ≤ l.length ∧ ∀ k, U64 (opAt (if allSeen l = true then l else deadF f (onlyL l)) k).imm
    cases hs : allSeen l with
    | true => rw [if_pos rfl]; exact ⟨h, hs, Nat.le_refl _, hu⟩
    | false =>
      rw [if_neg (by decide)]
      have hl := only_less hs
      obtain ⟨r1, r2, r3, r4⟩ := dead_all f (onlyL l) (only_right h) (only_imm hu) (by omega)
      exact ⟨r1, r2, by omega, r4⟩
theorem dead_right (h : rightB pc words el l = true) (hu : ∀ k, U64 (opAt l k).imm) : rightB pc words el (deadL l) = true ∧ allSeen (deadL l) = true ∧ (deadL l).length ≤ l.length ∧ ∀ k, U64 (opAt (deadL l) k).imm := dead_all _ l h hu (Nat.le_refl _)
theorem dead_same (h : allSeen l = true) : deadL l = l := by
  unfold deadL
  cases hl : l.length with
  | zero => rfl
  | succ n => show (if allSeen l = true then _ else _) = _; rw [if_pos h]
end
end Go.Proofs.Ytilbnjldfgofmaa
