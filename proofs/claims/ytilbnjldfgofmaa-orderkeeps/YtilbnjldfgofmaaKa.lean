/- What is seen of a block: plain. -/
import Derived.Test.YtilbnjldfgofmaaPa
namespace Go.Proofs.Ytilbnjldfgofmaa
open Go.RowKit
set_option linter.unusedVariables false
set_option linter.unusedSimpArgs false
set_option maxRecDepth 8000

/-- What an operation sets, what it gets: numbers, each register, stack pointer and flag and the PC its own. -/
def setN (o : Opr) : Option Nat := if o.kind = 3 then some o.r.toNat else if o.kind = 5 then some 31 else if o.kind = 7 then some (32 + o.r.toNat) else if o.kind = 14 then some 36 else none
def getN (o : Opr) : Option Nat := if o.kind = 2 then some o.r.toNat else if o.kind = 4 then some 31 else if o.kind = 6 then some (32 + o.r.toNat) else none
def lvB (o : Opr) : Bool := hasP o.kind 64
/-- Is it set anew, ahead of all that gets it and of all that leaves? -/
def anew (n : Nat) : List Opr → Bool
  | [] => false
  | o :: t => if getN o = some n ∨ lvB o = true then false else if setN o = some n then true else anew n t
/-- Is an operation seen, where this stands behind it, and somebody seen uses it? -/
def seesB (o : Opr) (t : List Opr) (s : Bool) : Bool := match setN o with
  | some n => !(anew n t)
  | none => if o.kind = 13 ∨ lvB o = true then true else s
def upAll (S : List Bool) (us : List Int) : List Bool := us.foldl (fun S u => S.set u.toNat true) S
/-- What is marked behind the last d operations. -/
def markK (l : List Opr) : Nat → List Bool
  | 0 => List.replicate l.length false
  | d + 1 => if seesB (opAt l (l.length - (d + 1))) (l.drop (l.length - d)) ((markK l d).getD (l.length - (d + 1)) false) = true then upAll ((markK l d).set (l.length - (d + 1)) true) (usesL (opAt l (l.length - (d + 1)))) else markK l d
def seenL (l : List Opr) : List Bool := (markK l l.length).set 0 true
def seenAt (l : List Opr) (k : Nat) : Bool := (seenL l).getD k false
theorem upAll_len (S : List Bool) (us : List Int) : (upAll S us).length = S.length := by
  unfold upAll
  induction us generalizing S with
  | nil => rfl
  | cons u us ih => rw [List.foldl_cons, ih, List.length_set]
theorem markK_len (l : List Opr) : ∀ d, (markK l d).length = l.length
  | 0 => List.length_replicate
  | d + 1 => by
    have ih := markK_len l d
    unfold markK
    split
    · rw [upAll_len, List.length_set, ih]
    · exact ih
theorem seenL_len (l : List Opr) : (seenL l).length = l.length := by unfold seenL; rw [List.length_set, markK_len]
theorem setD (S : List Bool) (j i : Nat) : (S.set j true).getD i false = (S.getD i false || decide (i = j ∧ i < S.length)) := by
  rw [List.getD_eq_getElem?_getD, List.getD_eq_getElem?_getD, List.getElem?_set]
  by_cases h : j = i
  · subst h
    rw [if_pos rfl]
    by_cases h2 : j < S.length
    · rw [if_pos h2]; simp [h2]
    · rw [if_neg h2]; simp [h2]
  · rw [if_neg h]
    have : ¬ (i = j ∧ i < S.length) := fun e => h e.1.symm
    rw [decide_eq_false this, Bool.or_false]
theorem upAllD (S : List Bool) (us : List Int) (i : Nat) : (upAll S us).getD i false = (S.getD i false || (us.any (fun u => decide (i = u.toNat)) && decide (i < S.length))) := by
  unfold upAll
  induction us generalizing S with
  | nil => simp
  | cons u us ih =>
    rw [List.foldl_cons, ih, setD, List.length_set, List.any_cons]
    by_cases h : i = u.toNat
    · by_cases h2 : i < S.length
      · rw [decide_eq_true h, decide_eq_true h2, decide_eq_true (And.intro h h2)]; simp
      · rw [decide_eq_false h2, decide_eq_false (fun q : i = u.toNat ∧ i < S.length => h2 q.2)]; simp
    · rw [decide_eq_false h, decide_eq_false (fun q : i = u.toNat ∧ i < S.length => h q.1)]; simp
section
variable {pc words el : Int} {l : List Opr}
/-- What holds of each operation of a right block. -/
theorem use_lt (h : rightB pc words el l = true) {k : Nat} (hk : k < l.length) {u : Int} (hu : u ∈ usesL (opAt l k)) : 0 ≤ u ∧ u.toNat < k ∧ hasP (opAt l u.toNat).kind 32 = true := by
  unfold rightB at h
  simp only [Bool.and_eq_true] at h
  have := ops_at h.2 hk
  unfold okAt at this
  simp only [Bool.and_eq_true, List.all_eq_true] at this
  have := this.2 u hu
  unfold defB at this
  simp only [Bool.and_eq_true, decide_eq_true_eq] at this
  exact ⟨this.1.1, by omega, this.2⟩
theorem markK_step (l : List Opr) (d i : Nat) : (markK l (d + 1)).getD i false = ((markK l d).getD i false || (seesB (opAt l (l.length - (d + 1))) (l.drop (l.length - d)) ((markK l d).getD (l.length - (d + 1)) false) && ((decide (i = l.length - (d + 1)) || (usesL (opAt l (l.length - (d + 1)))).any (fun u => decide (i = u.toNat))) && decide (i < l.length)))) := by
  have hl := markK_len l d
  show (if _ then _ else _ : List Bool).getD i false = _
  split
  · rename_i h
    rw [h, upAllD, setD, List.length_set, hl]
    have e : decide (i = l.length - (d + 1) ∧ i < l.length) = (decide (i = l.length - (d + 1)) && decide (i < l.length)) := by rw [Bool.decide_and]
    rw [e, Bool.true_and, Bool.and_or_distrib_right, Bool.or_assoc]
  · rename_i h
    have : seesB (opAt l (l.length - (d + 1))) (l.drop (l.length - d)) ((markK l d).getD (l.length - (d + 1)) false) = false := by simpa using h
    rw [this, Bool.false_and, Bool.or_false]
/-- Behind its own turn nothing of an operation changes. -/
theorem markK_stay (h : rightB pc words el l = true) {d i : Nat} (hd : d + 1 ≤ l.length) (hi : l.length - d ≤ i) : (markK l (d + 1)).getD i false = (markK l d).getD i false := by
  rw [markK_step]
  by_cases h2 : i < l.length
  · have h1 : ¬ i = l.length - (d + 1) := by omega
    have h3 : (usesL (opAt l (l.length - (d + 1)))).any (fun u => decide (i = u.toNat)) = false := by
      rw [List.any_eq_false]
      intro u hu
      have := (use_lt h (by omega) hu).2.1
      simp only [decide_eq_true_eq]
      omega
    rw [h3, decide_eq_false h1]; simp
  · simp [h2]
theorem markK_all (h : rightB pc words el l = true) {i : Nat} (hi : i < l.length) : ∀ e, l.length - i + e ≤ l.length → (markK l (l.length - i + e)).getD i false = (markK l (l.length - i)).getD i false
  | 0, _ => rfl
  | e + 1, he => by
    have ih := markK_all h hi e (by omega)
    rw [← ih]
    have hs := markK_stay (d := l.length - i + e) (i := i) h (by omega) (by omega)
    exact hs
theorem marked_32 (h : rightB pc words el l = true) : ∀ d i, d + i < l.length → (markK l d).getD i false = true → hasP (opAt l i).kind 32 = true
  | 0, i, hd, e => by
    unfold markK at e
    rw [List.getD_eq_getElem?_getD, List.getElem?_replicate, if_pos (by omega)] at e
    cases e
  | d + 1, i, hd, e => by
    rw [markK_step, Bool.or_eq_true] at e
    rcases e with e | e
    · exact marked_32 h d i (by omega) e
    · simp only [Bool.and_eq_true, Bool.or_eq_true, decide_eq_true_eq, List.any_eq_true] at e
      obtain ⟨-, h5 | ⟨u, hu, e⟩, -⟩ := e
      · omega
      · rw [e]; exact (use_lt h (by omega) hu).2.2
theorem set_32 {o : Opr} (h : hasP o.kind 32 = true) : setN o = none := by
  unfold setN
  have h3 : o.kind ≠ 3 := fun e => by rw [e] at h; revert h; decide +kernel
  have h5 : o.kind ≠ 5 := fun e => by rw [e] at h; revert h; decide +kernel
  have h7 : o.kind ≠ 7 := fun e => by rw [e] at h; revert h; decide +kernel
  have h14 : o.kind ≠ 14 := fun e => by rw [e] at h; revert h; decide +kernel
  rw [if_neg h3, if_neg h5, if_neg h7, if_neg h14]
theorem sees_used {o : Opr} (t : List Opr) (h : hasP o.kind 32 = true) : seesB o t true = true := by
  unfold seesB
  rw [set_32 h]
  dsimp only
  split <;> rfl
/-- The mark of an operation behind its own turn. -/
theorem mark_own (h : rightB pc words el l = true) {k : Nat} (hk : k < l.length) : (markK l (l.length - k)).getD k false = seesB (opAt l k) (l.drop (k + 1)) ((markK l (l.length - (k + 1))).getD k false) := by
  have e1 : l.length - k = (l.length - (k + 1)) + 1 := by omega
  have e2 : l.length - (l.length - (k + 1) + 1) = k := by omega
  have e3 : l.length - (l.length - (k + 1)) = k + 1 := by omega
  rw [e1, markK_step, e2, e3]
  have hd : decide (k = k) = true := by simp
  have hd2 : decide (k < l.length) = true := by simp [hk]
  rw [hd, hd2, Bool.true_or, Bool.and_true, Bool.and_true]
  cases hs : (markK l (l.length - (k + 1))).getD k false with
  | false => rw [Bool.false_or]
  | true => rw [sees_used _ (marked_32 h _ _ (by omega) hs), Bool.true_or]
theorem seenAt_eq (h : rightB pc words el l = true) {k : Nat} (hk : k < l.length) : seenAt l k = (decide (k = 0) || seesB (opAt l k) (l.drop (k + 1)) ((markK l (l.length - (k + 1))).getD k false)) := by
  unfold seenAt seenL
  rw [setD, markK_len]
  have := markK_all h hk k (by omega)
  rw [show l.length - k + k = l.length by omega] at this
  rw [this, mark_own h hk, Bool.or_comm]
  congr 1
  rw [decide_eq_decide]
  omega
theorem seen_first (h : 0 < l.length) : seenAt l 0 = true := by
  unfold seenAt seenL
  rw [setD, markK_len]
  simp [h]
/-- What a seen one uses is seen. -/
theorem seen_uses (h : rightB pc words el l = true) {k : Nat} (hk : k < l.length) (hs : seenAt l k = true) {u : Int} (hu : u ∈ usesL (opAt l k)) : seenAt l u.toNat = true := by
  have hL := use_lt h hk hu
  have hul : u.toNat < l.length := by omega
  have hk0 : k ≠ 0 := by omega
  rw [seenAt_eq h hk, decide_eq_false hk0, Bool.false_or] at hs
  have hm : (markK l (l.length - k)).getD u.toNat false = true := by
    have e1 : l.length - k = (l.length - (k + 1)) + 1 := by omega
    have e2 : l.length - (l.length - (k + 1) + 1) = k := by omega
    have e3 : l.length - (l.length - (k + 1)) = k + 1 := by omega
    rw [e1, markK_step, e2, e3, hs, Bool.or_eq_true]
    right
    simp only [Bool.true_and, Bool.and_eq_true, Bool.or_eq_true, decide_eq_true_eq, List.any_eq_true]
    exact ⟨.inr ⟨u, hu, rfl⟩, hul⟩
  have up : ∀ e, (markK l (l.length - k + e)).getD u.toNat false = true := by
    intro e
    induction e with
    | zero => exact hm
    | succ e ih =>
      show (markK l (l.length - k + e + 1)).getD u.toNat false = true
      rw [markK_step, ih, Bool.true_or]
  have := up k
  rw [show l.length - k + k = l.length by omega] at this
  unfold seenAt seenL
  rw [setD, this, Bool.true_or]
theorem seen_not (h : rightB pc words el l = true) {k : Nat} (hk : k < l.length) (hs : seenAt l k = false) : k ≠ 0 ∧ seesB (opAt l k) (l.drop (k + 1)) false = false := by
  rw [seenAt_eq h hk, Bool.or_eq_false_iff, decide_eq_false_iff_not] at hs
  refine ⟨hs.1, ?_⟩
  have := hs.2
  unfold seesB at this ⊢
  generalize setN (opAt l k) = q at *
  cases q with
  | some n => exact this
  | none =>
    dsimp only at this ⊢
    split
    · rename_i q; rw [if_pos q] at this; exact this
    · rfl
theorem seen_leaves (h : rightB pc words el l = true) {k : Nat} (hk : k < l.length) (hl : lvB (opAt l k) = true ∨ (opAt l k).kind = 13) : seenAt l k = true := by
  cases hs : seenAt l k with
  | true => rfl
  | false =>
    have := (seen_not h hk hs).2
    have e : setN (opAt l k) = none := by
      unfold setN lvB at *
      have hn : ∀ q : Int, hasP q 64 = false → q ≠ 13 → (opAt l k).kind ≠ q := fun q h1 h2 e => by
        rcases hl with hl | hl
        · rw [e] at hl; rw [hl] at h1; cases h1
        · exact h2 (e.symm.trans hl)
      rw [if_neg (hn 3 (by decide +kernel) (by decide)), if_neg (hn 5 (by decide +kernel) (by decide)), if_neg (hn 7 (by decide +kernel) (by decide)), if_neg (hn 14 (by decide +kernel) (by decide))]
    unfold seesB at this
    rw [e] at this
    dsimp only at this
    rw [if_pos (by rcases hl with hl | hl; exact .inr hl; exact .inl hl)] at this
    cases this
end
end Go.Proofs.Ytilbnjldfgofmaa
