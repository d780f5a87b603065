/- Plain: notes, what is lost to a core, which words may be run. No program is named. -/
import Derived.WalkKit
namespace Go.Proofs.Ytbdmemjenpnjgaa
set_option linter.unusedVariables false
set_option linter.unusedSimpArgs false

structure Nt where
  kind : Int
  core : Int
  addr : Nat
  word : Nat
def coreB (c : Int) : Bool := decide (0 ≤ c) && decide (c < 8)
def ofWord (a : Nat) : Bool := a % 4 == 0
def wrongB (n : Nt) : Bool :=
  if n.kind == 1 then n.core != 0 || !ofWord n.addr
  else if n.kind == 2 then n.core != 0 || n.word != 0
  else if n.kind == 3 then n.core != 0 || n.addr != 0 || n.word != 0
  else if n.kind == 4 then !coreB n.core || n.addr != 0 || n.word != 0
  else if n.kind == 5 then !coreB n.core || !ofWord n.addr
  else true
def rightL (tr : List Nt) : Bool := tr.all fun n => !wrongB n
def lineN (a : Nat) : Nat := a / 64 * 64
/-- What is told of an address, and a core: how often it was written; how many of these were told; how many are lost. -/
structure Au where
  nw : Nat
  told : Nat
  lost : Nat
def isW (a : Nat) (n : Nt) : Bool := n.kind == 1 && n.addr == a
def isT (a : Nat) (n : Nt) : Bool := n.kind == 3 || n.kind == 2 && n.addr / 64 == a / 64
def isI (c : Int) (n : Nt) : Bool := n.kind == 4 && n.core == c
def Au.step (c : Int) (a : Nat) (s : Au) (n : Nt) : Au :=
  if isW a n then { s with nw := s.nw + 1 } else if isT a n then { s with told := s.nw } else if isI c n then { s with lost := s.told } else s
def au (tr : List Nt) (c : Int) (a : Nat) : Au := tr.foldl (Au.step c a) ⟨0, 0, 0⟩
theorem au_snoc (tr : List Nt) (n : Nt) (c : Int) (a : Nat) : au (tr ++ [n]) c a = (au tr c a).step c a n := by simp [au]
theorem au_nil (c : Int) (a : Nat) : au [] c a = ⟨0, 0, 0⟩ := rfl
theorem snoc_ind {α : Type} {p : List α → Prop} (h0 : p []) (h1 : ∀ l x, p l → p (l ++ [x])) (l : List α) : p l := by
  have : ∀ m : List α, p m.reverse := by
    intro m
    induction m with
    | nil => exact h0
    | cons x m ih => rw [List.reverse_cons]; exact h1 _ _ ih
  have h := this l.reverse
  rwa [List.reverse_reverse] at h
theorem au_le (tr : List Nt) (c : Int) (a : Nat) : (au tr c a).lost ≤ (au tr c a).told ∧ (au tr c a).told ≤ (au tr c a).nw := by
  induction tr using snoc_ind with
  | h0 => exact ⟨Nat.le_refl _, Nat.le_refl _⟩
  | h1 l x ih =>
    rw [au_snoc]
    unfold Au.step
    split
    · dsimp only; omega
    · split
      · dsimp only; omega
      · split
        · dsimp only; omega
        · exact ih
def wordsW (tr : List Nt) (a : Nat) : List Nat := (tr.filter (isW a)).map (·.word)
def vers (tr : List Nt) (a f : Nat) : List Nat := f :: wordsW tr a
theorem wordsW_snoc (tr : List Nt) (n : Nt) (a : Nat) : wordsW (tr ++ [n]) a = wordsW tr a ++ (if isW a n then [n.word] else []) := by
  unfold wordsW
  rw [List.filter_append, List.map_append]
  congr 1
  by_cases h : isW a n = true <;> simp [h]
theorem wordsW_len (tr : List Nt) (c : Int) (a : Nat) : (wordsW tr a).length = (au tr c a).nw := by
  induction tr using snoc_ind with
  | h0 => rfl
  | h1 l x ih =>
    rw [au_snoc, wordsW_snoc, List.length_append, ih]
    unfold Au.step
    by_cases h : isW a x = true
    · simp [h]
    · simp only [h]
      split
      · simp at *
      · split <;> (try split) <;> simp
theorem vers_len (tr : List Nt) (c : Int) (a f : Nat) : (vers tr a f).length = (au tr c a).nw + 1 := by simp [vers, wordsW_len tr c a]
/-- Each word once, at its first place. -/
def onceF (out : List Nat) (l : List Nat) : List Nat := l.foldl (fun out w => if out.contains w then out else out ++ [w]) out
def onceL (l : List Nat) : List Nat := onceF [] l
theorem onceF_snoc (out l : List Nat) (w : Nat) : onceF out (l ++ [w]) = if (onceF out l).contains w then onceF out l else onceF out l ++ [w] := by simp [onceF]
theorem onceL_snoc (l : List Nat) (w : Nat) : onceL (l ++ [w]) = if (onceL l).contains w then onceL l else onceL l ++ [w] := onceF_snoc [] l w
theorem onceL_mem (l : List Nat) (w : Nat) : w ∈ onceL l ↔ w ∈ l := by
  induction l using snoc_ind with
  | h0 => exact Iff.rfl
  | h1 l x ih =>
    rw [onceL_snoc]
    split
    · rename_i h
      have h : x ∈ onceL l := by simpa using h
      rw [ih, List.mem_append, List.mem_singleton]
      constructor
      · exact Or.inl
      · rintro (h1 | rfl)
        · exact h1
        · exact (onceL_mem_aux ih).1 h
    · rw [List.mem_append, List.mem_append, ih]
where onceL_mem_aux {l : List Nat} {w : Nat} (ih : w ∈ onceL l ↔ w ∈ l) : w ∈ onceL l ↔ w ∈ l := ih
theorem onceL_len (l : List Nat) : (onceL l).length ≤ l.length := by
  induction l using snoc_ind with
  | h0 => exact Nat.le_refl _
  | h1 l x ih =>
    rw [onceL_snoc]
    split <;> simp <;> omega
theorem onceL_pos {l : List Nat} (h : l ≠ []) : 0 < (onceL l).length := by
  cases l with
  | nil => exact absurd rfl h
  | cons x l =>
    have : x ∈ onceL (x :: l) := (onceL_mem _ _).2 List.mem_cons_self
    exact List.length_pos_of_mem this
def mayL (tr : List Nt) (c : Int) (a f : Nat) : List Nat := onceL ((vers tr a f).drop (au tr c a).lost)
theorem mayL_mem (tr : List Nt) (c : Int) (a f w : Nat) : w ∈ mayL tr c a f ↔ w ∈ (vers tr a f).drop (au tr c a).lost := onceL_mem _ _
theorem mayL_pos (tr : List Nt) (c : Int) (a f : Nat) : 0 < (mayL tr c a f).length := by
  refine onceL_pos fun h => ?_
  have := congrArg List.length h
  rw [List.length_drop, vers_len tr c a f, List.length_nil] at this
  have := au_le tr c a
  omega
theorem mayL_len (tr : List Nt) (c : Int) (a f : Nat) : (mayL tr c a f).length ≤ tr.length + 1 := by
  refine Nat.le_trans (onceL_len _) ?_
  rw [List.length_drop]
  unfold vers wordsW
  simp only [List.length_cons, List.length_map]
  have := List.length_filter_le (isW a) tr
  omega
/-- Notes that do not bear on an address and a core may be left out. -/
def bears (c : Int) (a : Nat) (n : Nt) : Bool :=
  if n.kind == 1 then n.addr == a else if n.kind == 2 then lineN n.addr == lineN a else if n.kind == 3 then true else if n.kind == 4 then n.core == c else false
theorem lineN_eq (a b : Nat) : (lineN a == lineN b) = (a / 64 == b / 64) := by
  unfold lineN
  by_cases h : a / 64 = b / 64
  · simp [h]
  · have : a / 64 * 64 ≠ b / 64 * 64 := by omega
    rw [beq_eq_false_iff_ne.2 h, beq_eq_false_iff_ne.2 this]
theorem bears_iff (c : Int) (a : Nat) (n : Nt) : bears c a n = (isW a n || isT a n || isI c n) := by
  unfold bears isW isT isI
  rw [lineN_eq]
  by_cases h1 : n.kind = 1
  · simp [h1]
  · by_cases h2 : n.kind = 2
    · simp [h2]
    · by_cases h3 : n.kind = 3
      · simp [h3]
      · by_cases h4 : n.kind = 4 <;> simp [h1, h2, h3, h4]
theorem au_bears (tr : List Nt) (c : Int) (a : Nat) : au (tr.filter (bears c a)) c a = au tr c a := by
  induction tr using snoc_ind with
  | h0 => rfl
  | h1 l x ih =>
    rw [List.filter_append]
    by_cases h : bears c a x = true
    · simp only [List.filter_cons, h, if_true, List.filter_nil]
      rw [au_snoc, au_snoc, ih]
    · simp only [List.filter_cons, h, List.filter_nil]
      rw [if_neg (by simp), List.append_nil, ih, au_snoc]
      rw [bears_iff] at h
      simp only [Bool.or_eq_true, not_or] at h
      simp [Au.step, h.1.1, h.1.2, h.2]
theorem wordsW_bears (tr : List Nt) (c : Int) (a : Nat) : wordsW (tr.filter (bears c a)) a = wordsW tr a := by
  unfold wordsW
  rw [List.filter_filter]
  congr 1
  apply List.filter_congr
  intro n _
  rw [bears_iff]
  cases isW a n <;> simp
/-- The place of the first of which something holds. -/
def firstB (p : Nat → Bool) : Nat → Nat → Int
  | 0, _ => -1
  | k + 1, i => if p i then (i : Int) else firstB p k (i + 1)
theorem firstB_no (p : Nat → Bool) : ∀ k i, (∀ j, i ≤ j → j < i + k → p j = false) → firstB p k i = -1
  | 0, _, _ => rfl
  | k + 1, i, h => by
    unfold firstB
    rw [if_neg (by rw [h i (Nat.le_refl _) (by omega)]; simp)]
    exact firstB_no p k (i + 1) fun j h1 h2 => h j (by omega) (by omega)
theorem firstB_yes (p : Nat → Bool) : ∀ k i m, i ≤ m → m < i + k → p m = true → (∀ j, i ≤ j → j < m → p j = false) → firstB p k i = m
  | 0, i, m, h1, h2, _, _ => by omega
  | k + 1, i, m, h1, h2, hm, h => by
    unfold firstB
    by_cases e : i = m
    · subst e; rw [if_pos hm]
    · rw [if_neg (by rw [h i (Nat.le_refl _) (by omega)]; simp)]
      exact firstB_yes p k (i + 1) m (by omega) (by omega) hm fun j h1 h2 => h j (by omega) h2
/-- Is the note at a place a fetch that may not be? -/
def badAt (tr : List Nt) (g : Nat → Nat) (i : Nat) : Bool :=
  match tr[i]? with
  | none => false
  | some n => n.kind == 5 && !((vers (tr.take i) n.addr (g n.addr)).drop (au (tr.take i) n.core n.addr).lost).contains n.word
def checkL (tr : List Nt) (g : Nat → Nat) : Int := firstB (badAt tr g) tr.length 0
end Go.Proofs.Ytbdmemjenpnjgaa
