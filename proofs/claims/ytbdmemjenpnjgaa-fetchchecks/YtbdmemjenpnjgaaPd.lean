/- Plain: the document's own answer of chapter 15. No program is named. -/
import Derived.Test.YtbdmemjenpnjgaaPb
namespace Go.Proofs.Ytbdmemjenpnjgaa
set_option linter.unusedVariables false
set_option linter.unusedSimpArgs false

def wiF (a : Nat) : Nat → List Nt → List Nat
  | _, [] => []
  | i, n :: l => (if isW a n then [i] else []) ++ wiF a (i + 1) l
theorem wiF_snoc (a : Nat) (x : Nt) : ∀ (l : List Nt) (i : Nat), wiF a i (l ++ [x]) = wiF a i l ++ (if isW a x then [i + l.length] else [])
  | [], i => by simp [wiF]
  | n :: l, i => by
    simp only [List.cons_append, wiF, wiF_snoc a x l (i + 1), List.length_cons]
    rw [List.append_assoc, show i + 1 + l.length = i + (l.length + 1) by omega]
/-- Where an address is written. -/
def wi (tr : List Nt) (a : Nat) : List Nat := wiF a 0 tr
theorem wi_snoc (tr : List Nt) (x : Nt) (a : Nat) : wi (tr ++ [x]) a = wi tr a ++ (if isW a x then [tr.length] else []) := by
  unfold wi
  rw [wiF_snoc, Nat.zero_add]
theorem wi_lt (tr : List Nt) (a : Nat) : ∀ p ∈ wi tr a, p < tr.length := by
  induction tr using snoc_ind with
  | h0 => intro p hp; cases hp
  | h1 l x ih =>
    intro p hp
    rw [wi_snoc, List.mem_append] at hp
    rw [List.length_append, List.length_singleton]
    rcases hp with hp | hp
    · have := ih p hp; omega
    · split at hp
      · rw [List.mem_singleton.1 hp]; omega
      · cases hp
theorem wi_len (tr : List Nt) (c : Int) (a : Nat) : (wi tr a).length = (au tr c a).nw := by
  rw [← wordsW_len tr c a]
  induction tr using snoc_ind with
  | h0 => rfl
  | h1 l x ih =>
    rw [wi_snoc, wordsW_snoc, List.length_append, List.length_append, ih]
    split <;> rfl
/-- Is a version lost, by the notes behind the write of the next? -/
def lostF (c : Int) (a : Nat) : Bool → List Nt → Bool
  | _, [] => false
  | t, n :: l => if isI c n && (t || isT a n) then true else lostF c a (t || isT a n) l
theorem lostF_snoc (c : Int) (a : Nat) (x : Nt) : ∀ (l : List Nt) (t : Bool), lostF c a t (l ++ [x]) = (lostF c a t l || (isI c x && ((t || l.any (isT a)) || isT a x)))
  | [], t => by simp [lostF]
  | n :: l, t => by
    simp only [List.cons_append, lostF, lostF_snoc c a x l, List.any_cons]
    split
    · simp
    · simp [Bool.or_assoc]
theorem excl (c : Int) (a : Nat) (n : Nt) : (isW a n = true → isT a n = false ∧ isI c n = false) ∧ (isT a n = true → isI c n = false) := by
  unfold isW isT isI
  constructor
  · intro h
    have : n.kind = 1 := by simp at h; exact h.1
    simp [this]
  · intro h
    by_cases h3 : n.kind = 3
    · simp [h3]
    · have : n.kind = 2 := by simp [h3] at h; exact h.1
      simp [this]
theorem lost_spec (tr : List Nt) (c : Int) (a : Nat) : ∀ (j p : Nat), (wi tr a)[j]? = some p → ((tr.drop (p + 1)).any (isT a) = decide (j < (au tr c a).told)) ∧ (lostF c a false (tr.drop (p + 1)) = decide (j < (au tr c a).lost)) := by
  induction tr using snoc_ind with
  | h0 => intro j p h; simp [wi, wiF] at h
  | h1 l x ih =>
    intro j p h
    have hle := au_le l c a
    have hlen := wi_len l c a
    obtain ⟨x1, x2⟩ := excl c a x
    rw [wi_snoc] at h
    by_cases hj : j < (wi l a).length
    · rw [List.getElem?_append_left hj] at h
      have hp := wi_lt l a p (List.mem_of_getElem? h)
      obtain ⟨i1, i2⟩ := ih j p h
      rw [List.drop_append_of_le_length (by omega), List.any_append, i1, lostF_snoc, i1, i2, au_snoc]
      unfold Au.step
      cases hw : isW a x with
      | true =>
        obtain ⟨e1, e2⟩ := x1 hw
        simp [e1, e2]
      | false =>
        cases ht : isT a x with
        | true =>
          have e2 := x2 ht
          simp [e2, ht]
          omega
        | false =>
          cases hi : isI c x with
          | true =>
            have : ((decide (j < (au l c a).lost)) || decide (j < (au l c a).told)) = decide (j < (au l c a).told) := by
              by_cases h1 : j < (au l c a).told
              · simp [h1]
              · simp [h1]; omega
            simp [ht, this]
          | false => simp [ht]
    · have hx : isW a x = true := by
        cases e : isW a x with
        | true => rfl
        | false => rw [e] at h; simp at h; exact absurd (List.getElem?_eq_some_iff.1 h).1 hj
      rw [if_pos hx, List.getElem?_append_right (by omega)] at h
      have hj0 : j - (wi l a).length = 0 := by
        have := (List.getElem?_eq_some_iff.1 h).1
        simp at this; omega
      rw [hj0] at h
      have hp : l.length = p := by simpa using h
      obtain ⟨e1, e2⟩ := x1 hx
      have hd : (l ++ [x]).drop (p + 1) = [] := List.drop_eq_nil_of_le (by simp; omega)
      rw [hd, au_snoc]
      simp [Au.step, hx, lostF]
      omega
/-- Is the version at a place gone? -/
def goneB (tr : List Nt) (c : Int) (a : Nat) (k j : Nat) : Bool := (List.range j).any fun i => decide (k ≤ i) && lostF c a false (tr.drop ((wi tr a).getD i 0 + 1))
theorem goneB_next (tr : List Nt) (c : Int) (a k j : Nat) (h : k ≤ j) : goneB tr c a k (j + 1) = (goneB tr c a k j || lostF c a false (tr.drop ((wi tr a).getD j 0 + 1))) := by
  unfold goneB
  rw [List.range_succ, List.any_append]
  simp [h]
theorem goneB_none (tr : List Nt) (c : Int) (a k : Nat) : goneB tr c a k k = false := by
  unfold goneB
  rw [List.any_eq_false]
  intro i hi
  have := List.mem_range.1 hi
  simp; omega
theorem gone_spec (tr : List Nt) (c : Int) (a k : Nat) : goneB tr c a k (wi tr a).length = decide (k < (au tr c a).lost) := by
  have hle := au_le tr c a
  have hlen := wi_len tr c a
  rw [Bool.eq_iff_iff]
  unfold goneB
  rw [List.any_eq_true]
  simp only [List.mem_range, Bool.and_eq_true, decide_eq_true_eq]
  have key : ∀ i, i < (wi tr a).length → lostF c a false (tr.drop ((wi tr a).getD i 0 + 1)) = decide (i < (au tr c a).lost) := fun i hi => by
    refine (lost_spec tr c a i _ ?_).2
    simp [List.getD, List.getElem?_eq_getElem hi]
  constructor
  · rintro ⟨i, hi, h1, h2⟩
    rw [key i hi] at h2
    have := of_decide_eq_true h2
    omega
  · intro h
    refine ⟨k, by omega, Nat.le_refl _, ?_⟩
    rw [key k (by omega)]
    exact decide_eq_true h
/-- What is told of the versions ahead of a place. -/
def outL (tr : List Nt) (c : Int) (a f k : Nat) : List Nat := onceL (((vers tr a f).take k).drop (au tr c a).lost)
theorem outL_next {tr : List Nt} {c : Int} {a f k x : Nat} (hx : (vers tr a f)[k]? = some x) : outL tr c a f (k + 1) = if decide (k < (au tr c a).lost) || (outL tr c a f k).contains x then outL tr c a f k else outL tr c a f k ++ [x] := by
  have hk := (List.getElem?_eq_some_iff.1 hx).1
  unfold outL
  by_cases h : k < (au tr c a).lost
  · rw [List.drop_eq_nil_of_le (by simp; omega), List.drop_eq_nil_of_le (by simp; omega)]
    simp [h]
  · rw [List.take_add_one, hx, List.drop_append_of_le_length (by simp; omega)]
    simp only [Option.toList]
    rw [onceL_snoc]
    simp [h]
theorem outL_all (tr : List Nt) (c : Int) (a f : Nat) : outL tr c a f (vers tr a f).length = mayL tr c a f := by
  unfold outL mayL
  rw [List.take_length]
/-- Wrong, as the document has it. -/
def wrongD (n : Nt) : Bool :=
  let core := n.kind == 4 || n.kind == 5
  let code := n.kind == 1 || n.kind == 5
  let addr := code || n.kind == 2
  decide (n.kind < 1) || decide (n.kind > 5) || decide (n.core < 0) || decide (n.core > 7) || (!core && n.core != 0) || (!addr && n.addr != 0) || (code && n.addr % 4 != 0) || (!code && n.word != 0)
theorem wrongD_eq (n : Nt) : wrongD n = wrongB n := by
  obtain ⟨k, c, a, x⟩ := n
  have hcore : ∀ c : Int, coreB c = (!decide (c < 0) && !decide (c > 7)) := fun c => by
    unfold coreB
    rw [Bool.eq_iff_iff]; simp; omega
  have hz : ∀ c : Int, (decide (c < 0) || (decide (c > 7) || (c != 0))) = (c != 0) := fun c => by
    rw [Bool.eq_iff_iff]; simp; omega
  unfold wrongD wrongB
  simp only [hcore, ofWord]
  by_cases h1 : k = 1
  · subst h1
    have := hz c
    simp [← Bool.or_assoc] at *
    rw [Bool.eq_iff_iff]; simp; omega
  by_cases h2 : k = 2
  · subst h2; rw [Bool.eq_iff_iff]; simp; omega
  by_cases h3 : k = 3
  · subst h3; rw [Bool.eq_iff_iff]; simp; omega
  by_cases h4 : k = 4
  · subst h4; rw [Bool.eq_iff_iff]; simp
  by_cases h5 : k = 5
  · subst h5; rw [Bool.eq_iff_iff]; simp
  simp only [beq_eq_false_iff_ne.2 h1, beq_eq_false_iff_ne.2 h2, beq_eq_false_iff_ne.2 h3, beq_eq_false_iff_ne.2 h4, beq_eq_false_iff_ne.2 h5]
  have : decide (k < 1) || decide (k > 5) := by simp; omega
  simp [this]
end Go.Proofs.Ytbdmemjenpnjgaa
