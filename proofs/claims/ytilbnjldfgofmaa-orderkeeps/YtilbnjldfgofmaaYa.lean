/- Places picked out of a block; the rules, plain. -/
import Derived.Test.YtilbnjldfgofmaaKb
namespace Go.Proofs.Ytilbnjldfgofmaa
open Go.RowKit
set_option linter.unusedVariables false
set_option linter.unusedSimpArgs false
set_option maxRecDepth 8000

section
variable {pc words el : Int} {l : List Opr}
theorem kind_at {k : Nat} (h : okAt l k = true) : isK (opAt l k).kind = true := by
  unfold okAt at h
  simp only [Bool.and_eq_true] at h
  exact h.1.1.1
end
/-- Where a place lies in a row of places; an operation told by it; the operations of a row of places. -/
def tellP (p : List Nat) (o : Opr) : Opr := { o with a := (p.idxOf o.a.toNat : Nat), b := (p.idxOf o.b.toNat : Nat) }
def pickL (l : List Opr) (p : List Nat) : List Opr := p.map fun i => tellP p (opAt l i)
theorem pick_len (l : List Opr) (p : List Nat) : (pickL l p).length = p.length := by unfold pickL; rw [List.length_map]
theorem pick_at {l : List Opr} {p : List Nat} {j i : Nat} (h : p[j]? = some i) : opAt (pickL l p) j = tellP p (opAt l i) := by
  apply opAt_of
  unfold pickL
  rw [List.getElem?_map, h]; rfl
theorem idx_of {p : List Nat} (hn : p.Nodup) {j i : Nat} (h : p[j]? = some i) : p.idxOf i = j := by
  obtain ⟨hj, rfl⟩ := List.getElem?_eq_some_iff.1 h
  exact hn.idxOf_getElem _ _
theorem at_idx {p : List Nat} {i : Nat} (h : i ∈ p) : p[p.idxOf i]? = some i := by
  rw [List.getElem?_eq_getElem (List.idxOf_lt_length_of_mem h)]
  simp
/-- A row of a block's places that may stand for it: the first one first, the last one last, each once, and behind what it uses. -/
structure Topo (l : List Opr) (p : List Nat) : Prop where
  nd : p.Nodup
  lt : ∀ i ∈ p, i < l.length
  first : p[0]? = some 0
  last : ∀ j i : Nat, p[j]? = some i → (i + 1 = l.length ↔ j + 1 = p.length)
  uses : ∀ j i : Nat, p[j]? = some i → ∀ u ∈ usesL (opAt l i), u.toNat ∈ p ∧ p.idxOf u.toNat < j
section
variable {pc words el : Int} {l : List Opr} {p : List Nat}
theorem Topo.len (t : Topo l p) : 0 < p.length ∧ p.length ≤ l.length := by
  constructor
  · have := t.first
    rw [List.getElem?_eq_some_iff] at this
    exact this.1
  · have : p.length ≤ (List.range l.length).length := t.nd.length_le_of_subset (fun i hi => List.mem_range.2 (t.lt i hi))
    rwa [List.length_range] at this
theorem idx0 (t : Topo l p) : p.idxOf 0 = 0 := idx_of t.nd t.first
theorem pick_right (h : rightB pc words el l = true) (t : Topo l p) : rightB pc words el (pickL l p) = true := by
  obtain ⟨h1, h512, h0⟩ := right_lens h
  have ht := t.len
  have hh := right_head h
  unfold rightB
  rw [Bool.and_eq_true]
  constructor
  · unfold headB at hh ⊢
    simp only [Bool.and_eq_true, decide_eq_true_eq] at hh ⊢
    refine ⟨⟨⟨hh.1.1.1, ?_⟩, ?_⟩, ?_⟩
    · rw [pick_len]; omega
    · rw [pick_len]; omega
    · rw [pick_at t.first, h0]
      unfold tellP
      rw [show (0 : Int).toNat = 0 from rfl, idx0 t]; rfl
  · apply List.all_eq_true.2
    intro j hj
    rw [List.mem_range, pick_len] at hj
    obtain ⟨i, hi⟩ : ∃ i, p[j]? = some i := ⟨_, List.getElem?_eq_getElem hj⟩
    have hil := t.lt i (List.mem_of_getElem? hi)
    have ok := right_at h hil
    have nA : hasP (opAt l i).kind 2 = false → (opAt l i).a = 0 := noA ok
    have nB : hasP (opAt l i).kind 4 = false → (opAt l i).b = 0 := noB ok
    have U := t.uses j i hi
    have Us : ∀ u ∈ usesL (opAt l i), 0 ≤ u ∧ u.toNat < i ∧ hasP (opAt l u.toNat).kind 32 = true := fun u hu => use_lt h hil hu
    have hl := t.last j i hi
    unfold okAt at ok ⊢
    rw [pick_at hi, pick_len]
    simp only [Bool.and_eq_true] at ok ⊢
    obtain ⟨⟨⟨k1, k2⟩, k3⟩, -⟩ := ok
    refine ⟨⟨⟨k1, ?_⟩, ?_⟩, ?_⟩
    · rw [beq_iff_eq] at k2 ⊢
      exact k2.trans (decide_eq_decide.2 hl)
    · unfold opB at k3 ⊢
      simp only [Bool.and_eq_true, Bool.or_eq_true, beq_iff_eq] at k3 ⊢
      obtain ⟨⟨⟨⟨⟨r1, r2⟩, r3⟩, r4⟩, r5⟩, r6⟩ := k3
      refine ⟨⟨⟨⟨⟨r1, ?_⟩, ?_⟩, r4⟩, r5⟩, r6⟩
      · rcases r2 with r2 | r2
        · exact .inl r2
        · right; show ((p.idxOf (opAt l i).a.toNat : Nat) : Int) = 0
          rw [r2, show (0 : Int).toNat = 0 from rfl, idx0 t]; rfl
      · rcases r3 with r3 | r3
        · exact .inl r3
        · right; show ((p.idxOf (opAt l i).b.toNat : Nat) : Int) = 0
          rw [r3, show (0 : Int).toNat = 0 from rfl, idx0 t]; rfl
    · rw [List.all_eq_true]
      have key : ∀ u ∈ usesL (opAt l i), defB (pickL l p) j ((p.idxOf u.toNat : Nat) : Int) = true := by
        intro u hu
        have q := U u hu
        unfold defB
        simp only [Bool.and_eq_true, decide_eq_true_eq]
        refine ⟨⟨by omega, by have := q.2; omega⟩, ?_⟩
        rw [Int.toNat_natCast, pick_at (at_idx q.1)]
        exact (Us u hu).2.2
      intro u hu
      unfold usesL at hu
      rw [List.mem_append] at hu
      rcases hu with hu | hu
      · split at hu
        · rename_i hp
          rw [List.mem_singleton] at hu
          rw [hu]
          exact key _ (uses_a hp)
        · cases hu
      · split at hu
        · rename_i hp
          rw [List.mem_singleton] at hu
          rw [hu]
          exact key _ (uses_b hp)
        · cases hu
end
/-- Nobody uses what defines nothing. -/
def noD (l : List Opr) (i : Nat) : Prop := hasP (opAt l i).kind 32 = false
section
variable {pc words el : Int} {l : List Opr} {p : List Nat}
theorem use_ne (h : rightB pc words el l = true) {k : Nat} (hk : k < l.length) {u : Int} (hu : u ∈ usesL (opAt l k)) {i : Nat} (hi : noD l i) : u.toNat ≠ i := by
  have := (use_lt h hk hu).2.2
  intro e
  rw [e, hi] at this
  cases this
theorem topo_mk (h : rightB pc words el l = true) (nd : p.Nodup) (lt : ∀ i ∈ p, i < l.length) (first : p[0]? = some 0) (last : p[p.length - 1]? = some (l.length - 1))
    (cl : ∀ i ∈ p, ∀ u ∈ usesL (opAt l i), u.toNat ∈ p) (pw : p.Pairwise (fun x y => x < y ∨ noD l y)) : Topo l p := by
  refine ⟨nd, lt, first, ?_, ?_⟩
  · intro j i hi
    have hj := (List.getElem?_eq_some_iff.1 hi).1
    have hil := lt i (List.mem_of_getElem? hi)
    constructor
    · intro e
      have e2 : i = l.length - 1 := by omega
      have a := idx_of nd hi
      have b := idx_of nd last
      rw [e2] at a
      omega
    · intro e
      have : p[p.length - 1]? = some i := by rw [show p.length - 1 = j by omega]; exact hi
      rw [this] at last
      cases last
      omega
  · intro j i hi u hu
    have hil := lt i (List.mem_of_getElem? hi)
    have hm := cl i (List.mem_of_getElem? hi) u hu
    refine ⟨hm, ?_⟩
    have U := use_lt h hil hu
    have hx := at_idx hm
    obtain ⟨hj, ej⟩ := List.getElem?_eq_some_iff.1 hi
    obtain ⟨hxl, ex⟩ := List.getElem?_eq_some_iff.1 hx
    rcases Nat.lt_trichotomy (p.idxOf u.toNat) j with q | q | q
    · exact q
    · exfalso
      have : u.toNat = i := by
        rw [q, hi] at hx; cases hx; rfl
      omega
    · exfalso
      have := List.pairwise_iff_getElem.1 pw j _ hj hxl q
      rw [ej, ex] at this
      rcases this with t | t
      · omega
      · exact use_ne h hil hu t rfl
/-- All places but one. -/
def dropP (n k : Nat) : List Nat := (List.range n).filter (fun i => i != k)
theorem mem_drop {n k i : Nat} : i ∈ dropP n k ↔ i < n ∧ i ≠ k := by
  unfold dropP
  rw [List.mem_filter, List.mem_range]
  simp
theorem head_filter {q : List Nat} {f : Nat → Bool} {a : Nat} (h : q[0]? = some a) (ha : f a = true) : (q.filter f)[0]? = some a := by
  cases q with
  | nil => cases h
  | cons x t =>
    cases h
    rw [List.filter_cons, if_pos ha]; rfl
theorem last_some {q : List Nat} {a : Nat} (h : q[q.length - 1]? = some a) : ∃ s, q = s ++ [a] := by
  have hq : q ≠ [] := by rintro rfl; cases h
  refine ⟨q.dropLast, ?_⟩
  have := List.dropLast_concat_getLast hq
  have e : q.getLast hq = a := by
    rw [List.getLast_eq_getElem]
    obtain ⟨_, h2⟩ := List.getElem?_eq_some_iff.1 h
    exact h2
  rw [e] at this
  exact this.symm
theorem some_last {s : List Nat} {a : Nat} : (s ++ [a])[(s ++ [a]).length - 1]? = some a := by simp
theorem last_filter {q : List Nat} {f : Nat → Bool} {a : Nat} (h : q[q.length - 1]? = some a) (ha : f a = true) : (q.filter f)[(q.filter f).length - 1]? = some a := by
  obtain ⟨s, rfl⟩ := last_some h
  rw [List.filter_append, List.filter_cons, if_pos ha, List.filter_nil]
  exact some_last
/-- What stays of such a row without some that nobody uses. -/
theorem topo_filter (h : rightB pc words el l = true) (t : Topo l p) (f : Nat → Bool) (h0 : f 0 = true) (hl : f (l.length - 1) = true) (hf : ∀ i ∈ p, f i = true → ∀ u ∈ usesL (opAt l i), f u.toNat = true)
    (pw : p.Pairwise (fun x y => x < y ∨ noD l y)) : Topo l (p.filter f) := by
  have hlen := t.len
  have hlast : p[p.length - 1]? = some (l.length - 1) := by
    obtain ⟨i, hi⟩ : ∃ i, p[p.length - 1]? = some i := ⟨_, List.getElem?_eq_getElem (by omega)⟩
    have := (t.last _ i hi).2 (by omega)
    rw [hi]; congr 1; omega
  refine topo_mk h (t.nd.sublist List.filter_sublist) (fun i hi => t.lt i (List.mem_filter.1 hi).1) (head_filter t.first h0) (last_filter hlast hl) ?_ (pw.sublist List.filter_sublist)
  intro i hi u hu
  obtain ⟨h1, h2⟩ := List.mem_filter.1 hi
  obtain ⟨j, hj⟩ := List.getElem?_of_mem h1
  exact List.mem_filter.2 ⟨(t.uses j i hj u hu).1, hf i h1 h2 u hu⟩
theorem range_pw (l : List Opr) (n : Nat) : (List.range n).Pairwise (fun x y => x < y ∨ noD l y) := List.pairwise_lt_range.imp (fun h => .inl h)
theorem range_topo (h : rightB pc words el l = true) : Topo l (List.range l.length) := by
  obtain ⟨h0, -, -⟩ := right_lens h
  refine topo_mk h List.nodup_range (fun i hi => List.mem_range.1 hi) (by rw [List.getElem?_range h0]) ?_ ?_ (range_pw l _)
  · rw [List.length_range, List.getElem?_range (by omega)]
  · intro i hi u hu
    have hi := List.mem_range.1 hi
    have := use_lt h hi hu
    exact List.mem_range.2 (by omega)
/-- One operation that nobody uses goes. -/
theorem drop_topo (h : rightB pc words el l = true) {k : Nat} (h0 : k ≠ 0) (hl : k + 1 ≠ l.length) (hu : ∀ i, i < l.length → ∀ u ∈ usesL (opAt l i), u.toNat ≠ k) : Topo l (dropP l.length k) := by
  have hn := right_lens h
  refine topo_filter h (range_topo h) _ (by simpa using fun e => h0 e.symm) ?_ ?_ (range_pw l _)
  · simp; omega
  · intro i hi _ u hu'
    have := hu i (List.mem_range.1 hi) u hu'
    simpa using this
/-- Between two places: those that are no IAts; the IAts. -/
def seg (k j : Nat) : List Nat := List.range' (k + 1) (j - k)
def isAt (l : List Opr) (i : Nat) : Bool := (opAt l i).kind == 14
def nonAts (l : List Opr) (k j : Nat) : List Nat := (seg k j).filter (fun i => !isAt l i)
def ats (l : List Opr) (k j : Nat) : List Nat := (seg k j).filter (fun i => isAt l i)
/-- The operations behind a place, up to a last one, ahead of it, but for IAts. -/
def moveP (l : List Opr) (k j : Nat) : List Nat := List.range k ++ nonAts l k j ++ (k :: ats l k j) ++ List.range' (j + 1) (l.length - (j + 1))
theorem mem_seg {k j i : Nat} : i ∈ seg k j ↔ k < i ∧ i ≤ j := by
  unfold seg
  rw [List.mem_range'_1]
  omega
theorem mem_non {k j i : Nat} : i ∈ nonAts l k j ↔ k < i ∧ i ≤ j ∧ isAt l i = false := by
  unfold nonAts
  rw [List.mem_filter, mem_seg]
  simp [and_assoc]
theorem mem_ats {k j i : Nat} : i ∈ ats l k j ↔ k < i ∧ i ≤ j ∧ isAt l i = true := by
  unfold ats
  rw [List.mem_filter, mem_seg, and_assoc]
theorem mem_move {k j i : Nat} (hk : k ≤ j) (hj : j < l.length) : i ∈ moveP l k j ↔ i < l.length := by
  unfold moveP
  simp only [List.mem_append, List.mem_cons, mem_non, mem_ats, List.mem_range, List.mem_range'_1]
  constructor
  · rintro (((q | q) | q | q) | q) <;> omega
  · intro q
    cases h : isAt l i <;> simp <;> omega
theorem seg_pw (k j : Nat) : (seg k j).Pairwise (· < ·) := List.pairwise_lt_range'
theorem move_nd {k j : Nat} (hk : k ≤ j) : (moveP l k j).Nodup := by
  unfold moveP
  rw [List.append_assoc, List.append_assoc]
  refine List.nodup_append.2 ⟨List.nodup_range, List.nodup_append.2 ⟨?_, List.nodup_append.2 ⟨?_, List.nodup_range' _, ?_⟩, ?_⟩, ?_⟩
  · exact ((seg_pw k j).imp (fun h => Nat.ne_of_lt h)).sublist List.filter_sublist
  · rw [List.nodup_cons]
    exact ⟨fun hm => by have := mem_ats.1 hm; omega, ((seg_pw k j).imp (fun h => Nat.ne_of_lt h)).sublist List.filter_sublist⟩
  · intro a ha b hb
    rw [List.mem_cons, mem_ats] at ha
    rw [List.mem_range'_1] at hb
    omega
  · intro a ha b hb
    rw [mem_non] at ha
    simp only [List.mem_append, List.mem_cons, mem_ats, List.mem_range'_1] at hb
    rintro rfl
    rcases hb with (q | q) | q
    · omega
    · rw [q.2.2] at ha; exact absurd ha.2.2 (by decide)
    · omega
  · intro a ha b hb
    simp only [List.mem_append, List.mem_cons, mem_non, mem_ats, List.mem_range'_1] at hb
    rw [List.mem_range] at ha
    omega
theorem at_noD {i : Nat} (h : isAt l i = true) : noD l i := by
  unfold isAt at h
  rw [beq_iff_eq] at h
  unfold noD
  rw [h]; decide +kernel
theorem move_pw {k j : Nat} (hd : noD l k) (hk : k ≤ j) : (moveP l k j).Pairwise (fun x y => x < y ∨ noD l y) := by
  unfold moveP
  rw [List.append_assoc, List.append_assoc]
  refine List.pairwise_append.2 ⟨range_pw l k, List.pairwise_append.2 ⟨?_, List.pairwise_append.2 ⟨?_, (List.pairwise_lt_range' : (List.range' (j + 1) (l.length - (j + 1))).Pairwise (· < ·)).imp (fun h => .inl h), ?_⟩, ?_⟩, ?_⟩
  · exact ((seg_pw k j).imp (fun h => .inl h)).sublist List.filter_sublist
  · rw [List.pairwise_cons]
    exact ⟨fun a ha => .inr (at_noD (mem_ats.1 ha).2.2), ((seg_pw k j).imp (fun h => .inl h)).sublist List.filter_sublist⟩
  · intro a ha b hb
    rw [List.mem_cons, mem_ats] at ha
    rw [List.mem_range'_1] at hb
    exact .inl (by omega)
  · intro a ha b hb
    rw [mem_non] at ha
    simp only [List.mem_append, List.mem_cons, mem_ats, List.mem_range'_1] at hb
    rcases hb with (q | q) | q
    · exact .inr (q ▸ hd)
    · exact .inr (at_noD q.2.2)
    · exact .inl (by omega)
  · intro a ha b hb
    simp only [List.mem_append, List.mem_cons, mem_non, mem_ats, List.mem_range'_1] at hb
    rw [List.mem_range] at ha
    exact .inl (by omega)
theorem move_len {k j : Nat} (hk : k ≤ j) (hj : j < l.length) : (moveP l k j).length = l.length := by
  have a : (moveP l k j).length ≤ (List.range l.length).length := (move_nd hk).length_le_of_subset (fun i hi => List.mem_range.2 ((mem_move hk hj).1 hi))
  have b : (List.range l.length).length ≤ (moveP l k j).length := List.nodup_range.length_le_of_subset (fun i hi => (mem_move hk hj).2 (List.mem_range.1 hi))
  rw [List.length_range] at a b
  omega
theorem move_first {k j : Nat} (h0 : 0 < k) : (moveP l k j)[0]? = some 0 := by
  unfold moveP
  rw [List.append_assoc, List.append_assoc, List.getElem?_append_left (by simpa using h0), List.getElem?_range h0]
theorem move_last {k j : Nat} (hj : j + 1 < l.length) : (moveP l k j)[(moveP l k j).length - 1]? = some (l.length - 1) := by
  have : ∃ s, moveP l k j = s ++ [l.length - 1] := by
    refine ⟨List.range k ++ nonAts l k j ++ (k :: ats l k j) ++ List.range' (j + 1) (l.length - (j + 1) - 1), ?_⟩
    unfold moveP
    rw [List.append_assoc _ _ [l.length - 1]]
    congr 1
    rw [show l.length - (j + 1) = (l.length - (j + 1) - 1) + 1 by omega, List.range'_concat]
    congr 2
    omega
  obtain ⟨s, e⟩ := this
  rw [e]; exact some_last
theorem move_topo (h : rightB pc words el l = true) {k j : Nat} (h0 : 0 < k) (hk : k ≤ j) (hj : j + 1 < l.length) (hd : noD l k) : Topo l (moveP l k j) := by
  refine topo_mk h (move_nd hk) (fun i hi => (mem_move hk (by omega)).1 hi) (move_first h0) (move_last hj) ?_ (move_pw hd hk)
  intro i hi u hu
  have hi := (mem_move hk (by omega)).1 hi
  have := use_lt h hi hu
  exact (mem_move hk (by omega)).2 (by omega)
/-- The same, and the one at the place goes. -/
def overP (l : List Opr) (k j : Nat) : List Nat := (moveP l k j).filter (fun i => i != k)
theorem over_topo (h : rightB pc words el l = true) {k j : Nat} (h0 : 0 < k) (hk : k ≤ j) (hj : j + 1 < l.length) (hd : noD l k) : Topo l (overP l k j) := by
  refine topo_filter h (move_topo h h0 hk hj hd) _ (by simp; omega) (by simp; omega) ?_ (move_pw hd hk)
  intro i hi _ u hu
  have hi := (mem_move hk (by omega)).1 hi
  have := use_ne h hi hu hd
  simpa using this
end
def plainB (o : Opr) (k : Int) : Bool := o.kind == k && o.order == 0
def loudK (k : Int) : Bool := !(k == 1 || k == 2 || k == 4 || k == 6 || k == 8 || k == 14)
def stopK (k : Int) : Bool := k == 13 || hasP k 64
def forgetB (o : Opr) : Bool := o.kind == 10 || o.kind == 12 || o.kind == 11 || o.kind == 13 || (o.kind == 9 && o.order != 0)
/-- The next place behind a place whose kind is such a one. -/
def nextK (P : Int → Bool) (l : List Opr) (k : Nat) : Nat := k + 1 + (l.drop (k + 1)).findIdx (fun o => P o.kind)
theorem drop_get {l : List Opr} {k i : Nat} (h : k + i < l.length) : (l.drop k)[i]'(by rw [List.length_drop]; omega) = opAt l (k + i) := by
  rw [List.getElem_drop]
  have := opAt_some h
  rw [List.getElem?_eq_getElem h] at this
  exact Option.some.inj this
theorem next_uniq {P : Int → Bool} {l : List Opr} {k m : Nat} (h1 : k < m) (h2 : m < l.length) (h3 : P (opAt l m).kind = true) (h4 : ∀ i, k < i → i < m → P (opAt l i).kind = false) : nextK P l k = m := by
  unfold nextK
  have : (l.drop (k + 1)).findIdx (fun o => P o.kind) = m - (k + 1) := by
    rw [List.findIdx_eq (by rw [List.length_drop]; omega)]
    constructor
    · rw [drop_get (by omega), show k + 1 + (m - (k + 1)) = m by omega]; exact h3
    · intro j hj
      rw [drop_get (by omega)]
      exact h4 _ (by omega) (by omega)
  omega
theorem next_spec {P : Int → Bool} {l : List Opr} {k : Nat} (h : ∃ m, k < m ∧ m < l.length ∧ P (opAt l m).kind = true) :
    k < nextK P l k ∧ nextK P l k < l.length ∧ P (opAt l (nextK P l k)).kind = true ∧ ∀ i, k < i → i < nextK P l k → P (opAt l i).kind = false := by
  obtain ⟨m, h1, h2, h3⟩ := h
  have hlt : (l.drop (k + 1)).findIdx (fun o => P o.kind) < (l.drop (k + 1)).length := by
    rw [List.findIdx_lt_length]
    refine ⟨opAt l m, ?_, h3⟩
    have : (l.drop (k + 1))[m - (k + 1)]? = some (opAt l m) := by
      rw [List.getElem?_drop, show k + 1 + (m - (k + 1)) = m by omega]; exact opAt_some h2
    exact List.mem_of_getElem? this
  have hl := hlt
  rw [List.length_drop] at hl
  unfold nextK
  refine ⟨by omega, by omega, ?_, ?_⟩
  · have := List.findIdx_getElem (w := hlt)
    rwa [drop_get (by omega)] at this
  · intro i h5 h6
    have := List.not_of_lt_findIdx (i := i - (k + 1)) (xs := l.drop (k + 1)) (p := fun o => P o.kind) (by omega)
    rw [drop_get (by omega), show k + 1 + (i - (k + 1)) = i by omega] at this
    simpa using this
def orR (x y : Int) : Int := if x = y then x else 15
def orL (l : List Opr) (j : Nat) (r : Int) : List Opr := l.set j { opAt l j with r := orR (opAt l j).r r }
def mergeAt (l : List Opr) (k : Nat) : Option Nat := if (opAt l k).kind = 13 ∧ (opAt l (nextK stopK l k)).kind = 13 then some (nextK stopK l k) else none
def mergeDo (l : List Opr) (k j : Nat) : List Opr := pickL (orL l j (opAt l k).r) (dropP l.length k)
/-- The value that an access finds at its address, by what stands ahead of it. -/
def knownL (l : List Opr) (a : Int) : Nat → Option Nat
  | 0 => none
  | i + 1 => if (opAt l i).kind = 9 ∧ (opAt l i).a = a then some i else if (opAt l i).kind = 10 ∧ (opAt l i).a = a then some (opAt l i).b.toNat else if forgetB (opAt l i) = true then none else knownL l a i
def againAt (l : List Opr) (k : Nat) : Option Nat := if plainB (opAt l k) 9 = true then knownL l (opAt l k).a k else none
def substO (k v : Nat) (o : Opr) : Opr := { o with a := if o.a = k then (v : Int) else o.a, b := if o.b = k then (v : Int) else o.b }
def substL (l : List Opr) (k v : Nat) : List Opr := l.map (substO k v)
def againDo (l : List Opr) (k v : Nat) : List Opr := pickL (substL l k v) (dropP l.length k)
def overAt (l : List Opr) (k : Nat) : Option Nat := if plainB (opAt l k) 10 = true ∧ plainB (opAt l (nextK loudK l k)) 10 = true ∧ (opAt l (nextK loudK l k)).a = (opAt l k).a then some (nextK loudK l k) else none
def overDo (l : List Opr) (k j : Nat) : List Opr := pickL l (overP l k j)
def isC (l : List Opr) (x : Int) : Bool := (opAt l x.toNat).kind == 1
def isS (l : List Opr) (x : Int) : Bool := (opAt l x.toNat).kind == 8 && (opAt l x.toNat).r == 1
def otherN (l : List Opr) (x y : Int) : Bool := isC l x && isC l y && (opAt l x.toNat).imm != (opAt l y.toNat).imm
def otherS (l : List Opr) (x y : Int) : Bool := isS l x && isS l y && (opAt l x.toNat).a == (opAt l y.toNat).a && otherN l (opAt l x.toNat).b (opAt l y.toNat).b
def beyondB (l : List Opr) (x y : Int) : Bool := isS l x && (opAt l x.toNat).a == y && isC l (opAt l x.toNat).b && (opAt l (opAt l x.toNat).b.toNat).imm != 0
def differB (l : List Opr) (x y : Int) : Bool := otherN l x y || otherS l x y || beyondB l x y || beyondB l y x
def aheadAt (l : List Opr) (k : Nat) : Option Nat := if plainB (opAt l k) 10 = true ∧ plainB (opAt l (nextK loudK l k)) 9 = true ∧ differB l (opAt l k).a (opAt l (nextK loudK l k)).a = true then some (nextK loudK l k) else none
def aheadDo (l : List Opr) (k j : Nat) : List Opr := pickL l (moveP l k j)
abbrev RuleL := List Opr → Nat → Option (List Opr)
def mergeR : RuleL := fun l k => (mergeAt l k).map (mergeDo l k)
def againR : RuleL := fun l k => (againAt l k).map (againDo l k)
def overR : RuleL := fun l k => (overAt l k).map (overDo l k)
def aheadR : RuleL := fun l k => (aheadAt l k).map (aheadDo l k)
def loadsR : RuleL := fun l k => (againR l k).or (overR l k)
def stepL (R : RuleL) (l : List Opr) : Option (List Opr) := (List.range l.length).findSome? (R l)
def runF (R : RuleL) : Nat → List Opr → List Opr
  | 0, l => l
  | f + 1, l => match stepL R l with
    | none => l
    | some m => runF R f m
theorem run_none {R : RuleL} {l : List Opr} (h : stepL R l = none) : ∀ f, runF R f l = l
  | 0 => rfl
  | f + 1 => by unfold runF; rw [h]
theorem run_some {R : RuleL} {l m : List Opr} {f : Nat} (h : stepL R l = some m) : runF R (f + 1) l = runF R f m := by
  show (match stepL R l with | none => l | some m => runF R f m) = _
  rw [h]
theorem step_from {R : RuleL} {l m : List Opr} (h : stepL R l = some m) : ∃ k, k < l.length ∧ R l k = some m := by
  unfold stepL at h
  obtain ⟨k, hk, e⟩ := List.exists_of_findSome?_eq_some h
  exact ⟨k, List.mem_range.1 hk, e⟩
/-- Rules that keep a block right and make something less. -/
structure GoodR (pc words el : Int) (R : RuleL) (mu : List Opr → Nat) : Prop where
  right : ∀ l k m, rightB pc words el l = true → k < l.length → R l k = some m → rightB pc words el m = true
  less : ∀ l k m, rightB pc words el l = true → k < l.length → R l k = some m → mu m < mu l
section
variable {pc words el : Int} {R : RuleL} {mu : List Opr → Nat}
theorem run_all (G : GoodR pc words el R mu) {T : List Opr → List Opr → Prop} (hr : ∀ l, T l l) (ht : ∀ a b c, T a b → T b c → T a c) (hs : ∀ l k m, rightB pc words el l = true → k < l.length → R l k = some m → T l m) :
    ∀ (f : Nat) (l : List Opr), rightB pc words el l = true → mu l ≤ f → rightB pc words el (runF R f l) = true ∧ stepL R (runF R f l) = none ∧ T l (runF R f l)
  | f, l, h, hf => by
    cases e : stepL R l with
    | none => rw [run_none e]; exact ⟨h, e, hr l⟩
    | some m =>
      obtain ⟨k, hk, ek⟩ := step_from e
      have h1 := G.right l k m h hk ek
      have h2 := G.less l k m h hk ek
      cases f with
      | zero => omega
      | succ f =>
        rw [run_some e]
        obtain ⟨a, b, c⟩ := run_all G hr ht hs f m h1 (by omega)
        exact ⟨a, b, ht _ _ _ (hs l k m h hk ek) c⟩
/-- With more fuel it is the same. -/
theorem run_fuel (G : GoodR pc words el R mu) : ∀ (f g : Nat) (l : List Opr), rightB pc words el l = true → mu l ≤ f → mu l ≤ g → runF R f l = runF R g l
  | f, g, l, h, hf, hg => by
    cases e : stepL R l with
    | none => rw [run_none e, run_none e]
    | some m =>
      obtain ⟨k, hk, ek⟩ := step_from e
      have h1 := G.right l k m h hk ek
      have h2 := G.less l k m h hk ek
      cases f with
      | zero => omega
      | succ f =>
        cases g with
        | zero => omega
        | succ g =>
          rw [run_some e, run_some e]
          exact run_fuel G f g m h1 (by omega) (by omega)
end
section
variable {pc words el : Int} {l : List Opr}
theorem last_stop (h : rightB pc words el l = true) : hasP (opAt l (l.length - 1)).kind 128 = true := by
  obtain ⟨h0, -, -⟩ := right_lens h
  have := right_at h (k := l.length - 1) (by omega)
  unfold okAt at this
  simp only [Bool.and_eq_true, beq_iff_eq] at this
  rw [this.1.1.2]
  exact decide_eq_true (by omega)
theorem only_last (h : rightB pc words el l = true) {k : Nat} (hk : k < l.length) (he : hasP (opAt l k).kind 128 = true) : k + 1 = l.length := by
  have := right_at h hk
  unfold okAt at this
  simp only [Bool.and_eq_true, beq_iff_eq] at this
  rw [this.1.1.2] at he
  exact of_decide_eq_true he
theorem k128 {k : Int} (hK : isK k = true) (h : hasP k 128 = true) : hasP k 64 = true ∧ loudK k = true ∧ stopK k = true := by
  rcases isK_cases hK with rfl | rfl | rfl | rfl | rfl | rfl | rfl | rfl | rfl | rfl | rfl | rfl | rfl | rfl | rfl | rfl | rfl | rfl <;> first | (exact absurd h (by decide +kernel)) | decide +kernel
theorem next_at (h : rightB pc words el l = true) {P : Int → Bool} (hP : ∀ k, isK k = true → hasP k 128 = true → P k = true) {k : Nat} (hk : k + 1 < l.length) :
    k < nextK P l k ∧ nextK P l k < l.length ∧ P (opAt l (nextK P l k)).kind = true ∧ ∀ i, k < i → i < nextK P l k → P (opAt l i).kind = false :=
  next_spec ⟨l.length - 1, by omega, by omega, hP _ (kind_at (right_at h (by omega))) (last_stop h)⟩
theorem next_loud (h : rightB pc words el l = true) {k : Nat} (hk : k + 1 < l.length) : k < nextK loudK l k ∧ nextK loudK l k < l.length ∧ loudK (opAt l (nextK loudK l k)).kind = true ∧ ∀ i, k < i → i < nextK loudK l k → loudK (opAt l i).kind = false := next_at (P := loudK) h (fun k a b => (k128 a b).2.1) hk
theorem next_stop (h : rightB pc words el l = true) {k : Nat} (hk : k + 1 < l.length) : k < nextK stopK l k ∧ nextK stopK l k < l.length ∧ stopK (opAt l (nextK stopK l k)).kind = true ∧ ∀ i, k < i → i < nextK stopK l k → stopK (opAt l i).kind = false := next_at (P := stopK) h (fun k a b => (k128 a b).2.2) hk
/-- A fence, a load, a store is not the last one, and not the first one. -/
theorem inner (h : rightB pc words el l = true) {k : Nat} (hk : k < l.length) (hq : hasP (opAt l k).kind 128 = false) (h14 : (opAt l k).kind ≠ 14) : 0 < k ∧ k + 1 < l.length := by
  obtain ⟨h0, -, h1⟩ := right_lens h
  constructor
  · rcases Nat.eq_zero_or_pos k with rfl | q
    · rw [h1] at h14; exact absurd rfl h14
    · exact q
  · rcases Nat.lt_or_ge (k + 1) l.length with q | q
    · exact q
    · exfalso
      have := last_stop h
      rw [show l.length - 1 = k by omega, hq] at this
      cases this
theorem inner_k (h : rightB pc words el l = true) {k : Nat} (hk : k < l.length) (hq : (opAt l k).kind = 9 ∨ (opAt l k).kind = 10 ∨ (opAt l k).kind = 13) : 0 < k ∧ k + 1 < l.length := by
  refine inner h hk ?_ ?_
  · rcases hq with q | q | q <;> rw [q] <;> decide +kernel
  · rcases hq with q | q | q <;> rw [q] <;> decide
theorem opAt_set {l : List Opr} {j : Nat} (hj : j < l.length) (o : Opr) (i : Nat) : opAt (l.set j o) i = if i = j then o else opAt l i := by
  unfold opAt
  rw [List.getElem?_set]
  by_cases e : j = i
  · subst e; rw [if_pos rfl, if_pos hj, if_pos rfl]; rfl
  · rw [if_neg e, if_neg (fun q => e q.symm)]
/-- A list of operations each of which has what another one's has, but for what does not matter. -/
theorem right_like {m : List Opr} (h : rightB pc words el l = true) (hl : m.length = l.length) (h0 : opAt m 0 = opAt l 0) (hk : ∀ i, i < l.length → (opAt m i).kind = (opAt l i).kind ∧ opB (opAt m i) = true ∧ ∀ u ∈ usesL (opAt m i), 0 ≤ u ∧ u.toNat < i ∧ hasP (opAt l u.toNat).kind 32 = true) : rightB pc words el m = true := by
  have hh := right_head h
  unfold rightB
  rw [Bool.and_eq_true]
  constructor
  · unfold headB at hh ⊢
    rw [hl, h0]; exact hh
  · apply List.all_eq_true.2
    intro i hi
    rw [List.mem_range, hl] at hi
    obtain ⟨e, ob, us⟩ := hk i hi
    have ok := right_at h hi
    unfold okAt at ok ⊢
    rw [e, ob, hl]
    simp only [Bool.and_eq_true] at ok ⊢
    refine ⟨⟨ok.1.1, trivial⟩, ?_⟩
    rw [List.all_eq_true]
    intro u hu
    obtain ⟨a, b, c⟩ := us u hu
    unfold defB
    simp only [Bool.and_eq_true, decide_eq_true_eq]
    refine ⟨⟨a, by omega⟩, ?_⟩
    rw [(hk u.toNat (by omega)).1]; exact c
theorem op_ok (h : rightB pc words el l = true) {k : Nat} (hk : k < l.length) : opB (opAt l k) = true := by
  have := right_at h hk
  unfold okAt at this
  simp only [Bool.and_eq_true] at this
  exact this.1.2
theorem fence_r {o : Opr} (h : opB o = true) (hk : o.kind = 13) : o.r = 13 ∨ o.r = 10 ∨ o.r = 15 := by
  unfold opB rangeB at h
  rw [hk] at h
  simp only [Bool.and_eq_true] at h
  have := h.2
  rw [if_neg (by decide), if_neg (by decide), if_neg (by decide), if_pos trivial] at this
  simpa [or_assoc] using this
theorem fence_mk {o : Opr} {r : Int} (h : opB o = true) (hk : o.kind = 13) (hr : r = 13 ∨ r = 10 ∨ r = 15) : opB { o with r := r } = true := by
  unfold opB rangeB at h ⊢
  rw [hk] at h
  dsimp only
  rw [hk]
  simp only [Bool.and_eq_true] at h ⊢
  refine ⟨⟨⟨⟨⟨?_, h.1.1.1.1.2⟩, h.1.1.1.2⟩, h.1.1.2⟩, h.1.2⟩, ?_⟩
  · rw [show hasP 13 1 = true from by decide +kernel]; rfl
  · rw [if_neg (by decide), if_neg (by decide), if_neg (by decide), if_pos trivial]
    rcases hr with rfl | rfl | rfl <;> rfl
theorem orR_in {x y : Int} (hx : x = 13 ∨ x = 10 ∨ x = 15) (hy : y = 13 ∨ y = 10 ∨ y = 15) : orR x y = 13 ∨ orR x y = 10 ∨ orR x y = 15 := by
  unfold orR
  split
  · exact hx
  · exact .inr (.inr rfl)
theorem or_right (h : rightB pc words el l = true) {j : Nat} (hj : j < l.length) (hk : (opAt l j).kind = 13) {r : Int} (hr : r = 13 ∨ r = 10 ∨ r = 15) : rightB pc words el (orL l j r) = true := by
  have h13 := inner_k h hj (.inr (.inr hk))
  unfold orL
  refine right_like h (List.length_set ..) ?_ ?_
  · rw [opAt_set hj, if_neg (by omega)]
  · intro i hi
    rw [opAt_set hj]
    by_cases e : i = j
    · subst e
      rw [if_pos rfl]
      refine ⟨rfl, fence_mk (op_ok h hi) hk (orR_in (fence_r (op_ok h hi) hk) hr), ?_⟩
      intro u hu
      exact use_lt h hi (show u ∈ usesL (opAt l i) from hu)
    · rw [if_neg e]
      exact ⟨rfl, op_ok h hi, fun u hu => use_lt h hi hu⟩
theorem subst_at {k v i : Nat} (hi : i < l.length) : opAt (substL l k v) i = substO k v (opAt l i) := by
  apply opAt_of
  unfold substL
  rw [List.getElem?_map, opAt_some hi]; rfl
theorem subst_uses {k v i : Nat} {u : Int} (hu : u ∈ usesL (substO k v (opAt l i))) : ∃ x ∈ usesL (opAt l i), u = if x = k then (v : Int) else x := by
  unfold usesL at hu
  rw [List.mem_append] at hu
  rcases hu with hu | hu
  · split at hu
    · rename_i hp
      rw [List.mem_singleton] at hu
      exact ⟨_, uses_a hp, hu⟩
    · cases hu
  · split at hu
    · rename_i hp
      rw [List.mem_singleton] at hu
      exact ⟨_, uses_b hp, hu⟩
    · cases hu
theorem subst_right (h : rightB pc words el l = true) {k v : Nat} (hv : v < k) (hk : k < l.length) (hd : hasP (opAt l v).kind 32 = true) : rightB pc words el (substL l k v) = true := by
  have hn := right_lens h
  refine right_like h (by unfold substL; rw [List.length_map]) ?_ ?_
  · rw [subst_at hn.1, hn.2.2]
    unfold substO
    dsimp only
    rw [if_neg (by omega)]
  · intro i hi
    rw [subst_at hi]
    refine ⟨rfl, ?_, ?_⟩
    · have o := op_ok h hi
      unfold opB at o ⊢
      simp only [Bool.and_eq_true, Bool.or_eq_true, beq_iff_eq] at o ⊢
      obtain ⟨⟨⟨⟨⟨r1, r2⟩, r3⟩, r4⟩, r5⟩, r6⟩ := o
      refine ⟨⟨⟨⟨⟨r1, ?_⟩, ?_⟩, r4⟩, r5⟩, r6⟩
      · rcases r2 with q | q
        · exact .inl q
        · right; unfold substO; dsimp only; rw [q, if_neg (by omega)]
      · rcases r3 with q | q
        · exact .inl q
        · right; unfold substO; dsimp only; rw [q, if_neg (by omega)]
    · intro u hu
      obtain ⟨x, hx, rfl⟩ := subst_uses hu
      have := use_lt h hi hx
      by_cases e : x = (k : Int)
      · rw [if_pos e]
        refine ⟨by omega, by omega, by rw [Int.toNat_natCast]; exact hd⟩
      · rw [if_neg e]; exact this
/-- Nobody uses it behind. -/
theorem subst_off {k v : Nat} (hv : v < k) {i : Nat} (hi : i < l.length) (h : rightB pc words el l = true) : ∀ u ∈ usesL (opAt (substL l k v) i), u.toNat ≠ k := by
  intro u hu
  rw [subst_at hi] at hu
  obtain ⟨x, hx, rfl⟩ := subst_uses hu
  have := use_lt h hi hx
  by_cases e : x = (k : Int)
  · rw [if_pos e, Int.toNat_natCast]; omega
  · rw [if_neg e]; omega
end
end Go.Proofs.Ytilbnjldfgofmaa
