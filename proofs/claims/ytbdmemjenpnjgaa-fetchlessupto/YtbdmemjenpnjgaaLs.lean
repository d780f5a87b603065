/- FetchLess: the plain part, and rows that lie apart. -/
import Derived.Test.YtbdmemjenpnjgaaLd
namespace Go.Proofs.Ytbdmemjenpnjgaa
open Go.RowKit
set_option linter.unusedVariables false
set_option linter.unusedSimpArgs false
set_option maxRecDepth 8000

open Go.Shelf Go.Maps
def pA (a : Nat) (n : Nt) : Bool := !isW a n
def pB (c : Int) (a : Nat) (n : Nt) : Bool := !isW a n && (n.kind != 4 || n.core == c)
def lA (tr more : List Nt) (a : Nat) : List Nt := tr ++ more.filter (pA a)
def lB (tr more : List Nt) (c : Int) (a : Nat) : List Nt := tr ++ more.filter (pB c a)
theorem lA_next {tr more : List Nt} {a k : Nat} {n : Nt} (hn : more[k]? = some n) : lA tr (more.take (k + 1)) a = lA tr (more.take k) a ++ (if isW a n then [] else [n]) := by
  unfold lA
  rw [List.take_add_one, hn, List.filter_append, ← List.append_assoc]
  congr 1
  cases h : isW a n <;> simp [pA, h]
theorem lB_next {tr more : List Nt} {c : Int} {a k : Nat} {n : Nt} (hn : more[k]? = some n) : lB tr (more.take (k + 1)) c a = lB tr (more.take k) c a ++ (if pB c a n then [n] else []) := by
  unfold lB
  rw [List.take_add_one, hn, List.filter_append, ← List.append_assoc]
  congr 1
  cases h : pB c a n <;> simp [h]
theorem wordsW_none {l : List Nt} {a : Nat} (h : ∀ n ∈ l, isW a n = false) : wordsW l a = [] := by
  unfold wordsW
  rw [List.filter_eq_nil_iff.2 (fun n hn => by simp [h n hn])]
  rfl
theorem vers_none {tr l : List Nt} {a f : Nat} (h : ∀ n ∈ l, isW a n = false) : vers (tr ++ l) a f = vers tr a f := by
  unfold vers
  have : wordsW (tr ++ l) a = wordsW tr a ++ wordsW l a := by unfold wordsW; rw [List.filter_append, List.map_append]
  rw [this, wordsW_none h, List.append_nil]
theorem lost_mono (tr : List Nt) (c : Int) (a : Nat) (l : List Nt) : (au tr c a).lost ≤ (au (tr ++ l) c a).lost := by
  induction l using snoc_ind with
  | h0 => rw [List.append_nil]; exact Nat.le_refl _
  | h1 l x ih =>
    rw [← List.append_assoc, au_snoc]
    have := au_le (tr ++ l) c a
    unfold Au.step
    split
    · exact ih
    · split
      · exact ih
      · split
        · exact Nat.le_trans ih this.1
        · exact ih
theorem fold_filter {c : Int} {a : Nat} {p : Nt → Bool} (h : ∀ n, p n = false → ∀ s : Au, s.step c a n = s) : ∀ (l : List Nt) (s : Au), (l.filter p).foldl (Au.step c a) s = l.foldl (Au.step c a) s
  | [], _ => rfl
  | n :: l, s => by
    by_cases e : p n = true
    · rw [List.filter_cons_of_pos e]
      exact fold_filter h l _
    · rw [List.filter_cons_of_neg e, List.foldl_cons, h n (by simpa using e)]
      exact fold_filter h l s
theorem less_plain {tr more : List Nt} {c : Int} {a f : Nat} (h : mayOk (lA tr more a) c a = true) :
    (∀ x ∈ mayL (lA tr more a) c a f, x ∈ mayL tr c a f) ∧ mayOk (lB tr more c a) c a = true ∧ mayL (lB tr more c a) c a f = mayL (lA tr more a) c a f := by
  have e : lB tr more c a = tr ++ (more.filter (pA a)).filter (fun n => n.kind != 4 || n.core == c) := by
    unfold lB
    rw [List.filter_filter]
    congr 1
    apply List.filter_congr
    intro n _
    unfold pB pA
    rw [Bool.and_comm]
  have hA : ∀ n ∈ more.filter (pA a), isW a n = false := fun n hn => by simpa [pA] using (List.mem_filter.1 hn).2
  have hB : ∀ n ∈ (more.filter (pA a)).filter (fun n => n.kind != 4 || n.core == c), isW a n = false := fun n hn => hA n (List.mem_filter.1 hn).1
  have vA : vers (lA tr more a) a f = vers tr a f := vers_none hA
  have vB : vers (lB tr more c a) a f = vers tr a f := by rw [e]; exact vers_none hB
  have aB : au (lB tr more c a) c a = au (lA tr more a) c a := by
    rw [e]
    unfold lA au
    rw [List.foldl_append, List.foldl_append]
    refine fold_filter (fun n hn s => ?_) _ _
    have hk : n.kind = 4 ∧ n.core ≠ c := by simpa using hn
    have h1 : isW a n = false := by simp [isW, hk.1]
    have h2 : isT a n = false := by simp [isT, hk.1]
    have h3 : isI c n = false := by simp [isI, hk.2]
    simp [Au.step, h1, h2, h3]
  refine ⟨fun x hx => ?_, ?_, ?_⟩
  · rw [mayL_mem] at hx ⊢
    rw [vA] at hx
    have hm := lost_mono tr c a (more.filter (pA a))
    have : (vers tr a f).drop (au (lA tr more a) c a).lost = ((vers tr a f).drop (au tr c a).lost).drop ((au (lA tr more a) c a).lost - (au tr c a).lost) := by
      rw [List.drop_drop]
      congr 1
      unfold lA
      omega
    rw [this] at hx
    exact List.mem_of_mem_drop hx
  · unfold mayOk at *
    simp only [Bool.and_eq_true] at *
    refine ⟨⟨?_, h.1.2⟩, h.2⟩
    have hr := h.1.1
    unfold rightL at *
    rw [List.all_eq_true] at *
    intro n hn
    refine hr n ?_
    rw [e] at hn
    unfold lA
    rcases List.mem_append.1 hn with h1 | h1
    · exact List.mem_append_left _ h1
    · exact List.mem_append_right _ (List.mem_filter.1 h1).1
  · unfold mayL
    rw [vA, vB, aB]
theorem lA_len (tr more : List Nt) (a : Nat) : (lA tr more a).length ≤ tr.length + more.length := by
  unfold lA
  rw [List.length_append]
  have := List.length_filter_le (pA a) more
  omega
theorem lB_len (tr more : List Nt) (c : Int) (a : Nat) : (lB tr more c a).length ≤ tr.length + more.length := by
  unfold lB
  rw [List.length_append]
  have := List.length_filter_le (pB c a) more
  omega
theorem lA_ok {tr more : List Nt} {a : Nat} (h1 : TrOk tr) (h2 : TrOk more) : TrOk (lA tr more a) := fun n hn => by
  rcases List.mem_append.1 hn with e | e
  · exact h1 n e
  · exact h2 n (List.mem_filter.1 e).1
theorem lB_ok {tr more : List Nt} {c : Int} {a : Nat} (h1 : TrOk tr) (h2 : TrOk more) : TrOk (lB tr more c a) := fun n hn => by
  rcases List.mem_append.1 hn with e | e
  · exact h1 n e
  · exact h2 n (List.mem_filter.1 e).1
/-- Rows that lie apart. -/
def Apart (u v : Value) : Prop := ∀ k, u.ownBlock = some k → v.ownBlock ≠ some k
theorem Apart.symm {u v : Value} (h : Apart u v) : Apart v u := fun k h1 h2 => h k h2 h1
theorem Apart.or {u v : Value} (h : Apart u v) : u.ownBlock = none ∨ u.ownBlock ≠ v.ownBlock := by
  cases e : u.ownBlock with
  | none => exact .inl rfl
  | some k => exact .inr fun e2 => h k e e2.symm
structure LsI (w0 : World) (L M : List Nt) (u v : Value) (W : World) : Prop where
  rl : W.ownsRow w0.heap.size 34 4 u L.length (ntF L)
  rm : W.ownsRow w0.heap.size 34 4 v M.length (ntF M)
  ap : Apart u v
  low : Below w0.heap.size w0 W
theorem LsI.left {w0 W W' : World} {L M : List Nt} {u v u' : Value} {n : Nt} {o : Obj} (h : LsI w0 L M u v W) (hown : W'.ownsRow w0.heap.size 34 4 u' (L ++ [n]).length (ntF (L ++ [n]))) (hg : (W.alloc o).grownBy W' u.ownBlock) (hat : u'.ownBlock = u.ownBlock ∨ u'.ownBlock = some (W.alloc o).heap.size) : LsI w0 (L ++ [n]) M u' v W' := by
  have hg' : W.grownBy W' u.ownBlock := (World.grownBy_alloc _ _ _).trans hg
  refine ⟨hown, h.rm.kept hg' h.ap.symm.or, fun k hk => ?_, h.low.trans ((goes_grown (F := fun q => u.ownBlock = some q) hg' (fun q hq => hq)).below h.low.size (fun q hq => (h.rl.lt q hq).1))⟩
  rcases hat with e | e
  · exact h.ap k (by rw [← e]; exact hk)
  · intro hv
    have h1 := (h.rm.lt k hv).2
    rw [e] at hk
    cases hk
    rw [World.size_alloc] at h1
    omega
theorem LsI.right {w0 W W' : World} {L M : List Nt} {u v v' : Value} {n : Nt} {o : Obj} (h : LsI w0 L M u v W) (hown : W'.ownsRow w0.heap.size 34 4 v' (M ++ [n]).length (ntF (M ++ [n]))) (hg : (W.alloc o).grownBy W' v.ownBlock) (hat : v'.ownBlock = v.ownBlock ∨ v'.ownBlock = some (W.alloc o).heap.size) : LsI w0 L (M ++ [n]) u v' W' := by
  have h2 : LsI w0 M L v u W := ⟨h.rm, h.rl, h.ap.symm, h.low⟩
  have h3 := h2.left hown hg hat
  exact ⟨h3.rm, h3.rl, h3.ap.symm, h3.low⟩
end Go.Proofs.Ytbdmemjenpnjgaa
