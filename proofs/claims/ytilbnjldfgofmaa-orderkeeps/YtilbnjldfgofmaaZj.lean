/- pullAhead: two rows of one's own; what lies ahead, what behind. -/
import Derived.Test.YtilbnjldfgofmaaZh
import Derived.Maps.AppendAt
import Derived.Laws.CopyRow
namespace Go.Proofs.Ytilbnjldfgofmaa
open Go.RowKit
set_option linter.unusedVariables false
set_option linter.unusedSimpArgs false
set_option maxRecDepth 8000

abbrev fP (xs : List Nat) : List Value := xs.map fun i => ptr i 0
def Apart (u v : Value) : Prop := ∀ k, u.ownBlock = some k → v.ownBlock ≠ some k
theorem Apart.symm {u v : Value} (h : Apart u v) : Apart v u := fun k h1 h2 => h k h2 h1
theorem Apart.or {u v : Value} (h : Apart u v) : u.ownBlock = none ∨ u.ownBlock ≠ v.ownBlock := by
  cases e : u.ownBlock with
  | none => exact .inl rfl
  | some k => exact .inr fun e2 => h k e e2.symm
theorem infoP : (Try.prog.info? 62).map (fun i => (i.zero, i.size, i.bytes)) = some (some (.pointer none), 1, 8) := by kernel_rfl
theorem run_oneP (p : Nat) (w : World) : (Instr.buildSlice 63 1 #[(0, ptr p 0)]).run Try.prog w = .ok (.slice (some ⟨w.heap.size, 0, none⟩) 1 1) (w.alloc (.cells #[ptr p 0] 62)) := by
  obtain ⟨i, hi, hz, hs, hby⟩ := info_parts infoP
  exact run_buildSlice (P := Try.prog) w 63 62 1 _ _ i (.pointer none) Try.underlying63 hi hz (by rw [hs]; decide) (by rw [hs]; decide) (by rw [hs]; kernel_rfl)
theorem wpList_oneP {ops : Array Oper} {rest : List Oper} {o : Oper} {a : Act} {w : World} {Q : Exit → Act → World → Prop} (hg : o.guard = none) (y : Operand) (ho : o.op = .buildSlice 63 1 #[(0, y)]) (p : Nat) (hy : a.eval y = ptr p 0)
    (h : wpList Try.prog ops Q rest (a.put o.dst (.slice (some ⟨w.heap.size, 0, none⟩) 1 1)) (w.alloc (.cells #[ptr p 0] 62))) : wpList Try.prog ops Q (o :: rest) a w :=
  wpList_plain hg fun _ hK => by
    unfold Oper.wp execOp
    simp only [ho, Sem.run_bind, List.map_toArray, List.map_cons, List.map_nil, hy, run_oneP, Result.andThen_ok]
    exact hK _ _ h
theorem wpList_appP {ops : Array Oper} {rest : List Oper} {o : Oper} {a : Act} {w : World} {Q : Exit → Act → World → Prop} (hg : o.guard = none) (s x : Operand) (ho : o.op = .call { callee := .builtin .append, args := #[s, x], argTypes := #[63, 63] }) {base : Nat} {v : Value} {zs : List Nat} {p : Nat} (hs : a.eval s = v) (hx : a.eval x = .slice (some ⟨w.heap.size, 0, none⟩) 1 1) (O : w.ownsRow base 62 1 v zs.length (fP zs)) (hl : zs.length ≤ 1000) (hbase : base ≤ w.heap.size)
    (h : ∀ v' w', w'.ownsRow base 62 1 v' (zs ++ [p]).length (fP (zs ++ [p])) → (w.alloc (.cells #[ptr p 0] 62)).grownBy w' v.ownBlock → (v'.ownBlock = v.ownBlock ∨ v'.ownBlock = some (w.alloc (.cells #[ptr p 0] 62)).heap.size) → wpList Try.prog ops Q rest (a.put o.dst v') w') : wpList Try.prog ops Q (o :: rest) a (w.alloc (.cells #[ptr p 0] 62)) := by
  obtain ⟨i, hi, hz, hsz, hby⟩ := info_parts infoP
  refine wpList_append_own_at _ hg s x 63 ho base 62 i (.pointer none) 1 8 Try.underlying63 hi hz hsz hby rfl (by decide) v zs.length (fP zs) hs (O.alloc _) ⟨w.heap.size, 0, none⟩ 1 1 [ptr p 0] hx rfl (cell_one_new _ _ _) (by simp [Value.oneCell']) (by simp only [maxLen]; omega) (by omega) (by simp; omega) ?_
  intro v' w' hR hgr _ hat
  exact h v' w' (by simpa [fP] using hR) hgr hat
/-- Two rows of one's own, apart. -/
structure PaI (w : World) (va vb : Value) (xa xb : List Nat) (W : World) : Prop where
  ra : W.ownsRow w.heap.size 62 1 va xa.length (fP xa)
  rb : W.ownsRow w.heap.size 62 1 vb xb.length (fP xb)
  ap : Apart va vb
  low : Below w.heap.size w W
theorem PaI.left {w W W' : World} {va vb v' : Value} {xa xb xa' : List Nat} {o : Obj} (h : PaI w va vb xa xb W) (hown : W'.ownsRow w.heap.size 62 1 v' xa'.length (fP xa')) (hg : (W.alloc o).grownBy W' va.ownBlock) (hat : v'.ownBlock = va.ownBlock ∨ v'.ownBlock = some (W.alloc o).heap.size) : PaI w v' vb xa' xb W' := by
  have hg' : W.grownBy W' va.ownBlock := (World.grownBy_alloc _ _ _).trans hg
  refine ⟨hown, h.rb.kept hg' h.ap.symm.or, fun k hk => ?_, h.low.trans ((goes_grown (F := fun q => va.ownBlock = some q) hg' (fun q hq => hq)).below h.low.size (fun q hq => (h.ra.lt q hq).1))⟩
  rcases hat with e | e
  · exact h.ap k (by rw [← e]; exact hk)
  · intro hv
    have h1 := (h.rb.lt k hv).2
    rw [e] at hk
    cases hk
    simp at h1
    omega
theorem PaI.symm {w W : World} {va vb : Value} {xa xb : List Nat} (h : PaI w va vb xa xb W) : PaI w vb va xb xa W := ⟨h.rb, h.ra, h.ap.symm, h.low⟩
/-- What lies behind, what ahead, of the first i of those from k on. -/
def isB (l : List Opr) (k x : Nat) : Bool := x == k || isAt l x
def ahL (l : List Opr) (k i : Nat) : List Nat := (List.range' k i).filter fun x => !isB l k x
def beL (l : List Opr) (k i : Nat) : List Nat := (List.range' k i).filter fun x => isB l k x
theorem ahL_step (l : List Opr) (k i : Nat) : ahL l k (i + 1) = if isB l k (k + i) = true then ahL l k i else ahL l k i ++ [k + i] := by
  unfold ahL
  rw [List.range'_concat, List.filter_append, Nat.one_mul]
  by_cases h : isB l k (k + i) = true
  · rw [if_pos h]; simp [h]
  · rw [if_neg h]; simp [h]
theorem beL_step (l : List Opr) (k i : Nat) : beL l k (i + 1) = if isB l k (k + i) = true then beL l k i ++ [k + i] else beL l k i := by
  unfold beL
  rw [List.range'_concat, List.filter_append, Nat.one_mul]
  by_cases h : isB l k (k + i) = true
  · rw [if_pos h]; simp [h]
  · rw [if_neg h]; simp [h]
theorem ahL_len (l : List Opr) (k i : Nat) : (ahL l k i).length ≤ i := by
  unfold ahL
  have := List.length_filter_le (fun x => !isB l k x) (List.range' k i)
  rwa [List.length_range'] at this
theorem beL_len (l : List Opr) (k i : Nat) : (beL l k i).length ≤ i := by
  unfold beL
  have := List.length_filter_le (fun x => isB l k x) (List.range' k i)
  rwa [List.length_range'] at this
theorem ahL_end {l : List Opr} {k j : Nat} (h : k ≤ j) : ahL l k (j + 1 - k) = nonAts l k j := by
  unfold ahL nonAts seg
  rw [show j + 1 - k = (j - k) + 1 by omega, List.range'_succ, List.filter_cons, if_neg (by simp [isB])]
  apply List.filter_congr
  intro x hx
  rw [List.mem_range'_1] at hx
  unfold isB
  rw [show (x == k) = false by simp; omega, Bool.false_or]
theorem beL_end {l : List Opr} {k j : Nat} (h : k ≤ j) : beL l k (j + 1 - k) = k :: ats l k j := by
  unfold beL ats seg
  rw [show j + 1 - k = (j - k) + 1 by omega, List.range'_succ, List.filter_cons, if_pos (by simp [isB])]
  congr 1
  apply List.filter_congr
  intro x hx
  rw [List.mem_range'_1] at hx
  unfold isB
  rw [show (x == k) = false by simp; omega, Bool.false_or]
end Go.Proofs.Ytilbnjldfgofmaa
