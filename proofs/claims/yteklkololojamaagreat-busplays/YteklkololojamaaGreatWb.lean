/- The program's timer: look, what is read of an alarm at a count, and what sets one. -/
import Derived.Test.YteklkololojamaaGreatWa
import Derived.Test.YteklkololojamaaGreatChm
import Derived.Handy
namespace Go.Proofs.YteklkololojamaaGreat.Tmr
open Go.RowKit
open Tim
set_option linter.unusedVariables false
set_option linter.unusedSimpArgs false
set_option maxRecDepth 8000

def Sg.reached (s : Sg) : Bool := decide (s.cval ≤ s.cnt)
def Sg.high (s : Sg) : Bool := decide (s.ctl = 1) && decide (s.cval ≤ s.cnt)
def Sg.waits (s : Sg) : Bool := decide (s.ctl = 1) && !decide (s.cval ≤ s.cnt)
def Sg.bits (s : Sg) : Int := if s.ctl % 2 = 1 ∧ s.cval ≤ s.cnt then s.ctl + 4 else s.ctl
/-- A core's alarm at the count of now. -/
def lookV (T : Tm) (c : Nat) : Sg := ⟨T.cval c, T.ctl c, T.cnt⟩
theorem boxed (w : World) (s : Sg) : (w.alloc (.cells s.row.toArray 112)).heap[w.heap.size]? = some (.cells s.row.toArray 112) := heap_alloc_new _ _
section
variable {g cb n : Nat} {T : Tm} {w : World}
theorem cnt_c (s : Sg) (w : World) : Calls Tryz.prog 141 #[s.val] w fun e w' => e = .returned (vU s.cnt) ∧ Below w.heap.size w w' := by
  go_enter Tryz.func141, Tryz.ntmps141
  go_wp2
  go_ret
  exact ⟨rfl, below_alloc _ _⟩
theorem cval_c (s : Sg) (w : World) : Calls Tryz.prog 142 #[s.val] w fun e w' => e = .returned (vU s.cval) ∧ Below w.heap.size w w' := by
  go_enter Tryz.func142, Tryz.ntmps142
  go_wp2
  go_ret
  exact ⟨rfl, below_alloc _ _⟩
theorem heard_c (s : Sg) (w : World) : Calls Tryz.prog 78 #[s.val] w fun e w' => e = .returned (.bool (decide (s.ctl = 1))) ∧ Below w.heap.size w w' := by
  by_cases h : s.ctl = 1
  · rw [decide_eq_true h]
    go_enter Tryz.func78, Tryz.ntmps78
    go_wp2
    go_ret
    exact ⟨rfl, below_alloc _ _⟩
  · have e : (s.ctl == 1) = false := by simpa using h
    rw [decide_eq_false h, ← e]
    clear e
    go_enter Tryz.func78, Tryz.ntmps78
    go_wp2
    go_ret
    exact ⟨rfl, below_alloc _ _⟩
theorem reached_c (s : Sg) (w : World) : Calls Tryz.prog 79 #[s.val] w fun e w' => e = .returned (.bool (decide (s.cval ≤ s.cnt))) ∧ Below w.heap.size w w' := by
  by_cases h : s.cval ≤ s.cnt
  · rw [decide_eq_true h]
    go_enter Tryz.func79, Tryz.ntmps79
    go_wp2
    go_ret
    exact ⟨rfl, below_alloc _ _⟩
  · rw [decide_eq_false h]
    go_enter Tryz.func79, Tryz.ntmps79
    go_wp2
    go_ret
    exact ⟨rfl, below_alloc _ _⟩
theorem wpList_ldW {ops : Array Oper} {rest : List Oper} {o : Oper} {a : Act} {w : World} {Q : Exit → Act → World → Prop} (hw : Region.wanted o (yielded ops a.tmps) = true) (x : Operand) (ho : o.op = .load 112 x) (b k : Nat) (hx : a.eval x = ptr b k) (s : Sg) (hr : ∀ (j : Nat), j < 3 → w.cell? ⟨b, k + j, none⟩ = s.row[j]?)
    (h : wpList Tryz.prog ops Q rest (a.put o.dst s.val) w) : wpList Tryz.prog ops Q (o :: rest) a w := by
  have hr' : w.rangeAt b k s.row := fun j y hy => by rw [hr j (List.getElem?_eq_some_iff.1 hy).1]; exact hy
  refine BigFrame.wpList_want hw fun K hK => ?_
  unfold Oper.wp execOp
  simp only [ho, hx, Instr.loadAt, Instr.sureAddr, Sem.run_bind, Sem.run_pure, Result.andThen_ok, run_loadVar_mid w b k 112 _ _ hr' Tryz.underlying112 rfl inf59]
  exact hK _ _ h
theorem cells_of {w' : World} {b : Nat} {s : Sg} (h : w'.heap[b]? = some (.cells s.row.toArray 112)) : ∀ j, j < 3 → w'.cell? ⟨b, 0 + j, none⟩ = s.row[j]? := fun j hj => by rw [cell_of_row _ _ _ _ _ _ h, Nat.zero_add]; simp
theorem high_c (s : Sg) (w : World) : Calls Tryz.prog 66 #[s.val] w fun e w' => e = .returned (.bool s.high) ∧ Below w.heap.size w w' := by
  unfold Sg.high
  have hh := heard_c s
  have hr := reached_c s
  generalize decide (s.cval ≤ s.cnt) = r at hr ⊢
  cases hd : decide (s.ctl = 1) with
  | false =>
    rw [hd] at hh
    go_enter Tryz.func66, Tryz.ntmps66
    go_upto_region 1 with fail
    generalize hw1 : World.alloc _ _ = w1
    have B : Below w.heap.size w w1 := by rw [← hw1]; exact below_alloc _ _
    have hb : w1.heap[w.heap.size]? = some (.cells s.row.toArray 112) := by rw [← hw1]; exact heap_alloc_new _ _
    have z := cells_of hb
    clear hw1
    go_wp2_with (first | (go_at_call 78; refine (hh _).mono ?_; rintro e w' ⟨rfl, hB⟩; dsimp only) | (refine wpList_ldS rfl _ rfl w.heap.size 0 rfl s z ?_; simp only [Act.put]))
    go_ret
    exact ⟨rfl, below_then B (Nat.le_refl _) hB⟩
  | true =>
    rw [hd] at hh
    go_enter Tryz.func66, Tryz.ntmps66
    go_upto_region 1 with fail
    generalize hw1 : World.alloc _ _ = w1
    have B : Below w.heap.size w w1 := by rw [← hw1]; exact below_alloc _ _
    have hb : w1.heap[w.heap.size]? = some (.cells s.row.toArray 112) := by rw [← hw1]; exact heap_alloc_new _ _
    have z := cells_of hb
    clear hw1
    go_wp2_with (first | (go_at_call 78; refine (hh _).mono ?_; rintro e w' ⟨rfl, hB⟩; dsimp only; have z2 := cells_of ((hB.block _ (lt_of_some hb)).trans hb)) | (go_at_call 79; refine (hr _).mono ?_; rintro e w2 ⟨rfl, hB2⟩; dsimp only) | (refine wpList_ldS rfl _ rfl w.heap.size 0 rfl s z ?_; simp only [Act.put]) | (refine wpList_ldW rfl _ rfl w.heap.size 0 rfl s z2 ?_; simp only [Act.put]))
    go_ret
    exact ⟨rfl, below_then (below_then B (Nat.le_refl _) hB) (Nat.le_refl _) hB2⟩
theorem ctl_c (s : Sg) (h0 : 0 ≤ s.ctl) (h3 : s.ctl ≤ 3) (w : World) : Calls Tryz.prog 143 #[s.val] w fun e w' => e = .returned (vU s.bits) ∧ Below w.heap.size w w' := by
  have a1 := and1 s.ctl h0 (by omega)
  have o4 := or4 s.ctl h0 h3
  have hr := reached_c s
  unfold Sg.bits
  by_cases hc : s.ctl % 2 = 1
  · have hne : (bits .and .u64 s.ctl 1 != 0) = true := by rw [a1, hc]; rfl
    by_cases hq : s.cval ≤ s.cnt
    · rw [if_pos ⟨hc, hq⟩, ← o4]
      rw [decide_eq_true hq] at hr
      clear hq hc a1 o4
      go_enter Tryz.func143, Tryz.ntmps143
      go_upto_region 1 with fail
      generalize hw1 : World.alloc _ _ = w1
      have B : Below w.heap.size w w1 := by rw [← hw1]; exact below_alloc _ _
      have hb : w1.heap[w.heap.size]? = some (.cells s.row.toArray 112) := by rw [← hw1]; exact heap_alloc_new _ _
      have z := cells_of hb
      have z1 : w1.cell? ⟨w.heap.size, 1, none⟩ = some (vU s.ctl) := z 1 (by decide)
      clear hw1
      go_wp2_with (first | (go_at_call 79; refine (hr _).mono ?_; rintro e w2 ⟨rfl, hB2⟩; dsimp only; have z3 : w2.cell? ⟨w.heap.size, 1, none⟩ = some (vU s.ctl) := cells_of ((hB2.block _ (lt_of_some hb)).trans hb) 1 (by decide)) | (refine wpList_ldW rfl _ rfl w.heap.size 0 rfl s z ?_; simp only [Act.put]))
      go_ret
      exact ⟨rfl, below_then B (Nat.le_refl _) hB2⟩
    · rw [if_neg (fun h => hq h.2)]
      rw [decide_eq_false hq] at hr
      clear hq hc a1 o4
      go_enter Tryz.func143, Tryz.ntmps143
      go_upto_region 1 with fail
      generalize hw1 : World.alloc _ _ = w1
      have B : Below w.heap.size w w1 := by rw [← hw1]; exact below_alloc _ _
      have hb : w1.heap[w.heap.size]? = some (.cells s.row.toArray 112) := by rw [← hw1]; exact heap_alloc_new _ _
      have z := cells_of hb
      have z1 : w1.cell? ⟨w.heap.size, 1, none⟩ = some (vU s.ctl) := z 1 (by decide)
      clear hw1
      go_wp2_with (first | (go_at_call 79; refine (hr _).mono ?_; rintro e w2 ⟨rfl, hB2⟩; dsimp only; have z3 : w2.cell? ⟨w.heap.size, 1, none⟩ = some (vU s.ctl) := cells_of ((hB2.block _ (lt_of_some hb)).trans hb) 1 (by decide)) | (refine wpList_ldW rfl _ rfl w.heap.size 0 rfl s z ?_; simp only [Act.put]))
      go_ret
      exact ⟨rfl, below_then B (Nat.le_refl _) hB2⟩
  · rw [if_neg (fun h => hc h.1)]
    have hne : (bits .and .u64 s.ctl 1 != 0) = false := by rw [a1, show s.ctl % 2 = 0 by omega]; rfl
    clear hc a1 o4 hr
    go_enter Tryz.func143, Tryz.ntmps143
    go_upto_region 1 with fail
    generalize hw1 : World.alloc _ _ = w1
    have B : Below w.heap.size w w1 := by rw [← hw1]; exact below_alloc _ _
    have hb : w1.heap[w.heap.size]? = some (.cells s.row.toArray 112) := by rw [← hw1]; exact heap_alloc_new _ _
    have z := cells_of hb
    have z1 : w1.cell? ⟨w.heap.size, 1, none⟩ = some (vU s.ctl) := z 1 (by decide)
    clear hw1
    go_wp2
    go_ret
    exact ⟨rfl, B⟩
end
end Go.Proofs.YteklkololojamaaGreat.Tmr
