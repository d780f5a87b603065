/- New; the law's registers. -/
import Derived.Test.YteklkololojamaaGreatWc
import Derived.Laws.MakeOwn
namespace Go.Proofs.YteklkololojamaaGreat.Tmr
open Go.RowKit
open Tim
set_option linter.unusedVariables false
set_option linter.unusedSimpArgs false
set_option maxRecDepth 8000

theorem infA : ∃ i, Tryz.prog.info? 110 = some i ∧ i.zero = some (.agg #[vU 0, vU 0]) ∧ i.size = 2 ∧ i.bytes = 16 := by
  have h : (Tryz.prog.info? 110).map (fun i => (i.zero, i.size, i.bytes)) = some (some (.agg #[vU 0, vU 0]), 2, 16) := by kernel_rfl
  cases hq : Tryz.prog.info? 110 with
  | none => rw [hq] at h; cases h
  | some i =>
    rw [hq] at h
    simp only [Option.map_some, Option.some.injEq, Prod.mk.injEq] at h
    exact ⟨i, rfl, h.1, h.2.1, h.2.2⟩
theorem made_get {z : Array Value} {n j s : Nat} (hz : z.size = s) (hs : 0 < s) (hj : j < n) : (madeCells z n)[j]? = z[j % s]? := by
  have hlt : j % s < z.size := by rw [hz]; exact Nat.mod_lt _ hs
  rw [madeCells, Array.getElem?_map, Array.getElem?_range, if_pos hj, Option.map_some, hz, Array.getElem?_eq_getElem hlt, getElem!_pos z (j % s) hlt]
theorem wpList_makeA {ops : Array Oper} {rest : List Oper} {o : Oper} {a : Act} {w : World} {Q : Exit → Act → World → Prop} (hgd : o.guard = none) (x : Operand) (ho : o.op = .makeSlice 124 x x) (n : Nat) (hx : a.eval x = vI n) (hn : n ≤ 8)
    (h : wpList Tryz.prog ops Q rest (a.put o.dst (.slice (some ⟨w.heap.size, 0, none⟩) n n)) (w.alloc (.cells (madeCells #[vU 0, vU 0] (n * 2)) 110))) : wpList Tryz.prog ops Q (o :: rest) a w := by
  obtain ⟨i, h1, h2, h3, h4⟩ := infA
  have hr := run_makeSlice (P := Tryz.prog) w 124 110 i (.agg #[vU 0, vU 0]) Tryz.underlying124 h1 h2 .i64 .i64 n n (by omega) (by omega) (by rw [h3, Int.toNat_natCast]; omega) (by rw [h4]; omega) (by omega)
  rw [Int.toNat_natCast, h3] at hr
  refine wpList_plain hgd fun K hK => ?_
  unfold Oper.wp execOp
  simp only [ho, hx, Sem.run_bind, Result.andThen_ok, hr]
  exact hK _ _ h
theorem alloc_two (w : World) (x y : Obj) : ((w.alloc x).alloc y).heap[w.heap.size]? = some x := by
  rw [(below_alloc _ _).block _ (by show _ < (w.heap.push _).size; simp)]; exact heap_alloc_new _ _
theorem alloc_snd (w : World) (x y : Obj) : ((w.alloc x).alloc y).heap[w.heap.size + 1]? = some y := by
  have e : (w.alloc x).heap.size = w.heap.size + 1 := by show (w.heap.push _).size = _; simp
  rw [← e]; exact heap_alloc_new _ _
theorem new_at (w : World) {n : Nat} (h0 : 0 < n) (h8 : n ≤ 8) : TimAt (w.heap.size + 1) w.heap.size n zeroT ((w.alloc (.cells (madeCells #[vU 0, vU 0] (n * 2)) 110)).alloc (.cells #[vU 0, .slice (some ⟨w.heap.size, 0, none⟩) n n] 126)) := by
  refine ⟨h0, h8, zeroT_ok, alloc_snd _ _ _, _, alloc_two _ _ _, size_madeCells _ _, fun c hc => ⟨?_, ?_⟩⟩
  · rw [made_get (s := 2) rfl (by decide) (by omega), show c * 2 % 2 = 0 by omega]; rfl
  · rw [made_get (s := 2) rfl (by decide) (by omega), show (c * 2 + 1) % 2 = 1 by omega]; rfl
theorem new_no (n : Int) (h : n < 1 ∨ 8 < n) (w : World) : Calls Tryz.prog 39 #[vI n] w fun e w' => e = .returned (.tuple #[.pointer none, vI 1]) ∧ w' = w := by
  by_cases h1 : n < 1
  · go_enter Tryz.func39, Tryz.ntmps39
    go_wp2
    go_ret2
    exact ⟨rfl, rfl⟩
  · have h2 : 8 < n := by omega
    clear h
    go_enter Tryz.func39, Tryz.ntmps39
    go_wp2
    go_ret2
    exact ⟨rfl, rfl⟩
theorem new_c (n : Nat) (h0 : 0 < n) (h8 : n ≤ 8) (w : World) : Calls Tryz.prog 39 #[vI n] w fun e w' => ∃ g, e = .returned (.tuple #[ptr g 0, vI 0]) ∧ ∃ cb, TimAt g cb n zeroT w' ∧ Below w.heap.size w w' ∧ w.heap.size ≤ g ∧ w.heap.size ≤ cb := by
  have k1 : ¬ ((n : Int) < 1) := by omega
  have k2 : ¬ (8 < (n : Int)) := by omega
  have hN := new_at w h0 h8
  go_enter Tryz.func39, Tryz.ntmps39
  go_upto_region 3 with fail
  go_wp2_with (first | (refine wpList_makeA rfl _ rfl n rfl h8 ?_; simp only [Act.put]))
  go_ret2
  exact ⟨w.heap.size + 1, rfl, w.heap.size, hN, Rel.below_alloc2 _ _ _, by omega, Nat.le_refl _⟩
def sysM (n : Int) : Int := if n < 0 then -(n + 1) else n
def sysV (n : Int) : Int := if sysM n % 5 = 0 then 24322 else if sysM n % 5 = 1 then 24345 else if sysM n % 5 = 2 then 24346 else if sysM n % 5 = 3 then 17920 else sysM n
end Go.Proofs.YteklkololojamaaGreat.Tmr
