/- A form: a kind of words; what apart, together and holds make of it: contracts. -/
import Derived.Test.YtcmilajlngnibaaAdr
import Derived.Test.YtcmilajlngnibaaTbz
import Derived.Test.YtcmilajlngnibaaLgc
import Derived.Deep.MidRow
import Derived.Deep.RegionHeld3
import Derived.Laws.ResultCell
namespace Go.Proofs.Ytcmilajlngnibaa
open Go.RowKit

structure Fm where
  op : Int
  sub : Int
  mask : Int
  base : Int
  f : Nat
  t : Tr
def Fm.cells (F : Fm) : List Value := [.int .i64 F.op, .int .i64 F.sub, .int .u32 F.mask, .int .u32 F.base, .func (.func F.f) #[] #[]]
/-- A form lies in a block, from an offset on. -/
structure FmAt (F : Fm) (g o : Nat) (w : World) : Prop where
  c0 : w.cell? ⟨g, o, none⟩ = some (.int .i64 F.op)
  c1 : w.cell? ⟨g, o + 1, none⟩ = some (.int .i64 F.sub)
  c2 : w.cell? ⟨g, o + 2, none⟩ = some (.int .u32 F.mask)
  c3 : w.cell? ⟨g, o + 3, none⟩ = some (.int .u32 F.base)
  c4 : w.cell? ⟨g, o + 4, none⟩ = some (.func (.func F.f) #[] #[])
theorem FmAt.keep {F : Fm} {g o : Nat} {w w' : World} (h : FmAt F g o w) (hk : w'.heap[g]? = w.heap[g]?) : FmAt F g o w' := by
  have e : ∀ k, w'.cell? ⟨g, k, none⟩ = w.cell? ⟨g, k, none⟩ := fun k => World.cell?_of_block (w := w) hk
  exact ⟨by rw [e]; exact h.c0, by rw [e]; exact h.c1, by rw [e]; exact h.c2, by rw [e]; exact h.c3, by rw [e]; exact h.c4⟩
theorem below_alloc (w : World) (o : Obj) : Below w.heap.size w (w.alloc o) := (Below.refl _ w).alloc (Nat.le_refl _) o
theorem below_more {w x : World} {o : Obj} (h : Below w.heap.size w x) : Below w.heap.size w (x.alloc o) := h.alloc h.size o
theorem zero_in : I64 0 := ⟨by decide, by decide⟩
def nilI : Ins := ⟨0, 0, 0, 0, 0, 0, 0, 0, 0, 0, 0, 0, false, false, false, false⟩
def startI (F : Fm) : Ins := { nilI with op := F.op, sub := F.sub }
def Ins.listV (i : Ins) : List Value := [vI i.op, vI i.sub, vI i.rd, vI i.rn, vI i.rm, vI i.ra, vI i.imm, vI i.imm2, vI i.amount, vI i.shift, vI i.cond, vI i.sys, .bool i.flags, .bool i.minus, .bool i.not, .bool i.link]
theorem info25 : (Try.prog.info? 25).map (·.size) = some 16 := by kernel_rfl
theorem Ins.info (i : Ins) : (Try.prog.info? 25).map (·.size) = some i.listV.length := info25
theorem Ins.info' (i : Ins) : (Try.prog.info? 25).map (·.size) = some i.listV.toArray.size := info25
theorem Ins.one (i : Ins) : i.listV.toArray.all (·.oneCell') = true := by simp [Ins.listV, Value.oneCell']
theorem pair_range {s : St} {lay : Bool} {b : Nat} {w : World} (h : w.heap[b]? = some (.cells (pairS s lay) 52)) : w.rangeAt b 1 s.2.listV := by
  intro j v hv
  rw [cell_of_row _ _ _ _ _ _ h]
  obtain ⟨hj, -⟩ := List.getElem?_eq_some_iff.1 hv
  have hj : j < 16 := hj
  have : j = 0 ∨ j = 1 ∨ j = 2 ∨ j = 3 ∨ j = 4 ∨ j = 5 ∨ j = 6 ∨ j = 7 ∨ j = 8 ∨ j = 9 ∨ j = 10 ∨ j = 11 ∨ j = 12 ∨ j = 13 ∨ j = 14 ∨ j = 15 := by omega
  rcases this with rfl | rfl | rfl | rfl | rfl | rfl | rfl | rfl | rfl | rfl | rfl | rfl | rfl | rfl | rfl | rfl <;> exact hv
theorem below_setRow {w x : World} {g : Nat} {cs : Array Value} (h : Below w.heap.size w x) (hg : w.heap.size ≤ g) : Below w.heap.size w (x.setRow g cs) :=
  h.trans ⟨rfl, rfl, rfl, by rw [size_setRow]; exact Nat.le_refl _, fun k hk => setRow_other _ _ _ _ (by omega)⟩
set_option maxRecDepth 4000 in
set_option maxHeartbeats 4000000 in
theorem apart_c (F : Fm) (hF : FC F.f F.t) (hE : ∀ (args : Array Value) (w : World), (callFunc F.f args).run Try.prog w = .ok (.enter F.f args) w) (g o : Nat) (word : Int) (hW' : W32 word) (hs : I64 F.sub) (w : World) (h : FmAt F g o w) :
    Calls Try.prog 14 #[.pointer (some ⟨g, o, none⟩), .int .u32 word] w fun e w' => e = .returned (F.t false (word, startI F)).2.val ∧ Below w.heap.size w w' := by
  have c0 := h.c0
  have c1 := h.c1
  have c4 := h.c4
  go_enter Try.func14, Try.ntmps14
  have hg : g < w.heap.size := block_lt_of_cell c0
  have hne := World.new_ne w ⟨g, o, none⟩ c0
  go_upto_region 1 with fail
  go_region_held3 (fun x : World => x.cell? ⟨g, o, none⟩ = some (.int .i64 F.op) ∧ x.cell? ⟨g, o + 1, none⟩ = some (.int .i64 F.sub)) (go_keep) (fail)
  all_goals
    generalize hW : World.drew _ = w1
    have HB : Below w.heap.size w w1 := by
      rw [← hW]
      exact Below.drew (below_more (below_alloc _ _))
    have hrow : w1.heap[w.heap.size + 1]? = some (.cells (pairS (word, startI F) false) 52) := by
      rw [← hW]
      exact heap_alloc2_new _ _ _
    have hres : ∃ Z, w1.heap[w.heap.size]? = some (.cells Z 25) ∧ Z.size = 16 := ⟨_, by rw [← hW]; exact heap_alloc2_old _ _ _, rfl⟩
    obtain ⟨Z, hres, hZ⟩ := hres
    have hfm : FmAt F g o w1 := h.keep (HB.block g hg)
    clear hW c0 c1 c4 hne
    have c4 := hfm.c4
    have O : Ok (word, startI F) := ⟨hW', fun k => by cases k <;> first | exact hs | exact zero_in⟩
    go_upto_region 3 with (first | (refine (hF (w.heap.size + 1) (word, startI F) false _ O hrow).mono ?_; rintro e w2 ⟨rfl, H1⟩; dsimp only))
    have H2 : Below w.heap.size w w2 := ⟨H1.keep.os.trans HB.os, H1.keep.tape.trans HB.tape, H1.keep.output.trans HB.output, Nat.le_trans HB.size H1.keep.size, fun k hk => (H1.keep.block k (by omega) (Nat.lt_of_lt_of_le hk HB.size)).trans (HB.block k hk)⟩
    have hres2 : w2.heap[w.heap.size]? = some (.cells Z 25) := (H1.keep.block _ (by omega) (Array.getElem?_eq_some_iff.1 hres).1).trans hres
    iterate 4 go_step
    with_reducible refine wpList_load_mid rfl 25 _ rfl (w.heap.size + 1) 1 rfl (Ins.listV _) _ (pair_range H1.row) Try.underlying25 rfl (Ins.info _) ?_
    simp only [Act.put, List.setIfInBounds_toArray, List.set_cons_succ, List.set_cons_zero]
    with_reducible refine wpList_store_row rfl 25 _ _ rfl w.heap.size _ rfl rfl 25 _ hres2 (Ins.info' _) ?_ (Ins.one _) ?_
    focus (rw [hZ]; rfl)
    go_wp2
    refine bodyPost_ret (results_cell_row rfl _ _ _ 25 _ (0, 0) _ rfl (setRow_heap _ _ _ _ _ _ hres2) Try.underlying25 rfl (Ins.info' _)) rfl ?_
    exact ⟨rfl, below_setRow H2 (Nat.le_refl _)⟩
end Go.Proofs.Ytcmilajlngnibaa
