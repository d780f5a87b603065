/- What an operation does, plainly. -/
import Derived.Test.YtccmncecpmemaaaGreatDoorJb
import Derived.Test.YtccmncecpmemaaaGreatDoorXd
namespace Go.Proofs.YtccmncecpmemaaaGreatDoor
open Go.RowKit
set_option linter.unusedVariables false
set_option linter.unusedSimpArgs false
set_option maxRecDepth 8000

section
variable {l : List Opr} {g vb : Nat} {so : Value} {S : Rn} {w w' : World}
def Rn.val (S : Rn) (a : Int) : Int := S.vs.getD a.toNat 0
def Rn.x (S : Rn) (r : Int) : Int := S.c.x.toArray.getD r.toNat 0
def Rn.setX (S : Rn) (r : Int) (v : Int) : Rn := { S with c := { S.c with x := S.c.x.setIfInBounds r.toNat v } }
def Rn.sp (S : Rn) : Int := if S.c.el = 0 then S.c.sp0 else S.c.sp1
def Rn.setSP (S : Rn) (v : Int) : Rn := if S.c.el = 0 then { S with c := { S.c with sp0 := v } } else { S with c := { S.c with sp1 := v } }
def Rn.flag (S : Rn) (r : Int) : Bool := if r = 0 then S.c.n else if r = 1 then S.c.z else if r = 2 then S.c.c else S.c.v
def Rn.setF (S : Rn) (r : Int) (b : Bool) : Rn := if r = 0 then { S with c := { S.c with n := b } } else if r = 1 then { S with c := { S.c with z := b } } else if r = 2 then { S with c := { S.c with c := b } } else { S with c := { S.c with v := b } }
def Rn.acc (S : Rn) (n : Nat) (a : Int) (k : Wnt) (f : Nat) : Rn := if a % 8 = 0 then S.wait k f else S.fault n
def carryV (n : Nat) (S : Rn) (o : Opr) : Rn :=
  match o.kind.toNat with
  | 1 => S.define o.imm
  | 2 => S.define (S.x o.r)
  | 3 => S.setX o.r (S.val o.a)
  | 4 => S.define S.sp
  | 5 => S.setSP (S.val o.a)
  | 6 => S.define (oneV (S.flag o.r))
  | 7 => S.setF o.r (S.val o.a != 0)
  | 8 => S.define (Alu.reckonV o.r (S.val o.a) (S.val o.b))
  | 9 => S.acc n (S.val o.a) { nilW with kind := 1, addr := S.val o.a, acq := acqV o.order } 1
  | 10 => S.acc n (S.val o.a) { nilW with kind := 2, addr := S.val o.a, value := S.val o.b, rel := o.order == 4 } 2
  | 11 => S.acc n (S.val o.a) { nilW with kind := 3, addr := S.val o.a, acq := acqV o.order } 1
  | 12 => S.acc n (S.val o.a) { nilW with kind := 4, addr := S.val o.a, value := S.val o.b, rel := o.order == 4 } 3
  | 13 => S.wait { nilW with kind := 6, fence := o.r } 4
  | 14 => { S with c := { S.c with pc := o.imm } }
  | 15 => if (S.val o.a != 0) = true then S.leave n o.imm else S
  | 16 => S.leave n o.imm
  | 17 => S.leave n (S.val o.a)
  | 18 => S.guestOut n o.imm
  | _ => S
/-- What an operation of a right block is. -/
structure OpFit (l : List Opr) (o : Opr) : Prop where
  k : isK o.kind = true
  a : hasP o.kind 2 = true → 0 ≤ o.a ∧ o.a < l.length
  b : hasP o.kind 4 = true → 0 ≤ o.b ∧ o.b < l.length
  rng : rangeB o = true
  imm : U64 o.imm
theorem RunAt.valc (H : RunAt l g vb so S w) {a : Nat} (ha : a < l.length) : w.cell? ⟨vb, a, none⟩ = some (vU (S.val a)) := by
  have hl : a < S.vs.length := by rw [H.len]; exact ha
  rw [H.cv (List.getElem?_eq_getElem hl)]
  unfold Rn.val
  rw [Int.toNat_natCast, List.getD_eq_getElem?_getD, List.getElem?_eq_getElem hl]
  rfl
theorem RunAt.valu (H : RunAt l g vb so S w) (a : Int) : U64 (S.val a) := by
  unfold Rn.val
  rw [List.getD_eq_getElem?_getD]
  cases h : S.vs[a.toNat]? with
  | none => exact ⟨by decide, by decide⟩
  | some v => exact H.ok.vs v (List.mem_of_getElem? h)
theorem RunAt.xc (H : RunAt l g vb so S w) {r : Nat} (hr : r < 31) : w.cell? ⟨g, 3 + r, none⟩ = some (vU (S.x r)) := by
  rw [H.cx r hr]
  unfold Rn.x
  rw [Int.toNat_natCast]
  simp [hr]
theorem RunAt.xu (H : RunAt l g vb so S w) {r : Nat} (hr : r < 31) : U64 (S.x r) := by
  have := H.ok.x r hr
  unfold Rn.x
  rw [Int.toNat_natCast]
  simpa [hr] using this
theorem RunAt.setX_ (H : RunAt l g vb so S w) {r : Nat} (hr : r < 31) {v : Int} (hv : U64 v) : RT l g vb so (S.setX r v) w (w.setCell ⟨g, 3 + r, none⟩ (vU v)) := by
  refine H.put (S' := S.setX r v) (rn_setc _ _ _ _ r (by omega) _ _ ?_) rfl ⟨fun i hi => ?_, H.ok.sp0, H.ok.sp1, H.ok.el, H.ok.vs⟩
  · rw [Cor.setX _ _ _ hr]
    have : S.c.x.set r v hr = S.c.x.setIfInBounds (r : Int).toNat v := by
      rw [Int.toNat_natCast]
      apply Vector.ext
      intro i hi
      simp [Vector.getElem_set, Vector.getElem_setIfInBounds]
    rw [this]
  · show U64 ((S.c.x.setIfInBounds (r : Int).toNat v)[i])
    rw [Vector.getElem_setIfInBounds]
    split
    · exact hv
    · exact H.ok.x i hi
theorem RunAt.sp0c (H : RunAt l g vb so S w) : w.cell? ⟨g, 34, none⟩ = some (vU S.c.sp0) := (H.cc 31 (by decide)).trans (Cor.a31 _)
theorem RunAt.sp1c (H : RunAt l g vb so S w) : w.cell? ⟨g, 35, none⟩ = some (vU S.c.sp1) := (H.cc 32 (by decide)).trans (Cor.a32 _)
theorem RunAt.elc (H : RunAt l g vb so S w) : w.cell? ⟨g, 41, none⟩ = some (vI S.c.el) := (H.cc 38 (by decide)).trans (Cor.a38 _)
theorem RunAt.setSP0 (H : RunAt l g vb so S w) {v : Int} (hv : U64 v) : RT l g vb so { S with c := { S.c with sp0 := v } } w (w.setCell ⟨g, 34, none⟩ (vU v)) := H.put (S' := { S with c := { S.c with sp0 := v } }) (rn_setc _ _ _ _ 31 (by decide) _ _ (Cor.s31 _ _)) rfl ⟨H.ok.x, hv, H.ok.sp1, H.ok.el, H.ok.vs⟩
theorem RunAt.setSP1 (H : RunAt l g vb so S w) {v : Int} (hv : U64 v) : RT l g vb so { S with c := { S.c with sp1 := v } } w (w.setCell ⟨g, 35, none⟩ (vU v)) := H.put (S' := { S with c := { S.c with sp1 := v } }) (rn_setc _ _ _ _ 32 (by decide) _ _ (Cor.s32 _ _)) rfl ⟨H.ok.x, H.ok.sp0, hv, H.ok.el, H.ok.vs⟩
theorem RunAt.fc (H : RunAt l g vb so S w) {r : Nat} (hr : r < 4) : w.cell? ⟨g, 37 + r, none⟩ = some (.bool (S.flag r)) := by
  rcases (by omega : r = 0 ∨ r = 1 ∨ r = 2 ∨ r = 3) with rfl | rfl | rfl | rfl
  · exact (H.cc 34 (by decide)).trans (Cor.a34 _)
  · exact (H.cc 35 (by decide)).trans (Cor.a35 _)
  · exact (H.cc 36 (by decide)).trans (Cor.a36 _)
  · exact (H.cc 37 (by decide)).trans (Cor.a37 _)
theorem RunAt.setF_ (H : RunAt l g vb so S w) {r : Nat} (hr : r < 4) (b : Bool) : RT l g vb so (S.setF r b) w (w.setCell ⟨g, 37 + r, none⟩ (.bool b)) := by
  have ok := fun d : Cor => fun (h1 : d.x = S.c.x) (h2 : d.sp0 = S.c.sp0) (h3 : d.sp1 = S.c.sp1) (h4 : d.el = S.c.el) => (⟨fun i hi => by show U64 d.x[i]; rw [h1]; exact H.ok.x i hi, by show U64 d.sp0; rw [h2]; exact H.ok.sp0, by show U64 d.sp1; rw [h3]; exact H.ok.sp1, by show d.el = 0 ∨ d.el = 1; rw [h4]; exact H.ok.el, H.ok.vs⟩ : Rn.Ok { S with c := d })
  rcases (by omega : r = 0 ∨ r = 1 ∨ r = 2 ∨ r = 3) with rfl | rfl | rfl | rfl
  · exact H.put (S' := { S with c := { S.c with n := b } }) (rn_setc _ _ _ _ 34 (by decide) _ _ (Cor.s34 _ _)) rfl (ok _ rfl rfl rfl rfl)
  · exact H.put (S' := { S with c := { S.c with z := b } }) (rn_setc _ _ _ _ 35 (by decide) _ _ (Cor.s35 _ _)) rfl (ok _ rfl rfl rfl rfl)
  · exact H.put (S' := { S with c := { S.c with c := b } }) (rn_setc _ _ _ _ 36 (by decide) _ _ (Cor.s36 _ _)) rfl (ok _ rfl rfl rfl rfl)
  · exact H.put (S' := { S with c := { S.c with v := b } }) (rn_setc _ _ _ _ 37 (by decide) _ _ (Cor.s37 _ _)) rfl (ok _ rfl rfl rfl rfl)
theorem run_idx106 {g r : Nat} (hr : r < 4) (w : World) : (Instr.index 136 (.agg #[ptr g 37, ptr g 38, ptr g 39, ptr g 40]) (vI (r : Int))).run Tryz.prog w = .ok (ptr g (37 + r)) w := by
  rcases (by omega : r = 0 ∨ r = 1 ∨ r = 2 ∨ r = 3) with rfl | rfl | rfl | rfl <;> kernel_rfl
theorem upon_idx106 {C : World → Prop} {g r : Nat} {w : World} (hr : r < 4) {o : Oper} {a : Act} {x y : Operand} (hC : C w) (ho : o.op = .index 136 x y := by rfl) (hx : a.eval x = .agg #[ptr g 37, ptr g 38, ptr g 39, ptr g 40] := by rfl) (hy : a.eval y = vI (r : Int) := by rfl) : Chn.upon Tryz.prog (fun v w' => v = ptr g (37 + r) ∧ C w') w ((execOp a.eval o).run Tryz.prog w) := by
  unfold execOp
  simp only [ho, hx, hy, Sem.run_bind, run_idx106 hr, Result.andThen_ok, Sem.run_pure]
  exact ⟨rfl, hC⟩
set_option maxHeartbeats 1000000 in
theorem flag_c {r : Nat} (hr : r < 4) (w : World) : Calls Tryz.prog 85 #[ptr g 0, vI r] w fun e w' => e = .returned (ptr g (37 + r)) ∧ Below w.heap.size w w' := by
  go_enter Tryz.func85, Tryz.ntmps85
  go_upto_region 1 with fail
  have hst : Ph (fun x => Below w.heap.size w x) (fun x => Below w.heap.size w x) 0 _ := below_dr _
  refine Chn.wp_region_chainL (Ph (fun x => Below w.heap.size w x) (fun x => Below w.heap.size w x)) [] [0, 0, 0, 0, 0, 0, 0, 0, 0, 0, 0, 0, 0, 0, 0, 0, 0, 0, 0, 0] [ptr g 0, ptr g 0, ptr g 3, ptr g 37, ptr g 0, ptr g 0, ptr g 3, ptr g 38, ptr g 0, ptr g 0, ptr g 3, ptr g 39, ptr g 0, ptr g 0, ptr g 3, ptr g 40, .agg #[ptr g 37, ptr g 38, ptr g 39, ptr g 40], vI r, ptr g (37 + r), ptr g (37 + r)] (by kernel_rfl) (by kernel_rfl) (by kernel_rfl) (by kernel_rfl) (by kernel_rfl) hst ?_
  clear hst
  refine ⟨fun j w1 hj hC => by exact Chn.upon_pure hC (fun F hF => by (go_simp <;> exact hF)), ?_⟩
  simp only [Act.put, List.setIfInBounds_toArray, List.set_cons_succ, List.set_cons_zero]
  refine ⟨fun j w1 hj hC => by exact Chn.upon_pure hC (fun F hF => by (go_simp <;> exact hF)), ?_⟩
  simp only [Act.put, List.setIfInBounds_toArray, List.set_cons_succ, List.set_cons_zero]
  refine ⟨fun j w1 hj hC => by exact Chn.upon_pure hC (fun F hF => by (go_simp <;> exact hF)), ?_⟩
  simp only [Act.put, List.setIfInBounds_toArray, List.set_cons_succ, List.set_cons_zero]
  refine ⟨fun j w1 hj hC => by exact Chn.upon_pure hC (fun F hF => by (go_simp <;> exact hF)), ?_⟩
  simp only [Act.put, List.setIfInBounds_toArray, List.set_cons_succ, List.set_cons_zero]
  refine ⟨fun j w1 hj hC => by exact Chn.upon_pure hC (fun F hF => by (go_simp <;> exact hF)), ?_⟩
  simp only [Act.put, List.setIfInBounds_toArray, List.set_cons_succ, List.set_cons_zero]
  refine ⟨fun j w1 hj hC => by exact Chn.upon_pure hC (fun F hF => by (go_simp <;> exact hF)), ?_⟩
  simp only [Act.put, List.setIfInBounds_toArray, List.set_cons_succ, List.set_cons_zero]
  refine ⟨fun j w1 hj hC => by exact Chn.upon_pure hC (fun F hF => by (go_simp <;> exact hF)), ?_⟩
  simp only [Act.put, List.setIfInBounds_toArray, List.set_cons_succ, List.set_cons_zero]
  refine ⟨fun j w1 hj hC => by exact Chn.upon_pure hC (fun F hF => by (go_simp <;> exact hF)), ?_⟩
  simp only [Act.put, List.setIfInBounds_toArray, List.set_cons_succ, List.set_cons_zero]
  refine ⟨fun j w1 hj hC => by exact Chn.upon_pure hC (fun F hF => by (go_simp <;> exact hF)), ?_⟩
  simp only [Act.put, List.setIfInBounds_toArray, List.set_cons_succ, List.set_cons_zero]
  refine ⟨fun j w1 hj hC => by exact Chn.upon_pure hC (fun F hF => by (go_simp <;> exact hF)), ?_⟩
  simp only [Act.put, List.setIfInBounds_toArray, List.set_cons_succ, List.set_cons_zero]
  refine ⟨fun j w1 hj hC => by exact Chn.upon_pure hC (fun F hF => by (go_simp <;> exact hF)), ?_⟩
  simp only [Act.put, List.setIfInBounds_toArray, List.set_cons_succ, List.set_cons_zero]
  refine ⟨fun j w1 hj hC => by exact Chn.upon_pure hC (fun F hF => by (go_simp <;> exact hF)), ?_⟩
  simp only [Act.put, List.setIfInBounds_toArray, List.set_cons_succ, List.set_cons_zero]
  refine ⟨fun j w1 hj hC => by exact Chn.upon_pure hC (fun F hF => by (go_simp <;> exact hF)), ?_⟩
  simp only [Act.put, List.setIfInBounds_toArray, List.set_cons_succ, List.set_cons_zero]
  refine ⟨fun j w1 hj hC => by exact Chn.upon_pure hC (fun F hF => by (go_simp <;> exact hF)), ?_⟩
  simp only [Act.put, List.setIfInBounds_toArray, List.set_cons_succ, List.set_cons_zero]
  refine ⟨fun j w1 hj hC => by exact Chn.upon_pure hC (fun F hF => by (go_simp <;> exact hF)), ?_⟩
  simp only [Act.put, List.setIfInBounds_toArray, List.set_cons_succ, List.set_cons_zero]
  refine ⟨fun j w1 hj hC => by exact Chn.upon_pure hC (fun F hF => by (go_simp <;> exact hF)), ?_⟩
  simp only [Act.put, List.setIfInBounds_toArray, List.set_cons_succ, List.set_cons_zero]
  refine ⟨fun j w1 hj hC => by exact Chn.upon_pure hC (fun F hF => by (go_simp <;> exact hF)), ?_⟩
  simp only [Act.put, List.setIfInBounds_toArray, List.set_cons_succ, List.set_cons_zero]
  refine ⟨fun j w1 hj hC => by exact Chn.upon_pure hC (fun F hF => by (go_simp <;> exact hF)), ?_⟩
  simp only [Act.put, List.setIfInBounds_toArray, List.set_cons_succ, List.set_cons_zero]
  refine ⟨fun j w1 hj hC => by
    obtain rfl : j = 0 := Nat.le_zero.1 hj
    have hA : (fun x => Below w.heap.size w x) w1 := hC
    exact upon_idx106 hr hC, ?_⟩
  simp only [Act.put, List.setIfInBounds_toArray, List.set_cons_succ, List.set_cons_zero]
  refine ⟨fun j w1 hj hC => by exact Chn.upon_pure hC (fun F hF => by (go_simp <;> exact hF)), ?_⟩
  simp only [Act.put, List.setIfInBounds_toArray, List.set_cons_succ, List.set_cons_zero]
  intro w5 hC
  have hC : (fun x => Below w.heap.size w x) w5 := hC
  go_wp2
  go_ret
  exact ⟨rfl, hC⟩
end
end Go.Proofs.YtccmncecpmemaaaGreatDoor
