/- Dc, Dd of the seat, joined. -/
import Derived.Test.YtccmncecpmemaaaGreatDoorXa
/- Small steps of the document's run. -/
namespace Go.Proofs.YtccmncecpmemaaaGreatDoor
open Go.RowKit
set_option linter.unusedVariables false
set_option linter.unusedSimpArgs false
set_option maxRecDepth 8000

def Dn.x (D : Dn) (r : Int) : Int := D.c.x.toArray.getD r.toNat 0
def Dn.setX (D : Dn) (r : Int) (u : Int) : Dn := { D with c := { D.c with x := D.c.x.setIfInBounds r.toNat u } }
def Dn.sp (D : Dn) (el : Int) : Int := if el = 0 then D.c.sp0 else D.c.sp1
def Dn.setSP (D : Dn) (el : Int) (u : Int) : Dn := if el = 0 then { D with c := { D.c with sp0 := u } } else { D with c := { D.c with sp1 := u } }
def Dn.flag (D : Dn) (r : Int) : Bool := if r = 0 then D.c.n else if r = 1 then D.c.z else if r = 2 then D.c.c else D.c.v
def Dn.setF (D : Dn) (r : Int) (b : Bool) : Dn := if r = 0 then { D with c := { D.c with n := b } } else if r = 1 then { D with c := { D.c with z := b } } else if r = 2 then { D with c := { D.c with c := b } } else { D with c := { D.c with v := b } }
def Dn.define (D : Dn) (u : Int) : Dn := { D with vs := D.vs.set (D.at_ - 1) u }
def Dn.pc (D : Dn) (u : Int) : Dn := { D with c := { D.c with pc := u } }
def Dn.out (D : Dn) : Dn := { D with left := true }
def Dn.fault (D : Dn) : Dn := { D with left := true, flt := true }
def Dn.wait (D : Dn) (d : Wnt) : Dn := { D with waits := true, w := d }
def wantD (o : Opr) (a b : Int) : Wnt :=
  if o.kind = 9 then { nilW with kind := 1, addr := a, acq := o.order }
  else if o.kind = 11 then { nilW with kind := 3, addr := a, acq := o.order }
  else if o.kind = 10 then { nilW with kind := 2, addr := a, value := b, rel := o.order == 4 }
  else { nilW with kind := 4, addr := a, value := b, rel := o.order == 4 }
def Dn.acc (D : Dn) (o : Opr) (a b : Int) : Dn := if a % 8 = 0 then D.wait (wantD o a b) else D.fault
section
variable {pc words el : Int} {v : Value} {l : List Opr} {g vb : Nat} {D : Dn} {w w' : World}
theorem DocAt.xc (H : DocAt pc words el v l g vb D w) {r : Nat} (hr : r < 31) : w.cell? ⟨g, 4 + r, none⟩ = some (vU (D.x r)) := by
  rw [H.cx r hr]
  unfold Dn.x
  rw [Int.toNat_natCast]
  simp [hr]
theorem DocAt.xu (H : DocAt pc words el v l g vb D w) {r : Nat} (hr : r < 31) : U64 (D.x r) := by
  have := H.ok.x r hr
  unfold Dn.x
  rw [Int.toNat_natCast]
  simpa [hr] using this
theorem DocAt.setX_ (H : DocAt pc words el v l g vb D w) {r : Nat} (hr : r < 31) {u : Int} (hu : U64 u) : DT pc words el v l g vb (D.setX r u) w (w.setCell ⟨g, 4 + r, none⟩ (vU u)) := by
  refine H.put (D' := D.setX r u) (dn_setc _ _ _ _ _ _ r (by omega) _ _ ?_) rfl ⟨fun i hi => ?_, H.ok.sp0, H.ok.sp1, H.ok.vs⟩
  · rw [Cor.setX _ _ _ hr]
    have : D.c.x.set r u hr = D.c.x.setIfInBounds (r : Int).toNat u := by
      rw [Int.toNat_natCast]
      apply Vector.ext
      intro i hi
      simp [Vector.getElem_set, Vector.getElem_setIfInBounds]
    rw [this]
  · show U64 ((D.c.x.setIfInBounds (r : Int).toNat u)[i])
    rw [Vector.getElem_setIfInBounds]
    split
    · exact hu
    · exact H.ok.x i hi
theorem DocAt.sp0c (H : DocAt pc words el v l g vb D w) : w.cell? ⟨g, 35, none⟩ = some (vU D.c.sp0) := (H.cc 31 (by decide)).trans (Cor.a31 _)
theorem DocAt.sp1c (H : DocAt pc words el v l g vb D w) : w.cell? ⟨g, 36, none⟩ = some (vU D.c.sp1) := (H.cc 32 (by decide)).trans (Cor.a32 _)
theorem DocAt.pcc (H : DocAt pc words el v l g vb D w) : w.cell? ⟨g, 37, none⟩ = some (vU D.c.pc) := (H.cc 33 (by decide)).trans (Cor.a33 _)
theorem DocAt.setSP0 (H : DocAt pc words el v l g vb D w) {u : Int} (hu : U64 u) : DT pc words el v l g vb { D with c := { D.c with sp0 := u } } w (w.setCell ⟨g, 35, none⟩ (vU u)) := H.put (D' := { D with c := { D.c with sp0 := u } }) (dn_setc _ _ _ _ _ _ 31 (by decide) _ _ (Cor.s31 _ _)) rfl ⟨H.ok.x, hu, H.ok.sp1, H.ok.vs⟩
theorem DocAt.setSP1 (H : DocAt pc words el v l g vb D w) {u : Int} (hu : U64 u) : DT pc words el v l g vb { D with c := { D.c with sp1 := u } } w (w.setCell ⟨g, 36, none⟩ (vU u)) := H.put (D' := { D with c := { D.c with sp1 := u } }) (dn_setc _ _ _ _ _ _ 32 (by decide) _ _ (Cor.s32 _ _)) rfl ⟨H.ok.x, H.ok.sp0, hu, H.ok.vs⟩
theorem DocAt.pc_ (H : DocAt pc words el v l g vb D w) (u : Int) : DT pc words el v l g vb (D.pc u) w (w.setCell ⟨g, 37, none⟩ (vU u)) := H.put (D' := D.pc u) (dn_setc _ _ _ _ _ _ 33 (by decide) _ _ (Cor.s33 _ _)) rfl ⟨H.ok.x, H.ok.sp0, H.ok.sp1, H.ok.vs⟩
theorem DocAt.out_ (H : DocAt pc words el v l g vb D w) : DT pc words el v l g vb D.out w (w.setCell ⟨g, 66, none⟩ (.bool true)) := H.setT 0 (by decide) _ _ rfl rfl rfl rfl rfl rfl
theorem DocAt.flt_ (H : DocAt pc words el v l g vb D w) : DT pc words el v l g vb { D with flt := true } w (w.setCell ⟨g, 67, none⟩ (.bool true)) := H.setT 1 (by decide) _ _ rfl rfl rfl rfl rfl rfl
theorem DocAt.word_ (H : DocAt pc words el v l g vb D w) (u : Int) : DT pc words el v l g vb { D with word := u } w (w.setCell ⟨g, 68, none⟩ (vU u)) := H.setT 2 (by decide) _ _ rfl rfl rfl rfl rfl rfl
theorem DocAt.guest_ (H : DocAt pc words el v l g vb D w) : DT pc words el v l g vb { D with guest := true } w (w.setCell ⟨g, 69, none⟩ (.bool true)) := H.setT 3 (by decide) _ _ rfl rfl rfl rfl rfl rfl
theorem DocAt.at__ (H : DocAt pc words el v l g vb D w) (n : Nat) : DT pc words el v l g vb { D with at_ := n } w (w.setCell ⟨g, 54, none⟩ (vI (n : Int))) := H.setM 1 (by decide) _ _ rfl rfl rfl rfl rfl
theorem DocAt.waits_ (H : DocAt pc words el v l g vb D w) (b : Bool) : DT pc words el v l g vb { D with waits := b } w (w.setCell ⟨g, 55, none⟩ (.bool b)) := H.setM 2 (by decide) _ _ rfl rfl rfl rfl rfl
theorem DocAt.fc (H : DocAt pc words el v l g vb D w) {r : Nat} (hr : r < 4) : w.cell? ⟨g, 38 + r, none⟩ = some (.bool (D.flag r)) := by
  rcases (by omega : r = 0 ∨ r = 1 ∨ r = 2 ∨ r = 3) with rfl | rfl | rfl | rfl
  · exact (H.cc 34 (by decide)).trans (Cor.a34 _)
  · exact (H.cc 35 (by decide)).trans (Cor.a35 _)
  · exact (H.cc 36 (by decide)).trans (Cor.a36 _)
  · exact (H.cc 37 (by decide)).trans (Cor.a37 _)
theorem DocAt.setF_ (H : DocAt pc words el v l g vb D w) {r : Nat} (hr : r < 4) (b : Bool) : DT pc words el v l g vb (D.setF r b) w (w.setCell ⟨g, 38 + r, none⟩ (.bool b)) := by
  have ok := fun d : Cor => fun (h1 : d.x = D.c.x) (h2 : d.sp0 = D.c.sp0) (h3 : d.sp1 = D.c.sp1) => (⟨fun i hi => by show U64 d.x[i]; rw [h1]; exact H.ok.x i hi, by show U64 d.sp0; rw [h2]; exact H.ok.sp0, by show U64 d.sp1; rw [h3]; exact H.ok.sp1, H.ok.vs⟩ : Dn.Ok { D with c := d })
  rcases (by omega : r = 0 ∨ r = 1 ∨ r = 2 ∨ r = 3) with rfl | rfl | rfl | rfl
  · exact H.put (D' := { D with c := { D.c with n := b } }) (dn_setc _ _ _ _ _ _ 34 (by decide) _ _ (Cor.s34 _ _)) rfl (ok _ rfl rfl rfl)
  · exact H.put (D' := { D with c := { D.c with z := b } }) (dn_setc _ _ _ _ _ _ 35 (by decide) _ _ (Cor.s35 _ _)) rfl (ok _ rfl rfl rfl)
  · exact H.put (D' := { D with c := { D.c with c := b } }) (dn_setc _ _ _ _ _ _ 36 (by decide) _ _ (Cor.s36 _ _)) rfl (ok _ rfl rfl rfl)
  · exact H.put (D' := { D with c := { D.c with v := b } }) (dn_setc _ _ _ _ _ _ 37 (by decide) _ _ (Cor.s37 _ _)) rfl (ok _ rfl rfl rfl)
set_option maxHeartbeats 1000000 in
theorem dSetF_c (H : DocAt pc words el v l g vb D w) {r : Nat} (hr : r < 4) (b : Bool) : Calls Tryz.prog 68 #[ptr g 0, vI r, .bool b] w fun e w' => e = .returned (.tuple #[]) ∧ DT pc words el v l g vb (D.setF r b) w w' := by
  have z := H.fc hr
  have f9 := H.fz (38 + r)
  have R := H.setF_ hr b
  rcases (by omega : r = 0 ∨ r = 1 ∨ r = 2 ∨ r = 3) with rfl | rfl | rfl | rfl
  all_goals
    go_enter Tryz.func68, Tryz.ntmps68
    go_wp2_with ((with_reducible refine wpList_storeC rfl 4 _ _ rfl g _ rfl (.bool b) rfl inf4 rfl rfl z f9 ?_); try simp only [Act.put])
    go_end0
    exact ⟨rfl, R⟩
theorem run_wantD (H : DocAt pc words el v l g vb D w) (d : Wnt) : (storeVar 56 ⟨g, 56, none⟩ (wnV d)).run Tryz.prog w = .ok () (w.setRow g (dnA pc words el v (.slice (some ⟨vb, 0, none⟩) l.length l.length) { D with w := d })) := by
  have := run_storeCells_at (P := Tryz.prog) g 56 64 (wnA d).toList 0 _ w H.top (by rw [dn_size]; show 56 + 0 + 10 ≤ 70; decide) (fun v hv => by
    have := Array.all_eq_true_iff_forall_mem.1 (wn_one d) v (by simpa using hv); exact this)
  have e10 : (wnA d).toList.length = 10 := rfl
  rw [e10] at this
  simp only [Nat.add_zero, Nat.reduceAdd] at this
  rw [dn_setw] at this
  have hi := wn_inf d
  cases hq : Tryz.prog.info? 56 with
  | none => simp [hq] at hi
  | some inf =>
    have hs : inf.size = 10 := by simpa [hq] using hi
    simp [storeVar, sizeOf, typeInfo, hq, Value.cells, hs, this]
theorem DocAt.want_ (H : DocAt pc words el v l g vb D w) (d : Wnt) : DT pc words el v l g vb { D with w := d } w (w.setRow g (dnA pc words el v (.slice (some ⟨vb, 0, none⟩) l.length l.length) { D with w := d })) := by
  refine ⟨⟨setRow_heap _ _ _ _ _ _ H.top, ?_, H.ops.keepB (fun k hk => by simpa using hk) (fun ra n cap e _ => setRow_other _ _ _ _ (H.far ra n cap e).1), H.far, H.len, H.pos, H.max, ⟨H.ok.x, H.ok.sp0, H.ok.sp1, H.ok.vs⟩⟩, goes_setRow w (F := RF g vb) (.inl rfl) _⟩
  rw [setRow_other _ _ _ _ (Ne.symm H.ne)]; exact H.vals
theorem wpList_storeWD {ops : Array Oper} {rest : List Oper} {o : Oper} {a : Act} {Q : Exit → Act → World → Prop} (hgd : o.guard = none) (x y : Operand) (ho : o.op = .store 56 x y) (hx : a.eval x = ptr g 56) (d : Wnt) (hy : a.eval y = wnV d) (H : DocAt pc words el v l g vb D w)
    (h : ∀ w2 : World, DT pc words el v l g vb { D with w := d } w w2 → wpList Tryz.prog ops Q rest (a.put o.dst undef) w2) : wpList Tryz.prog ops Q (o :: rest) a w := by
  refine wpList_plain hgd fun K hK => ?_
  unfold Oper.wp execOp
  simp only [ho, hx, hy, Instr.storeAt, Instr.sureAddr, Sem.run_bind, Sem.run_pure, Result.andThen_ok, run_wantD H d]
  exact hK _ _ (h _ (H.want_ d))
set_option maxHeartbeats 1000000 in
theorem dWait_c (H : DocAt pc words el v l g vb D w) (d : Wnt) : Calls Tryz.prog 70 #[ptr g 0, wnV d] w fun e w' => e = .returned (.tuple #[]) ∧ DT pc words el v l g vb (D.wait d) w w' := by
  have hb := below_alloc w (.cells (wnA d) 56)
  have H1 := H.grow hb
  have hrow : (w.alloc (.cells (wnA d) 56)).heap[w.heap.size]? = some (.cells (wnA d) 56) := heap_alloc_new _ _
  go_enter Tryz.func70, Tryz.ntmps70
  go_upto_region 1 with fail
  generalize hw1 : w.alloc (.cells (wnA d) 56) = w1 at *
  have z := H1.c55
  have f9 := H1.fz 55
  have R := H1.waits_ true
  have hrow2 := R.kept hrow (ne_of_type hrow H1.top (by decide)) (ne_of_type hrow H1.vals (by decide))
  go_upto_region 2 with ((with_reducible refine wpList_storeC rfl 4 _ _ rfl g 55 rfl (.bool true) rfl inf4 rfl rfl z f9 ?_); try simp only [Act.put])
  generalize w1.setCell ⟨g, 55, none⟩ (.bool true) = w2 at *
  have H2 := R.1
  go_wp2_with (first | ((with_reducible refine wpList_load_if rfl 56 _ rfl _ rfl 56 _ (0, 0) _ hrow2 Tryz.underlying56 rfl (wn_inf _) ?_); simp only [Act.put, List.setIfInBounds_toArray, List.set_cons_succ, List.set_cons_zero]) | ((with_reducible refine wpList_storeWD rfl _ _ rfl rfl d rfl H2 ?_); intro w3 R3; try simp only [Act.put]))
  go_end0
  exact ⟨rfl, DT.from hb (R.then R3)⟩
end
/-- One cell of the block that was laid last. -/
theorem Has.cell {w0 w : World} {L : List (Nat × Array Value × TypeId)} {b k : Nat} {t : TypeId} {Z : Array Value} {u : Value} (h : Has w0 ((b, Z, t) :: L) w) (hL : ∀ p ∈ L, p.1 ≠ b) : Has w0 ((b, Z.setIfInBounds k u, t) :: L) (w.setCell ⟨b, k, none⟩ u) := by
  obtain ⟨h1, h2⟩ := h.box (b, Z, t) List.mem_cons_self
  refine ⟨h.below.trans ⟨rfl, rfl, rfl, by simp [World.setCell], fun j hj => Below.heap_setCell _ _ _ _ (fun e => by have e : j = b := e; have h1 : w0.heap.size ≤ b := h1; omega)⟩, fun p hp => ?_⟩
  rcases List.mem_cons.1 hp with rfl | hp
  · exact ⟨h1, heap_setCell_same w b k _ t _ h2⟩
  · obtain ⟨h3, h4⟩ := h.box p (List.mem_cons_of_mem _ hp)
    exact ⟨h3, by rw [Below.heap_setCell _ _ _ _ (hL p hp)]; exact h4⟩
theorem wpList_store_part {w0 : World} {L : List (Nat × Array Value × TypeId)} {ops : Array Oper} {rest : List Oper} {o : Oper} {a : Act} {w : World} {b : Nat} {Z : Array Value} {t : TypeId} {Q : Exit → Act → World → Prop} (H : Has w0 ((b, Z, t) :: L) w) (hgd : o.guard = none) (ty : TypeId) (x y : Operand) (ho : o.op = .store ty x y)
    (k : Nat) (hx : a.eval x = ptr b k) (u : Value) (hy : a.eval y = u) (hi : (Tryz.prog.info? ty).map (·.size) = some 1) (h1 : u.oneCell' = true) (h2 : u.cells = #[u]) {old : Value} (hz : Z[k]? = some old) (hL : ∀ p ∈ L, p.1 ≠ b)
    (h : ∀ w2, Has w0 ((b, Z.setIfInBounds k u, t) :: L) w2 → wpList Tryz.prog ops Q rest (a.put o.dst undef) w2) : wpList Tryz.prog ops Q (o :: rest) a w := by
  have hr := H.get List.mem_cons_self
  exact wpList_storeC hgd ty x y ho b k hx u hy hi h1 h2 (by rw [cell_of_row _ _ _ _ _ _ hr]; exact hz) (frozen_of_row _ _ _ _ _ hr) (h _ (H.cell hL))
end Go.Proofs.YtccmncecpmemaaaGreatDoor
/- The document's run: an access. -/
namespace Go.Proofs.YtccmncecpmemaaaGreatDoor
open Go.RowKit
set_option linter.unusedVariables false
set_option linter.unusedSimpArgs false
set_option maxRecDepth 8000

section
variable {pc words el : Int} {v : Value} {l : List Opr} {g vb : Nat} {D : Dn} {w w' : World} {r a' b' order imm a b : Int}
theorem keepD {t : Nat} {o : Opr} {D' : Dn} {x y : World} (L : LocO t o x) (H : DocAt pc words el v l g vb D x) (R : DT pc words el v l g vb D' x y) : LocO t o y :=
  R.kept L (ne_of_type L H.top (by decide)) (ne_of_type L H.vals (by decide))
set_option maxHeartbeats 2000000 in
theorem dAccF (H : DocAt pc words el v l g vb D w) (o : Opr) (h8 : a % 8 ≠ 0) (hp : 0 ≤ a) : Calls Tryz.prog 71 #[ptr g 0, opV o, vU a, vU b] w fun e w' => e = .returned (.tuple #[]) ∧ DT pc words el v l g vb D.fault w w' := by
  have h8t : ¬ a.tmod 8 = 0 := by rw [Int.tmod_eq_emod_of_nonneg hp]; exact h8
  have hb := below_alloc w (.cells (opA o) 27)
  have R1 : DT pc words el v l g vb D w (w.alloc (.cells (opA o) 27)) := DT.from hb (H.grow hb).here
  go_enter Tryz.func71, Tryz.ntmps71
  go_upto_region 2 with fail
  generalize w.alloc (.cells (opA o) 27) = w1 at *
  have z := R1.1.c66
  have f9 := R1.1.fz 66
  have R2 := R1.1.out_
  go_upto_region 3 with ((with_reducible refine wpList_storeC rfl 4 _ _ rfl g 66 rfl (.bool true) rfl inf4 rfl rfl z f9 ?_); try simp only [Act.put])
  generalize w1.setCell ⟨g, 66, none⟩ (.bool true) = w2 at *
  have z2 := R2.1.c67
  have f2 := R2.1.fz 67
  have R3 := R2.1.flt_
  go_wp2_with ((with_reducible refine wpList_storeC rfl 4 _ _ rfl g 67 rfl (.bool true) rfl inf4 rfl rfl z2 f2 ?_); try simp only [Act.put])
  (try simp only [Exit.inBlock, Exit.then])
  refine bodyPost_ret (results_none rfl _ _ _) rfl ?_
  exact ⟨rfl, R1.then (R2.then R3)⟩
set_option maxHeartbeats 2000000 in
theorem dAcc_9 (H0 : DocAt pc words el v l g vb D w) (h8 : a % 8 = 0) (hp : 0 ≤ a) : Calls Tryz.prog 71 #[ptr g 0, opV ⟨9, r, a', b', order, imm⟩, vU a, vU b] w fun e w' => e = .returned (.tuple #[]) ∧ DT pc words el v l g vb (D.wait (wantD ⟨9, r, a', b', order, imm⟩ a b)) w w' := by
  have h8t : a.tmod 8 = 0 := by rw [Int.tmod_eq_emod_of_nonneg hp]; exact h8
  have hb := below_alloc w (.cells (opA ⟨9, r, a', b', order, imm⟩) 27)
  have R1 : DT pc words el v l g vb D w (w.alloc (.cells (opA ⟨9, r, a', b', order, imm⟩) 27)) := DT.from hb (H0.grow hb).here
  have L1 : LocO w.heap.size ⟨9, r, a', b', order, imm⟩ (w.alloc (.cells (opA ⟨9, r, a', b', order, imm⟩) 27)) := LocO.new w _
  go_enter Tryz.func71, Tryz.ntmps71
  go_upto_region 4 with fail
  generalize w.alloc (.cells (opA ⟨9, r, a', b', order, imm⟩) 27) = w1 at *
  generalize w.heap.size = t at *
  have H1 := R1.1
  have H := has_none w1
  go_upto_region 5 with (first | ((with_reducible refine wpList_built rfl _ _ rfl (wnA { nilW with addr := a }) (by kernel_rfl) ?_); try simp only [Act.put]) | ((with_reducible refine wpList_store_new H rfl 56 _ _ rfl (wnA { nilW with addr := a }) rfl rfl (wn_inf _) (by kernel_rfl) (wn_one _) ?_); clear H; intro w2 H; try simp only [Act.put]))
  generalize w1.heap.size = t8 at *
  have z0 := (L1.grow H.below).c0
  have z4 := (L1.grow H.below).c4
  go_upto_region 11 with ((with_reducible refine wpList_store_part H rfl 3 _ _ rfl 0 rfl (vI 1) rfl inf3 rfl rfl rfl (fun _ h => absurd h List.not_mem_nil) ?_); clear H; intro w2 H; try simp only [Act.put])
  have z4 := (L1.grow H.below).c4
  go_upto_region 19 with ((with_reducible refine wpList_store_part H rfl 3 _ _ rfl 3 rfl (vI order) rfl inf3 rfl rfl rfl (fun _ h => absurd h List.not_mem_nil) ?_); clear H; intro w2 H; try simp only [Act.put])
  have z4 := (L1.grow H.below).c4
  have hrow : w2.heap[t8]? = some (.cells (wnA (wantD ⟨9, r, a', b', order, imm⟩ a b)) 56) := H.get List.mem_cons_self
  have H2 := H1.grow H.below
  have hbb := H.below
  clear H
  go_wp2_with (first | ((with_reducible refine wpList_load_if rfl 56 _ rfl _ rfl 56 _ (0, 0) _ hrow Tryz.underlying56 rfl (wn_inf _) ?_); simp only [Act.put, List.setIfInBounds_toArray, List.set_cons_succ, List.set_cons_zero]) | (go_at_call 70; (with_reducible refine (dWait_c H2 _).mono ?_); rintro e w3 ⟨rfl, R3⟩; dsimp only))
  go_end0
  exact ⟨rfl, R1.then (DT.from hbb R3)⟩
set_option maxHeartbeats 2000000 in
theorem dAcc_11 (H0 : DocAt pc words el v l g vb D w) (h8 : a % 8 = 0) (hp : 0 ≤ a) : Calls Tryz.prog 71 #[ptr g 0, opV ⟨11, r, a', b', order, imm⟩, vU a, vU b] w fun e w' => e = .returned (.tuple #[]) ∧ DT pc words el v l g vb (D.wait (wantD ⟨11, r, a', b', order, imm⟩ a b)) w w' := by
  have h8t : a.tmod 8 = 0 := by rw [Int.tmod_eq_emod_of_nonneg hp]; exact h8
  have hb := below_alloc w (.cells (opA ⟨11, r, a', b', order, imm⟩) 27)
  have R1 : DT pc words el v l g vb D w (w.alloc (.cells (opA ⟨11, r, a', b', order, imm⟩) 27)) := DT.from hb (H0.grow hb).here
  have L1 : LocO w.heap.size ⟨11, r, a', b', order, imm⟩ (w.alloc (.cells (opA ⟨11, r, a', b', order, imm⟩) 27)) := LocO.new w _
  go_enter Tryz.func71, Tryz.ntmps71
  go_upto_region 4 with fail
  generalize w.alloc (.cells (opA ⟨11, r, a', b', order, imm⟩) 27) = w1 at *
  generalize w.heap.size = t at *
  have H1 := R1.1
  have H := has_none w1
  go_upto_region 5 with (first | ((with_reducible refine wpList_built rfl _ _ rfl (wnA { nilW with addr := a }) (by kernel_rfl) ?_); try simp only [Act.put]) | ((with_reducible refine wpList_store_new H rfl 56 _ _ rfl (wnA { nilW with addr := a }) rfl rfl (wn_inf _) (by kernel_rfl) (wn_one _) ?_); clear H; intro w2 H; try simp only [Act.put]))
  generalize w1.heap.size = t8 at *
  have z0 := (L1.grow H.below).c0
  have z4 := (L1.grow H.below).c4
  go_upto_region 14 with ((with_reducible refine wpList_store_part H rfl 3 _ _ rfl 0 rfl (vI 3) rfl inf3 rfl rfl rfl (fun _ h => absurd h List.not_mem_nil) ?_); clear H; intro w2 H; try simp only [Act.put])
  have z4 := (L1.grow H.below).c4
  go_upto_region 19 with ((with_reducible refine wpList_store_part H rfl 3 _ _ rfl 3 rfl (vI order) rfl inf3 rfl rfl rfl (fun _ h => absurd h List.not_mem_nil) ?_); clear H; intro w2 H; try simp only [Act.put])
  have z4 := (L1.grow H.below).c4
  have hrow : w2.heap[t8]? = some (.cells (wnA (wantD ⟨11, r, a', b', order, imm⟩ a b)) 56) := H.get List.mem_cons_self
  have H2 := H1.grow H.below
  have hbb := H.below
  clear H
  go_wp2_with (first | ((with_reducible refine wpList_load_if rfl 56 _ rfl _ rfl 56 _ (0, 0) _ hrow Tryz.underlying56 rfl (wn_inf _) ?_); simp only [Act.put, List.setIfInBounds_toArray, List.set_cons_succ, List.set_cons_zero]) | (go_at_call 70; (with_reducible refine (dWait_c H2 _).mono ?_); rintro e w3 ⟨rfl, R3⟩; dsimp only))
  go_end0
  exact ⟨rfl, R1.then (DT.from hbb R3)⟩
set_option maxHeartbeats 2000000 in
theorem dAcc_10 (H0 : DocAt pc words el v l g vb D w) (h8 : a % 8 = 0) (hp : 0 ≤ a) : Calls Tryz.prog 71 #[ptr g 0, opV ⟨10, r, a', b', order, imm⟩, vU a, vU b] w fun e w' => e = .returned (.tuple #[]) ∧ DT pc words el v l g vb (D.wait (wantD ⟨10, r, a', b', order, imm⟩ a b)) w w' := by
  have h8t : a.tmod 8 = 0 := by rw [Int.tmod_eq_emod_of_nonneg hp]; exact h8
  have hb := below_alloc w (.cells (opA ⟨10, r, a', b', order, imm⟩) 27)
  have R1 : DT pc words el v l g vb D w (w.alloc (.cells (opA ⟨10, r, a', b', order, imm⟩) 27)) := DT.from hb (H0.grow hb).here
  have L1 : LocO w.heap.size ⟨10, r, a', b', order, imm⟩ (w.alloc (.cells (opA ⟨10, r, a', b', order, imm⟩) 27)) := LocO.new w _
  go_enter Tryz.func71, Tryz.ntmps71
  go_upto_region 4 with fail
  generalize w.alloc (.cells (opA ⟨10, r, a', b', order, imm⟩) 27) = w1 at *
  generalize w.heap.size = t at *
  have H1 := R1.1
  have H := has_none w1
  go_upto_region 5 with (first | ((with_reducible refine wpList_built rfl _ _ rfl (wnA { nilW with addr := a }) (by kernel_rfl) ?_); try simp only [Act.put]) | ((with_reducible refine wpList_store_new H rfl 56 _ _ rfl (wnA { nilW with addr := a }) rfl rfl (wn_inf _) (by kernel_rfl) (wn_one _) ?_); clear H; intro w2 H; try simp only [Act.put]))
  generalize w1.heap.size = t8 at *
  have z0 := (L1.grow H.below).c0
  have z4 := (L1.grow H.below).c4
  go_upto_region 17 with ((with_reducible refine wpList_store_part H rfl 3 _ _ rfl 0 rfl (vI 2) rfl inf3 rfl rfl rfl (fun _ h => absurd h List.not_mem_nil) ?_); clear H; intro w2 H; try simp only [Act.put])
  have z4 := (L1.grow H.below).c4
  go_upto_region 18 with ((with_reducible refine wpList_store_part H rfl 22 _ _ rfl 2 rfl (vU b) rfl inf22 rfl rfl rfl (fun _ h => absurd h List.not_mem_nil) ?_); clear H; intro w2 H; try simp only [Act.put])
  have z4 := (L1.grow H.below).c4
  go_upto_region 19 with ((with_reducible refine wpList_store_part H rfl 4 _ _ rfl 4 rfl (.bool (order == 4)) rfl inf4 rfl rfl rfl (fun _ h => absurd h List.not_mem_nil) ?_); clear H; intro w2 H; try simp only [Act.put])
  have z4 := (L1.grow H.below).c4
  have hrow : w2.heap[t8]? = some (.cells (wnA (wantD ⟨10, r, a', b', order, imm⟩ a b)) 56) := H.get List.mem_cons_self
  have H2 := H1.grow H.below
  have hbb := H.below
  clear H
  go_wp2_with (first | ((with_reducible refine wpList_load_if rfl 56 _ rfl _ rfl 56 _ (0, 0) _ hrow Tryz.underlying56 rfl (wn_inf _) ?_); simp only [Act.put, List.setIfInBounds_toArray, List.set_cons_succ, List.set_cons_zero]) | (go_at_call 70; (with_reducible refine (dWait_c H2 _).mono ?_); rintro e w3 ⟨rfl, R3⟩; dsimp only))
  go_end0
  exact ⟨rfl, R1.then (DT.from hbb R3)⟩
set_option maxHeartbeats 2000000 in
theorem dAcc_12 (H0 : DocAt pc words el v l g vb D w) (h8 : a % 8 = 0) (hp : 0 ≤ a) : Calls Tryz.prog 71 #[ptr g 0, opV ⟨12, r, a', b', order, imm⟩, vU a, vU b] w fun e w' => e = .returned (.tuple #[]) ∧ DT pc words el v l g vb (D.wait (wantD ⟨12, r, a', b', order, imm⟩ a b)) w w' := by
  have h8t : a.tmod 8 = 0 := by rw [Int.tmod_eq_emod_of_nonneg hp]; exact h8
  have hb := below_alloc w (.cells (opA ⟨12, r, a', b', order, imm⟩) 27)
  have R1 : DT pc words el v l g vb D w (w.alloc (.cells (opA ⟨12, r, a', b', order, imm⟩) 27)) := DT.from hb (H0.grow hb).here
  have L1 : LocO w.heap.size ⟨12, r, a', b', order, imm⟩ (w.alloc (.cells (opA ⟨12, r, a', b', order, imm⟩) 27)) := LocO.new w _
  go_enter Tryz.func71, Tryz.ntmps71
  go_upto_region 4 with fail
  generalize w.alloc (.cells (opA ⟨12, r, a', b', order, imm⟩) 27) = w1 at *
  generalize w.heap.size = t at *
  have H1 := R1.1
  have H := has_none w1
  go_upto_region 5 with (first | ((with_reducible refine wpList_built rfl _ _ rfl (wnA { nilW with addr := a }) (by kernel_rfl) ?_); try simp only [Act.put]) | ((with_reducible refine wpList_store_new H rfl 56 _ _ rfl (wnA { nilW with addr := a }) rfl rfl (wn_inf _) (by kernel_rfl) (wn_one _) ?_); clear H; intro w2 H; try simp only [Act.put]))
  generalize w1.heap.size = t8 at *
  have z0 := (L1.grow H.below).c0
  have z4 := (L1.grow H.below).c4
  go_upto_region 7 with ((with_reducible refine wpList_store_part H rfl 3 _ _ rfl 0 rfl (vI 4) rfl inf3 rfl rfl rfl (fun _ h => absurd h List.not_mem_nil) ?_); clear H; intro w2 H; try simp only [Act.put])
  have z4 := (L1.grow H.below).c4
  go_upto_region 8 with ((with_reducible refine wpList_store_part H rfl 22 _ _ rfl 2 rfl (vU b) rfl inf22 rfl rfl rfl (fun _ h => absurd h List.not_mem_nil) ?_); clear H; intro w2 H; try simp only [Act.put])
  have z4 := (L1.grow H.below).c4
  go_upto_region 19 with ((with_reducible refine wpList_store_part H rfl 4 _ _ rfl 4 rfl (.bool (order == 4)) rfl inf4 rfl rfl rfl (fun _ h => absurd h List.not_mem_nil) ?_); clear H; intro w2 H; try simp only [Act.put])
  have z4 := (L1.grow H.below).c4
  have hrow : w2.heap[t8]? = some (.cells (wnA (wantD ⟨12, r, a', b', order, imm⟩ a b)) 56) := H.get List.mem_cons_self
  have H2 := H1.grow H.below
  have hbb := H.below
  clear H
  go_wp2_with (first | ((with_reducible refine wpList_load_if rfl 56 _ rfl _ rfl 56 _ (0, 0) _ hrow Tryz.underlying56 rfl (wn_inf _) ?_); simp only [Act.put, List.setIfInBounds_toArray, List.set_cons_succ, List.set_cons_zero]) | (go_at_call 70; (with_reducible refine (dWait_c H2 _).mono ?_); rintro e w3 ⟨rfl, R3⟩; dsimp only))
  go_end0
  exact ⟨rfl, R1.then (DT.from hbb R3)⟩
theorem dAccess_c (H : DocAt pc words el v l g vb D w) (o : Opr) (hk : o.kind = 9 ∨ o.kind = 10 ∨ o.kind = 11 ∨ o.kind = 12) (hp : 0 ≤ a) : Calls Tryz.prog 71 #[ptr g 0, opV o, vU a, vU b] w fun e w' => e = .returned (.tuple #[]) ∧ DT pc words el v l g vb (D.acc o a b) w w' := by
  unfold Dn.acc
  by_cases h8 : a % 8 = 0
  · rw [if_pos h8]
    obtain ⟨k, r, a', b', order, imm⟩ := o
    rcases hk with hk | hk | hk | hk <;> (dsimp only at hk; subst hk)
    · exact dAcc_9 H h8 hp
    · exact dAcc_10 H h8 hp
    · exact dAcc_11 H h8 hp
    · exact dAcc_12 H h8 hp
  · rw [if_neg h8]
    exact dAccF H o h8 hp
end
end Go.Proofs.YtccmncecpmemaaaGreatDoor
