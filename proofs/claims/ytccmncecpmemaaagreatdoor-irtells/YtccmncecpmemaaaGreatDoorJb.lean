/- Small steps of a run. -/
import Derived.Test.YtccmncecpmemaaaGreatDoorJa
namespace Go.Proofs.YtccmncecpmemaaaGreatDoor
open Go.RowKit
set_option linter.unusedVariables false
set_option linter.unusedSimpArgs false
set_option maxRecDepth 8000

theorem chn_store {o : Oper} {a : Act} {w w2 : World} {C : World → Prop} (ty : TypeId) (x y : Operand) (ho : o.op = .store ty x y) (b k : Nat) (hx : a.eval x = .pointer (some ⟨b, k, none⟩)) (v : Value) (hy : a.eval y = v) (hrun : (storeVar ty ⟨b, k, none⟩ v).run Tryz.prog w = .ok () w2) (hC : C w2) :
    Chn.upon Tryz.prog (fun v w' => v = undef ∧ C w') w ((execOp a.eval o).run Tryz.prog w) := by
  unfold execOp
  simp only [ho, hx, hy, Instr.storeAt, Instr.sureAddr, Sem.run_bind, Sem.run_pure, Result.andThen_ok, hrun]
  exact ⟨rfl, hC⟩
theorem run_cell (w : World) (ty : TypeId) (b k : Nat) (v old : Value) (hi : (Tryz.prog.info? ty).map (·.size) = some 1) (hv : v.oneCell' = true) (hv2 : v.cells = #[v]) (hc : w.cell? ⟨b, k, none⟩ = some old) (hf : w.frozen? ⟨b, k, none⟩ = false) : (storeVar ty ⟨b, k, none⟩ v).run Tryz.prog w = .ok () (w.setCell ⟨b, k, none⟩ v) := by
  have hst : (store ⟨b, k, none⟩ v .plain).run Tryz.prog w = .ok () (w.setCell ⟨b, k, none⟩ v) := by
    rw [run_store Tryz.prog w _ _ _ hv, hc, hf]; rfl
  cases hq : Tryz.prog.info? ty with
  | none => simp [hq] at hi
  | some i =>
    have hs : i.size = 1 := by simpa [hq] using hi
    have hadd : (⟨b, k, none⟩ : Addr).add 0 = ⟨b, k, none⟩ := by unfold Addr.add; split <;> simp_all
    simp [storeVar, sizeOf, typeInfo, hq, hs, hv2, storeCells, hadd, hst]
theorem inf3 : (Tryz.prog.info? 3).map (·.size) = some 1 := by kernel_rfl
theorem inf4 : (Tryz.prog.info? 4).map (·.size) = some 1 := by kernel_rfl
theorem inf22 : (Tryz.prog.info? 22).map (·.size) = some 1 := by kernel_rfl
theorem inf49 : (Tryz.prog.info? 59).map (·.size) = some 1 := by kernel_rfl
theorem inf59 : (Tryz.prog.info? 93).map (·.size) = some 1 := by kernel_rfl
section
variable {l : List Opr} {g vb : Nat} {so : Value} {S : Rn} {w w' : World}
theorem wpList_storeC {ops : Array Oper} {rest : List Oper} {o : Oper} {a : Act} {w : World} {Q : Exit → Act → World → Prop} (hgd : o.guard = none) (ty : TypeId) (x y : Operand) (ho : o.op = .store ty x y) (b k : Nat) (hx : a.eval x = ptr b k) (v : Value) (hy : a.eval y = v) (hi : (Tryz.prog.info? ty).map (·.size) = some 1) (h1 : v.oneCell' = true) (h2 : v.cells = #[v]) {old : Value} (hc : w.cell? ⟨b, k, none⟩ = some old) (hf : w.frozen? ⟨b, k, none⟩ = false)
    (h : wpList Tryz.prog ops Q rest (a.put o.dst undef) (w.setCell ⟨b, k, none⟩ v)) : wpList Tryz.prog ops Q (o :: rest) a w := by
  refine wpList_plain hgd fun K hK => ?_
  unfold Oper.wp execOp
  simp only [ho, hx, hy, Instr.storeAt, Instr.sureAddr, Sem.run_bind, Sem.run_pure, Result.andThen_ok, run_cell w ty b k v old hi h1 h2 hc hf]
  exact hK _ _ h
def Ph (A B : World → Prop) : Nat → World → Prop
  | 0 => A
  | _ + 1 => B
def Rn.define (S : Rn) (v : Int) : Rn := { S with vs := S.vs.set (S.next - 1) v }
def Rn.leave (S : Rn) (n : Nat) (pc : Int) : Rn := { S with c := { S.c with pc := pc }, next := n }
def Rn.fault (S : Rn) (n : Nat) : Rn := { S with flt := true, next := n }
def Rn.guestOut (S : Rn) (n : Nat) (word : Int) : Rn := { S with word := word, guest := true, next := n }
def Rn.wait (S : Rn) (k : Wnt) (f : Nat) : Rn := { S with w := k, go := f }
theorem RunAt.draw (H : RunAt l g vb so S w) : RT l g vb so S w { w with drawn := w.drawn + 1 } := ⟨H.grow (below_dr w), goes_of_below (below_dr w)⟩
theorem RT.then {S' : Rn} {w1 w2 : World} (h : RT l g vb so S w w1) (k : RT l g vb so S' w1 w2) : RT l g vb so S' w w2 := ⟨k.1, h.2.trans k.2 (fun _ _ h => h)⟩
theorem RT.from {w1 w2 : World} (hb : Below w.heap.size w w1) (k : RT l g vb so S w1 w2) : RT l g vb so S w w2 := ⟨k.1, (goes_of_below hb).trans k.2 (fun _ _ h => h)⟩
theorem RunAt.here (H : RunAt l g vb so S w) : RT l g vb so S w w := ⟨H, Goes.refl _ _⟩
set_option maxHeartbeats 1000000 in
theorem define_c (H : RunAt l g vb so S w) {v : Int} (hv : U64 v) (h1 : 1 ≤ S.next) (h2 : S.next ≤ l.length) : Calls Tryz.prog 61 #[ptr g 0, vU v] w fun e w' => e = .returned (.tuple #[]) ∧ RT l g vb so (S.define v) w w' := by
  obtain ⟨n, hn⟩ : ∃ n, S.next = n + 1 := ⟨S.next - 1, by omega⟩
  have hm := H.max
  have hnl : n < l.length := by omega
  have b1 : (n : Int) < l.length := by omega
  have b2 : (n : Int) < 512 := by omega
  unfold Rn.define
  rw [show S.next - 1 = n by omega]
  go_enter Tryz.func61, Tryz.ntmps61
  have hst : Ph (RT l g vb so S w) (RT l g vb so { S with vs := S.vs.set n v } w) 0 _ := H.draw
  refine Chn.wp_region_chainL (Ph (RT l g vb so S w) (RT l g vb so { S with vs := S.vs.set n v } w)) [11] [1, 1, 1, 0, 1, 1, 1, 0, 1, 1, 1, 1] [ptr g 0, ptr g 0, ptr g 1, .slice (some ⟨vb, 0, none⟩) l.length l.length, ptr g 0, ptr g 0, ptr g 2, vI ((n : Int) + 1), vI (n : Int), vU v, ptr vb n, undef] (by kernel_rfl) (by kernel_rfl) (by kernel_rfl) (by kernel_rfl) (by kernel_rfl) hst ?_
  clear hst
  refine ⟨fun j w1 hj hC => by exact Chn.upon_pure hC (fun F hF => by (go_simp <;> exact hF)), ?_⟩
  simp only [Act.put, List.setIfInBounds_toArray, List.set_cons_succ, List.set_cons_zero]
  refine ⟨fun j w1 hj hC => by exact Chn.upon_pure hC (fun F hF => by (go_simp <;> exact hF)), ?_⟩
  simp only [Act.put, List.setIfInBounds_toArray, List.set_cons_succ, List.set_cons_zero]
  refine ⟨fun j w1 hj hC => by exact Chn.upon_pure hC (fun F hF => by (go_simp <;> exact hF)), ?_⟩
  simp only [Act.put, List.setIfInBounds_toArray, List.set_cons_succ, List.set_cons_zero]
  refine ⟨fun j w1 hj hC => by
    obtain rfl : j = 0 := Nat.le_zero.1 hj
    have hA : (RT l g vb so S w) w1 := hC
    have z := hA.1.c1
    exact Chn.upon_pure hC (fun F hF => by (go_simp <;> exact hF)), ?_⟩
  simp only [Act.put, List.setIfInBounds_toArray, List.set_cons_succ, List.set_cons_zero]
  refine ⟨fun j w1 hj hC => by exact Chn.upon_pure hC (fun F hF => by (go_simp <;> exact hF)), ?_⟩
  simp only [Act.put, List.setIfInBounds_toArray, List.set_cons_succ, List.set_cons_zero]
  refine ⟨fun j w1 hj hC => by exact Chn.upon_pure hC (fun F hF => by (go_simp <;> exact hF)), ?_⟩
  simp only [Act.put, List.setIfInBounds_toArray, List.set_cons_succ, List.set_cons_zero]
  refine ⟨fun j w1 hj hC => by exact Chn.upon_pure hC (fun F hF => by (go_simp <;> exact hF)), ?_⟩
  simp only [Act.put, List.setIfInBounds_toArray, List.set_cons_succ, List.set_cons_zero]
  refine ⟨fun j w1 hj hC => by
    obtain rfl : j = 0 := Nat.le_zero.1 hj
    have hA : (RT l g vb so S w) w1 := hC
    have z := hA.1.c2
    rw [hn] at z
    exact Chn.upon_pure hC (fun F hF => by (go_simp <;> exact hF)), ?_⟩
  simp only [Act.put, List.setIfInBounds_toArray, List.set_cons_succ, List.set_cons_zero]
  refine ⟨fun j w1 hj hC => by exact Chn.upon_int hC (IntKind.i64.wrap (n : Int)) (by rw [IntKind.wrap_i64]; omega) (fun F hF => by (go_simp <;> exact hF)), ?_⟩
  simp only [Act.put, List.setIfInBounds_toArray, List.set_cons_succ, List.set_cons_zero]
  refine ⟨fun j w1 hj hC => by exact Chn.upon_pure hC (fun F hF => by (go_simp <;> exact hF)), ?_⟩
  simp only [Act.put, List.setIfInBounds_toArray, List.set_cons_succ, List.set_cons_zero]
  refine ⟨fun j w1 hj hC => by exact Chn.upon_pure hC (fun F hF => by (go_simp <;> exact hF)), ?_⟩
  simp only [Act.put, List.setIfInBounds_toArray, List.set_cons_succ, List.set_cons_zero]
  refine ⟨fun w1 hC => by
    have hA : (RT l g vb so S w) w1 := hC
    exact chn_store 22 _ _ rfl vb n rfl _ rfl (run_cell _ 22 vb n _ _ inf22 rfl rfl (hA.1.cv (List.getElem?_eq_getElem (show n < S.vs.length by rw [H.len]; exact hnl))) (hA.1.fv n)) (hA.then (hA.1.val hv)), ?_⟩
  simp only [Act.put, List.setIfInBounds_toArray, List.set_cons_succ, List.set_cons_zero]
  intro w5 hC
  have hC : (RT l g vb so { S with vs := S.vs.set n v } w) w5 := hC
  go_end0
  exact ⟨rfl, hC⟩

theorem RunAt.next_ (H : RunAt l g vb so S w) (n : Nat) : RT l g vb so { S with next := n } w (w.setCell ⟨g, 2, none⟩ (vI (n : Int))) := H.put (rn_set2 _ _ _ _ _) rfl ⟨H.ok.x, H.ok.sp0, H.ok.sp1, H.ok.el, H.ok.vs⟩
theorem RunAt.pc_ (H : RunAt l g vb so S w) (pc : Int) : RT l g vb so { S with c := { S.c with pc := pc } } w (w.setCell ⟨g, 36, none⟩ (vU pc)) := H.put (S' := { S with c := { S.c with pc := pc } }) (rn_setc _ _ _ _ 33 (by decide) _ _ (Cor.s33 _ _)) rfl ⟨H.ok.x, H.ok.sp0, H.ok.sp1, H.ok.el, H.ok.vs⟩
theorem RunAt.go_ (H : RunAt l g vb so S w) (f : Nat) : RT l g vb so { S with go := f } w (w.setCell ⟨g, 62, none⟩ (goV g f)) := H.put (S' := { S with go := f }) (rn_sett _ _ _ _ _ 0 (by decide) _ rfl rfl rfl rfl) rfl ⟨H.ok.x, H.ok.sp0, H.ok.sp1, H.ok.el, H.ok.vs⟩
theorem RunAt.word_ (H : RunAt l g vb so S w) (n : Int) : RT l g vb so { S with word := n } w (w.setCell ⟨g, 63, none⟩ (.int .u32 n)) := H.put (S' := { S with word := n }) (rn_sett _ _ _ _ _ 1 (by decide) _ rfl rfl rfl rfl) rfl ⟨H.ok.x, H.ok.sp0, H.ok.sp1, H.ok.el, H.ok.vs⟩
theorem RunAt.guest_ (H : RunAt l g vb so S w) (n : Bool) : RT l g vb so { S with guest := n } w (w.setCell ⟨g, 64, none⟩ (.bool n)) := H.put (S' := { S with guest := n }) (rn_sett _ _ _ _ _ 2 (by decide) _ rfl rfl rfl rfl) rfl ⟨H.ok.x, H.ok.sp0, H.ok.sp1, H.ok.el, H.ok.vs⟩
theorem RunAt.flt_ (H : RunAt l g vb so S w) (n : Bool) : RT l g vb so { S with flt := n } w (w.setCell ⟨g, 65, none⟩ (.bool n)) := H.put (S' := { S with flt := n }) (rn_sett _ _ _ _ _ 3 (by decide) _ rfl rfl rfl rfl) rfl ⟨H.ok.x, H.ok.sp0, H.ok.sp1, H.ok.el, H.ok.vs⟩
theorem RunAt.slen (H : RunAt l g vb so S w) : ∃ ao cap, so = .slice ao l.length cap := by
  obtain ⟨ao, cap, e, _⟩ := own_len H.own
  exact ⟨ao, cap, e⟩
end
section
variable {l : List Opr} {g vb : Nat} {so : Value} {S : Rn} {w w' : World}
set_option maxHeartbeats 1000000 in
theorem leave_c (H : RunAt l g vb so S w) (pc : Int) : Calls Tryz.prog 82 #[ptr g 0, vU pc] w fun e w' => e = .returned (.tuple #[]) ∧ RT l g vb so (S.leave l.length pc) w w' := by
  obtain ⟨ao, cap, rfl⟩ := H.slen
  have z := H.cpc
  have f := H.fz 36
  go_enter Tryz.func82, Tryz.ntmps82
  go_upto_region 1 with fail
  have R := H.pc_ pc
  generalize w.setCell ⟨g, 36, none⟩ (vU pc) = w1 at R ⊢
  clear z f
  have z0 := R.1.c0
  have z2 := R.1.c2
  have f := R.1.fz 2
  go_wp2
  go_end0
  exact ⟨rfl, R.then (R.1.next_ l.length)⟩
set_option maxHeartbeats 1000000 in
theorem fault_c (H : RunAt l g vb so S w) : Calls Tryz.prog 77 #[ptr g 0] w fun e w' => e = .returned (.tuple #[]) ∧ RT l g vb so (S.fault l.length) w w' := by
  have z := H.c65
  have f := H.fz 65
  go_enter Tryz.func77, Tryz.ntmps77
  go_upto_region 1 with fail
  have R := H.flt_ true
  generalize w.setCell ⟨g, 65, none⟩ (.bool true) = w1 at R ⊢
  clear z f
  have z := R.1.cpc
  have k := leave_c R.1 S.c.pc
  go_wp2_with (first | (go_at_call 82; (with_reducible refine k.mono ?_); rintro e w2 ⟨rfl, R2⟩; dsimp only))
  go_end0
  exact ⟨rfl, R.then R2⟩
set_option maxHeartbeats 1000000 in
theorem guest_c (H : RunAt l g vb so S w) (word : Int) : Calls Tryz.prog 83 #[ptr g 0, .int .u32 word] w fun e w' => e = .returned (.tuple #[]) ∧ RT l g vb so (S.guestOut l.length word) w w' := by
  have z := H.c63
  have f := H.fz 63
  have z1 := (H.word_ word).1.c64
  have f1 := (H.word_ word).1.fz 64
  have R := (H.word_ word).then ((H.word_ word).1.guest_ true)
  go_enter Tryz.func83, Tryz.ntmps83
  go_upto_region 1 with fail
  generalize (w.setCell ⟨g, 63, none⟩ (.int .u32 word)).setCell ⟨g, 64, none⟩ (.bool true) = w1 at R ⊢
  clear z f z1 f1
  have z := R.1.cpc
  have k := leave_c R.1 S.c.pc
  go_wp2_with (first | (go_at_call 82; (with_reducible refine k.mono ?_); rintro e w2 ⟨rfl, R2⟩; dsimp only))
  go_end0
  exact ⟨rfl, R.then R2⟩
theorem run_want (H : RunAt l g vb so S w) (d : Wnt) : (storeVar 56 ⟨g, 52, none⟩ (wnV d)).run Tryz.prog w = .ok () (w.setRow g (rnA so (.slice (some ⟨vb, 0, none⟩) l.length l.length) g { S with w := d })) := by
  have := run_storeCells_at (P := Tryz.prog) g 52 95 (wnA d).toList 0 _ w H.top (by rw [rn_size]; show 52 + 0 + 10 ≤ 66; decide) (fun v hv => by
    have := Array.all_eq_true_iff_forall_mem.1 (wn_one d) v (by simpa using hv); exact this)
  have e10 : (wnA d).toList.length = 10 := rfl
  rw [e10] at this
  simp only [Nat.add_zero, Nat.reduceAdd] at this
  rw [rn_setw] at this
  have hi := wn_inf d
  cases hq : Tryz.prog.info? 56 with
  | none => simp [hq] at hi
  | some inf =>
    have hs : inf.size = 10 := by simpa [hq] using hi
    simp [storeVar, sizeOf, typeInfo, hq, Value.cells, hs, this]
theorem RunAt.want_ (H : RunAt l g vb so S w) (d : Wnt) : RT l g vb so { S with w := d } w (w.setRow g (rnA so (.slice (some ⟨vb, 0, none⟩) l.length l.length) g { S with w := d })) := by
  refine ⟨⟨setRow_heap _ _ _ _ _ _ H.top, own_of_block H.own (fun j hj => setRow_other _ _ _ _ (H.ob hj).2.1), ?_, H.len, H.pos, H.max, ⟨H.ok.x, H.ok.sp0, H.ok.sp1, H.ok.el, H.ok.vs⟩⟩, goes_setRow w (F := RF g vb) (.inl rfl) _⟩
  rw [setRow_other _ _ _ _ (Ne.symm H.ne)]; exact H.vals
theorem wpList_storeW {ops : Array Oper} {rest : List Oper} {o : Oper} {a : Act} {Q : Exit → Act → World → Prop} (hgd : o.guard = none) (x y : Operand) (ho : o.op = .store 56 x y) (hx : a.eval x = ptr g 52) (d : Wnt) (hy : a.eval y = wnV d) (H : RunAt l g vb so S w)
    (h : ∀ w2 : World, RT l g vb so { S with w := d } w w2 → wpList Tryz.prog ops Q rest (a.put o.dst undef) w2) : wpList Tryz.prog ops Q (o :: rest) a w := by
  refine wpList_plain hgd fun K hK => ?_
  unfold Oper.wp execOp
  simp only [ho, hx, hy, Instr.storeAt, Instr.sureAddr, Sem.run_bind, Sem.run_pure, Result.andThen_ok, run_want H d]
  exact hK _ _ (h _ (H.want_ d))
set_option maxHeartbeats 1000000 in
theorem wait_c (H : RunAt l g vb so S w) (d : Wnt) (f : Nat) : Calls Tryz.prog 50 #[ptr g 0, wnV d, goV g f] w fun e w' => e = .returned (.tuple #[]) ∧ RT l g vb so (S.wait d f) w w' := by
  have H1 := H.grow (below_alloc w (.cells (wnA d) 56))
  have hb := below_alloc w (.cells (wnA d) 56)
  have hrow : (w.alloc (.cells (wnA d) 56)).heap[w.heap.size]? = some (.cells (wnA d) 56) := heap_alloc_new _ _
  have h1 : (goV g f).oneCell' = true := by unfold goV; split <;> rfl
  have h2 : (goV g f).cells = #[goV g f] := by unfold goV; split <;> rfl
  generalize hG : goV g f = G at *
  go_enter Tryz.func50, Tryz.ntmps50
  go_upto_region 1 with fail
  generalize w.alloc (.cells (wnA d) 56) = w1 at *
  go_wp2_with (first | ((with_reducible refine wpList_load_if rfl 56 _ rfl _ rfl 56 _ (0, 0) _ hrow Tryz.underlying56 rfl (wn_inf _) ?_); simp only [Act.put, List.setIfInBounds_toArray, List.set_cons_succ, List.set_cons_zero]) | ((with_reducible refine wpList_storeW rfl _ _ rfl rfl d rfl H1 ?_); intro w2 R; have z := R.1.c62; have f9 := R.1.fz 62; try simp only [Act.put]) | ((with_reducible refine wpList_storeC rfl 93 _ _ rfl g 62 rfl G rfl inf59 h1 h2 z f9 ?_); try simp only [Act.put]))
  go_end0
  refine ⟨rfl, ?_⟩
  rw [← hG]
  exact (RT.from hb R).then (R.1.go_ f)
set_option maxHeartbeats 1000000 in
theorem faultIf_c (H : RunAt l g vb so S w) (t : Gt) : Calls Tryz.prog 109 #[ptr g 0, gtV t] w fun e w' => e = .returned (.tuple #[]) ∧ RT l g vb so (if t.fault = 0 then S else S.fault l.length) w w' := by
  have hb := below_alloc w (.cells (gtA t) 54)
  have H1 := H.grow hb
  have k := fault_c H1
  by_cases h0 : t.fault = 0
  · rw [if_pos h0]
    go_enter Tryz.func109, Tryz.ntmps109
    go_wp2
    go_end0
    exact ⟨rfl, RT.from hb H1.here⟩
  · rw [if_neg h0]
    have e0 : (t.fault != 0) = true := by simp [h0]
    go_enter Tryz.func109, Tryz.ntmps109
    go_wp2_with (first | (go_at_call 77; (with_reducible refine k.mono ?_); rintro e w2 ⟨rfl, R2⟩; dsimp only))
    go_end0
    exact ⟨rfl, RT.from hb R2⟩
def oneV : Bool → Int
  | true => 1
  | false => 0
theorem oneV_u (b : Bool) : U64 (oneV b) := by cases b <;> exact ⟨by decide, by decide⟩
theorem oneIf_c (t : Bool) (w : World) : Calls Tryz.prog 84 #[.bool t] w fun e w' => e = .returned (vU (oneV t)) ∧ w' = w := by
  cases t
  all_goals
    go_enter Tryz.func84, Tryz.ntmps84
    go_wp2
    go_ret
    exact ⟨rfl, rfl⟩
def acqV (n : Int) : Int := if n = 1 then 1 else if n = 2 then 2 else 0
theorem acquire_c (n : Int) (w : World) : Calls Tryz.prog 78 #[vI n] w fun e w' => e = .returned (vI (acqV n)) ∧ w' = w := by
  unfold acqV
  by_cases h1 : n = 1
  · subst h1
    go_enter Tryz.func78, Tryz.ntmps78
    go_wp2
    go_ret
    exact ⟨rfl, rfl⟩
  · by_cases h2 : n = 2
    · subst h2
      go_enter Tryz.func78, Tryz.ntmps78
      go_wp2
      go_ret
      exact ⟨rfl, rfl⟩
    · rw [if_neg h1, if_neg h2]
      go_enter Tryz.func78, Tryz.ntmps78
      go_wp2
      go_ret
      exact ⟨rfl, rfl⟩
def Rn.told (S : Rn) (n : Nat) (t : Gt) : Rn := if t.fault = 0 then S else S.fault n
def cGt (t : Gt) (w : World) (b : Nat) : Prop := w.heap[b]? = some (.cells (gtA t) 54)
theorem gt_inf (t : Gt) : (Tryz.prog.info? 54).map (·.size) = some (gtA t).size := by
  show (Tryz.prog.info? 54).map (·.size) = some 3
  kernel_rfl
theorem fenced_c (H : RunAt l g vb so S w) (t : Gt) : Calls Tryz.prog 64 #[ptr g 0, gtV t] w fun e w' => e = .returned (.tuple #[]) ∧ RT l g vb so S w w' := by
  have hb := below_alloc w (.cells (gtA t) 54)
  go_enter Tryz.func64, Tryz.ntmps64
  go_wp2
  go_end0
  exact ⟨rfl, RT.from hb (H.grow hb).here⟩
set_option maxHeartbeats 1000000 in
theorem stored_c (H : RunAt l g vb so S w) (t : Gt) : Calls Tryz.prog 80 #[ptr g 0, gtV t] w fun e w' => e = .returned (.tuple #[]) ∧ RT l g vb so (S.told l.length t) w w' := by
  have hb := below_alloc w (.cells (gtA t) 54)
  have hrow : (w.alloc (.cells (gtA t) 54)).heap[w.heap.size]? = some (.cells (gtA t) 54) := heap_alloc_new _ _
  have H1 := H.grow hb
  have k := faultIf_c H1 t
  go_enter Tryz.func80, Tryz.ntmps80
  go_upto_region 1 with fail
  generalize w.alloc (.cells (gtA t) 54) = w1 at *
  go_wp2_with (first | ((with_reducible refine wpList_load_if rfl 54 _ rfl _ rfl 54 _ (0, 0) _ hrow Tryz.underlying54 rfl (gt_inf _) ?_); simp only [Act.put, List.setIfInBounds_toArray, List.set_cons_succ, List.set_cons_zero]) | (go_at_call 109; (with_reducible refine k.mono ?_); rintro e w2 ⟨rfl, R2⟩; dsimp only))
  go_end0
  exact ⟨rfl, RT.from hb R2⟩
theorem RT.kept {S' : Rn} {w1 : World} (h : RT l g vb so S' w w1) {b : Nat} {o : Obj} (hb : w.heap[b]? = some o) (h1 : b ≠ g) (h2 : b ≠ vb) : w1.heap[b]? = some o := by
  rw [h.2.block b (lt_of_some hb) (fun e => e.elim h1 h2)]; exact hb
set_option maxHeartbeats 1000000 in
theorem loaded_c (H : RunAt l g vb so S w) (t : Gt) (hv : U64 t.value) (h1 : 1 ≤ S.next) (h2 : S.next ≤ l.length) : Calls Tryz.prog 79 #[ptr g 0, gtV t] w fun e w' => e = .returned (.tuple #[]) ∧ RT l g vb so ((S.define t.value).told l.length t) w w' := by
  have hb := below_alloc w (.cells (gtA t) 54)
  have hrow : (w.alloc (.cells (gtA t) 54)).heap[w.heap.size]? = some (.cells (gtA t) 54) := heap_alloc_new _ _
  have hn1 : w.heap.size ≠ g := by have := H.lt; omega
  have hn2 : w.heap.size ≠ vb := by have := H.ltv; omega
  have H1 := H.grow hb
  have k := define_c H1 hv h1 h2
  go_enter Tryz.func79, Tryz.ntmps79
  go_upto_region 1 with fail
  generalize w.alloc (.cells (gtA t) 54) = w1 at *
  have z : w1.cell? ⟨w.heap.size, 0, none⟩ = some (vU t.value) := by rw [cell_of_row _ _ _ _ _ _ hrow]; rfl
  go_wp2_with (first | (go_at_call 61; (with_reducible refine k.mono ?_); rintro e w2 ⟨rfl, R2⟩; dsimp only; have hrow2 := R2.kept hrow hn1 hn2; have k2 := faultIf_c R2.1 t) | ((with_reducible refine wpList_load_if rfl 54 _ rfl _ rfl 54 _ (0, 0) _ hrow2 Tryz.underlying54 rfl (gt_inf _) ?_); simp only [Act.put, List.setIfInBounds_toArray, List.set_cons_succ, List.set_cons_zero]) | (go_at_call 109; (with_reducible refine k2.mono ?_); rintro e w3 ⟨rfl, R3⟩; dsimp only))
  go_end0
  exact ⟨rfl, RT.from hb (R2.then R3)⟩
set_option maxHeartbeats 1000000 in
theorem storedEx_c (H : RunAt l g vb so S w) (t : Gt) (h1 : 1 ≤ S.next) (h2 : S.next ≤ l.length) : Calls Tryz.prog 81 #[ptr g 0, gtV t] w fun e w' => e = .returned (.tuple #[]) ∧ RT l g vb so ((S.define (oneV (!t.ok))).told l.length t) w w' := by
  have hb := below_alloc w (.cells (gtA t) 54)
  have hrow : (w.alloc (.cells (gtA t) 54)).heap[w.heap.size]? = some (.cells (gtA t) 54) := heap_alloc_new _ _
  have hn1 : w.heap.size ≠ g := by have := H.lt; omega
  have hn2 : w.heap.size ≠ vb := by have := H.ltv; omega
  have H1 := H.grow hb
  have k := define_c H1 (oneV_u (!t.ok)) h1 h2
  have k0 := fun w => oneIf_c (!t.ok) w
  go_enter Tryz.func81, Tryz.ntmps81
  go_upto_region 1 with fail
  generalize w.alloc (.cells (gtA t) 54) = w1 at *
  have z : w1.cell? ⟨w.heap.size, 1, none⟩ = some (.bool t.ok) := by rw [cell_of_row _ _ _ _ _ _ hrow]; rfl
  go_wp2_with (first | (go_at_call 84; (with_reducible refine (k0 _).mono ?_); rintro e w' ⟨rfl, rfl⟩; dsimp only) | (go_at_call 61; (with_reducible refine k.mono ?_); rintro e w2 ⟨rfl, R2⟩; dsimp only; have hrow2 := R2.kept hrow hn1 hn2; have k2 := faultIf_c R2.1 t) | ((with_reducible refine wpList_load_if rfl 54 _ rfl _ rfl 54 _ (0, 0) _ hrow2 Tryz.underlying54 rfl (gt_inf _) ?_); simp only [Act.put, List.setIfInBounds_toArray, List.set_cons_succ, List.set_cons_zero]) | (go_at_call 109; (with_reducible refine k2.mono ?_); rintro e w3 ⟨rfl, R3⟩; dsimp only))
  go_end0
  exact ⟨rfl, RT.from hb (R2.then R3)⟩
end
end Go.Proofs.YtccmncecpmemaaaGreatDoor
