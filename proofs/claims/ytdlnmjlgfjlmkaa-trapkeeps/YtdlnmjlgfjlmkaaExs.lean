/- The chapter's examples, which each statement asks first, come out as they should. -/
import Derived.Test.YtdlnmjlgfjlmkaaTF
import Derived.Test.YtdlnmjlgfjlmkaaOwnB
namespace Go.Proofs.Ytdlnmjlgfjlmkaa
open Go.RowKit
set_option linter.unusedVariables false

def begC : Cor := { nilC with pc := 4096, el := 1, mask := true }
def vbC : Cor := { nilC with vbar := 2048 }
theorem built_begC : Try.prog.built 26 [(2, vU 4096), (7, vI 1), (8, .bool true)] = some begC.cells := by kernel_rfl
theorem wpList_build_begC {ops : Array Oper} {rest : List Oper} {o : Oper} {a : Act} {w : World} {Q : Exit → Act → World → Prop} (hw : Region.wanted o (yielded ops a.tmps) = true) (ho : o.op = .build 26 #[(2, .const (.int .u64 4096)), (7, .const (.int .i64 1)), (8, .const (.bool true))])
    (h : wpList Try.prog ops Q rest (a.put o.dst begC.val) w) : wpList Try.prog ops Q (o :: rest) a w := by
  have e : (Array.map (fun x : Nat × Operand => match x with | (i, x) => (i, a.eval x)) #[(2, .const (.int .u64 4096)), (7, .const (.int .i64 1)), (8, .const (.bool true))]).toList = [(2, vU 4096), (7, vI 1), (8, .bool true)] := by
    simp only [List.map_toArray, List.map_cons, List.map_nil]
    rfl
  refine BigFrame.wpList_want hw fun K hK => wp_build 26 _ ho (by rw [e, built_begC]; rfl) ?_
  refine hK _ _ ?_
  rw [e, built_begC]
  exact h
theorem built_vbC : Try.prog.built 26 [(13, vU 2048)] = some vbC.cells := by kernel_rfl
theorem wpList_build_vbC {ops : Array Oper} {rest : List Oper} {o : Oper} {a : Act} {w : World} {Q : Exit → Act → World → Prop} (hw : Region.wanted o (yielded ops a.tmps) = true) (ho : o.op = .build 26 #[(13, .const (.int .u64 2048))])
    (h : wpList Try.prog ops Q rest (a.put o.dst vbC.val) w) : wpList Try.prog ops Q (o :: rest) a w := by
  have e : (Array.map (fun x : Nat × Operand => match x with | (i, x) => (i, a.eval x)) #[(13, .const (.int .u64 2048))]).toList = [(13, vU 2048)] := by
    simp only [List.map_toArray, List.map_cons, List.map_nil]
    rfl
  refine BigFrame.wpList_want hw fun K hK => wp_build 26 _ ho (by rw [e, built_vbC]; rfl) ?_
  refine hK _ _ ?_
  rw [e, built_vbC]
  exact h
set_option maxHeartbeats 1000000 in
theorem begin_c (w : World) : Calls Try.prog 18 #[] w fun e w' => e = .returned begC.val ∧ Below w.heap.size w w' := by
  have H := own_none w
  go_enter Try.func18, Try.ntmps18
  go_wp2_with (first | ((with_reducible refine wpList_build_begC rfl rfl ?_); simp only [Act.put, List.setIfInBounds_toArray, List.set_cons_succ, List.set_cons_zero]) | ((with_reducible refine wpList_new H rfl _ _ rfl _ rfl rfl ?_ ?_); (focus rfl); intro w2 H; simp only [Act.put]))
  refine bodyPost_ret (back_one rfl _ _ _ _ _ _ rfl (H.get (by first | exact List.mem_cons_self | exact List.mem_cons_of_mem _ (List.mem_cons_self) | exact List.mem_cons_of_mem _ (List.mem_cons_of_mem _ (List.mem_cons_self)) | exact List.mem_cons_of_mem _ (List.mem_cons_of_mem _ (List.mem_cons_of_mem _ (List.mem_cons_self))) | exact List.mem_cons_of_mem _ (List.mem_cons_of_mem _ (List.mem_cons_of_mem _ (List.mem_cons_of_mem _ (List.mem_cons_self)))) | exact List.mem_cons_of_mem _ (List.mem_cons_of_mem _ (List.mem_cons_of_mem _ (List.mem_cons_of_mem _ (List.mem_cons_of_mem _ (List.mem_cons_self))))) | exact List.mem_cons_of_mem _ (List.mem_cons_of_mem _ (List.mem_cons_of_mem _ (List.mem_cons_of_mem _ (List.mem_cons_of_mem _ (List.mem_cons_of_mem _ (List.mem_cons_self))))))))) rfl ?_
  exact ⟨rfl, H.below⟩
def exA : Cor := { nilC with pc := 512, el := 1, mask := true, spsr := 133, elr := 4100, esr := 1442840581 }
def exB : Cor := { nilC with pc := 3072, el := 1, mask := true, spsr := 0, elr := 0, esr := 2449473569, far := 7, vbar := 2048 }
def exC : Cor := { nilC with pc := 640, el := 1, mask := true, spsr := 133, elr := 4096 }
theorem ex_A : enterV begC 21 5 0 = exA := by kernel_rfl
theorem ex_A2 : errB (entB begC 21 5) = 0 := by kernel_rfl
theorem ex_B : enterV vbC 36 33 7 = exB := by kernel_rfl
theorem ex_B2 : errB (entB vbC 36 33) = 0 := by kernel_rfl
theorem ex_C : irqV begC = exC := by kernel_rfl
theorem ex_C2 : errB (rightC begC) = 0 := by kernel_rfl
theorem ex_5 : mayB 5 = true := by kernel_rfl
theorem ex_4 : mayB 4 = false := by kernel_rfl
theorem u_5 : Hid (U64 5) := (show U64 5 from ⟨by decide, by decide⟩)
theorem u_4 : Hid (U64 4) := (show U64 4 from ⟨by decide, by decide⟩)
set_option maxRecDepth 4000 in
set_option maxHeartbeats 4000000 in
theorem examples_c (w : World) : Calls Try.prog 7 #[] w fun e w' => e = .returned (.bool true) ∧ Below w.heap.size w w' := by
  have H := own_none w
  have a1 : exA.elr = 4100 := rfl
  have a2 : exA.esr = 1442840581 := rfl
  have a3 : exA.spsr = 133 := rfl
  have a4 : exA.pc = 512 := rfl
  have b1 : exB.pc = 3072 := rfl
  have b2 : exB.far = 7 := rfl
  have b3 : exB.el = 1 := rfl
  have c1 : exC.elr = 4096 := rfl
  have c2 : exC.pc = 640 := rfl
  go_enter Try.func7, Try.ntmps7
  go_wp2_with (first | ((with_reducible refine wpList_build_vbC rfl rfl ?_); simp only [Act.put, List.setIfInBounds_toArray, List.set_cons_succ, List.set_cons_zero]) | ((with_reducible refine wpList_new H rfl _ _ rfl _ rfl rfl ?_ ?_); (focus rfl); intro w2 H; simp only [Act.put]) | ((with_reducible refine wpList_get0 H rfl _ _ rfl _ rfl (by decide) _ (by first | exact Cor.a33 _ | exact Cor.a34 _ | exact Cor.a35 _ | exact Cor.a36 _ | exact Cor.a37 _ | exact Cor.a38 _ | exact Cor.a39 _ | exact Cor.a40 _ | exact Cor.a41 _ | exact Cor.a42 _ | exact Cor.a43 _ | exact Cor.a44 _ | exact Cor.a45 _ | exact Cor.a46 _ | exact Cor.a47 _ | exact Cor.a48 _) ?_); simp only [Act.put, List.setIfInBounds_toArray, List.set_cons_succ, List.set_cons_zero]) | ((with_reducible refine wpList_get1 H rfl _ _ rfl _ rfl (by decide) _ (by first | exact Cor.a33 _ | exact Cor.a34 _ | exact Cor.a35 _ | exact Cor.a36 _ | exact Cor.a37 _ | exact Cor.a38 _ | exact Cor.a39 _ | exact Cor.a40 _ | exact Cor.a41 _ | exact Cor.a42 _ | exact Cor.a43 _ | exact Cor.a44 _ | exact Cor.a45 _ | exact Cor.a46 _ | exact Cor.a47 _ | exact Cor.a48 _) ?_); simp only [Act.put, List.setIfInBounds_toArray, List.set_cons_succ, List.set_cons_zero]) | ((with_reducible refine wpList_get2 H rfl _ _ rfl _ rfl (by decide) _ (by first | exact Cor.a33 _ | exact Cor.a34 _ | exact Cor.a35 _ | exact Cor.a36 _ | exact Cor.a37 _ | exact Cor.a38 _ | exact Cor.a39 _ | exact Cor.a40 _ | exact Cor.a41 _ | exact Cor.a42 _ | exact Cor.a43 _ | exact Cor.a44 _ | exact Cor.a45 _ | exact Cor.a46 _ | exact Cor.a47 _ | exact Cor.a48 _) ?_); simp only [Act.put, List.setIfInBounds_toArray, List.set_cons_succ, List.set_cons_zero]) | (go_at_call 18; refine (begin_c _).mono ?_; rintro e w1 ⟨rfl, hb⟩; replace H := H.grow hb; clear hb; dsimp only) | (go_at_call 8; (with_reducible refine (Enter_c begC 21 5 0 _).mono ?_); rw [ex_A, ex_A2]; rintro e w1 ⟨rfl, hb⟩; replace H := H.grow hb; clear hb; dsimp only) | (go_at_call 8; (with_reducible refine (Enter_c vbC 36 33 7 _).mono ?_); rw [ex_B, ex_B2]; rintro e w1 ⟨rfl, hb⟩; replace H := H.grow hb; clear hb; dsimp only) | (go_at_call 10; (with_reducible refine (Irq_c begC _).mono ?_); rw [ex_C, ex_C2]; rintro e w1 ⟨rfl, hb⟩; replace H := H.grow hb; clear hb; dsimp only) | (go_at_call 17; (with_reducible refine (May_c 5 u_5 _).mono ?_); rw [ex_5]; rintro e w1 ⟨rfl, rfl⟩; dsimp only) | (go_at_call 17; (with_reducible refine (May_c 4 u_4 _).mono ?_); rw [ex_4]; rintro e w1 ⟨rfl, rfl⟩; dsimp only))
  go_ret
  exact ⟨rfl, H.below⟩
end Go.Proofs.Ytdlnmjlgfjlmkaa
