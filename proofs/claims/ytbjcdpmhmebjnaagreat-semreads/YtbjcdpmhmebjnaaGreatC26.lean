/- What is done to a step, found by its Op, for every Op: contracts. -/
import Derived.Test.YtbjcdpmhmebjnaaGreatC22
namespace Go.Proofs.YtbjcdpmhmebjnaaGreat
open Go.RowKit
set_option linter.unusedVariables false

set_option maxRecDepth 4000 in
set_option maxHeartbeats 4000000 in
theorem do_none (g : Nat) (s : Stp) (w : World) (h : w.heap[g]? = some (.cells s.cells 58)) (k : Nat) (hk : k < 38) (hop : s.i.op = (k : Int)) (hrow : (doRow g)[k]? = some .nilFunc) :
    Calls Tryz.prog 54 #[.pointer (some ⟨g, 0, none⟩)] w fun e w' => e = .returned (.tuple #[]) ∧ w'.heap[g]? = some (.cells s.cells 58) ∧ But g w w' := by
  go_enter Tryz.func54, Tryz.ntmps54
  have H := has_none w
  go_upto_region 1 with (first | ((with_reducible refine wpList_builtG rfl 115 _ rfl (doRow g) (by kernel_rfl) ?_); simp only [Act.put, List.setIfInBounds_toArray, List.set_cons_succ, List.set_cons_zero]) | ((with_reducible refine wpList_store_new H rfl 115 _ _ rfl (doRow g) rfl rfl (info111 g) ?_ (doRow_one g) ?_); (focus rfl); intro w2 H2; simp only [Act.put]))
  have hs := keep_row h H2.below
  have c0 := at_i hs 0 (.int .i64 s.i.op) (by decide) rfl
  rw [hop] at c0
  have ck := H2.at List.mem_cons_self k _ hrow
  have hB := H2.below
  clear H2
  generalize w.heap.size = z at ck ⊢
  have hk1 : (k : Int) < 38 := by omega
  go_wp2
  first | go_end0 | ((try simp only [Exit.inBlock, Exit.then]); refine bodyPost_ret (results_none rfl _ _ _) rfl ?_)
  exact ⟨rfl, hs, but_below hB⟩
/-- What is known of a state. -/
structure Good1 (c : Cor) : Prop where
  x : ∀ (i : Nat) (h : i < 31), U64 c.x[i]
  sp0 : U64 c.sp0
  sp1 : U64 c.sp1
  spsr : U64 c.spsr
  right : rightC c = true
abbrev Does (i : Ins) (c : Cor) (k : Gt) : Prop := ∀ (g : Nat) (w : World), w.heap[g]? = some (.cells (Stp.cells ⟨i, c, k, 0⟩) 58) → Calls Tryz.prog 54 #[.pointer (some ⟨g, 0, none⟩)] w fun e w' => e = .returned (.tuple #[]) ∧ w'.heap[g]? = some (.cells (Stp.cells ⟨i, doV i c k, k, 0⟩) 58) ∧ But g w w'
theorem do_1 (i : Ins) (c : Cor) (k : Gt) (G : Good1 c) (D : Deed i) (hop : i.op = 1) : Does i c k := by
  intro g w h
  have e : doV i c k = withImmV i (addD i c (spX c i.rn) (immS2 i)) (addNV i (spX c i.rn) (immS2 i)) := by simp [doV, hop]
  rw [e]
  refine do_some g ⟨i, c, k, 0⟩ ⟨i, _, k, 0⟩ w h 1 (by decide) hop 126 rfl (enters Tryz.func126 (by kernel_rfl) (by kernel_rfl)) (fun w h => ?_)
  have A := D.am (by omega)
  unfold addD addNV sumB
  cases hm : i.minus
  · exact stAddImm_A g i c k 0 w h hm A.1 A.2 _ _ _ _ rfl (spx_in G.x G.sp0 G.sp1 _) rfl rfl (wrapU_in _) _ rfl rfl
  · exact stAddImm_S g i c k 0 w h hm A.1 A.2 _ _ _ _ _ rfl (spx_in G.x G.sp0 G.sp1 _) rfl rfl (mx_in _) rfl _ rfl rfl
theorem do_2 (i : Ins) (c : Cor) (k : Gt) (G : Good1 c) (D : Deed i) (hop : i.op = 2) : Does i c k := by
  intro g w h
  have e : doV i c k = setXV (addD i c (xV c i.rn) (shNV i c)) i.rd (addNV i (xV c i.rn) (shNV i c)) := by simp [doV, hop]
  rw [e]
  refine do_some g ⟨i, c, k, 0⟩ ⟨i, _, k, 0⟩ w h 2 (by decide) hop 127 rfl (enters Tryz.func127 (by kernel_rfl) (by kernel_rfl)) (fun w h => ?_)
  unfold addD addNV sumB
  cases hm : i.minus
  · exact stAddReg_A g i c k 0 w h hm _ _ _ _ _ rfl rfl (xa_in G.x _) (xa_in G.x _) rfl rfl (shift_in (xa_in G.x _) _ _) _ rfl rfl
  · exact stAddReg_S g i c k 0 w h hm _ _ _ _ _ _ rfl rfl (xa_in G.x _) (xa_in G.x _) rfl rfl (mx_in _) rfl _ rfl rfl
theorem logic_any (g : Nat) (i : Ins) (c : Cor) (k : Gt) (a b : Int) (ha : U64 a) (hb : U64 b) (hs : i.sub = 0 ∨ i.sub = 1 ∨ i.sub = 2) (w : World) (h : w.heap[g]? = some (.cells (Stp.cells ⟨i, c, k, 0⟩) 58)) :
    Calls Tryz.prog 198 #[.pointer (some ⟨g, 0, none⟩), .int .u64 a, .int .u64 b] w fun e2 w' => e2 = .returned (.int .u64 (logNV i a b)) ∧ w'.heap[g]? = some (.cells (Stp.cells ⟨i, setfV i c (logF (logNV i a b)), k, 0⟩) 58) ∧ But g w w' := by
  unfold logNV
  cases hn : i.not
  · rcases hs with hs | hs | hs <;> rw [hs]
    · exact stLogic_P0 g i c k 0 w h hs hn a b _ ha hb _ rfl rfl
    · exact stLogic_P1 g i c k 0 w h hs hn a b _ ha hb _ rfl rfl
    · exact stLogic_P2 g i c k 0 w h hs hn a b _ ha hb _ rfl rfl
  · rcases hs with hs | hs | hs <;> rw [hs]
    · exact stLogic_N0 g i c k 0 w h hs hn a b _ _ ha (mx_in _) rfl _ rfl rfl
    · exact stLogic_N1 g i c k 0 w h hs hn a b _ _ ha (mx_in _) rfl _ rfl rfl
    · exact stLogic_N2 g i c k 0 w h hs hn a b _ _ ha (mx_in _) rfl _ rfl rfl
theorem do_3 (i : Ins) (c : Cor) (k : Gt) (G : Good1 c) (D : Deed i) (hop : i.op = 3) : Does i c k := by
  intro g w h
  have e : doV i c k = setXV (setfV i c (logF (logNV i (xV c i.rn) (shNV i c)))) i.rd (logNV i (xV c i.rn) (shNV i c)) := by simp [doV, hop]
  rw [e]
  refine do_some g ⟨i, c, k, 0⟩ ⟨i, _, k, 0⟩ w h 3 (by decide) hop 128 rfl (enters Tryz.func128 (by kernel_rfl) (by kernel_rfl)) (fun w h => ?_)
  exact stLogReg_c g i c k 0 w h _ _ _ _ _ rfl rfl (xa_in G.x _) rfl rfl _ (fun w1 h1 => logic_any g i c k _ _ (xa_in G.x _) (shift_in (xa_in G.x _) _ _) (D.lg (by omega)) w1 h1)
theorem do_4 (i : Ins) (c : Cor) (k : Gt) (G : Good1 c) (D : Deed i) (hop : i.op = 4) : Does i c k := by
  intro g w h
  have e : doV i c k = withImmV i (setfV i c (logF (logNV i (xV c i.rn) (maskV i.amount i.imm i.imm2)))) (logNV i (xV c i.rn) (maskV i.amount i.imm i.imm2)) := by simp [doV, hop]
  rw [e]
  refine do_some g ⟨i, c, k, 0⟩ ⟨i, _, k, 0⟩ w h 4 (by decide) hop 129 rfl (enters Tryz.func129 (by kernel_rfl) (by kernel_rfl)) (fun w h => ?_)
  exact stLogImm_c g i c k 0 w h _ _ _ _ rfl rfl rfl _ (fun w1 h1 => logic_any g i c k _ _ (xa_in G.x _) (mask_in _ _ _) (D.lg (by omega)) w1 h1)
theorem do_5 (i : Ins) (c : Cor) (k : Gt) (G : Good1 c) (D : Deed i) (hop : i.op = 5) : Does i c k := by
  intro g w h
  have e : doV i c k = setXV c i.rd (movNV i c) := by simp [doV, hop]
  rw [e]
  refine do_some g ⟨i, c, k, 0⟩ ⟨i, _, k, 0⟩ w h 5 (by decide) hop 130 rfl (enters Tryz.func130 (by kernel_rfl) (by kernel_rfl)) (fun w h => ?_)
  have A := D.am (by omega)
  unfold movNV
  cases h0 : i.sub == 0
  · cases h3 : i.sub == 3
    · exact stMovWide_Z g i c k 0 w h h0 h3 A.1 A.2 _ _ rfl rfl
    · exact stMovWide_K g i c k 0 w h (by simpa using h3) A.1 A.2 _ _ rfl rfl _ _ rfl rfl
  · exact stMovWide_N g i c k 0 w h (by simpa using h0) A.1 A.2 _ _ rfl rfl
theorem do_6 (i : Ins) (c : Cor) (k : Gt) (G : Good1 c) (D : Deed i) (hop : i.op = 6) : Does i c k := by
  intro g w h
  have e : doV i c k = setXV c i.rd (moveV (xV c i.rn) (i.sub == 0) i.imm i.imm2) := by simp [doV, hop]
  rw [e]
  refine do_some g ⟨i, c, k, 0⟩ ⟨i, _, k, 0⟩ w h 6 (by decide) hop 131 rfl (enters Tryz.func131 (by kernel_rfl) (by kernel_rfl)) (fun w h => ?_)
  exact stBitfield_c g i c k 0 w h _ _ _ rfl rfl rfl
theorem do_7 (i : Ins) (c : Cor) (k : Gt) (G : Good1 c) (D : Deed i) (hop : i.op = 7) : Does i c k := by
  intro g w h
  have e : doV i c k = setXV c i.rd (shiftV (xV c i.rn) i.sub (xV c i.rm % 64)) := by simp [doV, hop]
  rw [e]
  refine do_some g ⟨i, c, k, 0⟩ ⟨i, _, k, 0⟩ w h 7 (by decide) hop 132 rfl (enters Tryz.func132 (by kernel_rfl) (by kernel_rfl)) (fun w h => ?_)
  exact stShiftReg_c g i c k 0 w h _ _ _ _ rfl rfl (xa_in G.x _) (xa_in G.x _) rfl rfl
theorem do_8 (i : Ins) (c : Cor) (k : Gt) (G : Good1 c) (D : Deed i) (hop : i.op = 8) : Does i c k := by
  intro g w h
  have e : doV i c k = setXV c i.rd (reckonV (bif i.minus then 2 else 1) (xV c i.ra) (reckonV 6 (xV c i.rn) (xV c i.rm))) := by simp [doV, hop]
  rw [e]
  refine do_some g ⟨i, c, k, 0⟩ ⟨i, _, k, 0⟩ w h 8 (by decide) hop 133 rfl (enters Tryz.func133 (by kernel_rfl) (by kernel_rfl)) (fun w h => ?_)
  have hz : U64 (reckonV 6 (xV c i.rn) (xV c i.rm)) := by
    show U64 ((xV c i.rn * xV c i.rm) % 18446744073709551616)
    constructor <;> omega
  cases hm : i.minus
  · exact stMultiply_A g i c k 0 w h hm _ _ _ _ _ rfl rfl rfl (xa_in G.x _) (xa_in G.x _) (xa_in G.x _) hz rfl rfl
  · exact stMultiply_S g i c k 0 w h hm _ _ _ _ _ rfl rfl rfl (xa_in G.x _) (xa_in G.x _) (xa_in G.x _) hz rfl rfl
theorem do_9 (i : Ins) (c : Cor) (k : Gt) (G : Good1 c) (D : Deed i) (hop : i.op = 9) : Does i c k := by
  intro g w h
  have e : doV i c k = setXV c i.rd (reckonV (7 + i.sub) (xV c i.rn) (xV c i.rm)) := by simp [doV, hop]
  rw [e]
  refine do_some g ⟨i, c, k, 0⟩ ⟨i, _, k, 0⟩ w h 9 (by decide) hop 134 rfl (enters Tryz.func134 (by kernel_rfl) (by kernel_rfl)) (fun w h => ?_)
  rcases D.dv hop with hs | hs <;> rw [hs]
  · exact stDivide_0 g i c k 0 w h hs _ _ _ rfl rfl (xa_in G.x _) (xa_in G.x _) rfl
  · exact stDivide_1 g i c k 0 w h hs _ _ _ rfl rfl (xa_in G.x _) (xa_in G.x _) rfl
theorem do_10 (i : Ins) (c : Cor) (k : Gt) (G : Good1 c) (D : Deed i) (hop : i.op = 10) : Does i c k := by
  intro g w h
  have e : doV i c k = setXV c i.rd (bif holdsV c i.cond then xV c i.rn else selNV i.sub (xV c i.rm)) := by simp [doV, hop]
  rw [e]
  refine do_some g ⟨i, c, k, 0⟩ ⟨i, _, k, 0⟩ w h 10 (by decide) hop 135 rfl (enters Tryz.func135 (by kernel_rfl) (by kernel_rfl)) (fun w h => ?_)
  cases hB : holdsV c i.cond
  · rcases D.se hop with hs | hs | hs | hs <;> rw [hs]
    · exact stChoose_N0 g i c k 0 w h hB hs _ rfl
    · exact stChoose_N1 g i c k 0 w h hB hs _ rfl
    · exact stChoose_N2 g i c k 0 w h hB hs _ rfl
    · exact stChoose_N3 g i c k 0 w h hB hs _ rfl
  · exact stChoose_Y g i c k 0 w h hB _ rfl
theorem do_11 (i : Ins) (c : Cor) (k : Gt) (G : Good1 c) (D : Deed i) (hop : i.op = 11) : Does i c k := by
  intro g w h
  have e : doV i c k = setXV c i.rd (((bif i.sub == 1 then bits .andNot .u64 (fromV c) 4095 else fromV c) + immU i) % 18446744073709551616) := by simp [doV, hop]
  rw [e]
  refine do_some g ⟨i, c, k, 0⟩ ⟨i, _, k, 0⟩ w h 11 (by decide) hop 136 rfl (enters Tryz.func136 (by kernel_rfl) (by kernel_rfl)) (fun w h => ?_)
  cases h1 : i.sub == 1
  · exact adr_N g i c k 0 w h h1 _ _ _ rfl rfl rfl
  · exact adr_P g i c k 0 w h (by simpa using h1) _ _ _ _ rfl rfl rfl rfl
theorem link_pc (c : Cor) : (setXV c 30 c.pc).pc = c.pc := by simp [setXV, regB]
theorem do_12 (i : Ins) (c : Cor) (k : Gt) (G : Good1 c) (D : Deed i) (hop : i.op = 12) : Does i c k := by
  intro g w h
  have e : doV i c k = ({ linkV i.link c with pc := toV i c } : Cor) := by simp [doV, hop]
  rw [e]
  refine do_some g ⟨i, c, k, 0⟩ ⟨i, _, k, 0⟩ w h 12 (by decide) hop 137 rfl (enters Tryz.func137 (by kernel_rfl) (by kernel_rfl)) (fun w h => ?_)
  cases hl : i.link
  · exact branch_N g i c k 0 w h hl _ _ _ rfl rfl rfl
  · exact branch_L g i c k 0 w h hl _ rfl _ _ _ (by rw [link_pc]; rfl) rfl rfl
theorem do_13 (i : Ins) (c : Cor) (k : Gt) (G : Good1 c) (D : Deed i) (hop : i.op = 13) : Does i c k := by
  intro g w h
  have e : doV i c k = jumpV c (holdsV c i.cond) (toV i c) := by simp [doV, hop]
  rw [e]
  refine do_some g ⟨i, c, k, 0⟩ ⟨i, _, k, 0⟩ w h 13 (by decide) hop 138 rfl (enters Tryz.func138 (by kernel_rfl) (by kernel_rfl)) (fun w h => ?_)
  exact stBranchCond_c g i c k 0 w h _ rfl _ _ _ rfl rfl rfl
theorem do_14 (i : Ins) (c : Cor) (k : Gt) (G : Good1 c) (D : Deed i) (hop : i.op = 14) : Does i c k := by
  intro g w h
  have e : doV i c k = jumpV c ((xV c i.rd == 0) != i.not) (toV i c) := by simp [doV, hop]
  rw [e]
  refine do_some g ⟨i, c, k, 0⟩ ⟨i, _, k, 0⟩ w h 14 (by decide) hop 139 rfl (enters Tryz.func139 (by kernel_rfl) (by kernel_rfl)) (fun w h => ?_)
  exact branchZero_c g i c k 0 w h _ rfl _ _ _ rfl rfl rfl
theorem do_15 (i : Ins) (c : Cor) (k : Gt) (G : Good1 c) (D : Deed i) (hop : i.op = 15) : Does i c k := by
  intro g w h
  have e : doV i c k = jumpV c ((bits .and .u64 (xV c i.rd / 2 ^ i.amount.toNat) 1 == 1) == i.not) (toV i c) := by simp [doV, hop]
  rw [e]
  refine do_some g ⟨i, c, k, 0⟩ ⟨i, _, k, 0⟩ w h 15 (by decide) hop 140 rfl (enters Tryz.func140 (by kernel_rfl) (by kernel_rfl)) (fun w h => ?_)
  have A := D.am (by omega)
  exact branchBit_c g i c k 0 w h _ _ rfl A.1 A.2 rfl _ _ _ rfl rfl rfl
theorem do_16 (i : Ins) (c : Cor) (k : Gt) (G : Good1 c) (D : Deed i) (hop : i.op = 16) : Does i c k := by
  intro g w h
  have e : doV i c k = ({ linkV (i.sub == 1) c with pc := xV c i.rn } : Cor) := by simp [doV, hop]
  rw [e]
  refine do_some g ⟨i, c, k, 0⟩ ⟨i, _, k, 0⟩ w h 16 (by decide) hop 141 rfl (enters Tryz.func141 (by kernel_rfl) (by kernel_rfl)) (fun w h => ?_)
  cases h1 : i.sub == 1
  · exact branchTo_N g i c k 0 w h h1
  · exact branchTo_L g i c k 0 w h (by simpa using h1) _ rfl _ rfl
theorem do_17 (i : Ins) (c : Cor) (k : Gt) (G : Good1 c) (D : Deed i) (hop : i.op = 17) : Does i c k := by
  intro g w h
  have e : doV i c k = setXV c i.rd k.value := by simp [doV, hop]
  rw [e]
  refine do_some g ⟨i, c, k, 0⟩ ⟨i, _, k, 0⟩ w h 17 (by decide) hop 142 rfl (enters Tryz.func142 (by kernel_rfl) (by kernel_rfl)) (fun w h => ?_)
  exact loaded_c g i c k 0 w h
theorem do_19 (i : Ins) (c : Cor) (k : Gt) (G : Good1 c) (D : Deed i) (hop : i.op = 19) : Does i c k := by
  intro g w h
  have e : doV i c k = setXV c i.rd k.value := by simp [doV, hop]
  rw [e]
  refine do_some g ⟨i, c, k, 0⟩ ⟨i, _, k, 0⟩ w h 19 (by decide) hop 142 rfl (enters Tryz.func142 (by kernel_rfl) (by kernel_rfl)) (fun w h => ?_)
  exact loaded_c g i c k 0 w h
theorem do_21 (i : Ins) (c : Cor) (k : Gt) (G : Good1 c) (D : Deed i) (hop : i.op = 21) : Does i c k := by
  intro g w h
  have e : doV i c k = setXV c i.rd k.value := by simp [doV, hop]
  rw [e]
  refine do_some g ⟨i, c, k, 0⟩ ⟨i, _, k, 0⟩ w h 21 (by decide) hop 142 rfl (enters Tryz.func142 (by kernel_rfl) (by kernel_rfl)) (fun w h => ?_)
  exact loaded_c g i c k 0 w h
theorem do_23 (i : Ins) (c : Cor) (k : Gt) (G : Good1 c) (D : Deed i) (hop : i.op = 23) : Does i c k := by
  intro g w h
  have e : doV i c k = setXV c i.rd k.value := by simp [doV, hop]
  rw [e]
  refine do_some g ⟨i, c, k, 0⟩ ⟨i, _, k, 0⟩ w h 23 (by decide) hop 142 rfl (enters Tryz.func142 (by kernel_rfl) (by kernel_rfl)) (fun w h => ?_)
  exact loaded_c g i c k 0 w h
theorem do_24 (i : Ins) (c : Cor) (k : Gt) (G : Good1 c) (D : Deed i) (hop : i.op = 24) : Does i c k := by
  intro g w h
  have e : doV i c k = setXV c i.rm (bif k.ok then 0 else 1) := by simp [doV, hop]
  rw [e]
  refine do_some g ⟨i, c, k, 0⟩ ⟨i, _, k, 0⟩ w h 24 (by decide) hop 143 rfl (enters Tryz.func143 (by kernel_rfl) (by kernel_rfl)) (fun w h => ?_)
  cases hk : k.ok
  · exact storedEx_N g i c k 0 w h hk
  · exact storedEx_Y g i c k 0 w h hk
theorem do_31 (i : Ins) (c : Cor) (k : Gt) (G : Good1 c) (D : Deed i) (hop : i.op = 31) : Does i c k := by
  intro g w h
  have e : doV i c k = setXV c i.rd (bif outB i.sys then k.value else getV c i.sys) := by simp [doV, hop]
  rw [e]
  refine do_some g ⟨i, c, k, 0⟩ ⟨i, _, k, 0⟩ w h 31 (by decide) hop 144 rfl (enters Tryz.func144 (by kernel_rfl) (by kernel_rfl)) (fun w h => ?_)
  cases hO : outB i.sys
  · exact stMrs_I g i c k 0 w h hO _ rfl
  · exact stMrs_O g i c k 0 w h hO
theorem do_32 (i : Ins) (c : Cor) (k : Gt) (G : Good1 c) (D : Deed i) (hop : i.op = 32) : Does i c k := by
  intro g w h
  have e : doV i c k = (bif outB i.sys then c else setV c i.sys (xV c i.rd)) := by simp [doV, hop]
  rw [e]
  refine do_some g ⟨i, c, k, 0⟩ ⟨i, _, k, 0⟩ w h 32 (by decide) hop 145 rfl (enters Tryz.func145 (by kernel_rfl) (by kernel_rfl)) (fun w h => ?_)
  cases hO : outB i.sys
  · exact stMsr_I g i c k 0 w h hO _ _ rfl (xa_in G.x _) rfl
  · exact stMsr_O g i c k 0 w h hO
theorem do_33 (i : Ins) (c : Cor) (k : Gt) (G : Good1 c) (D : Deed i) (hop : i.op = 33) : Does i c k := by
  intro g w h
  have e : doV i c k = (bif bits .and .i64 i.imm 2 != 0 then { c with mask := i.sub == 0 } else c) := by simp [doV, hop]
  rw [e]
  refine do_some g ⟨i, c, k, 0⟩ ⟨i, _, k, 0⟩ w h 33 (by decide) hop 146 rfl (enters Tryz.func146 (by kernel_rfl) (by kernel_rfl)) (fun w h => ?_)
  cases hi : bits .and .i64 i.imm 2 != 0
  · exact msrMask_N g i c k 0 w h hi
  · exact msrMask_Y g i c k 0 w h hi
theorem do_36 (i : Ins) (c : Cor) (k : Gt) (G : Good1 c) (D : Deed i) (hop : i.op = 36) : Does i c k := by
  intro g w h
  have e : doV i c k = backV c := by simp [doV, hop]
  rw [e]
  refine do_some g ⟨i, c, k, 0⟩ ⟨i, _, k, 0⟩ w h 36 (by decide) hop 147 rfl (enters Tryz.func147 (by kernel_rfl) (by kernel_rfl)) (fun w h => ?_)
  exact stEret_c g i c k 0 w h rfl _ G.right G.spsr rfl
theorem do_37 (i : Ins) (c : Cor) (k : Gt) (G : Good1 c) (D : Deed i) (hop : i.op = 37) : Does i c k := by
  intro g w h
  have e : doV i c k = hintC i c := by simp [doV, hop]
  rw [e]
  refine do_some g ⟨i, c, k, 0⟩ ⟨i, _, k, 0⟩ w h 37 (by decide) hop 148 rfl (enters Tryz.func148 (by kernel_rfl) (by kernel_rfl)) (fun w h => ?_)
  by_cases h2 : i.imm = 2
  · by_cases hv : c.event = true
    · have e2 : hintC i c = { c with event := false } := by unfold hintC; rw [if_pos h2]; simp only [hv, cond_true]
      rw [e2]
      exact hint_2Y g i c k 0 w h h2 hv
    · have hv : c.event = false := by simpa using hv
      have e2 : hintC i c = { c with wait := 2 } := by unfold hintC; rw [if_pos h2]; simp only [hv, cond_false]
      rw [e2]
      exact hint_2N g i c k 0 w h h2 hv
  by_cases h3 : i.imm = 3
  · have e2 : hintC i c = { c with wait := 1 } := by unfold hintC; rw [if_neg h2, if_pos h3]
    rw [e2]
    exact hint_3 g i c k 0 w h h3
  by_cases h4 : i.imm = 4
  · have e2 : hintC i c = { c with event := true } := by unfold hintC; rw [if_neg h2, if_neg h3, if_pos (.inl h4)]
    rw [e2]
    exact hint_4 g i c k 0 w h h4
  by_cases h5 : i.imm = 5
  · have e2 : hintC i c = { c with event := true } := by unfold hintC; rw [if_neg h2, if_neg h3, if_pos (.inr h5)]
    rw [e2]
    exact hint_5 g i c k 0 w h h5
  have e2 : hintC i c = c := by unfold hintC; rw [if_neg h2, if_neg h3, if_neg (by omega)]
  rw [e2]
  exact hint_0 g i c k 0 w h (by simpa using h2) (by simpa using h3) (by simpa using h4) (by simpa using h5)
theorem do_nil (i : Ins) (c : Cor) (k : Gt) (n : Nat) (hn : n < 38) (hop : i.op = (n : Int)) (hr : ∀ g, (doRow g)[n]? = some .nilFunc) (e : doV i c k = c) : Does i c k := by
  intro g w h
  rw [e]
  exact do_none g ⟨i, c, k, 0⟩ w h n hn hop (hr g)
theorem do_c (i : Ins) (c : Cor) (k : Gt) (G : Good1 c) (D : Deed i) : Does i c k := by
  have := D.op
  rcases (by omega : i.op = 0 ∨ i.op = 1 ∨ i.op = 2 ∨ i.op = 3 ∨ i.op = 4 ∨ i.op = 5 ∨ i.op = 6 ∨ i.op = 7 ∨ i.op = 8 ∨ i.op = 9 ∨ i.op = 10 ∨ i.op = 11 ∨ i.op = 12 ∨ i.op = 13 ∨ i.op = 14 ∨ i.op = 15 ∨ i.op = 16 ∨ i.op = 17 ∨ i.op = 18 ∨ i.op = 19 ∨ i.op = 20 ∨ i.op = 21 ∨ i.op = 22 ∨ i.op = 23 ∨ i.op = 24 ∨ i.op = 25 ∨ i.op = 26 ∨ i.op = 27 ∨ i.op = 28 ∨ i.op = 29 ∨ i.op = 30 ∨ i.op = 31 ∨ i.op = 32 ∨ i.op = 33 ∨ i.op = 34 ∨ i.op = 35 ∨ i.op = 36 ∨ i.op = 37) with hop | hop | hop | hop | hop | hop | hop | hop | hop | hop | hop | hop | hop | hop | hop | hop | hop | hop | hop | hop | hop | hop | hop | hop | hop | hop | hop | hop | hop | hop | hop | hop | hop | hop | hop | hop | hop | hop
  · exact do_nil i c k 0 (by decide) hop (fun _ => rfl) (by simp [doV, hop])
  · exact do_1 i c k G D hop
  · exact do_2 i c k G D hop
  · exact do_3 i c k G D hop
  · exact do_4 i c k G D hop
  · exact do_5 i c k G D hop
  · exact do_6 i c k G D hop
  · exact do_7 i c k G D hop
  · exact do_8 i c k G D hop
  · exact do_9 i c k G D hop
  · exact do_10 i c k G D hop
  · exact do_11 i c k G D hop
  · exact do_12 i c k G D hop
  · exact do_13 i c k G D hop
  · exact do_14 i c k G D hop
  · exact do_15 i c k G D hop
  · exact do_16 i c k G D hop
  · exact do_17 i c k G D hop
  · exact do_nil i c k 18 (by decide) hop (fun _ => rfl) (by simp [doV, hop])
  · exact do_19 i c k G D hop
  · exact do_nil i c k 20 (by decide) hop (fun _ => rfl) (by simp [doV, hop])
  · exact do_21 i c k G D hop
  · exact do_nil i c k 22 (by decide) hop (fun _ => rfl) (by simp [doV, hop])
  · exact do_23 i c k G D hop
  · exact do_24 i c k G D hop
  · exact do_nil i c k 25 (by decide) hop (fun _ => rfl) (by simp [doV, hop])
  · exact do_nil i c k 26 (by decide) hop (fun _ => rfl) (by simp [doV, hop])
  · exact do_nil i c k 27 (by decide) hop (fun _ => rfl) (by simp [doV, hop])
  · exact do_nil i c k 28 (by decide) hop (fun _ => rfl) (by simp [doV, hop])
  · exact do_nil i c k 29 (by decide) hop (fun _ => rfl) (by simp [doV, hop])
  · exact do_nil i c k 30 (by decide) hop (fun _ => rfl) (by simp [doV, hop])
  · exact do_31 i c k G D hop
  · exact do_32 i c k G D hop
  · exact do_33 i c k G D hop
  · exact do_nil i c k 34 (by decide) hop (fun _ => rfl) (by simp [doV, hop])
  · exact do_nil i c k 35 (by decide) hop (fun _ => rfl) (by simp [doV, hop])
  · exact do_36 i c k G D hop
  · exact do_37 i c k G D hop
end Go.Proofs.YtbjcdpmhmebjnaaGreat
