/- What is done to a step, found by its Op, for every Op: contracts. -/
import Derived.Test.YtbjcdpmhmebjnaaGreatD22
import Derived.Test.YtbjcdpmhmebjnaaGreatD28
import Derived.Test.YtbjcdpmhmebjnaaGreatD23
import Derived.Test.YtbjcdpmhmebjnaaGreatD24
import Derived.Test.YtbjcdpmhmebjnaaGreatD25
import Derived.Deep.LoopGhost
import Derived.BigQuiet
namespace Go.Proofs.YtbjcdpmhmebjnaaGreat
open Go.RowKit
set_option linter.unusedVariables false

set_option maxRecDepth 4000 in
set_option maxHeartbeats 4000000 in
theorem do_none (g : Nat) (s : Stp) (w : World) (h : w.heap[g]? = some (.cells s.cells 58)) (k : Nat) (hk : k < 38) (hop : s.i.op = (k : Int)) (hrow : (doRow g)[k]? = some .nilFunc) :
    Calls Tryz.prog 54 #[.pointer (some ⟨g, 0, none⟩)] w fun e w' => e = .returned (.tuple #[]) ∧ w'.heap[g]? = some (.cells s.cells 58) ∧ But g w w' := by
  go_enter Tryz.func54, Tryz.ntmps54
  have H := has_none w
  go_upto_region 1 with (first | ((with_reducible refine wpList_builtG rfl 115 _ rfl (doRow g) (by kernel_rfl) ?_); simp only [Act.put, List.setIfInBounds_toArray, List.set_cons_succ, List.set_cons_zero]) | ((with_reducible refine wpList_store_new H rfl 115 _ _ rfl (doRow g) rfl rfl (info111 g) ?_ (doRow_one g) ?_); (focus rfl); intro w2 H2; simp only [Act.put]))
  have hs := keep_row h H2.below
  have c0 := at_i hs 0 (.int .i64 s.i.op) (by decide) rfl
  rw [hop] at c0
  have ck := H2.at List.mem_cons_self k _ hrow
  have hB := H2.below
  clear H2
  generalize w.heap.size = z at ck ⊢
  have hk1 : (k : Int) < 38 := by omega
  go_wp2
  first | go_end0 | ((try simp only [Exit.inBlock, Exit.then]); refine bodyPost_ret (results_none rfl _ _ _) rfl ?_)
  exact ⟨rfl, hs, but_below hB⟩
/-- What is known of a state. -/
structure Good1 (c : Cor) : Prop where
  x : ∀ (i : Nat) (h : i < 31), U64 c.x[i]
  sp0 : U64 c.sp0
  sp1 : U64 c.sp1
  spsr : U64 c.spsr
  right : rightC c = true
abbrev Does (i : Ins) (c : Cor) (k : Gt) : Prop := ∀ (g : Nat) (w : World), w.heap[g]? = some (.cells (Stp.cells ⟨i, c, k, 0⟩) 58) → Calls Tryz.prog 54 #[.pointer (some ⟨g, 0, none⟩)] w fun e w' => e = .returned (.tuple #[]) ∧ w'.heap[g]? = some (.cells (Stp.cells ⟨i, doV i c k, k, 0⟩) 58) ∧ But g w w'
theorem do_1 (i : Ins) (c : Cor) (k : Gt) (G : Good1 c) (D : Deed i) (hop : i.op = 1) : Does i c k := by
  intro g w h
  have e : doV i c k = withImmV i (addD i c (spX c i.rn) (immS2 i)) (addNV i (spX c i.rn) (immS2 i)) := by simp [doV, hop]
  rw [e]
  refine do_some g ⟨i, c, k, 0⟩ ⟨i, _, k, 0⟩ w h 1 (by decide) hop 126 rfl (enters Tryz.func126 (by kernel_rfl) (by kernel_rfl)) (fun w h => ?_)
  have A := D.am (by omega)
  unfold addD addNV sumB
  cases hm : i.minus
  · exact stAddImm_A g i c k 0 w h hm A.1 A.2 _ _ _ _ rfl (spx_in G.x G.sp0 G.sp1 _) rfl rfl (wrapU_in _) _ rfl rfl
  · exact stAddImm_S g i c k 0 w h hm A.1 A.2 _ _ _ _ _ rfl (spx_in G.x G.sp0 G.sp1 _) rfl rfl (mx_in _) rfl _ rfl rfl
theorem do_2 (i : Ins) (c : Cor) (k : Gt) (G : Good1 c) (D : Deed i) (hop : i.op = 2) : Does i c k := by
  intro g w h
  have e : doV i c k = setXV (addD i c (xV c i.rn) (shNV i c)) i.rd (addNV i (xV c i.rn) (shNV i c)) := by simp [doV, hop]
  rw [e]
  refine do_some g ⟨i, c, k, 0⟩ ⟨i, _, k, 0⟩ w h 2 (by decide) hop 127 rfl (enters Tryz.func127 (by kernel_rfl) (by kernel_rfl)) (fun w h => ?_)
  unfold addD addNV sumB
  cases hm : i.minus
  · exact stAddReg_A g i c k 0 w h hm _ _ _ _ _ rfl rfl (xa_in G.x _) (xa_in G.x _) rfl rfl (shift_in (xa_in G.x _) _ _) _ rfl rfl
  · exact stAddReg_S g i c k 0 w h hm _ _ _ _ _ _ rfl rfl (xa_in G.x _) (xa_in G.x _) rfl rfl (mx_in _) rfl _ rfl rfl
theorem logic_any (g : Nat) (i : Ins) (c : Cor) (k : Gt) (a b : Int) (ha : U64 a) (hb : U64 b) (hs : i.sub = 0 ∨ i.sub = 1 ∨ i.sub = 2) (w : World) (h : w.heap[g]? = some (.cells (Stp.cells ⟨i, c, k, 0⟩) 58)) :
    Calls Tryz.prog 198 #[.pointer (some ⟨g, 0, none⟩), .int .u64 a, .int .u64 b] w fun e2 w' => e2 = .returned (.int .u64 (logNV i a b)) ∧ w'.heap[g]? = some (.cells (Stp.cells ⟨i, setfV i c (logF (logNV i a b)), k, 0⟩) 58) ∧ But g w w' := by
  unfold logNV
  cases hn : i.not
  · rcases hs with hs | hs | hs <;> rw [hs]
    · exact stLogic_P0 g i c k 0 w h hs hn a b _ ha hb _ rfl rfl
    · exact stLogic_P1 g i c k 0 w h hs hn a b _ ha hb _ rfl rfl
    · exact stLogic_P2 g i c k 0 w h hs hn a b _ ha hb _ rfl rfl
  · rcases hs with hs | hs | hs <;> rw [hs]
    · exact stLogic_N0 g i c k 0 w h hs hn a b _ _ ha (mx_in _) rfl _ rfl rfl
    · exact stLogic_N1 g i c k 0 w h hs hn a b _ _ ha (mx_in _) rfl _ rfl rfl
    · exact stLogic_N2 g i c k 0 w h hs hn a b _ _ ha (mx_in _) rfl _ rfl rfl
theorem do_3 (i : Ins) (c : Cor) (k : Gt) (G : Good1 c) (D : Deed i) (hop : i.op = 3) : Does i c k := by
  intro g w h
  have e : doV i c k = setXV (setfV i c (logF (logNV i (xV c i.rn) (shNV i c)))) i.rd (logNV i (xV c i.rn) (shNV i c)) := by simp [doV, hop]
  rw [e]
  refine do_some g ⟨i, c, k, 0⟩ ⟨i, _, k, 0⟩ w h 3 (by decide) hop 128 rfl (enters Tryz.func128 (by kernel_rfl) (by kernel_rfl)) (fun w h => ?_)
  exact stLogReg_c g i c k 0 w h _ _ _ _ _ rfl rfl (xa_in G.x _) rfl rfl _ (fun w1 h1 => logic_any g i c k _ _ (xa_in G.x _) (shift_in (xa_in G.x _) _ _) (D.lg (by omega)) w1 h1)
theorem do_4 (i : Ins) (c : Cor) (k : Gt) (G : Good1 c) (D : Deed i) (hop : i.op = 4) : Does i c k := by
  intro g w h
  have e : doV i c k = withImmV i (setfV i c (logF (logNV i (xV c i.rn) (maskV i.amount i.imm i.imm2)))) (logNV i (xV c i.rn) (maskV i.amount i.imm i.imm2)) := by simp [doV, hop]
  rw [e]
  refine do_some g ⟨i, c, k, 0⟩ ⟨i, _, k, 0⟩ w h 4 (by decide) hop 129 rfl (enters Tryz.func129 (by kernel_rfl) (by kernel_rfl)) (fun w h => ?_)
  exact stLogImm_c g i c k 0 w h _ _ _ _ rfl rfl rfl _ (fun w1 h1 => logic_any g i c k _ _ (xa_in G.x _) (mask_in _ _ _) (D.lg (by omega)) w1 h1)
theorem do_5 (i : Ins) (c : Cor) (k : Gt) (G : Good1 c) (D : Deed i) (hop : i.op = 5) : Does i c k := by
  intro g w h
  have e : doV i c k = setXV c i.rd (movNV i c) := by simp [doV, hop]
  rw [e]
  refine do_some g ⟨i, c, k, 0⟩ ⟨i, _, k, 0⟩ w h 5 (by decide) hop 130 rfl (enters Tryz.func130 (by kernel_rfl) (by kernel_rfl)) (fun w h => ?_)
  have A := D.am (by omega)
  unfold movNV
  cases h0 : i.sub == 0
  · cases h3 : i.sub == 3
    · exact stMovWide_Z g i c k 0 w h h0 h3 A.1 A.2 _ _ rfl rfl
    · exact stMovWide_K g i c k 0 w h (by simpa using h3) A.1 A.2 _ _ rfl rfl _ _ rfl rfl
  · exact stMovWide_N g i c k 0 w h (by simpa using h0) A.1 A.2 _ _ rfl rfl
theorem do_6 (i : Ins) (c : Cor) (k : Gt) (G : Good1 c) (D : Deed i) (hop : i.op = 6) : Does i c k := by
  intro g w h
  have e : doV i c k = setXV c i.rd (moveV (xV c i.rn) (i.sub == 0) i.imm i.imm2) := by simp [doV, hop]
  rw [e]
  refine do_some g ⟨i, c, k, 0⟩ ⟨i, _, k, 0⟩ w h 6 (by decide) hop 131 rfl (enters Tryz.func131 (by kernel_rfl) (by kernel_rfl)) (fun w h => ?_)
  exact stBitfield_c g i c k 0 w h _ _ _ rfl rfl rfl
theorem do_7 (i : Ins) (c : Cor) (k : Gt) (G : Good1 c) (D : Deed i) (hop : i.op = 7) : Does i c k := by
  intro g w h
  have e : doV i c k = setXV c i.rd (shiftV (xV c i.rn) i.sub (xV c i.rm % 64)) := by simp [doV, hop]
  rw [e]
  refine do_some g ⟨i, c, k, 0⟩ ⟨i, _, k, 0⟩ w h 7 (by decide) hop 132 rfl (enters Tryz.func132 (by kernel_rfl) (by kernel_rfl)) (fun w h => ?_)
  exact stShiftReg_c g i c k 0 w h _ _ _ _ rfl rfl (xa_in G.x _) (xa_in G.x _) rfl rfl
theorem do_8 (i : Ins) (c : Cor) (k : Gt) (G : Good1 c) (D : Deed i) (hop : i.op = 8) : Does i c k := by
  intro g w h
  have e : doV i c k = setXV c i.rd (reckonV (bif i.minus then 2 else 1) (xV c i.ra) (reckonV 6 (xV c i.rn) (xV c i.rm))) := by simp [doV, hop]
  rw [e]
  refine do_some g ⟨i, c, k, 0⟩ ⟨i, _, k, 0⟩ w h 8 (by decide) hop 133 rfl (enters Tryz.func133 (by kernel_rfl) (by kernel_rfl)) (fun w h => ?_)
  have hz : U64 (reckonV 6 (xV c i.rn) (xV c i.rm)) := by
    show U64 ((xV c i.rn * xV c i.rm) % 18446744073709551616)
    constructor <;> omega
  cases hm : i.minus
  · exact stMultiply_A g i c k 0 w h hm _ _ _ _ _ rfl rfl rfl (xa_in G.x _) (xa_in G.x _) (xa_in G.x _) hz rfl rfl
  · exact stMultiply_S g i c k 0 w h hm _ _ _ _ _ rfl rfl rfl (xa_in G.x _) (xa_in G.x _) (xa_in G.x _) hz rfl rfl
theorem do_9 (i : Ins) (c : Cor) (k : Gt) (G : Good1 c) (D : Deed i) (hop : i.op = 9) : Does i c k := by
  intro g w h
  have e : doV i c k = setXV c i.rd (reckonV (7 + i.sub) (xV c i.rn) (xV c i.rm)) := by simp [doV, hop]
  rw [e]
  refine do_some g ⟨i, c, k, 0⟩ ⟨i, _, k, 0⟩ w h 9 (by decide) hop 134 rfl (enters Tryz.func134 (by kernel_rfl) (by kernel_rfl)) (fun w h => ?_)
  rcases D.dv hop with hs | hs <;> rw [hs]
  · exact stDivide_0 g i c k 0 w h hs _ _ _ rfl rfl (xa_in G.x _) (xa_in G.x _) rfl
  · exact stDivide_1 g i c k 0 w h hs _ _ _ rfl rfl (xa_in G.x _) (xa_in G.x _) rfl
theorem do_10 (i : Ins) (c : Cor) (k : Gt) (G : Good1 c) (D : Deed i) (hop : i.op = 10) : Does i c k := by
  intro g w h
  have e : doV i c k = setXV c i.rd (bif holdsV c i.cond then xV c i.rn else selNV i.sub (xV c i.rm)) := by simp [doV, hop]
  rw [e]
  refine do_some g ⟨i, c, k, 0⟩ ⟨i, _, k, 0⟩ w h 10 (by decide) hop 135 rfl (enters Tryz.func135 (by kernel_rfl) (by kernel_rfl)) (fun w h => ?_)
  cases hB : holdsV c i.cond
  · rcases D.se hop with hs | hs | hs | hs <;> rw [hs]
    · exact stChoose_N0 g i c k 0 w h hB hs _ rfl
    · exact stChoose_N1 g i c k 0 w h hB hs _ rfl
    · exact stChoose_N2 g i c k 0 w h hB hs _ rfl
    · exact stChoose_N3 g i c k 0 w h hB hs _ rfl
  · exact stChoose_Y g i c k 0 w h hB _ rfl
theorem do_11 (i : Ins) (c : Cor) (k : Gt) (G : Good1 c) (D : Deed i) (hop : i.op = 11) : Does i c k := by
  intro g w h
  have e : doV i c k = setXV c i.rd (((bif i.sub == 1 then bits .andNot .u64 (fromV c) 4095 else fromV c) + immU i) % 18446744073709551616) := by simp [doV, hop]
  rw [e]
  refine do_some g ⟨i, c, k, 0⟩ ⟨i, _, k, 0⟩ w h 11 (by decide) hop 136 rfl (enters Tryz.func136 (by kernel_rfl) (by kernel_rfl)) (fun w h => ?_)
  cases h1 : i.sub == 1
  · exact adr_N g i c k 0 w h h1 _ _ _ rfl rfl rfl
  · exact adr_P g i c k 0 w h (by simpa using h1) _ _ _ _ rfl rfl rfl rfl
theorem link_pc (c : Cor) : (setXV c 30 c.pc).pc = c.pc := by simp [setXV, regB]
theorem do_12 (i : Ins) (c : Cor) (k : Gt) (G : Good1 c) (D : Deed i) (hop : i.op = 12) : Does i c k := by
  intro g w h
  have e : doV i c k = ({ linkV i.link c with pc := toV i c } : Cor) := by simp [doV, hop]
  rw [e]
  refine do_some g ⟨i, c, k, 0⟩ ⟨i, _, k, 0⟩ w h 12 (by decide) hop 137 rfl (enters Tryz.func137 (by kernel_rfl) (by kernel_rfl)) (fun w h => ?_)
  cases hl : i.link
  · exact branch_N g i c k 0 w h hl _ _ _ rfl rfl rfl
  · exact branch_L g i c k 0 w h hl _ rfl _ _ _ (by rw [link_pc]; rfl) rfl rfl
theorem do_13 (i : Ins) (c : Cor) (k : Gt) (G : Good1 c) (D : Deed i) (hop : i.op = 13) : Does i c k := by
  intro g w h
  have e : doV i c k = jumpV c (holdsV c i.cond) (toV i c) := by simp [doV, hop]
  rw [e]
  refine do_some g ⟨i, c, k, 0⟩ ⟨i, _, k, 0⟩ w h 13 (by decide) hop 138 rfl (enters Tryz.func138 (by kernel_rfl) (by kernel_rfl)) (fun w h => ?_)
  exact stBranchCond_c g i c k 0 w h _ rfl _ _ _ rfl rfl rfl
theorem do_14 (i : Ins) (c : Cor) (k : Gt) (G : Good1 c) (D : Deed i) (hop : i.op = 14) : Does i c k := by
  intro g w h
  have e : doV i c k = jumpV c ((xV c i.rd == 0) != i.not) (toV i c) := by simp [doV, hop]
  rw [e]
  refine do_some g ⟨i, c, k, 0⟩ ⟨i, _, k, 0⟩ w h 14 (by decide) hop 139 rfl (enters Tryz.func139 (by kernel_rfl) (by kernel_rfl)) (fun w h => ?_)
  exact branchZero_c g i c k 0 w h _ rfl _ _ _ rfl rfl rfl
theorem do_15 (i : Ins) (c : Cor) (k : Gt) (G : Good1 c) (D : Deed i) (hop : i.op = 15) : Does i c k := by
  intro g w h
  have e : doV i c k = jumpV c ((bits .and .u64 (xV c i.rd / 2 ^ i.amount.toNat) 1 == 1) == i.not) (toV i c) := by simp [doV, hop]
  rw [e]
  refine do_some g ⟨i, c, k, 0⟩ ⟨i, _, k, 0⟩ w h 15 (by decide) hop 140 rfl (enters Tryz.func140 (by kernel_rfl) (by kernel_rfl)) (fun w h => ?_)
  have A := D.am (by omega)
  exact branchBit_c g i c k 0 w h _ _ rfl A.1 A.2 rfl _ _ _ rfl rfl rfl
theorem do_16 (i : Ins) (c : Cor) (k : Gt) (G : Good1 c) (D : Deed i) (hop : i.op = 16) : Does i c k := by
  intro g w h
  have e : doV i c k = ({ linkV (i.sub == 1) c with pc := xV c i.rn } : Cor) := by simp [doV, hop]
  rw [e]
  refine do_some g ⟨i, c, k, 0⟩ ⟨i, _, k, 0⟩ w h 16 (by decide) hop 141 rfl (enters Tryz.func141 (by kernel_rfl) (by kernel_rfl)) (fun w h => ?_)
  cases h1 : i.sub == 1
  · exact branchTo_N g i c k 0 w h h1
  · exact branchTo_L g i c k 0 w h (by simpa using h1) _ rfl _ rfl
theorem do_17 (i : Ins) (c : Cor) (k : Gt) (G : Good1 c) (D : Deed i) (hop : i.op = 17) : Does i c k := by
  intro g w h
  have e : doV i c k = setXV c i.rd k.value := by simp [doV, hop]
  rw [e]
  refine do_some g ⟨i, c, k, 0⟩ ⟨i, _, k, 0⟩ w h 17 (by decide) hop 142 rfl (enters Tryz.func142 (by kernel_rfl) (by kernel_rfl)) (fun w h => ?_)
  exact loaded_c g i c k 0 w h
theorem do_19 (i : Ins) (c : Cor) (k : Gt) (G : Good1 c) (D : Deed i) (hop : i.op = 19) : Does i c k := by
  intro g w h
  have e : doV i c k = setXV c i.rd k.value := by simp [doV, hop]
  rw [e]
  refine do_some g ⟨i, c, k, 0⟩ ⟨i, _, k, 0⟩ w h 19 (by decide) hop 142 rfl (enters Tryz.func142 (by kernel_rfl) (by kernel_rfl)) (fun w h => ?_)
  exact loaded_c g i c k 0 w h
theorem do_21 (i : Ins) (c : Cor) (k : Gt) (G : Good1 c) (D : Deed i) (hop : i.op = 21) : Does i c k := by
  intro g w h
  have e : doV i c k = setXV c i.rd k.value := by simp [doV, hop]
  rw [e]
  refine do_some g ⟨i, c, k, 0⟩ ⟨i, _, k, 0⟩ w h 21 (by decide) hop 142 rfl (enters Tryz.func142 (by kernel_rfl) (by kernel_rfl)) (fun w h => ?_)
  exact loaded_c g i c k 0 w h
theorem do_23 (i : Ins) (c : Cor) (k : Gt) (G : Good1 c) (D : Deed i) (hop : i.op = 23) : Does i c k := by
  intro g w h
  have e : doV i c k = setXV c i.rd k.value := by simp [doV, hop]
  rw [e]
  refine do_some g ⟨i, c, k, 0⟩ ⟨i, _, k, 0⟩ w h 23 (by decide) hop 142 rfl (enters Tryz.func142 (by kernel_rfl) (by kernel_rfl)) (fun w h => ?_)
  exact loaded_c g i c k 0 w h
theorem do_24 (i : Ins) (c : Cor) (k : Gt) (G : Good1 c) (D : Deed i) (hop : i.op = 24) : Does i c k := by
  intro g w h
  have e : doV i c k = setXV c i.rm (bif k.ok then 0 else 1) := by simp [doV, hop]
  rw [e]
  refine do_some g ⟨i, c, k, 0⟩ ⟨i, _, k, 0⟩ w h 24 (by decide) hop 143 rfl (enters Tryz.func143 (by kernel_rfl) (by kernel_rfl)) (fun w h => ?_)
  cases hk : k.ok
  · exact storedEx_N g i c k 0 w h hk
  · exact storedEx_Y g i c k 0 w h hk
theorem do_31 (i : Ins) (c : Cor) (k : Gt) (G : Good1 c) (D : Deed i) (hop : i.op = 31) : Does i c k := by
  intro g w h
  have e : doV i c k = setXV c i.rd (bif outB i.sys then k.value else getV c i.sys) := by simp [doV, hop]
  rw [e]
  refine do_some g ⟨i, c, k, 0⟩ ⟨i, _, k, 0⟩ w h 31 (by decide) hop 144 rfl (enters Tryz.func144 (by kernel_rfl) (by kernel_rfl)) (fun w h => ?_)
  cases hO : outB i.sys
  · exact stMrs_I g i c k 0 w h hO _ rfl
  · exact stMrs_O g i c k 0 w h hO
theorem do_32 (i : Ins) (c : Cor) (k : Gt) (G : Good1 c) (D : Deed i) (hop : i.op = 32) : Does i c k := by
  intro g w h
  have e : doV i c k = (bif outB i.sys then c else setV c i.sys (xV c i.rd)) := by simp [doV, hop]
  rw [e]
  refine do_some g ⟨i, c, k, 0⟩ ⟨i, _, k, 0⟩ w h 32 (by decide) hop 145 rfl (enters Tryz.func145 (by kernel_rfl) (by kernel_rfl)) (fun w h => ?_)
  cases hO : outB i.sys
  · exact stMsr_I g i c k 0 w h hO _ _ rfl (xa_in G.x _) rfl
  · exact stMsr_O g i c k 0 w h hO
theorem do_33 (i : Ins) (c : Cor) (k : Gt) (G : Good1 c) (D : Deed i) (hop : i.op = 33) : Does i c k := by
  intro g w h
  have e : doV i c k = (bif bits .and .i64 i.imm 2 != 0 then { c with mask := i.sub == 0 } else c) := by simp [doV, hop]
  rw [e]
  refine do_some g ⟨i, c, k, 0⟩ ⟨i, _, k, 0⟩ w h 33 (by decide) hop 146 rfl (enters Tryz.func146 (by kernel_rfl) (by kernel_rfl)) (fun w h => ?_)
  cases hi : bits .and .i64 i.imm 2 != 0
  · exact msrMask_N g i c k 0 w h hi
  · exact msrMask_Y g i c k 0 w h hi
theorem do_36 (i : Ins) (c : Cor) (k : Gt) (G : Good1 c) (D : Deed i) (hop : i.op = 36) : Does i c k := by
  intro g w h
  have e : doV i c k = backV c := by simp [doV, hop]
  rw [e]
  refine do_some g ⟨i, c, k, 0⟩ ⟨i, _, k, 0⟩ w h 36 (by decide) hop 147 rfl (enters Tryz.func147 (by kernel_rfl) (by kernel_rfl)) (fun w h => ?_)
  exact stEret_c g i c k 0 w h rfl _ G.right G.spsr rfl
theorem do_37 (i : Ins) (c : Cor) (k : Gt) (G : Good1 c) (D : Deed i) (hop : i.op = 37) : Does i c k := by
  intro g w h
  have e : doV i c k = hintC i c := by simp [doV, hop]
  rw [e]
  refine do_some g ⟨i, c, k, 0⟩ ⟨i, _, k, 0⟩ w h 37 (by decide) hop 148 rfl (enters Tryz.func148 (by kernel_rfl) (by kernel_rfl)) (fun w h => ?_)
  by_cases h2 : i.imm = 2
  · by_cases hv : c.event = true
    · have e2 : hintC i c = { c with event := false } := by unfold hintC; rw [if_pos h2]; simp only [hv, cond_true]
      rw [e2]
      exact hint_2Y g i c k 0 w h h2 hv
    · have hv : c.event = false := by simpa using hv
      have e2 : hintC i c = { c with wait := 2 } := by unfold hintC; rw [if_pos h2]; simp only [hv, cond_false]
      rw [e2]
      exact hint_2N g i c k 0 w h h2 hv
  by_cases h3 : i.imm = 3
  · have e2 : hintC i c = { c with wait := 1 } := by unfold hintC; rw [if_neg h2, if_pos h3]
    rw [e2]
    exact hint_3 g i c k 0 w h h3
  by_cases h4 : i.imm = 4
  · have e2 : hintC i c = { c with event := true } := by unfold hintC; rw [if_neg h2, if_neg h3, if_pos (.inl h4)]
    rw [e2]
    exact hint_4 g i c k 0 w h h4
  by_cases h5 : i.imm = 5
  · have e2 : hintC i c = { c with event := true } := by unfold hintC; rw [if_neg h2, if_neg h3, if_pos (.inr h5)]
    rw [e2]
    exact hint_5 g i c k 0 w h h5
  have e2 : hintC i c = c := by unfold hintC; rw [if_neg h2, if_neg h3, if_neg (by omega)]
  rw [e2]
  exact hint_0 g i c k 0 w h (by simpa using h2) (by simpa using h3) (by simpa using h4) (by simpa using h5)
theorem do_nil (i : Ins) (c : Cor) (k : Gt) (n : Nat) (hn : n < 38) (hop : i.op = (n : Int)) (hr : ∀ g, (doRow g)[n]? = some .nilFunc) (e : doV i c k = c) : Does i c k := by
  intro g w h
  rw [e]
  exact do_none g ⟨i, c, k, 0⟩ w h n hn hop (hr g)
theorem do_c (i : Ins) (c : Cor) (k : Gt) (G : Good1 c) (D : Deed i) : Does i c k := by
  have := D.op
  rcases (by omega : i.op = 0 ∨ i.op = 1 ∨ i.op = 2 ∨ i.op = 3 ∨ i.op = 4 ∨ i.op = 5 ∨ i.op = 6 ∨ i.op = 7 ∨ i.op = 8 ∨ i.op = 9 ∨ i.op = 10 ∨ i.op = 11 ∨ i.op = 12 ∨ i.op = 13 ∨ i.op = 14 ∨ i.op = 15 ∨ i.op = 16 ∨ i.op = 17 ∨ i.op = 18 ∨ i.op = 19 ∨ i.op = 20 ∨ i.op = 21 ∨ i.op = 22 ∨ i.op = 23 ∨ i.op = 24 ∨ i.op = 25 ∨ i.op = 26 ∨ i.op = 27 ∨ i.op = 28 ∨ i.op = 29 ∨ i.op = 30 ∨ i.op = 31 ∨ i.op = 32 ∨ i.op = 33 ∨ i.op = 34 ∨ i.op = 35 ∨ i.op = 36 ∨ i.op = 37) with hop | hop | hop | hop | hop | hop | hop | hop | hop | hop | hop | hop | hop | hop | hop | hop | hop | hop | hop | hop | hop | hop | hop | hop | hop | hop | hop | hop | hop | hop | hop | hop | hop | hop | hop | hop | hop | hop
  · exact do_nil i c k 0 (by decide) hop (fun _ => rfl) (by simp [doV, hop])
  · exact do_1 i c k G D hop
  · exact do_2 i c k G D hop
  · exact do_3 i c k G D hop
  · exact do_4 i c k G D hop
  · exact do_5 i c k G D hop
  · exact do_6 i c k G D hop
  · exact do_7 i c k G D hop
  · exact do_8 i c k G D hop
  · exact do_9 i c k G D hop
  · exact do_10 i c k G D hop
  · exact do_11 i c k G D hop
  · exact do_12 i c k G D hop
  · exact do_13 i c k G D hop
  · exact do_14 i c k G D hop
  · exact do_15 i c k G D hop
  · exact do_16 i c k G D hop
  · exact do_17 i c k G D hop
  · exact do_nil i c k 18 (by decide) hop (fun _ => rfl) (by simp [doV, hop])
  · exact do_19 i c k G D hop
  · exact do_nil i c k 20 (by decide) hop (fun _ => rfl) (by simp [doV, hop])
  · exact do_21 i c k G D hop
  · exact do_nil i c k 22 (by decide) hop (fun _ => rfl) (by simp [doV, hop])
  · exact do_23 i c k G D hop
  · exact do_24 i c k G D hop
  · exact do_nil i c k 25 (by decide) hop (fun _ => rfl) (by simp [doV, hop])
  · exact do_nil i c k 26 (by decide) hop (fun _ => rfl) (by simp [doV, hop])
  · exact do_nil i c k 27 (by decide) hop (fun _ => rfl) (by simp [doV, hop])
  · exact do_nil i c k 28 (by decide) hop (fun _ => rfl) (by simp [doV, hop])
  · exact do_nil i c k 29 (by decide) hop (fun _ => rfl) (by simp [doV, hop])
  · exact do_nil i c k 30 (by decide) hop (fun _ => rfl) (by simp [doV, hop])
  · exact do_31 i c k G D hop
  · exact do_32 i c k G D hop
  · exact do_33 i c k G D hop
  · exact do_nil i c k 34 (by decide) hop (fun _ => rfl) (by simp [doV, hop])
  · exact do_nil i c k 35 (by decide) hop (fun _ => rfl) (by simp [doV, hop])
  · exact do_36 i c k G D hop
  · exact do_37 i c k G D hop
end Go.Proofs.YtbjcdpmhmebjnaaGreat
/- End, whatever the state, the word and what came of what was wanted: a contract. -/
namespace Go.Proofs.YtbjcdpmhmebjnaaGreat
open Go.RowKit
set_option linter.unusedVariables false

def excV (V : Wnt) (k : Gt) (el : Int) : Option (Int × Int × Int) :=
  if V.kind = 15 then some (V.cls, V.iss, V.addr)
  else if k.fault = 0 then none
  else if V.kind = 1 ∨ V.kind = 2 ∨ V.kind = 3 ∨ V.kind = 4 then some (36 + el, bif storeK V.kind then 80 else 16, V.addr)
  else if V.kind = 11 ∨ V.kind = 12 then some (0, 0, 0) else none
def nextC (c : Cor) : Cor := { c with pc := IntKind.u64.wrap (c.pc + 4) }
def endV (c : Cor) (i : Ins) (k : Gt) : Cor := bif rightC c then (match excV (wantV c i) k c.el with | some (a, b, f) => enterV c a b f | none => doV i (nextC c) k) else nilC
def endE (c : Cor) (i : Ins) (k : Gt) : Int := bif rightC c then (match excV (wantV c i) k c.el with | some (a, b, _) => errB (entB c a b) | none => 0) else 1
theorem exc_yes (V : Wnt) (k : Gt) (el : Int) (hel : 0 ≤ el ∧ el ≤ 1) (a b f : Int) (h : excV V k el = some (a, b, f)) (w : World) :
    Calls Tryz.prog 29 #[V.val, k.val, .int .i64 el] w fun e w' => e = .returned (.tuple #[.agg (exC a b f), .bool true]) ∧ Below w.heap.size w w' := by
  have he : IntKind.i64.wrap (36 + el) = 36 + el := by rw [IntKind.wrap_i64]; omega
  unfold excV at h
  by_cases h15 : V.kind = 15
  · rw [if_pos h15] at h
    obtain ⟨rfl, rfl, rfl⟩ : V.cls = a ∧ V.iss = b ∧ V.addr = f := by simpa using h
    exact exc_trap V k el w h15
  rw [if_neg h15] at h
  by_cases hf : k.fault = 0
  · rw [if_pos hf] at h; cases h
  rw [if_neg hf] at h
  have hf' : (k.fault == 0) = false := by simpa using hf
  by_cases h4 : V.kind = 1 ∨ V.kind = 2 ∨ V.kind = 3 ∨ V.kind = 4
  · rw [if_pos h4] at h
    rcases h4 with q | q | q | q <;> rw [q] at h
    · obtain ⟨rfl, rfl, rfl⟩ : 36 + el = a ∧ 16 = b ∧ V.addr = f := by simpa [storeK] using h
      exact exc_acc1 V k el w q hf' he
    · obtain ⟨rfl, rfl, rfl⟩ : 36 + el = a ∧ 80 = b ∧ V.addr = f := by simpa [storeK] using h
      exact exc_acc2 V k el w q hf' he
    · obtain ⟨rfl, rfl, rfl⟩ : 36 + el = a ∧ 16 = b ∧ V.addr = f := by simpa [storeK] using h
      exact exc_acc3 V k el w q hf' he
    · obtain ⟨rfl, rfl, rfl⟩ : 36 + el = a ∧ 80 = b ∧ V.addr = f := by simpa [storeK] using h
      exact exc_acc4 V k el w q hf' he
  rw [if_neg h4] at h
  by_cases h6 : V.kind = 11 ∨ V.kind = 12
  · rw [if_pos h6] at h
    obtain ⟨rfl, rfl, rfl⟩ : 0 = a ∧ 0 = b ∧ 0 = f := by simpa using h
    rcases h6 with q | q
    · exact exc_sys11 V k el w q hf'
    · exact exc_sys12 V k el w q hf'
  · rw [if_neg h6] at h; cases h
theorem exc_not (V : Wnt) (k : Gt) (el : Int) (h : excV V k el = none) (w : World) :
    Calls Tryz.prog 29 #[V.val, k.val, .int .i64 el] w fun e w' => e = .returned (.tuple #[.agg exZ, .bool false]) ∧ Below w.heap.size w w' := by
  unfold excV at h
  by_cases h15 : V.kind = 15
  · rw [if_pos h15] at h; cases h
  rw [if_neg h15] at h
  have h15' : (V.kind == 15) = false := by simpa using h15
  by_cases hf : k.fault = 0
  · exact exceptionOf_no V k el w h15' hf
  rw [if_neg hf] at h
  have hf' : (k.fault == 0) = false := by simpa using hf
  by_cases h4 : V.kind = 1 ∨ V.kind = 2 ∨ V.kind = 3 ∨ V.kind = 4
  · rw [if_pos h4] at h; cases h
  rw [if_neg h4] at h
  by_cases h6 : V.kind = 11 ∨ V.kind = 12
  · rw [if_pos h6] at h; cases h
  have n : ∀ q : Int, V.kind ≠ q → (V.kind == q) = false := fun q hq => by simpa using hq
  exact exc_none V k el w h15' hf' (n 1 (by omega)) (n 2 (by omega)) (n 3 (by omega)) (n 4 (by omega)) (n 11 (by omega)) (n 12 (by omega))
set_option maxRecDepth 8000 in
set_option maxHeartbeats 8000000 in
theorem End_no (c : Cor) (word : Int) (k : Gt) (hr : rightC c = false) (w : World) :
    Calls Tryz.prog 13 #[c.val, .int .u32 word, k.val] w fun e w' => e = .returned (.tuple #[nilC.val, .int .i64 1]) ∧ Below w.heap.size w w' := by
  go_enter Tryz.func13, Tryz.ntmps13
  go_upto_region 1 with fail
  generalize hw1 : ((w.alloc _).alloc _).alloc _ = w1
  obtain ⟨Z, hZ, H⟩ : ∃ Z : Array Value, Z.size = 49 ∧ Has w [(w.heap.size + 2, Z, 26), (w.heap.size + 1, k.cells, 40), (w.heap.size, c.cells, 26)] w1 := by
    refine ⟨_, ?_, by rw [← hw1]; exact three_start w c.cells k.cells _ 26 40 26⟩
    rfl
  clear hw1
  generalize hb : w.heap.size = b at H ⊢
  have hne : ∀ p ∈ [(b + 1, k.cells, (40 : TypeId)), (b, c.cells, (26 : TypeId))], p.1 ≠ b + 2 := by intro p hp; simp at hp; rcases hp with rfl | rfl <;> simp
  go_wp2_with (first | ((with_reducible refine wpList_load_ifA rfl 26 _ rfl b rfl 26 _ (0, 0) _ (H.get (List.mem_cons_of_mem _ (List.mem_cons_of_mem _ List.mem_cons_self))) Tryz.underlying26 rfl (Cor.info _) ?_); simp only [Act.put, List.setIfInBounds_toArray, List.set_cons_succ, List.set_cons_zero]) | (go_at_call 21; refine (Right_c _ _).mono ?_; rw [hr]; rintro e w7 ⟨rfl, hB7⟩; dsimp only; replace H := H.grow hB7) | ((with_reducible refine wpList_build_nil rfl rfl ?_); simp only [Act.put, List.setIfInBounds_toArray, List.set_cons_succ, List.set_cons_zero]) | ((with_reducible refine wpList_store_over rfl 26 H hne _ _ rfl nilC.cells rfl rfl (Cor.info _) ?_ (Cor.one _) ?_); (focus (rw [hZ, Cor.size])); intro w9 H; simp only [Act.put]))
  refine bodyPost_ret (back_two rfl _ _ _ _ _ _ rfl (H.get List.mem_cons_self)) rfl ⟨rfl, by first | exact H.below | (rw [← hb]; exact H.below)⟩
/-- END, WHOLE. -/
theorem End_c (c : Cor) (word : Int) (i : Ins) (hd : ∀ w : World, Calls Tryz.prog 15 #[.int .u32 word] w fun e w' => e = .returned i.val ∧ Below w.heap.size w w') (F : Fine i) (D : Deed i) (k : Gt) (hx : ∀ (i : Nat) (h : i < 31), U64 c.x[i]) (h0 : U64 c.sp0) (h1 : U64 c.sp1) (hs : U64 c.spsr) (w : World) :
    Calls Tryz.prog 13 #[c.val, .int .u32 word, k.val] w fun e w' => e = .returned (.tuple #[(endV c i k).val, .int .i64 (endE c i k)]) ∧ Below w.heap.size w w' := by
  unfold endV endE
  cases hr : rightC c with
  | false => exact End_no c word k hr w
  | true =>
    simp only [cond_true]
    cases he : excV (wantV c i) k c.el with
    | none =>
      have hdo := do_c i (nextC c) k ⟨hx, h0, h1, hs, hr⟩ D
      generalize hd1 : doV i (nextC c) k = d
      have hdo2 : ∀ (g : Nat) (w : World), w.heap[g]? = some (.cells (Stp.cells ⟨i, nextC c, k, 0⟩) 58) → Calls Tryz.prog 54 #[.pointer (some ⟨g, 0, none⟩)] w fun e w' => e = .returned (.tuple #[]) ∧ w'.heap[g]? = some (.cells (Stp.cells ⟨i, d, k, 0⟩) 58) ∧ But g w w' := by
        intro g w h
        have := hdo g w h
        rw [hd1] at this
        exact this
      clear hdo hd1
      exact End_n c d word i k _ w hd F hr _ rfl (exc_not _ k c.el he) rfl hdo2
    | some t =>
      obtain ⟨a, b, f⟩ := t
      exact End_x c word i k w hd F hr _ rfl a b f (exc_yes _ k c.el (right_el hr) a b f he)
end Go.Proofs.YtbjcdpmhmebjnaaGreat
/- What an instruction is not told to write it does not change: of the plain functions. -/
namespace Go.Proofs.YtbjcdpmhmebjnaaGreat
open Go.RowKit
set_option linter.unusedVariables false

/-- All of a state but its PC, event, wait, mask, level and system registers. -/
structure Same (c d : Cor) (P : Nat → Prop) : Prop where
  x : ∀ (r : Nat) (h : r < 31), P r → d.x[r] = c.x[r]
  id : d.id = c.id
structure SameF (a d : Cor) : Prop where
  nn : d.n = a.n
  zz : d.z = a.z
  cc : d.c = a.c
  vv : d.v = a.v
theorem SameF.refl (c : Cor) : SameF c c := ⟨rfl, rfl, rfl, rfl⟩
theorem SameF.trans {a b c : Cor} (h : SameF a b) (k : SameF b c) : SameF a c := ⟨k.nn.trans h.nn, k.zz.trans h.zz, k.cc.trans h.cc, k.vv.trans h.vv⟩
theorem setx_x (c : Cor) (s v : Int) (h0 : 0 ≤ s) (h1 : s ≤ 31) (r : Nat) (hr : r < 31) (hne : (s == (r : Int)) = false) : (setXV c s v).x[r] = c.x[r] := by
  have hb : regB s = true := by simp [regB, h0, h1]
  unfold setXV
  rw [hb]
  simp only [cond_true]
  by_cases hs : 0 ≤ s ∧ s < 31
  · rw [dif_pos hs]
    have hne : ¬ s = (r : Int) := by simpa using hne
    show (c.x.set s.toNat v (by omega))[r] = _
    rw [Vector.getElem_set]
    split
    · exfalso; omega
    · rfl
  · rw [dif_neg hs]
theorem setx_rest (c : Cor) (s v : Int) (h0 : 0 ≤ s) (h1 : s ≤ 31) : (setXV c s v).id = c.id ∧ (setXV c s v).pc = c.pc ∧ SameF c (setXV c s v) := by
  have hb : regB s = true := by simp [regB, h0, h1]
  unfold setXV
  rw [hb]
  simp only [cond_true]
  by_cases hs : 0 ≤ s ∧ s < 31
  · rw [dif_pos hs]; exact ⟨rfl, rfl, rfl, rfl, rfl, rfl⟩
  · rw [dif_neg hs]; exact ⟨rfl, rfl, SameF.refl _⟩
theorem setsp_rest (c : Cor) (v : Int) (h : c.el = 0 ∨ c.el = 1) : (setSPV c v).x = c.x ∧ (setSPV c v).id = c.id ∧ (setSPV c v).pc = c.pc ∧ SameF c (setSPV c v) := by
  unfold setSPV
  rcases h with h | h
  · rw [if_pos h]; exact ⟨rfl, rfl, rfl, rfl, rfl, rfl, rfl⟩
  · rw [if_neg (by omega), if_pos h]; exact ⟨rfl, rfl, rfl, rfl, rfl, rfl, rfl⟩
/-- A state with a number in one of its registers, or in its stack pointer. -/
structure One1 (c d : Cor) (s : Int) : Prop where
  x : ∀ (r : Nat) (h : r < 31), (s == (r : Int)) = false → d.x[r] = c.x[r]
  id : d.id = c.id
  pc : d.pc = c.pc
  f : SameF c d
theorem one_setx (c : Cor) (s v : Int) (h0 : 0 ≤ s) (h1 : s ≤ 31) : One1 c (setXV c s v) s :=
  ⟨fun r h hn => setx_x c s v h0 h1 r h hn, (setx_rest c s v h0 h1).1, (setx_rest c s v h0 h1).2.1, (setx_rest c s v h0 h1).2.2⟩
theorem one_imm (i : Ins) (c : Cor) (v : Int) (hel : c.el = 0 ∨ c.el = 1) (h0 : 0 ≤ i.rd) (h1 : i.rd ≤ 31) : One1 c (withImmV i c v) i.rd := by
  unfold withImmV
  cases i.flags
  · show One1 c (pregV c i.rd v) i.rd
    unfold pregV
    split
    · obtain ⟨e1, e2, e3, e4⟩ := setsp_rest c v hel
      exact ⟨fun r h _ => by rw [e1], e2, e3, e4⟩
    · exact one_setx c _ _ h0 h1
  · exact one_setx c _ _ h0 h1
theorem fl_rest (i : Ins) (c : Cor) (f : Flg) : (setfV i c f).x = c.x ∧ (setfV i c f).id = c.id ∧ (setfV i c f).pc = c.pc ∧ (i.flags = false → SameF c (setfV i c f)) := by
  unfold setfV
  cases i.flags
  · exact ⟨rfl, rfl, rfl, fun _ => SameF.refl c⟩
  · exact ⟨rfl, rfl, rfl, fun h => absurd h (by decide)⟩
/-- What is done to a state. -/
structure DoK (i : Ins) (c d : Cor) : Prop where
  x : ∀ (r : Nat) (h : r < 31), wrB i r = false → d.x[r] = c.x[r]
  id : d.id = c.id
  pc : ((i.op < 12 ∨ 16 < i.op) ∧ i.op ≠ 36) → d.pc = c.pc
  f : (i.flags = false ∧ ¬ (i.op = 32 ∧ i.sys = 23056) ∧ i.op ≠ 36) → SameF c d
theorem dok_one {i : Ins} {c d : Cor} (h : One1 c d i.rd) (hw : ∀ r, wrB i r = (i.rd == (r : Int))) : DoK i c d := ⟨fun r hr hn => h.x r hr (by rw [← hw]; exact hn), h.id, fun _ => h.pc, fun _ => h.f⟩
theorem dok_fl {i : Ins} {c d : Cor} (f : Flg) (h : One1 (setfV i c f) d i.rd) (hw : ∀ r, wrB i r = (i.rd == (r : Int))) : DoK i c d := by
  obtain ⟨e1, e2, e3, e4⟩ := fl_rest i c f
  exact ⟨fun r hr hn => (h.x r hr (by rw [← hw]; exact hn)).trans (by rw [e1]), h.id.trans e2, fun _ => h.pc.trans e3, fun hf => (e4 hf.1).trans h.f⟩
theorem do_keeps (i : Ins) (c : Cor) (k : Gt) (hd : 0 ≤ i.rd ∧ i.rd ≤ 31) (hm : 0 ≤ i.rm ∧ i.rm ≤ 31) (hel : c.el = 0 ∨ c.el = 1) (hg : rightC c = true) (hs : i.op = 32 → outB i.sys = false → setB i.sys = true) : DoK i c (doV i c k) := by
  have same : ∀ d : Cor, d.x = c.x → d.id = c.id → d.pc = c.pc → SameF c d → DoK i c d := fun d h1 h2 h3 h4 => ⟨fun r hr _ => by rw [h1], h2, fun _ => h3, fun _ => h4⟩
  have hw : (1 ≤ i.op ∧ i.op ≤ 11) ∨ i.op = 17 ∨ i.op = 19 ∨ i.op = 21 ∨ i.op = 23 ∨ i.op = 31 → ∀ r, wrB i r = (i.rd == (r : Int)) := fun h r => by rw [wrB, if_pos h]
  by_cases h1 : i.op = 1
  · simp only [doV, h1, if_true]
    unfold addD
    exact dok_fl _ (one_imm i _ _ (by rw [el_fl]; exact hel) hd.1 hd.2) (hw (by omega))
  by_cases h2 : i.op = 2
  · simp only [doV, h2, if_true, Int.reduceEq, if_false]
    unfold addD
    exact dok_fl _ (one_setx _ _ _ hd.1 hd.2) (hw (by omega))
  by_cases h3 : i.op = 3
  · simp only [doV, h3, if_true, Int.reduceEq, if_false]
    exact dok_fl _ (one_setx _ _ _ hd.1 hd.2) (hw (by omega))
  by_cases h4 : i.op = 4
  · simp only [doV, h4, if_true, Int.reduceEq, if_false]
    exact dok_fl _ (one_imm i _ _ (by rw [el_fl]; exact hel) hd.1 hd.2) (hw (by omega))
  by_cases h11 : 5 ≤ i.op ∧ i.op ≤ 11
  · obtain ⟨V, hV⟩ : ∃ V, doV i c k = setXV c i.rd V := by
      rcases (by omega : i.op = 5 ∨ i.op = 6 ∨ i.op = 7 ∨ i.op = 8 ∨ i.op = 9 ∨ i.op = 10 ∨ i.op = 11) with q | q | q | q | q | q | q <;> exact ⟨_, by simp only [doV, q, if_true, Int.reduceEq, if_false]; rfl⟩
    rw [hV]
    exact dok_one (one_setx _ _ _ hd.1 hd.2) (hw (by omega))
  by_cases h12 : i.op = 12
  · have e : doV i c k = { linkV i.link c with pc := toV i c } := by simp only [doV, h12, if_true, Int.reduceEq, if_false]
    rw [e]
    cases hl : i.link
    · exact ⟨fun r _ _ => rfl, rfl, fun h => absurd h (by omega), fun _ => ⟨rfl, rfl, rfl, rfl⟩⟩
    · have o1 := one_setx c 30 c.pc (by decide) (by decide)
      refine ⟨fun r hr hn => o1.x r hr ?_, o1.id, fun h => absurd h (by omega), fun _ => ⟨o1.f.nn, o1.f.zz, o1.f.cc, o1.f.vv⟩⟩
      simpa [wrB, h12, hl] using hn
  by_cases h15 : i.op = 13 ∨ i.op = 14 ∨ i.op = 15
  · obtain ⟨B, t, hV⟩ : ∃ B t, doV i c k = jumpV c B t := by
      rcases h15 with q | q | q <;> exact ⟨_, _, by simp only [doV, q, if_true, Int.reduceEq, if_false]; rfl⟩
    rw [hV]
    cases B
    · exact ⟨fun r _ _ => rfl, rfl, fun _ => rfl, fun _ => SameF.refl c⟩
    · exact ⟨fun r _ _ => rfl, rfl, fun h => absurd h (by omega), fun _ => ⟨rfl, rfl, rfl, rfl⟩⟩
  by_cases h16 : i.op = 16
  · have e : doV i c k = { linkV (i.sub == 1) c with pc := xV c i.rn } := by simp only [doV, h16, if_true, Int.reduceEq, if_false]
    rw [e]
    cases hl : i.sub == 1
    · exact ⟨fun r _ _ => rfl, rfl, fun h => absurd h (by omega), fun _ => ⟨rfl, rfl, rfl, rfl⟩⟩
    · have o1 := one_setx c 30 c.pc (by decide) (by decide)
      refine ⟨fun r hr hn => o1.x r hr ?_, o1.id, fun h => absurd h (by omega), fun _ => ⟨o1.f.nn, o1.f.zz, o1.f.cc, o1.f.vv⟩⟩
      have hl' : i.sub = 1 := by simpa using hl
      simpa [wrB, h16, hl'] using hn
  have n1 : ¬ i.op = 5 := by omega
  have n2 : ¬ i.op = 6 := by omega
  have n3 : ¬ i.op = 7 := by omega
  have n4 : ¬ i.op = 8 := by omega
  have n5 : ¬ i.op = 9 := by omega
  have n6 : ¬ i.op = 10 := by omega
  have n7 : ¬ i.op = 11 := by omega
  have n8 : ¬ i.op = 13 := by omega
  have n9 : ¬ i.op = 14 := by omega
  have n10 : ¬ i.op = 15 := by omega
  by_cases h17 : i.op = 17 ∨ i.op = 19 ∨ i.op = 21 ∨ i.op = 23
  · have e : doV i c k = setXV c i.rd k.value := by simp only [doV, h1, h2, h3, h4, n1, n2, n3, n4, n5, n6, n7, h12, n8, n9, n10, h16, h17, if_true, if_false]
    rw [e]
    exact dok_one (one_setx _ _ _ hd.1 hd.2) (hw (by omega))
  by_cases h24 : i.op = 24
  · have e : doV i c k = setXV c i.rm (bif k.ok then 0 else 1) := by simp only [doV, h24, if_true, Int.reduceEq, if_false, or_self]
    have o1 := one_setx c i.rm (bif k.ok then 0 else 1) hm.1 hm.2
    rw [e]
    exact ⟨fun r hr hn => o1.x r hr (by simpa [wrB, h24] using hn), o1.id, fun _ => o1.pc, fun _ => o1.f⟩
  by_cases h31 : i.op = 31
  · have e : doV i c k = setXV c i.rd (bif outB i.sys then k.value else getV c i.sys) := by simp only [doV, h31, if_true, Int.reduceEq, if_false, or_self]
    rw [e]
    exact dok_one (one_setx _ _ _ hd.1 hd.2) (hw (by omega))
  have ed : doV i c k = if i.op = 32 then (bif outB i.sys then c else setV c i.sys (xV c i.rd)) else if i.op = 33 then (bif bits .and .i64 i.imm 2 != 0 then { c with mask := i.sub == 0 } else c) else if i.op = 36 then backV c else if i.op = 37 then hintC i c else c := by
    simp only [doV, h1, h2, h3, h4, n1, n2, n3, n4, n5, n6, n7, h12, n8, n9, n10, h16, h17, h24, h31, if_false]
  rw [ed]
  by_cases h32 : i.op = 32
  · rw [if_pos h32]
    cases ho : outB i.sys
    · have hb := hs h32 ho
      simp only [setB, Bool.or_eq_true, beq_iff_eq] at hb
      show DoK i c (setV c i.sys (xV c i.rd))
      rcases hb with (((((((q | q) | q) | q) | q) | q) | q) | q) | q <;> rw [q]
      · exact same _ rfl rfl rfl ⟨rfl, rfl, rfl, rfl⟩
      · exact same _ rfl rfl rfl ⟨rfl, rfl, rfl, rfl⟩
      · exact same _ rfl rfl rfl ⟨rfl, rfl, rfl, rfl⟩
      · exact same _ rfl rfl rfl ⟨rfl, rfl, rfl, rfl⟩
      · exact same _ rfl rfl rfl ⟨rfl, rfl, rfl, rfl⟩
      · exact same _ rfl rfl rfl ⟨rfl, rfl, rfl, rfl⟩
      · exact same _ rfl rfl rfl ⟨rfl, rfl, rfl, rfl⟩
      · exact ⟨fun r _ _ => rfl, rfl, fun _ => rfl, fun hf => absurd ⟨h32, q⟩ hf.2.1⟩
      · exact same _ rfl rfl rfl ⟨rfl, rfl, rfl, rfl⟩
    · exact same c rfl rfl rfl (SameF.refl c)
  rw [if_neg h32]
  by_cases h33 : i.op = 33
  · rw [if_pos h33]
    cases (bits .and .i64 i.imm 2 != 0)
    · exact same c rfl rfl rfl (SameF.refl c)
    · exact same _ rfl rfl rfl ⟨rfl, rfl, rfl, rfl⟩
  rw [if_neg h33]
  by_cases h36 : i.op = 36
  · rw [if_pos h36]
    have e : (backV c).x = c.x ∧ (backV c).id = c.id := by
      rw [backV, hg, cond_true, backC]
      cases mayB c.spsr <;> exact ⟨rfl, rfl⟩
    exact ⟨fun r _ _ => by rw [e.1], e.2, fun h => absurd h36 h.2, fun h => absurd h36 h.2.2⟩
  rw [if_neg h36]
  by_cases h37 : i.op = 37
  · rw [if_pos h37]
    unfold hintC
    split
    · have q : ∀ b : Bool, DoK i c (bif b then ({ c with event := false } : Cor) else { c with wait := 2 }) := fun b => by
        cases b
        · exact same _ rfl rfl rfl ⟨rfl, rfl, rfl, rfl⟩
        · exact same _ rfl rfl rfl ⟨rfl, rfl, rfl, rfl⟩
      exact q c.event
    · split
      · exact same _ rfl rfl rfl ⟨rfl, rfl, rfl, rfl⟩
      · split
        · exact same _ rfl rfl rfl ⟨rfl, rfl, rfl, rfl⟩
        · exact same c rfl rfl rfl (SameF.refl c)
  rw [if_neg h37]
  exact same c rfl rfl rfl (SameF.refl c)
end Go.Proofs.YtbjcdpmhmebjnaaGreat
/- SemWrites returns true: its walk. -/
namespace Go.Proofs.YtbjcdpmhmebjnaaGreat.semWrites
open Go.RowKit
set_option linter.unusedVariables false

set_option maxRecDepth 8000 in
set_option maxHeartbeats 8000000 in
theorem walk_no (c : Cor) (word : Int) (k : Gt) (hend : ∀ w : World, Calls Tryz.prog 13 #[c.val, .int .u32 word, k.val] w fun e w' => e = .returned (.tuple #[nilC.val, .int .i64 1]) ∧ Below w.heap.size w w') (w : World) :
    Calls Tryz.prog 5 #[c.val, .int .u32 word, k.val] w fun e w' => e = .returned (.bool true) ∧ Below w.heap.size w w' := by
  go_enter Tryz.func5, Tryz.ntmps5
  go_upto_region 1 with fail
  have H := stwo_start w c.cells k.cells 26 40
  generalize hb : w.heap.size = b at H ⊢
  generalize (w.alloc _).alloc _ = w0 at H ⊢
  go_upto_region 2 with (go_at_call 8; refine (examples_c _).mono ?_; rintro e wa ⟨rfl, hB⟩; dsimp only; replace H := H.grow hB)
  go_upto_region 3 with (first | ((with_reducible refine wpList_load_ifA rfl 26 _ rfl b rfl 26 _ (0, 0) _ (H.get (List.mem_cons_of_mem _ List.mem_cons_self)) Tryz.underlying26 rfl (Cor.info _) ?_); simp only [Act.put, List.setIfInBounds_toArray, List.set_cons_succ, List.set_cons_zero]) | ((with_reducible refine wpList_load_ifA rfl 40 _ rfl (b + 1) rfl 40 _ (0, 0) _ (H.get List.mem_cons_self) Tryz.underlying40 rfl (Gt.info _) ?_); simp only [Act.put, List.setIfInBounds_toArray, List.set_cons_succ, List.set_cons_zero]) | (go_at_call 13; refine (hend _).mono ?_; rintro e wa ⟨rfl, hB⟩; dsimp only; replace H := H.grow hB) | ((with_reducible refine wpList_store_new H rfl 26 _ _ rfl nilC.cells rfl rfl (Cor.info _) ?_ (Cor.one _) ?_); (focus (rw [Cor.size]; rfl)); intro wb H; simp only [Act.put]))
  generalize wa.heap.size = t8 at H ⊢
  go_wp2_with (first | ((with_reducible refine wpList_load_ifA rfl 26 _ rfl t8 rfl 26 _ (0, 0) _ (H.get List.mem_cons_self) Tryz.underlying26 rfl (Cor.info _) ?_); simp only [Act.put, List.setIfInBounds_toArray, List.set_cons_succ, List.set_cons_zero]) | ((with_reducible refine wpList_build_nil rfl rfl ?_); simp only [Act.put, List.setIfInBounds_toArray, List.set_cons_succ, List.set_cons_zero]) | ((with_reducible refine wpList_eql_core rfl _ _ rfl _ _ rfl rfl true (eqC_refl _) ?_); simp only [Act.put, List.setIfInBounds_toArray, List.set_cons_succ, List.set_cons_zero]))
  go_ret
  exact ⟨rfl, by first | exact H.below | (rw [← hb]; exact H.below)⟩
end Go.Proofs.YtbjcdpmhmebjnaaGreat.semWrites
