/- What logic of a step answers, its flags laid: contracts. -/
import Derived.Test.YtbjcdpmhmebjnaaGreatD19
namespace Go.Proofs.YtbjcdpmhmebjnaaGreat
open Go.RowKit
set_option linter.unusedVariables false

def three : Array Value := #[.int .i64 3, .int .i64 4, .int .i64 5]
theorem three_info : (Tryz.prog.info? 179).map (·.size) = some three.size := by kernel_rfl
theorem three_one : three.all (·.oneCell') = true := by simp [three, Value.oneCell']
def logF (v : Int) : Flg := ⟨v / 9223372036854775808 == 1, v == 0, false, false⟩
set_option maxHeartbeats 1000000 in
theorem stLogic_P0 (g : Nat) (i : Ins) (c : Cor) (k : Gt) (e : Int) (w : World) (h : w.heap[g]? = some (.cells (Stp.cells ⟨i, c, k, e⟩) 58)) (hs : i.sub = 0) (hn : i.not = false) (a b V : Int) (ha : Hid (U64 a)) (hb : Hid (U64 b)) (D : Cor) (hV : reckonV 3 a b = V) (hD : setfV i c (logF V) = D) : Calls Tryz.prog 198 #[.pointer (some ⟨g, 0, none⟩), .int .u64 a, .int .u64 b] w fun e2 w' => e2 = .returned (.int .u64 V) ∧ w'.heap[g]? = some (.cells (Stp.cells ⟨i, D, k, e⟩) 58) ∧ But g w w' := by
  have c14 := at_i h 14 (.bool i.not) (by decide) rfl
  rw [hn] at c14
  have H := has_none w
  go_enter Tryz.func198, Tryz.ntmps198
  go_upto_region 4 with ((with_reducible refine wpList_store_new H rfl 179 _ _ rfl three rfl rfl three_info ?_ three_one ?_); (focus rfl); intro w2 H; try simp only [Act.put])
  have h2 := keep_row h H.below
  have c1 := at_i h2 1 (.int .i64 i.sub) (by decide) rfl
  rw [hs] at c1
  go_upto_region 5 with (first | ((with_reducible refine wpList_load_cell rfl 3 _ rfl _ _ rfl (.int .i64 3) (H.at List.mem_cons_self _ _ rfl) (agg3 _) ?_); simp only [Act.put, List.setIfInBounds_toArray, List.set_cons_succ, List.set_cons_zero]) | (go_at_call 202; refine (reckon_c 3 _ _ ha hb _).mono ?_; rintro e w3 ⟨rfl, hB⟩; rw [hV]; replace H := H.grow hB; clear hB; dsimp only))
  have h3 := keep_row h H.below
  go_wp2_with (go_at_call 228; refine (setFlags_c g i c k e _ h3 (logF V)).mono ?_; rintro e w4 ⟨rfl, hs3, hB3⟩; dsimp only)
  go_ret
  rw [hD] at hs3
  exact ⟨rfl, hs3, (but_below H.below).trans hB3⟩
set_option maxHeartbeats 1000000 in
theorem stLogic_P1 (g : Nat) (i : Ins) (c : Cor) (k : Gt) (e : Int) (w : World) (h : w.heap[g]? = some (.cells (Stp.cells ⟨i, c, k, e⟩) 58)) (hs : i.sub = 1) (hn : i.not = false) (a b V : Int) (ha : Hid (U64 a)) (hb : Hid (U64 b)) (D : Cor) (hV : reckonV 4 a b = V) (hD : setfV i c (logF V) = D) : Calls Tryz.prog 198 #[.pointer (some ⟨g, 0, none⟩), .int .u64 a, .int .u64 b] w fun e2 w' => e2 = .returned (.int .u64 V) ∧ w'.heap[g]? = some (.cells (Stp.cells ⟨i, D, k, e⟩) 58) ∧ But g w w' := by
  have c14 := at_i h 14 (.bool i.not) (by decide) rfl
  rw [hn] at c14
  have H := has_none w
  go_enter Tryz.func198, Tryz.ntmps198
  go_upto_region 4 with ((with_reducible refine wpList_store_new H rfl 179 _ _ rfl three rfl rfl three_info ?_ three_one ?_); (focus rfl); intro w2 H; try simp only [Act.put])
  have h2 := keep_row h H.below
  have c1 := at_i h2 1 (.int .i64 i.sub) (by decide) rfl
  rw [hs] at c1
  go_upto_region 5 with (first | ((with_reducible refine wpList_load_cell rfl 3 _ rfl _ _ rfl (.int .i64 4) (H.at List.mem_cons_self _ _ rfl) (agg3 _) ?_); simp only [Act.put, List.setIfInBounds_toArray, List.set_cons_succ, List.set_cons_zero]) | (go_at_call 202; refine (reckon_c 4 _ _ ha hb _).mono ?_; rintro e w3 ⟨rfl, hB⟩; rw [hV]; replace H := H.grow hB; clear hB; dsimp only))
  have h3 := keep_row h H.below
  go_wp2_with (go_at_call 228; refine (setFlags_c g i c k e _ h3 (logF V)).mono ?_; rintro e w4 ⟨rfl, hs3, hB3⟩; dsimp only)
  go_ret
  rw [hD] at hs3
  exact ⟨rfl, hs3, (but_below H.below).trans hB3⟩
set_option maxHeartbeats 1000000 in
theorem stLogic_P2 (g : Nat) (i : Ins) (c : Cor) (k : Gt) (e : Int) (w : World) (h : w.heap[g]? = some (.cells (Stp.cells ⟨i, c, k, e⟩) 58)) (hs : i.sub = 2) (hn : i.not = false) (a b V : Int) (ha : Hid (U64 a)) (hb : Hid (U64 b)) (D : Cor) (hV : reckonV 5 a b = V) (hD : setfV i c (logF V) = D) : Calls Tryz.prog 198 #[.pointer (some ⟨g, 0, none⟩), .int .u64 a, .int .u64 b] w fun e2 w' => e2 = .returned (.int .u64 V) ∧ w'.heap[g]? = some (.cells (Stp.cells ⟨i, D, k, e⟩) 58) ∧ But g w w' := by
  have c14 := at_i h 14 (.bool i.not) (by decide) rfl
  rw [hn] at c14
  have H := has_none w
  go_enter Tryz.func198, Tryz.ntmps198
  go_upto_region 4 with ((with_reducible refine wpList_store_new H rfl 179 _ _ rfl three rfl rfl three_info ?_ three_one ?_); (focus rfl); intro w2 H; try simp only [Act.put])
  have h2 := keep_row h H.below
  have c1 := at_i h2 1 (.int .i64 i.sub) (by decide) rfl
  rw [hs] at c1
  go_upto_region 5 with (first | ((with_reducible refine wpList_load_cell rfl 3 _ rfl _ _ rfl (.int .i64 5) (H.at List.mem_cons_self _ _ rfl) (agg3 _) ?_); simp only [Act.put, List.setIfInBounds_toArray, List.set_cons_succ, List.set_cons_zero]) | (go_at_call 202; refine (reckon_c 5 _ _ ha hb _).mono ?_; rintro e w3 ⟨rfl, hB⟩; rw [hV]; replace H := H.grow hB; clear hB; dsimp only))
  have h3 := keep_row h H.below
  go_wp2_with (go_at_call 228; refine (setFlags_c g i c k e _ h3 (logF V)).mono ?_; rintro e w4 ⟨rfl, hs3, hB3⟩; dsimp only)
  go_ret
  rw [hD] at hs3
  exact ⟨rfl, hs3, (but_below H.below).trans hB3⟩
set_option maxHeartbeats 1000000 in
theorem stLogic_N0 (g : Nat) (i : Ins) (c : Cor) (k : Gt) (e : Int) (w : World) (h : w.heap[g]? = some (.cells (Stp.cells ⟨i, c, k, e⟩) 58)) (hs : i.sub = 0) (hn : i.not = true) (a b b2 V : Int) (ha : Hid (U64 a)) (hb : Hid (U64 b2)) (hb2 : bits .xor .u64 IntKind.u64.max b = b2) (D : Cor) (hV : reckonV 3 a b2 = V) (hD : setfV i c (logF V) = D) : Calls Tryz.prog 198 #[.pointer (some ⟨g, 0, none⟩), .int .u64 a, .int .u64 b] w fun e2 w' => e2 = .returned (.int .u64 V) ∧ w'.heap[g]? = some (.cells (Stp.cells ⟨i, D, k, e⟩) 58) ∧ But g w w' := by
  have c14 := at_i h 14 (.bool i.not) (by decide) rfl
  rw [hn] at c14
  have H := has_none w
  go_enter Tryz.func198, Tryz.ntmps198
  go_upto_region 3 with fail
  rw [if_neg (by decide : ¬ IntKind.u64.signed = true), hb2]
  go_upto_region 4 with ((with_reducible refine wpList_store_new H rfl 179 _ _ rfl three rfl rfl three_info ?_ three_one ?_); (focus rfl); intro w2 H; try simp only [Act.put])
  have h2 := keep_row h H.below
  have c1 := at_i h2 1 (.int .i64 i.sub) (by decide) rfl
  rw [hs] at c1
  go_upto_region 5 with (first | ((with_reducible refine wpList_load_cell rfl 3 _ rfl _ _ rfl (.int .i64 3) (H.at List.mem_cons_self _ _ rfl) (agg3 _) ?_); simp only [Act.put, List.setIfInBounds_toArray, List.set_cons_succ, List.set_cons_zero]) | (go_at_call 202; refine (reckon_c 3 _ _ ha hb _).mono ?_; rintro e w3 ⟨rfl, hB⟩; rw [hV]; replace H := H.grow hB; clear hB; dsimp only))
  have h3 := keep_row h H.below
  go_wp2_with (go_at_call 228; refine (setFlags_c g i c k e _ h3 (logF V)).mono ?_; rintro e w4 ⟨rfl, hs3, hB3⟩; dsimp only)
  go_ret
  rw [hD] at hs3
  exact ⟨rfl, hs3, (but_below H.below).trans hB3⟩
set_option maxHeartbeats 1000000 in
theorem stLogic_N1 (g : Nat) (i : Ins) (c : Cor) (k : Gt) (e : Int) (w : World) (h : w.heap[g]? = some (.cells (Stp.cells ⟨i, c, k, e⟩) 58)) (hs : i.sub = 1) (hn : i.not = true) (a b b2 V : Int) (ha : Hid (U64 a)) (hb : Hid (U64 b2)) (hb2 : bits .xor .u64 IntKind.u64.max b = b2) (D : Cor) (hV : reckonV 4 a b2 = V) (hD : setfV i c (logF V) = D) : Calls Tryz.prog 198 #[.pointer (some ⟨g, 0, none⟩), .int .u64 a, .int .u64 b] w fun e2 w' => e2 = .returned (.int .u64 V) ∧ w'.heap[g]? = some (.cells (Stp.cells ⟨i, D, k, e⟩) 58) ∧ But g w w' := by
  have c14 := at_i h 14 (.bool i.not) (by decide) rfl
  rw [hn] at c14
  have H := has_none w
  go_enter Tryz.func198, Tryz.ntmps198
  go_upto_region 3 with fail
  rw [if_neg (by decide : ¬ IntKind.u64.signed = true), hb2]
  go_upto_region 4 with ((with_reducible refine wpList_store_new H rfl 179 _ _ rfl three rfl rfl three_info ?_ three_one ?_); (focus rfl); intro w2 H; try simp only [Act.put])
  have h2 := keep_row h H.below
  have c1 := at_i h2 1 (.int .i64 i.sub) (by decide) rfl
  rw [hs] at c1
  go_upto_region 5 with (first | ((with_reducible refine wpList_load_cell rfl 3 _ rfl _ _ rfl (.int .i64 4) (H.at List.mem_cons_self _ _ rfl) (agg3 _) ?_); simp only [Act.put, List.setIfInBounds_toArray, List.set_cons_succ, List.set_cons_zero]) | (go_at_call 202; refine (reckon_c 4 _ _ ha hb _).mono ?_; rintro e w3 ⟨rfl, hB⟩; rw [hV]; replace H := H.grow hB; clear hB; dsimp only))
  have h3 := keep_row h H.below
  go_wp2_with (go_at_call 228; refine (setFlags_c g i c k e _ h3 (logF V)).mono ?_; rintro e w4 ⟨rfl, hs3, hB3⟩; dsimp only)
  go_ret
  rw [hD] at hs3
  exact ⟨rfl, hs3, (but_below H.below).trans hB3⟩
set_option maxHeartbeats 1000000 in
theorem stLogic_N2 (g : Nat) (i : Ins) (c : Cor) (k : Gt) (e : Int) (w : World) (h : w.heap[g]? = some (.cells (Stp.cells ⟨i, c, k, e⟩) 58)) (hs : i.sub = 2) (hn : i.not = true) (a b b2 V : Int) (ha : Hid (U64 a)) (hb : Hid (U64 b2)) (hb2 : bits .xor .u64 IntKind.u64.max b = b2) (D : Cor) (hV : reckonV 5 a b2 = V) (hD : setfV i c (logF V) = D) : Calls Tryz.prog 198 #[.pointer (some ⟨g, 0, none⟩), .int .u64 a, .int .u64 b] w fun e2 w' => e2 = .returned (.int .u64 V) ∧ w'.heap[g]? = some (.cells (Stp.cells ⟨i, D, k, e⟩) 58) ∧ But g w w' := by
  have c14 := at_i h 14 (.bool i.not) (by decide) rfl
  rw [hn] at c14
  have H := has_none w
  go_enter Tryz.func198, Tryz.ntmps198
  go_upto_region 3 with fail
  rw [if_neg (by decide : ¬ IntKind.u64.signed = true), hb2]
  go_upto_region 4 with ((with_reducible refine wpList_store_new H rfl 179 _ _ rfl three rfl rfl three_info ?_ three_one ?_); (focus rfl); intro w2 H; try simp only [Act.put])
  have h2 := keep_row h H.below
  have c1 := at_i h2 1 (.int .i64 i.sub) (by decide) rfl
  rw [hs] at c1
  go_upto_region 5 with (first | ((with_reducible refine wpList_load_cell rfl 3 _ rfl _ _ rfl (.int .i64 5) (H.at List.mem_cons_self _ _ rfl) (agg3 _) ?_); simp only [Act.put, List.setIfInBounds_toArray, List.set_cons_succ, List.set_cons_zero]) | (go_at_call 202; refine (reckon_c 5 _ _ ha hb _).mono ?_; rintro e w3 ⟨rfl, hB⟩; rw [hV]; replace H := H.grow hB; clear hB; dsimp only))
  have h3 := keep_row h H.below
  go_wp2_with (go_at_call 228; refine (setFlags_c g i c k e _ h3 (logF V)).mono ?_; rintro e w4 ⟨rfl, hs3, hB3⟩; dsimp only)
  go_ret
  rw [hD] at hs3
  exact ⟨rfl, hs3, (but_below H.below).trans hB3⟩
end Go.Proofs.YtbjcdpmhmebjnaaGreat
/- What LogReg does to a step, given what logic answers: a contract. -/
namespace Go.Proofs.YtbjcdpmhmebjnaaGreat
open Go.RowKit
set_option linter.unusedVariables false

set_option maxRecDepth 4000 in
set_option maxHeartbeats 2000000 in
theorem stLogReg_c (g : Nat) (i : Ins) (c : Cor) (k : Gt) (e : Int) (w : World) (h : w.heap[g]? = some (.cells (Stp.cells ⟨i, c, k, e⟩) 58)) (X Y Z z V : Int) (hX : xV c i.rn = X) (hY : xV c i.rm = Y) (hU2 : Hid (U64 Y)) (hZ : shiftV Y i.shift i.amount = Z) (hz : shiftE i.shift i.amount = z) (D : Cor) (hl : ∀ w1 : World, w1.heap[g]? = some (.cells (Stp.cells ⟨i, c, k, e⟩) 58) → Calls Tryz.prog 198 #[.pointer (some ⟨g, 0, none⟩), .int .u64 X, .int .u64 Z] w1 fun e2 w' => e2 = .returned (.int .u64 V) ∧ w'.heap[g]? = some (.cells (Stp.cells ⟨i, D, k, e⟩) 58) ∧ But g w1 w') : Calls Tryz.prog 128 #[.pointer (some ⟨g, 0, none⟩)] w fun e2 w' => e2 = .returned (.tuple #[]) ∧ w'.heap[g]? = some (.cells (Stp.cells ⟨i, setXV D i.rd V, k, e⟩) 58) ∧ But g w w' := by
  go_enter Tryz.func128, Tryz.ntmps128
  refine Chn.wp_region_chain (Ph g i (pickA c D (setXV D i.rd V)) k e w) [13, 15, 16, 17] [(.pointer (some ⟨g, 0, none⟩)), (.pointer (some ⟨g, 0, none⟩)), (.pointer (some ⟨g, 0, none⟩)), (.pointer (some ⟨g, 0, none⟩)), (.pointer (some ⟨g, 2, none⟩)), (.int .i64 i.rd), (.pointer (some ⟨g, 0, none⟩)), (.pointer (some ⟨g, 0, none⟩)), (.pointer (some ⟨g, 0, none⟩)), (.pointer (some ⟨g, 0, none⟩)), (.pointer (some ⟨g, 0, none⟩)), (.pointer (some ⟨g, 3, none⟩)), (.int .i64 i.rn), (.int .u64 X), (.pointer (some ⟨g, 0, none⟩)), (.int .u64 Z), (.int .u64 V), (.tuple #[])] (by kernel_rfl) (by kernel_rfl) (by kernel_rfl) (by kernel_rfl) (ph_start h) ?_
  refine ⟨fun j w1 hC => by exact Chn.upon_pure hC (fun F hF => by (go_simp <;> exact hF)), ?_⟩
  simp only [Act.put, List.setIfInBounds_toArray, List.set_cons_succ, List.set_cons_zero]
  refine ⟨fun j w1 hC => by exact Chn.upon_pure hC (fun F hF => by (go_simp <;> exact hF)), ?_⟩
  simp only [Act.put, List.setIfInBounds_toArray, List.set_cons_succ, List.set_cons_zero]
  refine ⟨fun j w1 hC => by exact Chn.upon_pure hC (fun F hF => by (go_simp <;> exact hF)), ?_⟩
  simp only [Act.put, List.setIfInBounds_toArray, List.set_cons_succ, List.set_cons_zero]
  refine ⟨fun j w1 hC => by exact Chn.upon_pure hC (fun F hF => by (go_simp <;> exact hF)), ?_⟩
  simp only [Act.put, List.setIfInBounds_toArray, List.set_cons_succ, List.set_cons_zero]
  refine ⟨fun j w1 hC => by exact Chn.upon_pure hC (fun F hF => by (go_simp <;> exact hF)), ?_⟩
  simp only [Act.put, List.setIfInBounds_toArray, List.set_cons_succ, List.set_cons_zero]
  refine ⟨fun j w1 hC => by have hq := at_i hC.1 2 (.int .i64 i.rd) (by decide) rfl; exact Chn.upon_pure hC (fun F hF => by (go_simp <;> exact hF)), ?_⟩
  simp only [Act.put, List.setIfInBounds_toArray, List.set_cons_succ, List.set_cons_zero]
  refine ⟨fun j w1 hC => by exact Chn.upon_pure hC (fun F hF => by (go_simp <;> exact hF)), ?_⟩
  simp only [Act.put, List.setIfInBounds_toArray, List.set_cons_succ, List.set_cons_zero]
  refine ⟨fun j w1 hC => by exact Chn.upon_pure hC (fun F hF => by (go_simp <;> exact hF)), ?_⟩
  simp only [Act.put, List.setIfInBounds_toArray, List.set_cons_succ, List.set_cons_zero]
  refine ⟨fun j w1 hC => by exact Chn.upon_pure hC (fun F hF => by (go_simp <;> exact hF)), ?_⟩
  simp only [Act.put, List.setIfInBounds_toArray, List.set_cons_succ, List.set_cons_zero]
  refine ⟨fun j w1 hC => by exact Chn.upon_pure hC (fun F hF => by (go_simp <;> exact hF)), ?_⟩
  simp only [Act.put, List.setIfInBounds_toArray, List.set_cons_succ, List.set_cons_zero]
  refine ⟨fun j w1 hC => by exact Chn.upon_pure hC (fun F hF => by (go_simp <;> exact hF)), ?_⟩
  simp only [Act.put, List.setIfInBounds_toArray, List.set_cons_succ, List.set_cons_zero]
  refine ⟨fun j w1 hC => by exact Chn.upon_pure hC (fun F hF => by (go_simp <;> exact hF)), ?_⟩
  simp only [Act.put, List.setIfInBounds_toArray, List.set_cons_succ, List.set_cons_zero]
  refine ⟨fun j w1 hC => by have hq := at_i hC.1 3 (.int .i64 i.rn) (by decide) rfl; exact Chn.upon_pure hC (fun F hF => by (go_simp <;> exact hF)), ?_⟩
  simp only [Act.put, List.setIfInBounds_toArray, List.set_cons_succ, List.set_cons_zero]
  refine ⟨fun w1 hC => by exact Chn.upon_call (sx_c g ⟨i, c, k, e⟩ i.rn w1 hC.1) (fun e2 w2 hh => ⟨by rw [hh.1]; show _ = Ending.returned (.int .u64 X); rw [← hX], hC.same rfl hh.2⟩) (fun F hF => by (go_simp <;> exact hF)), ?_⟩
  simp only [Act.put, List.setIfInBounds_toArray, List.set_cons_succ, List.set_cons_zero]
  refine ⟨fun j w1 hC => by exact Chn.upon_pure hC (fun F hF => by (go_simp <;> exact hF)), ?_⟩
  simp only [Act.put, List.setIfInBounds_toArray, List.set_cons_succ, List.set_cons_zero]
  refine ⟨fun w1 hC => by exact Chn.upon_call (stShifted_c g i c k e w1 hC.1 Y Z z hY hU2 hZ hz) (fun e2 w2 hh => ⟨hh.1, hC.next hh.2.1 hh.2.2⟩) (fun F hF => by (go_simp <;> exact hF)), ?_⟩
  simp only [Act.put, List.setIfInBounds_toArray, List.set_cons_succ, List.set_cons_zero]
  refine ⟨fun w1 hC => by exact Chn.upon_call (hl w1 hC.1) (fun e2 w2 hh => ⟨hh.1, hC.next hh.2.1 hh.2.2⟩) (fun F hF => by (go_simp <;> exact hF)), ?_⟩
  simp only [Act.put, List.setIfInBounds_toArray, List.set_cons_succ, List.set_cons_zero]
  refine ⟨fun w1 hC => by exact Chn.upon_call (setX_c g ⟨i, D, k, e⟩ i.rd V w1 hC.1) (fun e2 w2 hh => ⟨hh.1, hC.next hh.2.1 hh.2.2⟩) (fun F hF => by (go_simp <;> exact hF)), ?_⟩
  simp only [Act.put, List.setIfInBounds_toArray, List.set_cons_succ, List.set_cons_zero]
  intro w2 hC
  go_wp2
  first | go_end0 | ((try simp only [Exit.inBlock, Exit.then]); refine bodyPost_ret (results_none rfl _ _ _) rfl ?_)
  exact ⟨rfl, hC⟩
end Go.Proofs.YtbjcdpmhmebjnaaGreat
/- What LogImm does to a step, given what logic answers: a contract. -/
namespace Go.Proofs.YtbjcdpmhmebjnaaGreat
open Go.RowKit
set_option linter.unusedVariables false

set_option maxRecDepth 4000 in
set_option maxHeartbeats 2000000 in
theorem stLogImm_c (g : Nat) (i : Ins) (c : Cor) (k : Gt) (e : Int) (w : World) (h : w.heap[g]? = some (.cells (Stp.cells ⟨i, c, k, e⟩) 58)) (X Z z V : Int) (hX : xV c i.rn = X) (hZ : maskV i.amount i.imm i.imm2 = Z) (hz : maskE i.amount i.imm i.imm2 = z) (D : Cor) (hl : ∀ w1 : World, w1.heap[g]? = some (.cells (Stp.cells ⟨i, c, k, e⟩) 58) → Calls Tryz.prog 198 #[.pointer (some ⟨g, 0, none⟩), .int .u64 X, .int .u64 Z] w1 fun e2 w' => e2 = .returned (.int .u64 V) ∧ w'.heap[g]? = some (.cells (Stp.cells ⟨i, D, k, e⟩) 58) ∧ But g w1 w') : Calls Tryz.prog 129 #[.pointer (some ⟨g, 0, none⟩)] w fun e2 w' => e2 = .returned (.tuple #[]) ∧ w'.heap[g]? = some (.cells (Stp.cells ⟨i, withImmV i D V, k, e⟩) 58) ∧ But g w w' := by
  go_enter Tryz.func129, Tryz.ntmps129
  go_upto_region 0 with fail
  refine Chn.wp_region_chain (Ph g i (fun _ => c) k e w) [15] [(.pointer (some ⟨g, 0, none⟩)), (.pointer (some ⟨g, 0, none⟩)), (.pointer (some ⟨g, 0, none⟩)), (.pointer (some ⟨g, 8, none⟩)), (.int .i64 i.amount), (.pointer (some ⟨g, 0, none⟩)), (.pointer (some ⟨g, 0, none⟩)), (.pointer (some ⟨g, 0, none⟩)), (.pointer (some ⟨g, 6, none⟩)), (.int .i64 i.imm), (.pointer (some ⟨g, 0, none⟩)), (.pointer (some ⟨g, 0, none⟩)), (.pointer (some ⟨g, 0, none⟩)), (.pointer (some ⟨g, 7, none⟩)), (.int .i64 i.imm2), (.tuple #[.int .u64 Z, .int .i64 z]), (.tuple #[.int .u64 Z, .int .i64 z]), (.int .u64 Z), (.int .i64 z), (.int .u64 Z), (.int .i64 z)] (by kernel_rfl) (by kernel_rfl) (by kernel_rfl) (by kernel_rfl) (ph_start h) ?_
  refine ⟨fun j w1 hC => by exact Chn.upon_pure hC (fun F hF => by (go_simp <;> exact hF)), ?_⟩
  simp only [Act.put, List.setIfInBounds_toArray, List.set_cons_succ, List.set_cons_zero]
  refine ⟨fun j w1 hC => by exact Chn.upon_pure hC (fun F hF => by (go_simp <;> exact hF)), ?_⟩
  simp only [Act.put, List.setIfInBounds_toArray, List.set_cons_succ, List.set_cons_zero]
  refine ⟨fun j w1 hC => by exact Chn.upon_pure hC (fun F hF => by (go_simp <;> exact hF)), ?_⟩
  simp only [Act.put, List.setIfInBounds_toArray, List.set_cons_succ, List.set_cons_zero]
  refine ⟨fun j w1 hC => by exact Chn.upon_pure hC (fun F hF => by (go_simp <;> exact hF)), ?_⟩
  simp only [Act.put, List.setIfInBounds_toArray, List.set_cons_succ, List.set_cons_zero]
  refine ⟨fun j w1 hC => by have hq := at_i hC.1 8 (.int .i64 i.amount) (by decide) rfl; exact Chn.upon_pure hC (fun F hF => by (go_simp <;> exact hF)), ?_⟩
  simp only [Act.put, List.setIfInBounds_toArray, List.set_cons_succ, List.set_cons_zero]
  refine ⟨fun j w1 hC => by exact Chn.upon_pure hC (fun F hF => by (go_simp <;> exact hF)), ?_⟩
  simp only [Act.put, List.setIfInBounds_toArray, List.set_cons_succ, List.set_cons_zero]
  refine ⟨fun j w1 hC => by exact Chn.upon_pure hC (fun F hF => by (go_simp <;> exact hF)), ?_⟩
  simp only [Act.put, List.setIfInBounds_toArray, List.set_cons_succ, List.set_cons_zero]
  refine ⟨fun j w1 hC => by exact Chn.upon_pure hC (fun F hF => by (go_simp <;> exact hF)), ?_⟩
  simp only [Act.put, List.setIfInBounds_toArray, List.set_cons_succ, List.set_cons_zero]
  refine ⟨fun j w1 hC => by exact Chn.upon_pure hC (fun F hF => by (go_simp <;> exact hF)), ?_⟩
  simp only [Act.put, List.setIfInBounds_toArray, List.set_cons_succ, List.set_cons_zero]
  refine ⟨fun j w1 hC => by have hq := at_i hC.1 6 (.int .i64 i.imm) (by decide) rfl; exact Chn.upon_pure hC (fun F hF => by (go_simp <;> exact hF)), ?_⟩
  simp only [Act.put, List.setIfInBounds_toArray, List.set_cons_succ, List.set_cons_zero]
  refine ⟨fun j w1 hC => by exact Chn.upon_pure hC (fun F hF => by (go_simp <;> exact hF)), ?_⟩
  simp only [Act.put, List.setIfInBounds_toArray, List.set_cons_succ, List.set_cons_zero]
  refine ⟨fun j w1 hC => by exact Chn.upon_pure hC (fun F hF => by (go_simp <;> exact hF)), ?_⟩
  simp only [Act.put, List.setIfInBounds_toArray, List.set_cons_succ, List.set_cons_zero]
  refine ⟨fun j w1 hC => by exact Chn.upon_pure hC (fun F hF => by (go_simp <;> exact hF)), ?_⟩
  simp only [Act.put, List.setIfInBounds_toArray, List.set_cons_succ, List.set_cons_zero]
  refine ⟨fun j w1 hC => by exact Chn.upon_pure hC (fun F hF => by (go_simp <;> exact hF)), ?_⟩
  simp only [Act.put, List.setIfInBounds_toArray, List.set_cons_succ, List.set_cons_zero]
  refine ⟨fun j w1 hC => by have hq := at_i hC.1 7 (.int .i64 i.imm2) (by decide) rfl; exact Chn.upon_pure hC (fun F hF => by (go_simp <;> exact hF)), ?_⟩
  simp only [Act.put, List.setIfInBounds_toArray, List.set_cons_succ, List.set_cons_zero]
  refine ⟨fun w1 hC => by exact Chn.upon_call (mask_c i.amount i.imm i.imm2 w1) (fun e2 w2 hh => ⟨by rw [hh.1, hZ, hz], hC.same rfl (by obtain ⟨q, rfl⟩ := hh.2; exact r_below_drewN (Below.refl _ _))⟩) (fun F hF => by (go_simp <;> exact hF)), ?_⟩
  simp only [Act.put, List.setIfInBounds_toArray, List.set_cons_succ, List.set_cons_zero]
  refine ⟨fun j w1 hC => by exact Chn.upon_pure hC (fun F hF => by (go_simp <;> exact hF)), ?_⟩
  simp only [Act.put, List.setIfInBounds_toArray, List.set_cons_succ, List.set_cons_zero]
  refine ⟨fun j w1 hC => by exact Chn.upon_pure hC (fun F hF => by (go_simp <;> exact hF)), ?_⟩
  simp only [Act.put, List.setIfInBounds_toArray, List.set_cons_succ, List.set_cons_zero]
  refine ⟨fun j w1 hC => by exact Chn.upon_pure hC (fun F hF => by (go_simp <;> exact hF)), ?_⟩
  simp only [Act.put, List.setIfInBounds_toArray, List.set_cons_succ, List.set_cons_zero]
  refine ⟨fun j w1 hC => by exact Chn.upon_pure hC (fun F hF => by (go_simp <;> exact hF)), ?_⟩
  simp only [Act.put, List.setIfInBounds_toArray, List.set_cons_succ, List.set_cons_zero]
  refine ⟨fun j w1 hC => by exact Chn.upon_pure hC (fun F hF => by (go_simp <;> exact hF)), ?_⟩
  simp only [Act.put, List.setIfInBounds_toArray, List.set_cons_succ, List.set_cons_zero]
  intro w2 hC
  have c3 := at_i hC.1 3 (.int .i64 i.rn) (by decide) rfl
  go_wp2_with (first | (go_at_call 184; refine (sx_c g ⟨i, c, k, e⟩ i.rn _ hC.1).mono ?_; rintro e2 w3 ⟨rfl, hB3⟩; have hs3 := keep_row hC.1 hB3; rw [show vU (xV (Stp.mk i c k e).c i.rn) = .int .u64 X from by rw [← hX]]; dsimp only) | (go_at_call 198; refine (hl _ hs3).mono ?_; rintro e2 w4 ⟨rfl, hs4, hB4⟩; dsimp only) | (go_at_call 193; refine (setWithImm_c g i D k e _ hs4 V).mono ?_; rintro e2 w5 ⟨rfl, hs5, hB5⟩; dsimp only))
  first | go_end0 | ((try simp only [Exit.inBlock, Exit.then]); refine bodyPost_ret (results_none rfl _ _ _) rfl ?_)
  exact ⟨rfl, hs5, (hC.2.trans ((but_below hB3).trans hB4)).trans hB5⟩
end Go.Proofs.YtbjcdpmhmebjnaaGreat
/- What Div does to a step: contracts. -/
namespace Go.Proofs.YtbjcdpmhmebjnaaGreat
open Go.RowKit
set_option linter.unusedVariables false

def two2 : Array Value := #[.int .i64 7, .int .i64 8]
theorem two2_info : (Tryz.prog.info? 139).map (·.size) = some two2.size := by kernel_rfl
theorem two2_one : two2.all (·.oneCell') = true := by simp [two2, Value.oneCell']
/-- The step in its phases, and a row of one's own beside it. -/
def PhR (g : Nat) (i : Ins) (cj : Nat → Cor) (b : Nat) (cs : Array Value) (t : TypeId) (k : Gt) (e : Int) (w0 : World) (j : Nat) (w : World) : Prop := Ph g i cj k e w0 j w ∧ w.heap[b]? = some (.cells cs t)
theorem PhR.same {g : Nat} {i : Ins} {cj : Nat → Cor} {b : Nat} {cs : Array Value} {t : TypeId} {k : Gt} {e : Int} {w0 w w' : World} {j : Nat} (h : PhR g i cj b cs t k e w0 j w) (he : cj (j + 1) = cj j) (hb : Below w.heap.size w w') : PhR g i cj b cs t k e w0 (j + 1) w' := ⟨h.1.same he hb, keep_row h.2 hb⟩
theorem PhR.next {g : Nat} {i : Ins} {cj : Nat → Cor} {b : Nat} {cs : Array Value} {t : TypeId} {k : Gt} {e : Int} {w0 w w' : World} {j : Nat} (hn : b ≠ g) (h : PhR g i cj b cs t k e w0 j w) (hs : w'.heap[g]? = some (.cells (Stp.cells ⟨i, cj (j + 1), k, e⟩) 58)) (hb : But g w w') : PhR g i cj b cs t k e w0 (j + 1) w' := ⟨h.1.next hs hb, hb.keep h.2 hn⟩
def pickC (c d : Cor) : Nat → Cor
  | 0 => c
  | 1 => c
  | 2 => c
  | 3 => c
  | _ => d
set_option maxRecDepth 4000 in
set_option maxHeartbeats 2000000 in
theorem stDivide_0 (g : Nat) (i : Ins) (c : Cor) (k : Gt) (e : Int) (w : World) (h : w.heap[g]? = some (.cells (Stp.cells ⟨i, c, k, e⟩) 58)) (hs : i.sub = 0) (X Y V : Int) (hX : xV c i.rn = X) (hY : xV c i.rm = Y) (hU : Hid (U64 X)) (hU2 : Hid (U64 Y)) (hV : reckonV 7 X Y = V) : Calls Tryz.prog 134 #[.pointer (some ⟨g, 0, none⟩)] w fun e2 w' => e2 = .returned (.tuple #[]) ∧ w'.heap[g]? = some (.cells (Stp.cells ⟨i, setXV c i.rd V, k, e⟩) 58) ∧ But g w w' := by
  have H := has_none w
  go_enter Tryz.func134, Tryz.ntmps134
  go_upto_region 1 with ((with_reducible refine wpList_store_new H rfl 139 _ _ rfl two2 rfl rfl two2_info ?_ two2_one ?_); (focus rfl); intro w1 H1; try simp only [Act.put])
  have h1 := keep_row h H1.below
  have hb := H1.get List.mem_cons_self
  have hn : w.heap.size ≠ g := by have := (Array.getElem?_eq_some_iff.1 h).1; omega
  have hB1 := H1.below
  clear H H1
  generalize w.heap.size = b at hb hn ⊢
  refine Chn.wp_region_chain (PhR g i (pickC c (setXV c i.rd V)) b two2 139 k e w1) [19, 26, 27, 28] [(.pointer (some ⟨g, 0, none⟩)), (.pointer (some ⟨g, 0, none⟩)), (.pointer (some ⟨g, 0, none⟩)), (.pointer (some ⟨g, 0, none⟩)), (.pointer (some ⟨g, 2, none⟩)), (.int .i64 i.rd), (.pointer (some ⟨g, 0, none⟩)), (.pointer (some ⟨g, 0, none⟩)), (.pointer (some ⟨g, 0, none⟩)), (.pointer (some ⟨g, 1, none⟩)), (.int .i64 0), (.pointer (some ⟨b, 0, none⟩)), (.int .i64 7), (.pointer (some ⟨g, 0, none⟩)), (.pointer (some ⟨g, 0, none⟩)), (.pointer (some ⟨g, 0, none⟩)), (.pointer (some ⟨g, 0, none⟩)), (.pointer (some ⟨g, 3, none⟩)), (.int .i64 i.rn), (.int .u64 X), (.pointer (some ⟨g, 0, none⟩)), (.pointer (some ⟨g, 0, none⟩)), (.pointer (some ⟨g, 0, none⟩)), (.pointer (some ⟨g, 0, none⟩)), (.pointer (some ⟨g, 4, none⟩)), (.int .i64 i.rm), (.int .u64 Y), (.int .u64 V), (.tuple #[])] (by kernel_rfl) (by kernel_rfl) (by kernel_rfl) (by kernel_rfl) (⟨ph_start h1, hb⟩) ?_
  refine ⟨fun j w1 hC => by exact Chn.upon_pure hC (fun F hF => by (go_simp <;> exact hF)), ?_⟩
  simp only [Act.put, List.setIfInBounds_toArray, List.set_cons_succ, List.set_cons_zero]
  refine ⟨fun j w1 hC => by exact Chn.upon_pure hC (fun F hF => by (go_simp <;> exact hF)), ?_⟩
  simp only [Act.put, List.setIfInBounds_toArray, List.set_cons_succ, List.set_cons_zero]
  refine ⟨fun j w1 hC => by exact Chn.upon_pure hC (fun F hF => by (go_simp <;> exact hF)), ?_⟩
  simp only [Act.put, List.setIfInBounds_toArray, List.set_cons_succ, List.set_cons_zero]
  refine ⟨fun j w1 hC => by exact Chn.upon_pure hC (fun F hF => by (go_simp <;> exact hF)), ?_⟩
  simp only [Act.put, List.setIfInBounds_toArray, List.set_cons_succ, List.set_cons_zero]
  refine ⟨fun j w1 hC => by exact Chn.upon_pure hC (fun F hF => by (go_simp <;> exact hF)), ?_⟩
  simp only [Act.put, List.setIfInBounds_toArray, List.set_cons_succ, List.set_cons_zero]
  refine ⟨fun j w1 hC => by have hq := at_i hC.1.1 2 (.int .i64 i.rd) (by decide) rfl; exact Chn.upon_pure hC (fun F hF => by (go_simp <;> exact hF)), ?_⟩
  simp only [Act.put, List.setIfInBounds_toArray, List.set_cons_succ, List.set_cons_zero]
  refine ⟨fun j w1 hC => by exact Chn.upon_pure hC (fun F hF => by (go_simp <;> exact hF)), ?_⟩
  simp only [Act.put, List.setIfInBounds_toArray, List.set_cons_succ, List.set_cons_zero]
  refine ⟨fun j w1 hC => by exact Chn.upon_pure hC (fun F hF => by (go_simp <;> exact hF)), ?_⟩
  simp only [Act.put, List.setIfInBounds_toArray, List.set_cons_succ, List.set_cons_zero]
  refine ⟨fun j w1 hC => by exact Chn.upon_pure hC (fun F hF => by (go_simp <;> exact hF)), ?_⟩
  simp only [Act.put, List.setIfInBounds_toArray, List.set_cons_succ, List.set_cons_zero]
  refine ⟨fun j w1 hC => by exact Chn.upon_pure hC (fun F hF => by (go_simp <;> exact hF)), ?_⟩
  simp only [Act.put, List.setIfInBounds_toArray, List.set_cons_succ, List.set_cons_zero]
  refine ⟨fun j w1 hC => by have hq := (hs ▸ at_i hC.1.1 1 (.int .i64 i.sub) (by decide) rfl : w1.cell? ⟨g, 1, none⟩ = some (.int .i64 0)); exact Chn.upon_pure hC (fun F hF => by (go_simp <;> exact hF)), ?_⟩
  simp only [Act.put, List.setIfInBounds_toArray, List.set_cons_succ, List.set_cons_zero]
  refine ⟨fun j w1 hC => by exact Chn.upon_pure hC (fun F hF => by (go_simp <;> exact hF)), ?_⟩
  simp only [Act.put, List.setIfInBounds_toArray, List.set_cons_succ, List.set_cons_zero]
  refine ⟨fun j w1 hC => by have hq := cell_at hC.2 0 (.int .i64 7) rfl; exact Chn.upon_pure hC (fun F hF => by (go_simp <;> exact hF)), ?_⟩
  simp only [Act.put, List.setIfInBounds_toArray, List.set_cons_succ, List.set_cons_zero]
  refine ⟨fun j w1 hC => by exact Chn.upon_pure hC (fun F hF => by (go_simp <;> exact hF)), ?_⟩
  simp only [Act.put, List.setIfInBounds_toArray, List.set_cons_succ, List.set_cons_zero]
  refine ⟨fun j w1 hC => by exact Chn.upon_pure hC (fun F hF => by (go_simp <;> exact hF)), ?_⟩
  simp only [Act.put, List.setIfInBounds_toArray, List.set_cons_succ, List.set_cons_zero]
  refine ⟨fun j w1 hC => by exact Chn.upon_pure hC (fun F hF => by (go_simp <;> exact hF)), ?_⟩
  simp only [Act.put, List.setIfInBounds_toArray, List.set_cons_succ, List.set_cons_zero]
  refine ⟨fun j w1 hC => by exact Chn.upon_pure hC (fun F hF => by (go_simp <;> exact hF)), ?_⟩
  simp only [Act.put, List.setIfInBounds_toArray, List.set_cons_succ, List.set_cons_zero]
  refine ⟨fun j w1 hC => by exact Chn.upon_pure hC (fun F hF => by (go_simp <;> exact hF)), ?_⟩
  simp only [Act.put, List.setIfInBounds_toArray, List.set_cons_succ, List.set_cons_zero]
  refine ⟨fun j w1 hC => by have hq := at_i hC.1.1 3 (.int .i64 i.rn) (by decide) rfl; exact Chn.upon_pure hC (fun F hF => by (go_simp <;> exact hF)), ?_⟩
  simp only [Act.put, List.setIfInBounds_toArray, List.set_cons_succ, List.set_cons_zero]
  refine ⟨fun w1 hC => by exact Chn.upon_call (sx_c g ⟨i, c, k, e⟩ i.rn w1 hC.1.1) (fun e2 w2 hh => ⟨by rw [hh.1]; show _ = Ending.returned (.int .u64 X); rw [← hX], hC.same rfl hh.2⟩) (fun F hF => by (go_simp <;> exact hF)), ?_⟩
  simp only [Act.put, List.setIfInBounds_toArray, List.set_cons_succ, List.set_cons_zero]
  refine ⟨fun j w1 hC => by exact Chn.upon_pure hC (fun F hF => by (go_simp <;> exact hF)), ?_⟩
  simp only [Act.put, List.setIfInBounds_toArray, List.set_cons_succ, List.set_cons_zero]
  refine ⟨fun j w1 hC => by exact Chn.upon_pure hC (fun F hF => by (go_simp <;> exact hF)), ?_⟩
  simp only [Act.put, List.setIfInBounds_toArray, List.set_cons_succ, List.set_cons_zero]
  refine ⟨fun j w1 hC => by exact Chn.upon_pure hC (fun F hF => by (go_simp <;> exact hF)), ?_⟩
  simp only [Act.put, List.setIfInBounds_toArray, List.set_cons_succ, List.set_cons_zero]
  refine ⟨fun j w1 hC => by exact Chn.upon_pure hC (fun F hF => by (go_simp <;> exact hF)), ?_⟩
  simp only [Act.put, List.setIfInBounds_toArray, List.set_cons_succ, List.set_cons_zero]
  refine ⟨fun j w1 hC => by exact Chn.upon_pure hC (fun F hF => by (go_simp <;> exact hF)), ?_⟩
  simp only [Act.put, List.setIfInBounds_toArray, List.set_cons_succ, List.set_cons_zero]
  refine ⟨fun j w1 hC => by have hq := at_i hC.1.1 4 (.int .i64 i.rm) (by decide) rfl; exact Chn.upon_pure hC (fun F hF => by (go_simp <;> exact hF)), ?_⟩
  simp only [Act.put, List.setIfInBounds_toArray, List.set_cons_succ, List.set_cons_zero]
  refine ⟨fun w1 hC => by exact Chn.upon_call (sx_c g ⟨i, c, k, e⟩ i.rm w1 hC.1.1) (fun e2 w2 hh => ⟨by rw [hh.1]; show _ = Ending.returned (.int .u64 Y); rw [← hY], hC.same rfl hh.2⟩) (fun F hF => by (go_simp <;> exact hF)), ?_⟩
  simp only [Act.put, List.setIfInBounds_toArray, List.set_cons_succ, List.set_cons_zero]
  refine ⟨fun w1 hC => by exact Chn.upon_call (reckon_c 7 X Y hU hU2 w1) (fun e2 w2 hh => ⟨by rw [hh.1, hV], hC.same rfl hh.2⟩) (fun F hF => by (go_simp <;> exact hF)), ?_⟩
  simp only [Act.put, List.setIfInBounds_toArray, List.set_cons_succ, List.set_cons_zero]
  refine ⟨fun w1 hC => by exact Chn.upon_call (setX_c g ⟨i, c, k, e⟩ i.rd V w1 hC.1.1) (fun e2 w2 hh => ⟨hh.1, hC.next hn hh.2.1 hh.2.2⟩) (fun F hF => by (go_simp <;> exact hF)), ?_⟩
  simp only [Act.put, List.setIfInBounds_toArray, List.set_cons_succ, List.set_cons_zero]
  intro w2 hC
  go_wp2
  first | go_end0 | ((try simp only [Exit.inBlock, Exit.then]); refine bodyPost_ret (results_none rfl _ _ _) rfl ?_)
  exact ⟨rfl, hC.1.1, (but_below hB1).trans hC.1.2⟩
set_option maxRecDepth 4000 in
set_option maxHeartbeats 2000000 in
theorem stDivide_1 (g : Nat) (i : Ins) (c : Cor) (k : Gt) (e : Int) (w : World) (h : w.heap[g]? = some (.cells (Stp.cells ⟨i, c, k, e⟩) 58)) (hs : i.sub = 1) (X Y V : Int) (hX : xV c i.rn = X) (hY : xV c i.rm = Y) (hU : Hid (U64 X)) (hU2 : Hid (U64 Y)) (hV : reckonV 8 X Y = V) : Calls Tryz.prog 134 #[.pointer (some ⟨g, 0, none⟩)] w fun e2 w' => e2 = .returned (.tuple #[]) ∧ w'.heap[g]? = some (.cells (Stp.cells ⟨i, setXV c i.rd V, k, e⟩) 58) ∧ But g w w' := by
  have H := has_none w
  go_enter Tryz.func134, Tryz.ntmps134
  go_upto_region 1 with ((with_reducible refine wpList_store_new H rfl 139 _ _ rfl two2 rfl rfl two2_info ?_ two2_one ?_); (focus rfl); intro w1 H1; try simp only [Act.put])
  have h1 := keep_row h H1.below
  have hb := H1.get List.mem_cons_self
  have hn : w.heap.size ≠ g := by have := (Array.getElem?_eq_some_iff.1 h).1; omega
  have hB1 := H1.below
  clear H H1
  generalize w.heap.size = b at hb hn ⊢
  refine Chn.wp_region_chain (PhR g i (pickC c (setXV c i.rd V)) b two2 139 k e w1) [19, 26, 27, 28] [(.pointer (some ⟨g, 0, none⟩)), (.pointer (some ⟨g, 0, none⟩)), (.pointer (some ⟨g, 0, none⟩)), (.pointer (some ⟨g, 0, none⟩)), (.pointer (some ⟨g, 2, none⟩)), (.int .i64 i.rd), (.pointer (some ⟨g, 0, none⟩)), (.pointer (some ⟨g, 0, none⟩)), (.pointer (some ⟨g, 0, none⟩)), (.pointer (some ⟨g, 1, none⟩)), (.int .i64 1), (.pointer (some ⟨b, 1, none⟩)), (.int .i64 8), (.pointer (some ⟨g, 0, none⟩)), (.pointer (some ⟨g, 0, none⟩)), (.pointer (some ⟨g, 0, none⟩)), (.pointer (some ⟨g, 0, none⟩)), (.pointer (some ⟨g, 3, none⟩)), (.int .i64 i.rn), (.int .u64 X), (.pointer (some ⟨g, 0, none⟩)), (.pointer (some ⟨g, 0, none⟩)), (.pointer (some ⟨g, 0, none⟩)), (.pointer (some ⟨g, 0, none⟩)), (.pointer (some ⟨g, 4, none⟩)), (.int .i64 i.rm), (.int .u64 Y), (.int .u64 V), (.tuple #[])] (by kernel_rfl) (by kernel_rfl) (by kernel_rfl) (by kernel_rfl) (⟨ph_start h1, hb⟩) ?_
  refine ⟨fun j w1 hC => by exact Chn.upon_pure hC (fun F hF => by (go_simp <;> exact hF)), ?_⟩
  simp only [Act.put, List.setIfInBounds_toArray, List.set_cons_succ, List.set_cons_zero]
  refine ⟨fun j w1 hC => by exact Chn.upon_pure hC (fun F hF => by (go_simp <;> exact hF)), ?_⟩
  simp only [Act.put, List.setIfInBounds_toArray, List.set_cons_succ, List.set_cons_zero]
  refine ⟨fun j w1 hC => by exact Chn.upon_pure hC (fun F hF => by (go_simp <;> exact hF)), ?_⟩
  simp only [Act.put, List.setIfInBounds_toArray, List.set_cons_succ, List.set_cons_zero]
  refine ⟨fun j w1 hC => by exact Chn.upon_pure hC (fun F hF => by (go_simp <;> exact hF)), ?_⟩
  simp only [Act.put, List.setIfInBounds_toArray, List.set_cons_succ, List.set_cons_zero]
  refine ⟨fun j w1 hC => by exact Chn.upon_pure hC (fun F hF => by (go_simp <;> exact hF)), ?_⟩
  simp only [Act.put, List.setIfInBounds_toArray, List.set_cons_succ, List.set_cons_zero]
  refine ⟨fun j w1 hC => by have hq := at_i hC.1.1 2 (.int .i64 i.rd) (by decide) rfl; exact Chn.upon_pure hC (fun F hF => by (go_simp <;> exact hF)), ?_⟩
  simp only [Act.put, List.setIfInBounds_toArray, List.set_cons_succ, List.set_cons_zero]
  refine ⟨fun j w1 hC => by exact Chn.upon_pure hC (fun F hF => by (go_simp <;> exact hF)), ?_⟩
  simp only [Act.put, List.setIfInBounds_toArray, List.set_cons_succ, List.set_cons_zero]
  refine ⟨fun j w1 hC => by exact Chn.upon_pure hC (fun F hF => by (go_simp <;> exact hF)), ?_⟩
  simp only [Act.put, List.setIfInBounds_toArray, List.set_cons_succ, List.set_cons_zero]
  refine ⟨fun j w1 hC => by exact Chn.upon_pure hC (fun F hF => by (go_simp <;> exact hF)), ?_⟩
  simp only [Act.put, List.setIfInBounds_toArray, List.set_cons_succ, List.set_cons_zero]
  refine ⟨fun j w1 hC => by exact Chn.upon_pure hC (fun F hF => by (go_simp <;> exact hF)), ?_⟩
  simp only [Act.put, List.setIfInBounds_toArray, List.set_cons_succ, List.set_cons_zero]
  refine ⟨fun j w1 hC => by have hq := (hs ▸ at_i hC.1.1 1 (.int .i64 i.sub) (by decide) rfl : w1.cell? ⟨g, 1, none⟩ = some (.int .i64 1)); exact Chn.upon_pure hC (fun F hF => by (go_simp <;> exact hF)), ?_⟩
  simp only [Act.put, List.setIfInBounds_toArray, List.set_cons_succ, List.set_cons_zero]
  refine ⟨fun j w1 hC => by exact Chn.upon_pure hC (fun F hF => by (go_simp <;> exact hF)), ?_⟩
  simp only [Act.put, List.setIfInBounds_toArray, List.set_cons_succ, List.set_cons_zero]
  refine ⟨fun j w1 hC => by have hq := cell_at hC.2 1 (.int .i64 8) rfl; exact Chn.upon_pure hC (fun F hF => by (go_simp <;> exact hF)), ?_⟩
  simp only [Act.put, List.setIfInBounds_toArray, List.set_cons_succ, List.set_cons_zero]
  refine ⟨fun j w1 hC => by exact Chn.upon_pure hC (fun F hF => by (go_simp <;> exact hF)), ?_⟩
  simp only [Act.put, List.setIfInBounds_toArray, List.set_cons_succ, List.set_cons_zero]
  refine ⟨fun j w1 hC => by exact Chn.upon_pure hC (fun F hF => by (go_simp <;> exact hF)), ?_⟩
  simp only [Act.put, List.setIfInBounds_toArray, List.set_cons_succ, List.set_cons_zero]
  refine ⟨fun j w1 hC => by exact Chn.upon_pure hC (fun F hF => by (go_simp <;> exact hF)), ?_⟩
  simp only [Act.put, List.setIfInBounds_toArray, List.set_cons_succ, List.set_cons_zero]
  refine ⟨fun j w1 hC => by exact Chn.upon_pure hC (fun F hF => by (go_simp <;> exact hF)), ?_⟩
  simp only [Act.put, List.setIfInBounds_toArray, List.set_cons_succ, List.set_cons_zero]
  refine ⟨fun j w1 hC => by exact Chn.upon_pure hC (fun F hF => by (go_simp <;> exact hF)), ?_⟩
  simp only [Act.put, List.setIfInBounds_toArray, List.set_cons_succ, List.set_cons_zero]
  refine ⟨fun j w1 hC => by have hq := at_i hC.1.1 3 (.int .i64 i.rn) (by decide) rfl; exact Chn.upon_pure hC (fun F hF => by (go_simp <;> exact hF)), ?_⟩
  simp only [Act.put, List.setIfInBounds_toArray, List.set_cons_succ, List.set_cons_zero]
  refine ⟨fun w1 hC => by exact Chn.upon_call (sx_c g ⟨i, c, k, e⟩ i.rn w1 hC.1.1) (fun e2 w2 hh => ⟨by rw [hh.1]; show _ = Ending.returned (.int .u64 X); rw [← hX], hC.same rfl hh.2⟩) (fun F hF => by (go_simp <;> exact hF)), ?_⟩
  simp only [Act.put, List.setIfInBounds_toArray, List.set_cons_succ, List.set_cons_zero]
  refine ⟨fun j w1 hC => by exact Chn.upon_pure hC (fun F hF => by (go_simp <;> exact hF)), ?_⟩
  simp only [Act.put, List.setIfInBounds_toArray, List.set_cons_succ, List.set_cons_zero]
  refine ⟨fun j w1 hC => by exact Chn.upon_pure hC (fun F hF => by (go_simp <;> exact hF)), ?_⟩
  simp only [Act.put, List.setIfInBounds_toArray, List.set_cons_succ, List.set_cons_zero]
  refine ⟨fun j w1 hC => by exact Chn.upon_pure hC (fun F hF => by (go_simp <;> exact hF)), ?_⟩
  simp only [Act.put, List.setIfInBounds_toArray, List.set_cons_succ, List.set_cons_zero]
  refine ⟨fun j w1 hC => by exact Chn.upon_pure hC (fun F hF => by (go_simp <;> exact hF)), ?_⟩
  simp only [Act.put, List.setIfInBounds_toArray, List.set_cons_succ, List.set_cons_zero]
  refine ⟨fun j w1 hC => by exact Chn.upon_pure hC (fun F hF => by (go_simp <;> exact hF)), ?_⟩
  simp only [Act.put, List.setIfInBounds_toArray, List.set_cons_succ, List.set_cons_zero]
  refine ⟨fun j w1 hC => by have hq := at_i hC.1.1 4 (.int .i64 i.rm) (by decide) rfl; exact Chn.upon_pure hC (fun F hF => by (go_simp <;> exact hF)), ?_⟩
  simp only [Act.put, List.setIfInBounds_toArray, List.set_cons_succ, List.set_cons_zero]
  refine ⟨fun w1 hC => by exact Chn.upon_call (sx_c g ⟨i, c, k, e⟩ i.rm w1 hC.1.1) (fun e2 w2 hh => ⟨by rw [hh.1]; show _ = Ending.returned (.int .u64 Y); rw [← hY], hC.same rfl hh.2⟩) (fun F hF => by (go_simp <;> exact hF)), ?_⟩
  simp only [Act.put, List.setIfInBounds_toArray, List.set_cons_succ, List.set_cons_zero]
  refine ⟨fun w1 hC => by exact Chn.upon_call (reckon_c 8 X Y hU hU2 w1) (fun e2 w2 hh => ⟨by rw [hh.1, hV], hC.same rfl hh.2⟩) (fun F hF => by (go_simp <;> exact hF)), ?_⟩
  simp only [Act.put, List.setIfInBounds_toArray, List.set_cons_succ, List.set_cons_zero]
  refine ⟨fun w1 hC => by exact Chn.upon_call (setX_c g ⟨i, c, k, e⟩ i.rd V w1 hC.1.1) (fun e2 w2 hh => ⟨hh.1, hC.next hn hh.2.1 hh.2.2⟩) (fun F hF => by (go_simp <;> exact hF)), ?_⟩
  simp only [Act.put, List.setIfInBounds_toArray, List.set_cons_succ, List.set_cons_zero]
  intro w2 hC
  go_wp2
  first | go_end0 | ((try simp only [Exit.inBlock, Exit.then]); refine bodyPost_ret (results_none rfl _ _ _) rfl ?_)
  exact ⟨rfl, hC.1.1, (but_below hB1).trans hC.1.2⟩
end Go.Proofs.YtbjcdpmhmebjnaaGreat
