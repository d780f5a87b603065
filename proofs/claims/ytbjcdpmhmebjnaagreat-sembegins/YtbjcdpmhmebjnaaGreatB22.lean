/- Encode of the document's own answer to chapter 3: the second half of its Ops: contracts. -/
import Derived.Test.YtbjcdpmhmebjnaaGreatB21
namespace Go.Proofs.YtbjcdpmhmebjnaaGreat
open Go.RowKit Go.Rel
set_option linter.unusedVariables false
set_option linter.unusedSimpArgs false

theorem ret_tw {a b : Int} (h : a = b) : Ending.returned (.tuple #[.int .u32 a, .bool true]) = .returned (.tuple #[.int .u32 b, .bool true]) := by rw [h]
theorem when_in (b : Bool) {x : Int} (hx : 0 ≤ x) : 0 ≤ whenI b x ∧ whenI b x ≤ x := by
  cases b
  · show (0 : Int) ≤ 0 ∧ (0 : Int) ≤ x; omega
  · show 0 ≤ x ∧ x ≤ x; omega
set_option maxRecDepth 4000 in
set_option maxHeartbeats 4000000 in
theorem ac17 (sub rd rn rm ra imm imm2 amount shift cond sys : Int) (flags minus not link : Bool) (d n m s : Int) (d0 : 0 ≤ d) (d1 : d < 32) (n0 : 0 ≤ n) (n1 : n ≤ 992) (m0 : 0 ≤ m) (m1 : m ≤ 2031616) (s0 : 0 ≤ s) (s1 : s ≤ 3) (x0 : 0 ≤ imm) (y0 : imm ≤ 32760) (w : World) :
    Calls Tryz.prog 122 #[(⟨17, sub, rd, rn, rm, ra, imm, imm2, amount, shift, cond, sys, flags, minus, not, link⟩ : Ins).val, .int .u32 d, .int .u32 n, .int .u32 m, .int .u32 s] w fun e w' => e = .returned (.tuple #[.int .u32 (4181721088 + lowI (imm / 8) 12 * 1024 + n + d), .bool true]) ∧ Below w.heap.size w w' := by
  have l1 : 0 ≤ lowI (imm / 8) 12 ∧ lowI (imm / 8) 12 < 4096 := lowI_in _ 12
  go_enter Tryz.func122, Tryz.ntmps122
  go_wp2_with (first | (go_at_call 120; refine (lowI_c _ _ (by decide) (by decide) _).mono ?_; rintro e w' ⟨rfl, rfl⟩; dsimp only) | (go_at_call 121; refine (whenI_c _ _ _).mono ?_; rintro e w' ⟨rfl, rfl⟩; dsimp only))
  go_ret2
  exact ⟨ret_tw (by omega), below_alloc _ _⟩
set_option maxRecDepth 4000 in
set_option maxHeartbeats 4000000 in
theorem ac18 (sub rd rn rm ra imm imm2 amount shift cond sys : Int) (flags minus not link : Bool) (d n m s : Int) (d0 : 0 ≤ d) (d1 : d < 32) (n0 : 0 ≤ n) (n1 : n ≤ 992) (m0 : 0 ≤ m) (m1 : m ≤ 2031616) (s0 : 0 ≤ s) (s1 : s ≤ 3) (x0 : 0 ≤ imm) (y0 : imm ≤ 32760) (w : World) :
    Calls Tryz.prog 122 #[(⟨18, sub, rd, rn, rm, ra, imm, imm2, amount, shift, cond, sys, flags, minus, not, link⟩ : Ins).val, .int .u32 d, .int .u32 n, .int .u32 m, .int .u32 s] w fun e w' => e = .returned (.tuple #[.int .u32 (4177526784 + lowI (imm / 8) 12 * 1024 + n + d), .bool true]) ∧ Below w.heap.size w w' := by
  have l1 : 0 ≤ lowI (imm / 8) 12 ∧ lowI (imm / 8) 12 < 4096 := lowI_in _ 12
  go_enter Tryz.func122, Tryz.ntmps122
  go_wp2_with (first | (go_at_call 120; refine (lowI_c _ _ (by decide) (by decide) _).mono ?_; rintro e w' ⟨rfl, rfl⟩; dsimp only) | (go_at_call 121; refine (whenI_c _ _ _).mono ?_; rintro e w' ⟨rfl, rfl⟩; dsimp only))
  go_ret2
  exact ⟨ret_tw (by omega), below_alloc _ _⟩
set_option maxRecDepth 4000 in
set_option maxHeartbeats 4000000 in
theorem ac19 (sub rd rn rm ra imm imm2 amount shift cond sys : Int) (flags minus not link : Bool) (d n m s : Int) (d0 : 0 ≤ d) (d1 : d < 32) (n0 : 0 ≤ n) (n1 : n ≤ 992) (m0 : 0 ≤ m) (m1 : m ≤ 2031616) (s0 : 0 ≤ s) (s1 : s ≤ 3) (x0 : 0 ≤ amount) (y0 : amount ≤ 3) (w : World) :
    Calls Tryz.prog 122 #[(⟨19, sub, rd, rn, rm, ra, imm, imm2, amount, shift, cond, sys, flags, minus, not, link⟩ : Ins).val, .int .u32 d, .int .u32 n, .int .u32 m, .int .u32 s] w fun e w' => e = .returned (.tuple #[.int .u32 (4167067648 + whenI (amount == 3) 4096 + m + n + d), .bool true]) ∧ Below w.heap.size w w' := by
  have l1 := when_in (amount == 3) (x := 4096) (by decide)
  go_enter Tryz.func122, Tryz.ntmps122
  go_wp2_with (first | (go_at_call 120; refine (lowI_c _ _ (by decide) (by decide) _).mono ?_; rintro e w' ⟨rfl, rfl⟩; dsimp only) | (go_at_call 121; refine (whenI_c _ _ _).mono ?_; rintro e w' ⟨rfl, rfl⟩; dsimp only))
  go_ret2
  exact ⟨ret_tw (by omega), below_alloc _ _⟩
set_option maxRecDepth 4000 in
set_option maxHeartbeats 4000000 in
theorem ac20 (sub rd rn rm ra imm imm2 amount shift cond sys : Int) (flags minus not link : Bool) (d n m s : Int) (d0 : 0 ≤ d) (d1 : d < 32) (n0 : 0 ≤ n) (n1 : n ≤ 992) (m0 : 0 ≤ m) (m1 : m ≤ 2031616) (s0 : 0 ≤ s) (s1 : s ≤ 3) (x0 : 0 ≤ amount) (y0 : amount ≤ 3) (w : World) :
    Calls Tryz.prog 122 #[(⟨20, sub, rd, rn, rm, ra, imm, imm2, amount, shift, cond, sys, flags, minus, not, link⟩ : Ins).val, .int .u32 d, .int .u32 n, .int .u32 m, .int .u32 s] w fun e w' => e = .returned (.tuple #[.int .u32 (4162873344 + whenI (amount == 3) 4096 + m + n + d), .bool true]) ∧ Below w.heap.size w w' := by
  have l1 := when_in (amount == 3) (x := 4096) (by decide)
  go_enter Tryz.func122, Tryz.ntmps122
  go_wp2_with (first | (go_at_call 120; refine (lowI_c _ _ (by decide) (by decide) _).mono ?_; rintro e w' ⟨rfl, rfl⟩; dsimp only) | (go_at_call 121; refine (whenI_c _ _ _).mono ?_; rintro e w' ⟨rfl, rfl⟩; dsimp only))
  go_ret2
  exact ⟨ret_tw (by omega), below_alloc _ _⟩
set_option maxRecDepth 4000 in
set_option maxHeartbeats 4000000 in
theorem ac21_0 (sub rd rn rm ra imm imm2 amount shift cond sys : Int) (flags minus not link : Bool) (d n m : Int) (d0 : 0 ≤ d) (d1 : d < 32) (n0 : 0 ≤ n) (n1 : n ≤ 992) (m0 : 0 ≤ m) (m1 : m ≤ 2031616) (w : World) :
    Calls Tryz.prog 122 #[(⟨21, sub, rd, rn, rm, ra, imm, imm2, amount, shift, cond, sys, flags, minus, not, link⟩ : Ins).val, .int .u32 d, .int .u32 n, .int .u32 m, .int .u32 0] w fun e w' => e = .returned (.tuple #[.int .u32 (3370122240 + n + d), .bool true]) ∧ Below w.heap.size w w' := by
  go_enter Tryz.func122, Tryz.ntmps122
  go_wp2_with (first | (go_at_call 120; refine (lowI_c _ _ (by decide) (by decide) _).mono ?_; rintro e w' ⟨rfl, rfl⟩; dsimp only) | (go_at_call 121; refine (whenI_c _ _ _).mono ?_; rintro e w' ⟨rfl, rfl⟩; dsimp only))
  go_ret2
  exact ⟨ret_tw (by omega), below_alloc _ _⟩
set_option maxRecDepth 4000 in
set_option maxHeartbeats 4000000 in
theorem ac21_1 (sub rd rn rm ra imm imm2 amount shift cond sys : Int) (flags minus not link : Bool) (d n m : Int) (d0 : 0 ≤ d) (d1 : d < 32) (n0 : 0 ≤ n) (n1 : n ≤ 992) (m0 : 0 ≤ m) (m1 : m ≤ 2031616) (w : World) :
    Calls Tryz.prog 122 #[(⟨21, sub, rd, rn, rm, ra, imm, imm2, amount, shift, cond, sys, flags, minus, not, link⟩ : Ins).val, .int .u32 d, .int .u32 n, .int .u32 m, .int .u32 1] w fun e w' => e = .returned (.tuple #[.int .u32 (4173316096 + n + d), .bool true]) ∧ Below w.heap.size w w' := by
  go_enter Tryz.func122, Tryz.ntmps122
  go_wp2_with (first | (go_at_call 120; refine (lowI_c _ _ (by decide) (by decide) _).mono ?_; rintro e w' ⟨rfl, rfl⟩; dsimp only) | (go_at_call 121; refine (whenI_c _ _ _).mono ?_; rintro e w' ⟨rfl, rfl⟩; dsimp only))
  go_ret2
  exact ⟨ret_tw (by omega), below_alloc _ _⟩
set_option maxRecDepth 4000 in
set_option maxHeartbeats 4000000 in
theorem ac22 (sub rd rn rm ra imm imm2 amount shift cond sys : Int) (flags minus not link : Bool) (d n m s : Int) (d0 : 0 ≤ d) (d1 : d < 32) (n0 : 0 ≤ n) (n1 : n ≤ 992) (m0 : 0 ≤ m) (m1 : m ≤ 2031616) (s0 : 0 ≤ s) (s1 : s ≤ 3) (w : World) :
    Calls Tryz.prog 122 #[(⟨22, sub, rd, rn, rm, ra, imm, imm2, amount, shift, cond, sys, flags, minus, not, link⟩ : Ins).val, .int .u32 d, .int .u32 n, .int .u32 m, .int .u32 s] w fun e w' => e = .returned (.tuple #[.int .u32 (3365927936 + n + d), .bool true]) ∧ Below w.heap.size w w' := by
  go_enter Tryz.func122, Tryz.ntmps122
  go_wp2_with (first | (go_at_call 120; refine (lowI_c _ _ (by decide) (by decide) _).mono ?_; rintro e w' ⟨rfl, rfl⟩; dsimp only) | (go_at_call 121; refine (whenI_c _ _ _).mono ?_; rintro e w' ⟨rfl, rfl⟩; dsimp only))
  go_ret2
  exact ⟨ret_tw (by omega), below_alloc _ _⟩
set_option maxRecDepth 4000 in
set_option maxHeartbeats 4000000 in
theorem ac23 (sub rd rn rm ra imm imm2 amount shift cond sys : Int) (flags minus not link : Bool) (d n m s : Int) (d0 : 0 ≤ d) (d1 : d < 32) (n0 : 0 ≤ n) (n1 : n ≤ 992) (m0 : 0 ≤ m) (m1 : m ≤ 2031616) (s0 : 0 ≤ s) (s1 : s ≤ 3) (w : World) :
    Calls Tryz.prog 122 #[(⟨23, sub, rd, rn, rm, ra, imm, imm2, amount, shift, cond, sys, flags, minus, not, link⟩ : Ins).val, .int .u32 d, .int .u32 n, .int .u32 m, .int .u32 s] w fun e w' => e = .returned (.tuple #[.int .u32 (3361700864 + s * 32768 + n + d), .bool true]) ∧ Below w.heap.size w w' := by
  go_enter Tryz.func122, Tryz.ntmps122
  go_wp2_with (first | (go_at_call 120; refine (lowI_c _ _ (by decide) (by decide) _).mono ?_; rintro e w' ⟨rfl, rfl⟩; dsimp only) | (go_at_call 121; refine (whenI_c _ _ _).mono ?_; rintro e w' ⟨rfl, rfl⟩; dsimp only))
  go_ret2
  exact ⟨ret_tw (by omega), below_alloc _ _⟩
set_option maxRecDepth 4000 in
set_option maxHeartbeats 4000000 in
theorem ac24 (sub rd rn rm ra imm imm2 amount shift cond sys : Int) (flags minus not link : Bool) (d n m s : Int) (d0 : 0 ≤ d) (d1 : d < 32) (n0 : 0 ≤ n) (n1 : n ≤ 992) (m0 : 0 ≤ m) (m1 : m ≤ 2031616) (s0 : 0 ≤ s) (s1 : s ≤ 3) (w : World) :
    Calls Tryz.prog 122 #[(⟨24, sub, rd, rn, rm, ra, imm, imm2, amount, shift, cond, sys, flags, minus, not, link⟩ : Ins).val, .int .u32 d, .int .u32 n, .int .u32 m, .int .u32 s] w fun e w' => e = .returned (.tuple #[.int .u32 (3355474944 + s * 32768 + m + n + d), .bool true]) ∧ Below w.heap.size w w' := by
  go_enter Tryz.func122, Tryz.ntmps122
  go_wp2_with (first | (go_at_call 120; refine (lowI_c _ _ (by decide) (by decide) _).mono ?_; rintro e w' ⟨rfl, rfl⟩; dsimp only) | (go_at_call 121; refine (whenI_c _ _ _).mono ?_; rintro e w' ⟨rfl, rfl⟩; dsimp only))
  go_ret2
  exact ⟨ret_tw (by omega), below_alloc _ _⟩
set_option maxRecDepth 4000 in
set_option maxHeartbeats 4000000 in
theorem ac25 (sub rd rn rm ra imm imm2 amount shift cond sys : Int) (flags minus not link : Bool) (d n m s : Int) (d0 : 0 ≤ d) (d1 : d < 32) (n0 : 0 ≤ n) (n1 : n ≤ 992) (m0 : 0 ≤ m) (m1 : m ≤ 2031616) (s0 : 0 ≤ s) (s1 : s ≤ 3) (w : World) :
    Calls Tryz.prog 122 #[(⟨25, sub, rd, rn, rm, ra, imm, imm2, amount, shift, cond, sys, flags, minus, not, link⟩ : Ins).val, .int .u32 d, .int .u32 n, .int .u32 m, .int .u32 s] w fun e w' => e = .returned (.tuple #[.int .u32 (3573759839), .bool true]) ∧ Below w.heap.size w w' := by
  go_enter Tryz.func122, Tryz.ntmps122
  go_wp2_with (first | (go_at_call 120; refine (lowI_c _ _ (by decide) (by decide) _).mono ?_; rintro e w' ⟨rfl, rfl⟩; dsimp only) | (go_at_call 121; refine (whenI_c _ _ _).mono ?_; rintro e w' ⟨rfl, rfl⟩; dsimp only))
  go_ret2
  exact ⟨ret_tw (by omega), below_alloc _ _⟩
set_option maxRecDepth 4000 in
set_option maxHeartbeats 4000000 in
theorem ac26 (sub rd rn rm ra imm imm2 amount shift cond sys : Int) (flags minus not link : Bool) (d n m s : Int) (d0 : 0 ≤ d) (d1 : d < 32) (n0 : 0 ≤ n) (n1 : n ≤ 992) (m0 : 0 ≤ m) (m1 : m ≤ 2031616) (s0 : 0 ≤ s) (s1 : s ≤ 3) (x0 : 1 ≤ imm) (y0 : imm ≤ 3) (w : World) :
    Calls Tryz.prog 122 #[(⟨26, sub, rd, rn, rm, ra, imm, imm2, amount, shift, cond, sys, flags, minus, not, link⟩ : Ins).val, .int .u32 d, .int .u32 n, .int .u32 m, .int .u32 s] w fun e w' => e = .returned (.tuple #[.int .u32 (3573759167 - s * 32 + imm * 256), .bool true]) ∧ Below w.heap.size w w' := by
  go_enter Tryz.func122, Tryz.ntmps122
  go_wp2_with (first | (go_at_call 120; refine (lowI_c _ _ (by decide) (by decide) _).mono ?_; rintro e w' ⟨rfl, rfl⟩; dsimp only) | (go_at_call 121; refine (whenI_c _ _ _).mono ?_; rintro e w' ⟨rfl, rfl⟩; dsimp only))
  go_ret2
  exact ⟨ret_tw (by omega), below_alloc _ _⟩
set_option maxRecDepth 4000 in
set_option maxHeartbeats 4000000 in
theorem ac27 (sub rd rn rm ra imm imm2 amount shift cond sys : Int) (flags minus not link : Bool) (d n m s : Int) (d0 : 0 ≤ d) (d1 : d < 32) (n0 : 0 ≤ n) (n1 : n ≤ 992) (m0 : 0 ≤ m) (m1 : m ≤ 2031616) (s0 : 0 ≤ s) (s1 : s ≤ 3) (w : World) :
    Calls Tryz.prog 122 #[(⟨27, sub, rd, rn, rm, ra, imm, imm2, amount, shift, cond, sys, flags, minus, not, link⟩ : Ins).val, .int .u32 d, .int .u32 n, .int .u32 m, .int .u32 s] w fun e w' => e = .returned (.tuple #[.int .u32 (3573759967), .bool true]) ∧ Below w.heap.size w w' := by
  go_enter Tryz.func122, Tryz.ntmps122
  go_wp2_with (first | (go_at_call 120; refine (lowI_c _ _ (by decide) (by decide) _).mono ?_; rintro e w' ⟨rfl, rfl⟩; dsimp only) | (go_at_call 121; refine (whenI_c _ _ _).mono ?_; rintro e w' ⟨rfl, rfl⟩; dsimp only))
  go_ret2
  exact ⟨ret_tw (by omega), below_alloc _ _⟩
set_option maxRecDepth 4000 in
set_option maxHeartbeats 4000000 in
theorem ac28 (sub rd rn rm ra imm imm2 amount shift cond sys : Int) (flags minus not link : Bool) (d n m s : Int) (d0 : 0 ≤ d) (d1 : d < 32) (n0 : 0 ≤ n) (n1 : n ≤ 992) (m0 : 0 ≤ m) (m1 : m ≤ 2031616) (s0 : 0 ≤ s) (s1 : s ≤ 3) (w : World) :
    Calls Tryz.prog 122 #[(⟨28, sub, rd, rn, rm, ra, imm, imm2, amount, shift, cond, sys, flags, minus, not, link⟩ : Ins).val, .int .u32 d, .int .u32 n, .int .u32 m, .int .u32 s] w fun e w' => e = .returned (.tuple #[.int .u32 (3574297888 + d), .bool true]) ∧ Below w.heap.size w w' := by
  go_enter Tryz.func122, Tryz.ntmps122
  go_wp2_with (first | (go_at_call 120; refine (lowI_c _ _ (by decide) (by decide) _).mono ?_; rintro e w' ⟨rfl, rfl⟩; dsimp only) | (go_at_call 121; refine (whenI_c _ _ _).mono ?_; rintro e w' ⟨rfl, rfl⟩; dsimp only))
  go_ret2
  exact ⟨ret_tw (by omega), below_alloc _ _⟩
set_option maxRecDepth 4000 in
set_option maxHeartbeats 4000000 in
theorem ac30 (sub rd rn rm ra imm imm2 amount shift cond sys : Int) (flags minus not link : Bool) (d n m s : Int) (d0 : 0 ≤ d) (d1 : d < 32) (n0 : 0 ≤ n) (n1 : n ≤ 992) (m0 : 0 ≤ m) (m1 : m ≤ 2031616) (s0 : 0 ≤ s) (s1 : s ≤ 3) (w : World) :
    Calls Tryz.prog 122 #[(⟨30, sub, rd, rn, rm, ra, imm, imm2, amount, shift, cond, sys, flags, minus, not, link⟩ : Ins).val, .int .u32 d, .int .u32 n, .int .u32 m, .int .u32 s] w fun e w' => e = .returned (.tuple #[.int .u32 (3574299424 + d), .bool true]) ∧ Below w.heap.size w w' := by
  go_enter Tryz.func122, Tryz.ntmps122
  go_wp2_with (first | (go_at_call 120; refine (lowI_c _ _ (by decide) (by decide) _).mono ?_; rintro e w' ⟨rfl, rfl⟩; dsimp only) | (go_at_call 121; refine (whenI_c _ _ _).mono ?_; rintro e w' ⟨rfl, rfl⟩; dsimp only))
  go_ret2
  exact ⟨ret_tw (by omega), below_alloc _ _⟩
set_option maxRecDepth 4000 in
set_option maxHeartbeats 4000000 in
theorem ac29 (sub rd rn rm ra imm imm2 amount shift cond sys : Int) (flags minus not link : Bool) (d n m s : Int) (d0 : 0 ≤ d) (d1 : d < 32) (n0 : 0 ≤ n) (n1 : n ≤ 992) (m0 : 0 ≤ m) (m1 : m ≤ 2031616) (s0 : 0 ≤ s) (s1 : s ≤ 3) (w : World) :
    Calls Tryz.prog 122 #[(⟨29, sub, rd, rn, rm, ra, imm, imm2, amount, shift, cond, sys, flags, minus, not, link⟩ : Ins).val, .int .u32 d, .int .u32 n, .int .u32 m, .int .u32 s] w fun e w' => e = .returned (.tuple #[.int .u32 (3574101279), .bool true]) ∧ Below w.heap.size w w' := by
  go_enter Tryz.func122, Tryz.ntmps122
  go_wp2_with (first | (go_at_call 120; refine (lowI_c _ _ (by decide) (by decide) _).mono ?_; rintro e w' ⟨rfl, rfl⟩; dsimp only) | (go_at_call 121; refine (whenI_c _ _ _).mono ?_; rintro e w' ⟨rfl, rfl⟩; dsimp only))
  go_ret2
  exact ⟨ret_tw (by omega), below_alloc _ _⟩
set_option maxRecDepth 4000 in
set_option maxHeartbeats 4000000 in
theorem ac31 (sub rd rn rm ra imm imm2 amount shift cond sys : Int) (flags minus not link : Bool) (d n m s : Int) (d0 : 0 ≤ d) (d1 : d < 32) (n0 : 0 ≤ n) (n1 : n ≤ 992) (m0 : 0 ≤ m) (m1 : m ≤ 2031616) (s0 : 0 ≤ s) (s1 : s ≤ 3) (x0 : 0 ≤ sys) (y0 : sys ≤ 32767) (w : World) :
    Calls Tryz.prog 122 #[(⟨31, sub, rd, rn, rm, ra, imm, imm2, amount, shift, cond, sys, flags, minus, not, link⟩ : Ins).val, .int .u32 d, .int .u32 n, .int .u32 m, .int .u32 s] w fun e w' => e = .returned (.tuple #[.int .u32 (3576692736 + sys * 32 + d), .bool true]) ∧ Below w.heap.size w w' := by
  go_enter Tryz.func122, Tryz.ntmps122
  go_wp2_with (first | (go_at_call 120; refine (lowI_c _ _ (by decide) (by decide) _).mono ?_; rintro e w' ⟨rfl, rfl⟩; dsimp only) | (go_at_call 121; refine (whenI_c _ _ _).mono ?_; rintro e w' ⟨rfl, rfl⟩; dsimp only))
  go_ret2
  exact ⟨ret_tw (by omega), below_alloc _ _⟩
set_option maxRecDepth 4000 in
set_option maxHeartbeats 4000000 in
theorem ac32 (sub rd rn rm ra imm imm2 amount shift cond sys : Int) (flags minus not link : Bool) (d n m s : Int) (d0 : 0 ≤ d) (d1 : d < 32) (n0 : 0 ≤ n) (n1 : n ≤ 992) (m0 : 0 ≤ m) (m1 : m ≤ 2031616) (s0 : 0 ≤ s) (s1 : s ≤ 3) (x0 : 0 ≤ sys) (y0 : sys ≤ 32767) (w : World) :
    Calls Tryz.prog 122 #[(⟨32, sub, rd, rn, rm, ra, imm, imm2, amount, shift, cond, sys, flags, minus, not, link⟩ : Ins).val, .int .u32 d, .int .u32 n, .int .u32 m, .int .u32 s] w fun e w' => e = .returned (.tuple #[.int .u32 (3574595584 + sys * 32 + d), .bool true]) ∧ Below w.heap.size w w' := by
  go_enter Tryz.func122, Tryz.ntmps122
  go_wp2_with (first | (go_at_call 120; refine (lowI_c _ _ (by decide) (by decide) _).mono ?_; rintro e w' ⟨rfl, rfl⟩; dsimp only) | (go_at_call 121; refine (whenI_c _ _ _).mono ?_; rintro e w' ⟨rfl, rfl⟩; dsimp only))
  go_ret2
  exact ⟨ret_tw (by omega), below_alloc _ _⟩
set_option maxRecDepth 4000 in
set_option maxHeartbeats 4000000 in
theorem ac33 (sub rd rn rm ra imm imm2 amount shift cond sys : Int) (flags minus not link : Bool) (d n m s : Int) (d0 : 0 ≤ d) (d1 : d < 32) (n0 : 0 ≤ n) (n1 : n ≤ 992) (m0 : 0 ≤ m) (m1 : m ≤ 2031616) (s0 : 0 ≤ s) (s1 : s ≤ 3) (x0 : 0 ≤ imm) (y0 : imm ≤ 15) (w : World) :
    Calls Tryz.prog 122 #[(⟨33, sub, rd, rn, rm, ra, imm, imm2, amount, shift, cond, sys, flags, minus, not, link⟩ : Ins).val, .int .u32 d, .int .u32 n, .int .u32 m, .int .u32 s] w fun e w' => e = .returned (.tuple #[.int .u32 (3573760223 + s * 32 + imm * 256), .bool true]) ∧ Below w.heap.size w w' := by
  go_enter Tryz.func122, Tryz.ntmps122
  go_wp2_with (first | (go_at_call 120; refine (lowI_c _ _ (by decide) (by decide) _).mono ?_; rintro e w' ⟨rfl, rfl⟩; dsimp only) | (go_at_call 121; refine (whenI_c _ _ _).mono ?_; rintro e w' ⟨rfl, rfl⟩; dsimp only))
  go_ret2
  exact ⟨ret_tw (by omega), below_alloc _ _⟩
set_option maxRecDepth 4000 in
set_option maxHeartbeats 4000000 in
theorem ac34 (sub rd rn rm ra imm imm2 amount shift cond sys : Int) (flags minus not link : Bool) (d n m s : Int) (d0 : 0 ≤ d) (d1 : d < 32) (n0 : 0 ≤ n) (n1 : n ≤ 992) (m0 : 0 ≤ m) (m1 : m ≤ 2031616) (s0 : 0 ≤ s) (s1 : s ≤ 3) (x0 : 0 ≤ imm) (y0 : imm ≤ 65535) (w : World) :
    Calls Tryz.prog 122 #[(⟨34, sub, rd, rn, rm, ra, imm, imm2, amount, shift, cond, sys, flags, minus, not, link⟩ : Ins).val, .int .u32 d, .int .u32 n, .int .u32 m, .int .u32 s] w fun e w' => e = .returned (.tuple #[.int .u32 (3556769793 + imm * 32), .bool true]) ∧ Below w.heap.size w w' := by
  go_enter Tryz.func122, Tryz.ntmps122
  go_wp2_with (first | (go_at_call 120; refine (lowI_c _ _ (by decide) (by decide) _).mono ?_; rintro e w' ⟨rfl, rfl⟩; dsimp only) | (go_at_call 121; refine (whenI_c _ _ _).mono ?_; rintro e w' ⟨rfl, rfl⟩; dsimp only))
  go_ret2
  exact ⟨ret_tw (by omega), below_alloc _ _⟩
set_option maxRecDepth 4000 in
set_option maxHeartbeats 4000000 in
theorem ac35 (sub rd rn rm ra imm imm2 amount shift cond sys : Int) (flags minus not link : Bool) (d n m s : Int) (d0 : 0 ≤ d) (d1 : d < 32) (n0 : 0 ≤ n) (n1 : n ≤ 992) (m0 : 0 ≤ m) (m1 : m ≤ 2031616) (s0 : 0 ≤ s) (s1 : s ≤ 3) (x0 : 0 ≤ imm) (y0 : imm ≤ 65535) (w : World) :
    Calls Tryz.prog 122 #[(⟨35, sub, rd, rn, rm, ra, imm, imm2, amount, shift, cond, sys, flags, minus, not, link⟩ : Ins).val, .int .u32 d, .int .u32 n, .int .u32 m, .int .u32 s] w fun e w' => e = .returned (.tuple #[.int .u32 (3558866944 + imm * 32), .bool true]) ∧ Below w.heap.size w w' := by
  go_enter Tryz.func122, Tryz.ntmps122
  go_wp2_with (first | (go_at_call 120; refine (lowI_c _ _ (by decide) (by decide) _).mono ?_; rintro e w' ⟨rfl, rfl⟩; dsimp only) | (go_at_call 121; refine (whenI_c _ _ _).mono ?_; rintro e w' ⟨rfl, rfl⟩; dsimp only))
  go_ret2
  exact ⟨ret_tw (by omega), below_alloc _ _⟩
set_option maxRecDepth 4000 in
set_option maxHeartbeats 4000000 in
theorem ac36 (sub rd rn rm ra imm imm2 amount shift cond sys : Int) (flags minus not link : Bool) (d n m s : Int) (d0 : 0 ≤ d) (d1 : d < 32) (n0 : 0 ≤ n) (n1 : n ≤ 992) (m0 : 0 ≤ m) (m1 : m ≤ 2031616) (s0 : 0 ≤ s) (s1 : s ≤ 3) (w : World) :
    Calls Tryz.prog 122 #[(⟨36, sub, rd, rn, rm, ra, imm, imm2, amount, shift, cond, sys, flags, minus, not, link⟩ : Ins).val, .int .u32 d, .int .u32 n, .int .u32 m, .int .u32 s] w fun e w' => e = .returned (.tuple #[.int .u32 (3600745440), .bool true]) ∧ Below w.heap.size w w' := by
  go_enter Tryz.func122, Tryz.ntmps122
  go_wp2_with (first | (go_at_call 120; refine (lowI_c _ _ (by decide) (by decide) _).mono ?_; rintro e w' ⟨rfl, rfl⟩; dsimp only) | (go_at_call 121; refine (whenI_c _ _ _).mono ?_; rintro e w' ⟨rfl, rfl⟩; dsimp only))
  go_ret2
  exact ⟨ret_tw (by omega), below_alloc _ _⟩
set_option maxRecDepth 4000 in
set_option maxHeartbeats 4000000 in
theorem ac37 (sub rd rn rm ra imm imm2 amount shift cond sys : Int) (flags minus not link : Bool) (d n m s : Int) (d0 : 0 ≤ d) (d1 : d < 32) (n0 : 0 ≤ n) (n1 : n ≤ 992) (m0 : 0 ≤ m) (m1 : m ≤ 2031616) (s0 : 0 ≤ s) (s1 : s ≤ 3) (x0 : 0 ≤ imm) (y0 : imm ≤ 5) (w : World) :
    Calls Tryz.prog 122 #[(⟨37, sub, rd, rn, rm, ra, imm, imm2, amount, shift, cond, sys, flags, minus, not, link⟩ : Ins).val, .int .u32 d, .int .u32 n, .int .u32 m, .int .u32 s] w fun e w' => e = .returned (.tuple #[.int .u32 (3573751839 + imm * 32), .bool true]) ∧ Below w.heap.size w w' := by
  go_enter Tryz.func122, Tryz.ntmps122
  go_wp2_with (first | (go_at_call 120; refine (lowI_c _ _ (by decide) (by decide) _).mono ?_; rintro e w' ⟨rfl, rfl⟩; dsimp only) | (go_at_call 121; refine (whenI_c _ _ _).mono ?_; rintro e w' ⟨rfl, rfl⟩; dsimp only))
  go_ret2
  exact ⟨ret_tw (by omega), below_alloc _ _⟩
end Go.Proofs.YtbjcdpmhmebjnaaGreat
/- Small facts for the words of the document's own answer: plain. -/
namespace Go.Proofs.YtbjcdpmhmebjnaaGreat
open Go.RowKit Go.Rel
set_option linter.unusedVariables false
set_option linter.unusedSimpArgs false

theorem sys_in {n : Int} (h : sysB n = true) : 0 ≤ n ∧ n ≤ 32767 := by
  obtain ⟨x, hx, e⟩ := sys_of h
  have : x < 32768 := hx
  omega
theorem when_two {n : Int} (h : n = 0 ∨ n.tmod 12 = 0) (h0 : 0 ≤ n) (h1 : n ≤ 12) : whenI (n == 12) 4194304 = n.tdiv 12 % 2 * 4194304 := by
  obtain ⟨c, rfl⟩ := of_tmod h
  rcases (by omega : c = 0 ∨ c = 1) with rfl | rfl <;> rfl
theorem when_three {n : Int} (h : n = 0 ∨ n.tmod 3 = 0) (h0 : 0 ≤ n) (h1 : n ≤ 3) : whenI (n == 3) 4096 = n.tdiv 3 % 2 * 4096 := by
  obtain ⟨c, rfl⟩ := of_tmod h
  rcases (by omega : c = 0 ∨ c = 1) with rfl | rfl <;> rfl
end Go.Proofs.YtbjcdpmhmebjnaaGreat
/- Encode of the document's own answer to chapter 3: contracts, an Op each. -/
namespace Go.Proofs.YtbjcdpmhmebjnaaGreat
open Go.RowKit Go.Rel
set_option linter.unusedVariables false
set_option linter.unusedSimpArgs false

set_option maxRecDepth 4000 in
set_option maxHeartbeats 8000000 in
theorem en1f (S D N M A I J U F C Y : Int) (X O L : Bool) (w : World) (hr : rightB ⟨1, S, D, N, M, A, I, J, U, F, C, Y, false, X, O, L⟩ = true) :
    Calls Tryz.prog 47 #[(⟨1, S, D, N, M, A, I, J, U, F, C, Y, false, X, O, L⟩ : Ins).val] w fun e w' => e = .returned (.tuple #[.int .u32 (encV ⟨1, S, D, N, M, A, I, J, U, F, C, Y, false, X, O, L⟩).1, .bool true]) ∧ Below w.heap.size w w' := by
  have R := rightF hr
  obtain ⟨x0, y0, z0⟩ := holds_of (lo := 0) (hi := 4095) (st := 1) (n := I) R.imm
  clear z0
  obtain ⟨x1, y1, z1⟩ := holds_of (lo := 0) (hi := 12) (st := 12) (n := U) R.amount
  replace z1 := show Hid _ from z1
  obtain rfl : S = 0 := zero_of R.sub
  have hE := (wd0 0 D N M A I J U F C Y false X O L hr).1
  have hw : whenI (U == 12) 4194304 = U.tdiv 12 % 2 * 4194304 := when_two z1.out (by omega) (by omega)
  replace hE := show Hid _ from hE
  have HC := rright_c ⟨1, 0, D, N, M, A, I, J, U, F, C, Y, false, X, O, L⟩
  rw [hr] at HC
  replace HC := show Hid _ from HC
  clear R hr
  have BX := heap_alloc_new w (.cells #[vI 1, vI 0, vI D, vI N, vI M, vI A, vI I, vI J, vI U, vI F, vI C, vI Y, .bool false, .bool X, .bool O, .bool L] 47)
  have HB := below_alloc w (.cells #[vI 1, vI 0, vI D, vI N, vI M, vI A, vI I, vI J, vI U, vI F, vI C, vI Y, .bool false, .bool X, .bool O, .bool L] 47)
  have b0 : 0 ≤ lowI D 5 ∧ lowI D 5 < 32 := lowI_in _ 5
  have m0 : Hid (lowI D 5 = D % 32) := lowI_mod D 5 (by decide)
  have b1 : 0 ≤ lowI N 5 ∧ lowI N 5 < 32 := lowI_in _ 5
  have m1 : Hid (lowI N 5 = N % 32) := lowI_mod N 5 (by decide)
  have b2 : 0 ≤ lowI M 5 ∧ lowI M 5 < 32 := lowI_in _ 5
  have m2 : Hid (lowI M 5 = M % 32) := lowI_mod M 5 (by decide)
  have b3 : 0 ≤ lowI I 12 ∧ lowI I 12 < 4096 := lowI_in _ 12
  have m3 : Hid (lowI I 12 = I % 4096) := lowI_mod I 12 (by decide)
  have v0 := when_in X (x := 1073741824) (by decide)
  have v1 := when_in (U == 12) (x := 4194304) (by decide)
  have e0 : whenI false 536870912 = 0 := rfl
  rw [e0] at hE
  go_enter Tryz.func47, Tryz.ntmps47
  go_wp2_with (first | (go_at_call 119; refine (HC.out _).mono ?_; rintro e w1 ⟨rfl, hb⟩; replace BX := keepB BX hb; replace HB := thenH HB hb; clear hb HC; dsimp only; obtain ⟨c0, c1, c2, c3, c4, c5, c6, c7, c8, c9, c10, c11, c12, c13, c14, c15⟩ := cells16 BX) | ((with_reducible refine wpList_load_if rfl 47 _ rfl w.heap.size rfl 47 _ (0, 0) _ BX Tryz.underlying47 rfl (infoK _ rfl) ?_); simp only [Act.put, List.setIfInBounds_toArray, List.set_cons_succ, List.set_cons_zero]) | (go_at_call 120; refine (lowI_c _ _ (by decide) (by decide) _).mono ?_; rintro e w' ⟨rfl, rfl⟩; dsimp only))
  go_quiet ((first | (go_at_call 120; exact Calls.quiet_of_same (lowI_c _ _ (by decide) (by decide) _)) | (go_at_call 121; exact Calls.quiet_of_same (whenI_c _ _ _))))
  replace HB : Hid (Below w.heap.size w (w'.drewN nq)) := below_drewN HB.out nq
  replace BX := drewB BX nq
  clear c0 c1 c2 c3 c4 c5 c6 c7 c8 c9 c10 c11 c12 c13 c14 c15
  obtain ⟨c0, c1, c2, c3, c4, c5, c6, c7, c8, c9, c10, c11, c12, c13, c14, c15⟩ := cells16 BX
  generalize w'.drewN nq = w2 at *
  clear BX
  go_wp2_with fail
  go_quiet ((first | (go_at_call 120; exact Calls.quiet_of_same (lowI_c _ _ (by decide) (by decide) _)) | (go_at_call 121; exact Calls.quiet_of_same (whenI_c _ _ _))))
  go_wp2
  go_ret2
  refine ⟨ret_tw ?_, below_drewN HB.out _⟩
  rw [hE.out]
  clear hE HB c0 c1 c2 c3 c4 c5 c6 c7 c8 c9 c10 c11 c12 c13 c14 c15
  replace m0 := m0.out
  replace m1 := m1.out
  replace m2 := m2.out
  replace m3 := m3.out
  omega
set_option maxRecDepth 4000 in
set_option maxHeartbeats 8000000 in
theorem en1t (S D N M A I J U F C Y : Int) (X O L : Bool) (w : World) (hr : rightB ⟨1, S, D, N, M, A, I, J, U, F, C, Y, true, X, O, L⟩ = true) :
    Calls Tryz.prog 47 #[(⟨1, S, D, N, M, A, I, J, U, F, C, Y, true, X, O, L⟩ : Ins).val] w fun e w' => e = .returned (.tuple #[.int .u32 (encV ⟨1, S, D, N, M, A, I, J, U, F, C, Y, true, X, O, L⟩).1, .bool true]) ∧ Below w.heap.size w w' := by
  have R := rightF hr
  obtain ⟨x0, y0, z0⟩ := holds_of (lo := 0) (hi := 4095) (st := 1) (n := I) R.imm
  clear z0
  obtain ⟨x1, y1, z1⟩ := holds_of (lo := 0) (hi := 12) (st := 12) (n := U) R.amount
  replace z1 := show Hid _ from z1
  obtain rfl : S = 0 := zero_of R.sub
  have hE := (wd0 0 D N M A I J U F C Y true X O L hr).1
  have hw : whenI (U == 12) 4194304 = U.tdiv 12 % 2 * 4194304 := when_two z1.out (by omega) (by omega)
  replace hE := show Hid _ from hE
  have HC := rright_c ⟨1, 0, D, N, M, A, I, J, U, F, C, Y, true, X, O, L⟩
  rw [hr] at HC
  replace HC := show Hid _ from HC
  clear R hr
  have BX := heap_alloc_new w (.cells #[vI 1, vI 0, vI D, vI N, vI M, vI A, vI I, vI J, vI U, vI F, vI C, vI Y, .bool true, .bool X, .bool O, .bool L] 47)
  have HB := below_alloc w (.cells #[vI 1, vI 0, vI D, vI N, vI M, vI A, vI I, vI J, vI U, vI F, vI C, vI Y, .bool true, .bool X, .bool O, .bool L] 47)
  have b0 : 0 ≤ lowI D 5 ∧ lowI D 5 < 32 := lowI_in _ 5
  have m0 : Hid (lowI D 5 = D % 32) := lowI_mod D 5 (by decide)
  have b1 : 0 ≤ lowI N 5 ∧ lowI N 5 < 32 := lowI_in _ 5
  have m1 : Hid (lowI N 5 = N % 32) := lowI_mod N 5 (by decide)
  have b2 : 0 ≤ lowI M 5 ∧ lowI M 5 < 32 := lowI_in _ 5
  have m2 : Hid (lowI M 5 = M % 32) := lowI_mod M 5 (by decide)
  have b3 : 0 ≤ lowI I 12 ∧ lowI I 12 < 4096 := lowI_in _ 12
  have m3 : Hid (lowI I 12 = I % 4096) := lowI_mod I 12 (by decide)
  have v0 := when_in X (x := 1073741824) (by decide)
  have v1 := when_in (U == 12) (x := 4194304) (by decide)
  have e0 : whenI true 536870912 = 536870912 := rfl
  rw [e0] at hE
  go_enter Tryz.func47, Tryz.ntmps47
  go_wp2_with (first | (go_at_call 119; refine (HC.out _).mono ?_; rintro e w1 ⟨rfl, hb⟩; replace BX := keepB BX hb; replace HB := thenH HB hb; clear hb HC; dsimp only; obtain ⟨c0, c1, c2, c3, c4, c5, c6, c7, c8, c9, c10, c11, c12, c13, c14, c15⟩ := cells16 BX) | ((with_reducible refine wpList_load_if rfl 47 _ rfl w.heap.size rfl 47 _ (0, 0) _ BX Tryz.underlying47 rfl (infoK _ rfl) ?_); simp only [Act.put, List.setIfInBounds_toArray, List.set_cons_succ, List.set_cons_zero]) | (go_at_call 120; refine (lowI_c _ _ (by decide) (by decide) _).mono ?_; rintro e w' ⟨rfl, rfl⟩; dsimp only))
  go_quiet ((first | (go_at_call 120; exact Calls.quiet_of_same (lowI_c _ _ (by decide) (by decide) _)) | (go_at_call 121; exact Calls.quiet_of_same (whenI_c _ _ _))))
  replace HB : Hid (Below w.heap.size w (w'.drewN nq)) := below_drewN HB.out nq
  replace BX := drewB BX nq
  clear c0 c1 c2 c3 c4 c5 c6 c7 c8 c9 c10 c11 c12 c13 c14 c15
  obtain ⟨c0, c1, c2, c3, c4, c5, c6, c7, c8, c9, c10, c11, c12, c13, c14, c15⟩ := cells16 BX
  generalize w'.drewN nq = w2 at *
  clear BX
  go_wp2_with fail
  go_quiet ((first | (go_at_call 120; exact Calls.quiet_of_same (lowI_c _ _ (by decide) (by decide) _)) | (go_at_call 121; exact Calls.quiet_of_same (whenI_c _ _ _))))
  go_wp2
  go_ret2
  refine ⟨ret_tw ?_, below_drewN HB.out _⟩
  rw [hE.out]
  clear hE HB c0 c1 c2 c3 c4 c5 c6 c7 c8 c9 c10 c11 c12 c13 c14 c15
  replace m0 := m0.out
  replace m1 := m1.out
  replace m2 := m2.out
  replace m3 := m3.out
  omega
set_option maxRecDepth 4000 in
set_option maxHeartbeats 8000000 in
theorem en2f (S D N M A I J U F C Y : Int) (X O L : Bool) (w : World) (hr : rightB ⟨2, S, D, N, M, A, I, J, U, F, C, Y, false, X, O, L⟩ = true) :
    Calls Tryz.prog 47 #[(⟨2, S, D, N, M, A, I, J, U, F, C, Y, false, X, O, L⟩ : Ins).val] w fun e w' => e = .returned (.tuple #[.int .u32 (encV ⟨2, S, D, N, M, A, I, J, U, F, C, Y, false, X, O, L⟩).1, .bool true]) ∧ Below w.heap.size w w' := by
  have R := rightF hr
  obtain ⟨x0, y0, z0⟩ := holds_of (lo := 0) (hi := 63) (st := 1) (n := U) R.amount
  clear z0
  obtain ⟨x1, y1, z1⟩ := holds_of (lo := 0) (hi := 2) (st := 1) (n := F) R.shift
  clear z1
  obtain rfl : S = 0 := zero_of R.sub
  have hE := (wd1 0 D N M A I J U F C Y false X O L hr).1
  replace hE := show Hid _ from hE
  have HC := rright_c ⟨2, 0, D, N, M, A, I, J, U, F, C, Y, false, X, O, L⟩
  rw [hr] at HC
  replace HC := show Hid _ from HC
  clear R hr
  have BX := heap_alloc_new w (.cells #[vI 2, vI 0, vI D, vI N, vI M, vI A, vI I, vI J, vI U, vI F, vI C, vI Y, .bool false, .bool X, .bool O, .bool L] 47)
  have HB := below_alloc w (.cells #[vI 2, vI 0, vI D, vI N, vI M, vI A, vI I, vI J, vI U, vI F, vI C, vI Y, .bool false, .bool X, .bool O, .bool L] 47)
  have b0 : 0 ≤ lowI D 5 ∧ lowI D 5 < 32 := lowI_in _ 5
  have m0 : Hid (lowI D 5 = D % 32) := lowI_mod D 5 (by decide)
  have b1 : 0 ≤ lowI N 5 ∧ lowI N 5 < 32 := lowI_in _ 5
  have m1 : Hid (lowI N 5 = N % 32) := lowI_mod N 5 (by decide)
  have b2 : 0 ≤ lowI M 5 ∧ lowI M 5 < 32 := lowI_in _ 5
  have m2 : Hid (lowI M 5 = M % 32) := lowI_mod M 5 (by decide)
  have b3 : 0 ≤ lowI U 6 ∧ lowI U 6 < 64 := lowI_in _ 6
  have m3 : Hid (lowI U 6 = U % 64) := lowI_mod U 6 (by decide)
  have v0 := when_in X (x := 1073741824) (by decide)
  have e0 : whenI false 536870912 = 0 := rfl
  rw [e0] at hE
  go_enter Tryz.func47, Tryz.ntmps47
  go_wp2_with (first | (go_at_call 119; refine (HC.out _).mono ?_; rintro e w1 ⟨rfl, hb⟩; replace BX := keepB BX hb; replace HB := thenH HB hb; clear hb HC; dsimp only; obtain ⟨c0, c1, c2, c3, c4, c5, c6, c7, c8, c9, c10, c11, c12, c13, c14, c15⟩ := cells16 BX) | ((with_reducible refine wpList_load_if rfl 47 _ rfl w.heap.size rfl 47 _ (0, 0) _ BX Tryz.underlying47 rfl (infoK _ rfl) ?_); simp only [Act.put, List.setIfInBounds_toArray, List.set_cons_succ, List.set_cons_zero]) | (go_at_call 120; refine (lowI_c _ _ (by decide) (by decide) _).mono ?_; rintro e w' ⟨rfl, rfl⟩; dsimp only))
  go_quiet ((first | (go_at_call 120; exact Calls.quiet_of_same (lowI_c _ _ (by decide) (by decide) _)) | (go_at_call 121; exact Calls.quiet_of_same (whenI_c _ _ _))))
  replace HB : Hid (Below w.heap.size w (w'.drewN nq)) := below_drewN HB.out nq
  replace BX := drewB BX nq
  clear c0 c1 c2 c3 c4 c5 c6 c7 c8 c9 c10 c11 c12 c13 c14 c15
  obtain ⟨c0, c1, c2, c3, c4, c5, c6, c7, c8, c9, c10, c11, c12, c13, c14, c15⟩ := cells16 BX
  generalize w'.drewN nq = w2 at *
  clear BX
  go_wp2_with fail
  go_quiet ((first | (go_at_call 120; exact Calls.quiet_of_same (lowI_c _ _ (by decide) (by decide) _)) | (go_at_call 121; exact Calls.quiet_of_same (whenI_c _ _ _))))
  go_wp2
  go_ret2
  refine ⟨ret_tw ?_, below_drewN HB.out _⟩
  rw [hE.out]
  clear hE HB c0 c1 c2 c3 c4 c5 c6 c7 c8 c9 c10 c11 c12 c13 c14 c15
  replace m0 := m0.out
  replace m1 := m1.out
  replace m2 := m2.out
  replace m3 := m3.out
  omega
set_option maxRecDepth 4000 in
set_option maxHeartbeats 8000000 in
theorem en2t (S D N M A I J U F C Y : Int) (X O L : Bool) (w : World) (hr : rightB ⟨2, S, D, N, M, A, I, J, U, F, C, Y, true, X, O, L⟩ = true) :
    Calls Tryz.prog 47 #[(⟨2, S, D, N, M, A, I, J, U, F, C, Y, true, X, O, L⟩ : Ins).val] w fun e w' => e = .returned (.tuple #[.int .u32 (encV ⟨2, S, D, N, M, A, I, J, U, F, C, Y, true, X, O, L⟩).1, .bool true]) ∧ Below w.heap.size w w' := by
  have R := rightF hr
  obtain ⟨x0, y0, z0⟩ := holds_of (lo := 0) (hi := 63) (st := 1) (n := U) R.amount
  clear z0
  obtain ⟨x1, y1, z1⟩ := holds_of (lo := 0) (hi := 2) (st := 1) (n := F) R.shift
  clear z1
  obtain rfl : S = 0 := zero_of R.sub
  have hE := (wd1 0 D N M A I J U F C Y true X O L hr).1
  replace hE := show Hid _ from hE
  have HC := rright_c ⟨2, 0, D, N, M, A, I, J, U, F, C, Y, true, X, O, L⟩
  rw [hr] at HC
  replace HC := show Hid _ from HC
  clear R hr
  have BX := heap_alloc_new w (.cells #[vI 2, vI 0, vI D, vI N, vI M, vI A, vI I, vI J, vI U, vI F, vI C, vI Y, .bool true, .bool X, .bool O, .bool L] 47)
  have HB := below_alloc w (.cells #[vI 2, vI 0, vI D, vI N, vI M, vI A, vI I, vI J, vI U, vI F, vI C, vI Y, .bool true, .bool X, .bool O, .bool L] 47)
  have b0 : 0 ≤ lowI D 5 ∧ lowI D 5 < 32 := lowI_in _ 5
  have m0 : Hid (lowI D 5 = D % 32) := lowI_mod D 5 (by decide)
  have b1 : 0 ≤ lowI N 5 ∧ lowI N 5 < 32 := lowI_in _ 5
  have m1 : Hid (lowI N 5 = N % 32) := lowI_mod N 5 (by decide)
  have b2 : 0 ≤ lowI M 5 ∧ lowI M 5 < 32 := lowI_in _ 5
  have m2 : Hid (lowI M 5 = M % 32) := lowI_mod M 5 (by decide)
  have b3 : 0 ≤ lowI U 6 ∧ lowI U 6 < 64 := lowI_in _ 6
  have m3 : Hid (lowI U 6 = U % 64) := lowI_mod U 6 (by decide)
  have v0 := when_in X (x := 1073741824) (by decide)
  have e0 : whenI true 536870912 = 536870912 := rfl
  rw [e0] at hE
  go_enter Tryz.func47, Tryz.ntmps47
  go_wp2_with (first | (go_at_call 119; refine (HC.out _).mono ?_; rintro e w1 ⟨rfl, hb⟩; replace BX := keepB BX hb; replace HB := thenH HB hb; clear hb HC; dsimp only; obtain ⟨c0, c1, c2, c3, c4, c5, c6, c7, c8, c9, c10, c11, c12, c13, c14, c15⟩ := cells16 BX) | ((with_reducible refine wpList_load_if rfl 47 _ rfl w.heap.size rfl 47 _ (0, 0) _ BX Tryz.underlying47 rfl (infoK _ rfl) ?_); simp only [Act.put, List.setIfInBounds_toArray, List.set_cons_succ, List.set_cons_zero]) | (go_at_call 120; refine (lowI_c _ _ (by decide) (by decide) _).mono ?_; rintro e w' ⟨rfl, rfl⟩; dsimp only))
  go_quiet ((first | (go_at_call 120; exact Calls.quiet_of_same (lowI_c _ _ (by decide) (by decide) _)) | (go_at_call 121; exact Calls.quiet_of_same (whenI_c _ _ _))))
  replace HB : Hid (Below w.heap.size w (w'.drewN nq)) := below_drewN HB.out nq
  replace BX := drewB BX nq
  clear c0 c1 c2 c3 c4 c5 c6 c7 c8 c9 c10 c11 c12 c13 c14 c15
  obtain ⟨c0, c1, c2, c3, c4, c5, c6, c7, c8, c9, c10, c11, c12, c13, c14, c15⟩ := cells16 BX
  generalize w'.drewN nq = w2 at *
  clear BX
  go_wp2_with fail
  go_quiet ((first | (go_at_call 120; exact Calls.quiet_of_same (lowI_c _ _ (by decide) (by decide) _)) | (go_at_call 121; exact Calls.quiet_of_same (whenI_c _ _ _))))
  go_wp2
  go_ret2
  refine ⟨ret_tw ?_, below_drewN HB.out _⟩
  rw [hE.out]
  clear hE HB c0 c1 c2 c3 c4 c5 c6 c7 c8 c9 c10 c11 c12 c13 c14 c15
  replace m0 := m0.out
  replace m1 := m1.out
  replace m2 := m2.out
  replace m3 := m3.out
  omega
set_option maxRecDepth 4000 in
set_option maxHeartbeats 8000000 in
theorem en3f (S D N M A I J U F C Y : Int) (X O L : Bool) (w : World) (hr : rightB ⟨3, S, D, N, M, A, I, J, U, F, C, Y, false, X, O, L⟩ = true) :
    Calls Tryz.prog 47 #[(⟨3, S, D, N, M, A, I, J, U, F, C, Y, false, X, O, L⟩ : Ins).val] w fun e w' => e = .returned (.tuple #[.int .u32 (encV ⟨3, S, D, N, M, A, I, J, U, F, C, Y, false, X, O, L⟩).1, .bool true]) ∧ Below w.heap.size w w' := by
  have R := rightF hr
  obtain ⟨x0, y0, z0⟩ := holds_of (lo := 0) (hi := 2) (st := 1) (n := S) R.sub
  clear z0
  obtain ⟨x1, y1, z1⟩ := holds_of (lo := 0) (hi := 63) (st := 1) (n := U) R.amount
  clear z1
  obtain ⟨x2, y2, z2⟩ := holds_of (lo := 0) (hi := 3) (st := 1) (n := F) R.shift
  clear z2
  have hE := (wd2 S D N M A I J U F C Y false X O L hr).1
  simp only [cond_true, cond_false] at hE
  replace hE := show Hid _ from hE
  have HC := rright_c ⟨3, S, D, N, M, A, I, J, U, F, C, Y, false, X, O, L⟩
  rw [hr] at HC
  replace HC := show Hid _ from HC
  clear R hr
  have BX := heap_alloc_new w (.cells #[vI 3, vI S, vI D, vI N, vI M, vI A, vI I, vI J, vI U, vI F, vI C, vI Y, .bool false, .bool X, .bool O, .bool L] 47)
  have HB := below_alloc w (.cells #[vI 3, vI S, vI D, vI N, vI M, vI A, vI I, vI J, vI U, vI F, vI C, vI Y, .bool false, .bool X, .bool O, .bool L] 47)
  have b0 : 0 ≤ lowI D 5 ∧ lowI D 5 < 32 := lowI_in _ 5
  have m0 : Hid (lowI D 5 = D % 32) := lowI_mod D 5 (by decide)
  have b1 : 0 ≤ lowI N 5 ∧ lowI N 5 < 32 := lowI_in _ 5
  have m1 : Hid (lowI N 5 = N % 32) := lowI_mod N 5 (by decide)
  have b2 : 0 ≤ lowI M 5 ∧ lowI M 5 < 32 := lowI_in _ 5
  have m2 : Hid (lowI M 5 = M % 32) := lowI_mod M 5 (by decide)
  have b3 : 0 ≤ lowI U 6 ∧ lowI U 6 < 64 := lowI_in _ 6
  have m3 : Hid (lowI U 6 = U % 64) := lowI_mod U 6 (by decide)
  have v0 := when_in X (x := 1073741824) (by decide)
  have v1 := when_in O (x := 2097152) (by decide)
  have e0 : whenI false 536870912 = 0 := rfl
  skip
  go_enter Tryz.func47, Tryz.ntmps47
  go_wp2_with (first | (go_at_call 119; refine (HC.out _).mono ?_; rintro e w1 ⟨rfl, hb⟩; replace BX := keepB BX hb; replace HB := thenH HB hb; clear hb HC; dsimp only; obtain ⟨c0, c1, c2, c3, c4, c5, c6, c7, c8, c9, c10, c11, c12, c13, c14, c15⟩ := cells16 BX) | ((with_reducible refine wpList_load_if rfl 47 _ rfl w.heap.size rfl 47 _ (0, 0) _ BX Tryz.underlying47 rfl (infoK _ rfl) ?_); simp only [Act.put, List.setIfInBounds_toArray, List.set_cons_succ, List.set_cons_zero]) | (go_at_call 120; refine (lowI_c _ _ (by decide) (by decide) _).mono ?_; rintro e w' ⟨rfl, rfl⟩; dsimp only))
  go_quiet ((first | (go_at_call 120; exact Calls.quiet_of_same (lowI_c _ _ (by decide) (by decide) _)) | (go_at_call 121; exact Calls.quiet_of_same (whenI_c _ _ _))))
  replace HB : Hid (Below w.heap.size w (w'.drewN nq)) := below_drewN HB.out nq
  replace BX := drewB BX nq
  clear c0 c1 c2 c3 c4 c5 c6 c7 c8 c9 c10 c11 c12 c13 c14 c15
  obtain ⟨c0, c1, c2, c3, c4, c5, c6, c7, c8, c9, c10, c11, c12, c13, c14, c15⟩ := cells16 BX
  generalize w'.drewN nq = w2 at *
  clear BX
  go_wp2_with fail
  go_quiet ((first | (go_at_call 120; exact Calls.quiet_of_same (lowI_c _ _ (by decide) (by decide) _)) | (go_at_call 121; exact Calls.quiet_of_same (whenI_c _ _ _))))
  go_wp2
  go_ret2
  refine ⟨ret_tw ?_, below_drewN HB.out _⟩
  rw [hE.out]
  clear hE HB c0 c1 c2 c3 c4 c5 c6 c7 c8 c9 c10 c11 c12 c13 c14 c15
  replace m0 := m0.out
  replace m1 := m1.out
  replace m2 := m2.out
  replace m3 := m3.out
  omega
set_option maxRecDepth 4000 in
set_option maxHeartbeats 8000000 in
theorem en3t (S D N M A I J U F C Y : Int) (X O L : Bool) (w : World) (hr : rightB ⟨3, S, D, N, M, A, I, J, U, F, C, Y, true, X, O, L⟩ = true) :
    Calls Tryz.prog 47 #[(⟨3, S, D, N, M, A, I, J, U, F, C, Y, true, X, O, L⟩ : Ins).val] w fun e w' => e = .returned (.tuple #[.int .u32 (encV ⟨3, S, D, N, M, A, I, J, U, F, C, Y, true, X, O, L⟩).1, .bool true]) ∧ Below w.heap.size w w' := by
  have R := rightF hr
  obtain ⟨x0, y0, z0⟩ := holds_of (lo := 0) (hi := 2) (st := 1) (n := S) R.sub
  clear z0
  obtain ⟨x1, y1, z1⟩ := holds_of (lo := 0) (hi := 63) (st := 1) (n := U) R.amount
  clear z1
  obtain ⟨x2, y2, z2⟩ := holds_of (lo := 0) (hi := 3) (st := 1) (n := F) R.shift
  clear z2
  have hE := (wd2 S D N M A I J U F C Y true X O L hr).1
  simp only [cond_true, cond_false] at hE
  replace hE := show Hid _ from hE
  have HC := rright_c ⟨3, S, D, N, M, A, I, J, U, F, C, Y, true, X, O, L⟩
  rw [hr] at HC
  replace HC := show Hid _ from HC
  clear R hr
  have BX := heap_alloc_new w (.cells #[vI 3, vI S, vI D, vI N, vI M, vI A, vI I, vI J, vI U, vI F, vI C, vI Y, .bool true, .bool X, .bool O, .bool L] 47)
  have HB := below_alloc w (.cells #[vI 3, vI S, vI D, vI N, vI M, vI A, vI I, vI J, vI U, vI F, vI C, vI Y, .bool true, .bool X, .bool O, .bool L] 47)
  have b0 : 0 ≤ lowI D 5 ∧ lowI D 5 < 32 := lowI_in _ 5
  have m0 : Hid (lowI D 5 = D % 32) := lowI_mod D 5 (by decide)
  have b1 : 0 ≤ lowI N 5 ∧ lowI N 5 < 32 := lowI_in _ 5
  have m1 : Hid (lowI N 5 = N % 32) := lowI_mod N 5 (by decide)
  have b2 : 0 ≤ lowI M 5 ∧ lowI M 5 < 32 := lowI_in _ 5
  have m2 : Hid (lowI M 5 = M % 32) := lowI_mod M 5 (by decide)
  have b3 : 0 ≤ lowI U 6 ∧ lowI U 6 < 64 := lowI_in _ 6
  have m3 : Hid (lowI U 6 = U % 64) := lowI_mod U 6 (by decide)
  have v0 := when_in X (x := 1073741824) (by decide)
  have v1 := when_in O (x := 2097152) (by decide)
  have e0 : whenI true 536870912 = 536870912 := rfl
  skip
  go_enter Tryz.func47, Tryz.ntmps47
  go_wp2_with (first | (go_at_call 119; refine (HC.out _).mono ?_; rintro e w1 ⟨rfl, hb⟩; replace BX := keepB BX hb; replace HB := thenH HB hb; clear hb HC; dsimp only; obtain ⟨c0, c1, c2, c3, c4, c5, c6, c7, c8, c9, c10, c11, c12, c13, c14, c15⟩ := cells16 BX) | ((with_reducible refine wpList_load_if rfl 47 _ rfl w.heap.size rfl 47 _ (0, 0) _ BX Tryz.underlying47 rfl (infoK _ rfl) ?_); simp only [Act.put, List.setIfInBounds_toArray, List.set_cons_succ, List.set_cons_zero]) | (go_at_call 120; refine (lowI_c _ _ (by decide) (by decide) _).mono ?_; rintro e w' ⟨rfl, rfl⟩; dsimp only))
  go_quiet ((first | (go_at_call 120; exact Calls.quiet_of_same (lowI_c _ _ (by decide) (by decide) _)) | (go_at_call 121; exact Calls.quiet_of_same (whenI_c _ _ _))))
  replace HB : Hid (Below w.heap.size w (w'.drewN nq)) := below_drewN HB.out nq
  replace BX := drewB BX nq
  clear c0 c1 c2 c3 c4 c5 c6 c7 c8 c9 c10 c11 c12 c13 c14 c15
  obtain ⟨c0, c1, c2, c3, c4, c5, c6, c7, c8, c9, c10, c11, c12, c13, c14, c15⟩ := cells16 BX
  generalize w'.drewN nq = w2 at *
  clear BX
  go_wp2_with fail
  go_quiet ((first | (go_at_call 120; exact Calls.quiet_of_same (lowI_c _ _ (by decide) (by decide) _)) | (go_at_call 121; exact Calls.quiet_of_same (whenI_c _ _ _))))
  go_wp2
  go_ret2
  refine ⟨ret_tw ?_, below_drewN HB.out _⟩
  rw [hE.out]
  clear hE HB c0 c1 c2 c3 c4 c5 c6 c7 c8 c9 c10 c11 c12 c13 c14 c15
  replace m0 := m0.out
  replace m1 := m1.out
  replace m2 := m2.out
  replace m3 := m3.out
  omega
set_option maxRecDepth 4000 in
set_option maxHeartbeats 8000000 in
theorem en4f (S D N M A I J U F C Y : Int) (X O L : Bool) (w : World) (hr : rightB ⟨4, S, D, N, M, A, I, J, U, F, C, Y, false, X, O, L⟩ = true) :
    Calls Tryz.prog 47 #[(⟨4, S, D, N, M, A, I, J, U, F, C, Y, false, X, O, L⟩ : Ins).val] w fun e w' => e = .returned (.tuple #[.int .u32 (encV ⟨4, S, D, N, M, A, I, J, U, F, C, Y, false, X, O, L⟩).1, .bool true]) ∧ Below w.heap.size w w' := by
  have R := rightF hr
  obtain ⟨x0, y0, z0⟩ := holds_of (lo := 0) (hi := 2) (st := 1) (n := S) R.sub
  clear z0
  obtain ⟨x1, y1, z1⟩ := holds_of (lo := 0) (hi := 63) (st := 1) (n := I) R.imm
  clear z1
  obtain ⟨x2, y2, z2⟩ := holds_of (lo := 0) (hi := 63) (st := 1) (n := J) R.imm2
  clear z2
  obtain ⟨x3, y3, z3⟩ := holds_of (lo := 0) (hi := 1) (st := 1) (n := U) R.amount
  clear z3
  have hE := (wd3 S D N M A I J U F C Y false X O L hr).1
  simp only [cond_true, cond_false] at hE
  replace hE := show Hid _ from hE
  have HC := rright_c ⟨4, S, D, N, M, A, I, J, U, F, C, Y, false, X, O, L⟩
  rw [hr] at HC
  replace HC := show Hid _ from HC
  clear R hr
  have BX := heap_alloc_new w (.cells #[vI 4, vI S, vI D, vI N, vI M, vI A, vI I, vI J, vI U, vI F, vI C, vI Y, .bool false, .bool X, .bool O, .bool L] 47)
  have HB := below_alloc w (.cells #[vI 4, vI S, vI D, vI N, vI M, vI A, vI I, vI J, vI U, vI F, vI C, vI Y, .bool false, .bool X, .bool O, .bool L] 47)
  have b0 : 0 ≤ lowI D 5 ∧ lowI D 5 < 32 := lowI_in _ 5
  have m0 : Hid (lowI D 5 = D % 32) := lowI_mod D 5 (by decide)
  have b1 : 0 ≤ lowI N 5 ∧ lowI N 5 < 32 := lowI_in _ 5
  have m1 : Hid (lowI N 5 = N % 32) := lowI_mod N 5 (by decide)
  have b2 : 0 ≤ lowI M 5 ∧ lowI M 5 < 32 := lowI_in _ 5
  have m2 : Hid (lowI M 5 = M % 32) := lowI_mod M 5 (by decide)
  have b3 : 0 ≤ lowI U 1 ∧ lowI U 1 < 2 := lowI_in _ 1
  have m3 : Hid (lowI U 1 = U % 2) := lowI_mod U 1 (by decide)
  have b4 : 0 ≤ lowI I 6 ∧ lowI I 6 < 64 := lowI_in _ 6
  have m4 : Hid (lowI I 6 = I % 64) := lowI_mod I 6 (by decide)
  have b5 : 0 ≤ lowI J 6 ∧ lowI J 6 < 64 := lowI_in _ 6
  have m5 : Hid (lowI J 6 = J % 64) := lowI_mod J 6 (by decide)
  have v0 := when_in X (x := 1073741824) (by decide)
  have e0 : whenI false 536870912 = 0 := rfl
  skip
  go_enter Tryz.func47, Tryz.ntmps47
  go_wp2_with (first | (go_at_call 119; refine (HC.out _).mono ?_; rintro e w1 ⟨rfl, hb⟩; replace BX := keepB BX hb; replace HB := thenH HB hb; clear hb HC; dsimp only; obtain ⟨c0, c1, c2, c3, c4, c5, c6, c7, c8, c9, c10, c11, c12, c13, c14, c15⟩ := cells16 BX) | ((with_reducible refine wpList_load_if rfl 47 _ rfl w.heap.size rfl 47 _ (0, 0) _ BX Tryz.underlying47 rfl (infoK _ rfl) ?_); simp only [Act.put, List.setIfInBounds_toArray, List.set_cons_succ, List.set_cons_zero]) | (go_at_call 120; refine (lowI_c _ _ (by decide) (by decide) _).mono ?_; rintro e w' ⟨rfl, rfl⟩; dsimp only))
  go_quiet ((first | (go_at_call 120; exact Calls.quiet_of_same (lowI_c _ _ (by decide) (by decide) _)) | (go_at_call 121; exact Calls.quiet_of_same (whenI_c _ _ _))))
  replace HB : Hid (Below w.heap.size w (w'.drewN nq)) := below_drewN HB.out nq
  replace BX := drewB BX nq
  clear c0 c1 c2 c3 c4 c5 c6 c7 c8 c9 c10 c11 c12 c13 c14 c15
  obtain ⟨c0, c1, c2, c3, c4, c5, c6, c7, c8, c9, c10, c11, c12, c13, c14, c15⟩ := cells16 BX
  generalize w'.drewN nq = w2 at *
  clear BX
  go_wp2_with fail
  go_quiet ((first | (go_at_call 120; exact Calls.quiet_of_same (lowI_c _ _ (by decide) (by decide) _)) | (go_at_call 121; exact Calls.quiet_of_same (whenI_c _ _ _))))
  go_wp2
  go_ret2
  refine ⟨ret_tw ?_, below_drewN HB.out _⟩
  rw [hE.out]
  clear hE HB c0 c1 c2 c3 c4 c5 c6 c7 c8 c9 c10 c11 c12 c13 c14 c15
  replace m0 := m0.out
  replace m1 := m1.out
  replace m2 := m2.out
  replace m3 := m3.out
  replace m4 := m4.out
  replace m5 := m5.out
  omega
set_option maxRecDepth 4000 in
set_option maxHeartbeats 8000000 in
theorem en4t (S D N M A I J U F C Y : Int) (X O L : Bool) (w : World) (hr : rightB ⟨4, S, D, N, M, A, I, J, U, F, C, Y, true, X, O, L⟩ = true) :
    Calls Tryz.prog 47 #[(⟨4, S, D, N, M, A, I, J, U, F, C, Y, true, X, O, L⟩ : Ins).val] w fun e w' => e = .returned (.tuple #[.int .u32 (encV ⟨4, S, D, N, M, A, I, J, U, F, C, Y, true, X, O, L⟩).1, .bool true]) ∧ Below w.heap.size w w' := by
  have R := rightF hr
  obtain ⟨x0, y0, z0⟩ := holds_of (lo := 0) (hi := 2) (st := 1) (n := S) R.sub
  clear z0
  obtain ⟨x1, y1, z1⟩ := holds_of (lo := 0) (hi := 63) (st := 1) (n := I) R.imm
  clear z1
  obtain ⟨x2, y2, z2⟩ := holds_of (lo := 0) (hi := 63) (st := 1) (n := J) R.imm2
  clear z2
  obtain ⟨x3, y3, z3⟩ := holds_of (lo := 0) (hi := 1) (st := 1) (n := U) R.amount
  clear z3
  have hE := (wd3 S D N M A I J U F C Y true X O L hr).1
  simp only [cond_true, cond_false] at hE
  replace hE := show Hid _ from hE
  have HC := rright_c ⟨4, S, D, N, M, A, I, J, U, F, C, Y, true, X, O, L⟩
  rw [hr] at HC
  replace HC := show Hid _ from HC
  clear R hr
  have BX := heap_alloc_new w (.cells #[vI 4, vI S, vI D, vI N, vI M, vI A, vI I, vI J, vI U, vI F, vI C, vI Y, .bool true, .bool X, .bool O, .bool L] 47)
  have HB := below_alloc w (.cells #[vI 4, vI S, vI D, vI N, vI M, vI A, vI I, vI J, vI U, vI F, vI C, vI Y, .bool true, .bool X, .bool O, .bool L] 47)
  have b0 : 0 ≤ lowI D 5 ∧ lowI D 5 < 32 := lowI_in _ 5
  have m0 : Hid (lowI D 5 = D % 32) := lowI_mod D 5 (by decide)
  have b1 : 0 ≤ lowI N 5 ∧ lowI N 5 < 32 := lowI_in _ 5
  have m1 : Hid (lowI N 5 = N % 32) := lowI_mod N 5 (by decide)
  have b2 : 0 ≤ lowI M 5 ∧ lowI M 5 < 32 := lowI_in _ 5
  have m2 : Hid (lowI M 5 = M % 32) := lowI_mod M 5 (by decide)
  have b3 : 0 ≤ lowI U 1 ∧ lowI U 1 < 2 := lowI_in _ 1
  have m3 : Hid (lowI U 1 = U % 2) := lowI_mod U 1 (by decide)
  have b4 : 0 ≤ lowI I 6 ∧ lowI I 6 < 64 := lowI_in _ 6
  have m4 : Hid (lowI I 6 = I % 64) := lowI_mod I 6 (by decide)
  have b5 : 0 ≤ lowI J 6 ∧ lowI J 6 < 64 := lowI_in _ 6
  have m5 : Hid (lowI J 6 = J % 64) := lowI_mod J 6 (by decide)
  have v0 := when_in X (x := 1073741824) (by decide)
  have e0 : whenI true 536870912 = 536870912 := rfl
  skip
  go_enter Tryz.func47, Tryz.ntmps47
  go_wp2_with (first | (go_at_call 119; refine (HC.out _).mono ?_; rintro e w1 ⟨rfl, hb⟩; replace BX := keepB BX hb; replace HB := thenH HB hb; clear hb HC; dsimp only; obtain ⟨c0, c1, c2, c3, c4, c5, c6, c7, c8, c9, c10, c11, c12, c13, c14, c15⟩ := cells16 BX) | ((with_reducible refine wpList_load_if rfl 47 _ rfl w.heap.size rfl 47 _ (0, 0) _ BX Tryz.underlying47 rfl (infoK _ rfl) ?_); simp only [Act.put, List.setIfInBounds_toArray, List.set_cons_succ, List.set_cons_zero]) | (go_at_call 120; refine (lowI_c _ _ (by decide) (by decide) _).mono ?_; rintro e w' ⟨rfl, rfl⟩; dsimp only))
  go_quiet ((first | (go_at_call 120; exact Calls.quiet_of_same (lowI_c _ _ (by decide) (by decide) _)) | (go_at_call 121; exact Calls.quiet_of_same (whenI_c _ _ _))))
  replace HB : Hid (Below w.heap.size w (w'.drewN nq)) := below_drewN HB.out nq
  replace BX := drewB BX nq
  clear c0 c1 c2 c3 c4 c5 c6 c7 c8 c9 c10 c11 c12 c13 c14 c15
  obtain ⟨c0, c1, c2, c3, c4, c5, c6, c7, c8, c9, c10, c11, c12, c13, c14, c15⟩ := cells16 BX
  generalize w'.drewN nq = w2 at *
  clear BX
  go_wp2_with fail
  go_quiet ((first | (go_at_call 120; exact Calls.quiet_of_same (lowI_c _ _ (by decide) (by decide) _)) | (go_at_call 121; exact Calls.quiet_of_same (whenI_c _ _ _))))
  go_wp2
  go_ret2
  refine ⟨ret_tw ?_, below_drewN HB.out _⟩
  rw [hE.out]
  clear hE HB c0 c1 c2 c3 c4 c5 c6 c7 c8 c9 c10 c11 c12 c13 c14 c15
  replace m0 := m0.out
  replace m1 := m1.out
  replace m2 := m2.out
  replace m3 := m3.out
  replace m4 := m4.out
  replace m5 := m5.out
  omega
end Go.Proofs.YtbjcdpmhmebjnaaGreat
