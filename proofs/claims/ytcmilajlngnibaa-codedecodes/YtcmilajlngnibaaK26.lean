/- Encode of the document's own answer to chapter 3: the second half of its Ops: contracts. -/
import Derived.Test.YtcmilajlngnibaaK25
namespace Go.Proofs.Ytcmilajlngnibaa
open Go.RowKit Go.Rel
set_option linter.unusedVariables false
set_option linter.unusedSimpArgs false

theorem ret_tw {a b : Int} (h : a = b) : Ending.returned (.tuple #[.int .u32 a, .bool true]) = .returned (.tuple #[.int .u32 b, .bool true]) := by rw [h]
theorem when_in (b : Bool) {x : Int} (hx : 0 ≤ x) : 0 ≤ whenI b x ∧ whenI b x ≤ x := by
  cases b
  · show (0 : Int) ≤ 0 ∧ (0 : Int) ≤ x; omega
  · show 0 ≤ x ∧ x ≤ x; omega
set_option maxRecDepth 4000 in
set_option maxHeartbeats 4000000 in
theorem ac17 (sub rd rn rm ra imm imm2 amount shift cond sys : Int) (flags minus not link : Bool) (d n m s : Int) (d0 : 0 ≤ d) (d1 : d < 32) (n0 : 0 ≤ n) (n1 : n ≤ 992) (m0 : 0 ≤ m) (m1 : m ≤ 2031616) (s0 : 0 ≤ s) (s1 : s ≤ 3) (x0 : 0 ≤ imm) (y0 : imm ≤ 32760) (w : World) :
    Calls Try.prog 23 #[(⟨17, sub, rd, rn, rm, ra, imm, imm2, amount, shift, cond, sys, flags, minus, not, link⟩ : Ins).val, .int .u32 d, .int .u32 n, .int .u32 m, .int .u32 s] w fun e w' => e = .returned (.tuple #[.int .u32 (4181721088 + lowI (imm / 8) 12 * 1024 + n + d), .bool true]) ∧ Below w.heap.size w w' := by
  have l1 : 0 ≤ lowI (imm / 8) 12 ∧ lowI (imm / 8) 12 < 4096 := lowI_in _ 12
  go_enter Try.func23, Try.ntmps23
  go_wp2_with (first | (go_at_call 21; refine (lowI_c _ _ (by decide) (by decide) _).mono ?_; rintro e w' ⟨rfl, rfl⟩; dsimp only) | (go_at_call 22; refine (whenI_c _ _ _).mono ?_; rintro e w' ⟨rfl, rfl⟩; dsimp only))
  go_ret2
  exact ⟨ret_tw (by omega), below_alloc _ _⟩
set_option maxRecDepth 4000 in
set_option maxHeartbeats 4000000 in
theorem ac18 (sub rd rn rm ra imm imm2 amount shift cond sys : Int) (flags minus not link : Bool) (d n m s : Int) (d0 : 0 ≤ d) (d1 : d < 32) (n0 : 0 ≤ n) (n1 : n ≤ 992) (m0 : 0 ≤ m) (m1 : m ≤ 2031616) (s0 : 0 ≤ s) (s1 : s ≤ 3) (x0 : 0 ≤ imm) (y0 : imm ≤ 32760) (w : World) :
    Calls Try.prog 23 #[(⟨18, sub, rd, rn, rm, ra, imm, imm2, amount, shift, cond, sys, flags, minus, not, link⟩ : Ins).val, .int .u32 d, .int .u32 n, .int .u32 m, .int .u32 s] w fun e w' => e = .returned (.tuple #[.int .u32 (4177526784 + lowI (imm / 8) 12 * 1024 + n + d), .bool true]) ∧ Below w.heap.size w w' := by
  have l1 : 0 ≤ lowI (imm / 8) 12 ∧ lowI (imm / 8) 12 < 4096 := lowI_in _ 12
  go_enter Try.func23, Try.ntmps23
  go_wp2_with (first | (go_at_call 21; refine (lowI_c _ _ (by decide) (by decide) _).mono ?_; rintro e w' ⟨rfl, rfl⟩; dsimp only) | (go_at_call 22; refine (whenI_c _ _ _).mono ?_; rintro e w' ⟨rfl, rfl⟩; dsimp only))
  go_ret2
  exact ⟨ret_tw (by omega), below_alloc _ _⟩
set_option maxRecDepth 4000 in
set_option maxHeartbeats 4000000 in
theorem ac19 (sub rd rn rm ra imm imm2 amount shift cond sys : Int) (flags minus not link : Bool) (d n m s : Int) (d0 : 0 ≤ d) (d1 : d < 32) (n0 : 0 ≤ n) (n1 : n ≤ 992) (m0 : 0 ≤ m) (m1 : m ≤ 2031616) (s0 : 0 ≤ s) (s1 : s ≤ 3) (x0 : 0 ≤ amount) (y0 : amount ≤ 3) (w : World) :
    Calls Try.prog 23 #[(⟨19, sub, rd, rn, rm, ra, imm, imm2, amount, shift, cond, sys, flags, minus, not, link⟩ : Ins).val, .int .u32 d, .int .u32 n, .int .u32 m, .int .u32 s] w fun e w' => e = .returned (.tuple #[.int .u32 (4167067648 + whenI (amount == 3) 4096 + m + n + d), .bool true]) ∧ Below w.heap.size w w' := by
  have l1 := when_in (amount == 3) (x := 4096) (by decide)
  go_enter Try.func23, Try.ntmps23
  go_wp2_with (first | (go_at_call 21; refine (lowI_c _ _ (by decide) (by decide) _).mono ?_; rintro e w' ⟨rfl, rfl⟩; dsimp only) | (go_at_call 22; refine (whenI_c _ _ _).mono ?_; rintro e w' ⟨rfl, rfl⟩; dsimp only))
  go_ret2
  exact ⟨ret_tw (by omega), below_alloc _ _⟩
set_option maxRecDepth 4000 in
set_option maxHeartbeats 4000000 in
theorem ac20 (sub rd rn rm ra imm imm2 amount shift cond sys : Int) (flags minus not link : Bool) (d n m s : Int) (d0 : 0 ≤ d) (d1 : d < 32) (n0 : 0 ≤ n) (n1 : n ≤ 992) (m0 : 0 ≤ m) (m1 : m ≤ 2031616) (s0 : 0 ≤ s) (s1 : s ≤ 3) (x0 : 0 ≤ amount) (y0 : amount ≤ 3) (w : World) :
    Calls Try.prog 23 #[(⟨20, sub, rd, rn, rm, ra, imm, imm2, amount, shift, cond, sys, flags, minus, not, link⟩ : Ins).val, .int .u32 d, .int .u32 n, .int .u32 m, .int .u32 s] w fun e w' => e = .returned (.tuple #[.int .u32 (4162873344 + whenI (amount == 3) 4096 + m + n + d), .bool true]) ∧ Below w.heap.size w w' := by
  have l1 := when_in (amount == 3) (x := 4096) (by decide)
  go_enter Try.func23, Try.ntmps23
  go_wp2_with (first | (go_at_call 21; refine (lowI_c _ _ (by decide) (by decide) _).mono ?_; rintro e w' ⟨rfl, rfl⟩; dsimp only) | (go_at_call 22; refine (whenI_c _ _ _).mono ?_; rintro e w' ⟨rfl, rfl⟩; dsimp only))
  go_ret2
  exact ⟨ret_tw (by omega), below_alloc _ _⟩
set_option maxRecDepth 4000 in
set_option maxHeartbeats 4000000 in
theorem ac21_0 (sub rd rn rm ra imm imm2 amount shift cond sys : Int) (flags minus not link : Bool) (d n m : Int) (d0 : 0 ≤ d) (d1 : d < 32) (n0 : 0 ≤ n) (n1 : n ≤ 992) (m0 : 0 ≤ m) (m1 : m ≤ 2031616) (w : World) :
    Calls Try.prog 23 #[(⟨21, sub, rd, rn, rm, ra, imm, imm2, amount, shift, cond, sys, flags, minus, not, link⟩ : Ins).val, .int .u32 d, .int .u32 n, .int .u32 m, .int .u32 0] w fun e w' => e = .returned (.tuple #[.int .u32 (3370122240 + n + d), .bool true]) ∧ Below w.heap.size w w' := by
  go_enter Try.func23, Try.ntmps23
  go_wp2_with (first | (go_at_call 21; refine (lowI_c _ _ (by decide) (by decide) _).mono ?_; rintro e w' ⟨rfl, rfl⟩; dsimp only) | (go_at_call 22; refine (whenI_c _ _ _).mono ?_; rintro e w' ⟨rfl, rfl⟩; dsimp only))
  go_ret2
  exact ⟨ret_tw (by omega), below_alloc _ _⟩
set_option maxRecDepth 4000 in
set_option maxHeartbeats 4000000 in
theorem ac21_1 (sub rd rn rm ra imm imm2 amount shift cond sys : Int) (flags minus not link : Bool) (d n m : Int) (d0 : 0 ≤ d) (d1 : d < 32) (n0 : 0 ≤ n) (n1 : n ≤ 992) (m0 : 0 ≤ m) (m1 : m ≤ 2031616) (w : World) :
    Calls Try.prog 23 #[(⟨21, sub, rd, rn, rm, ra, imm, imm2, amount, shift, cond, sys, flags, minus, not, link⟩ : Ins).val, .int .u32 d, .int .u32 n, .int .u32 m, .int .u32 1] w fun e w' => e = .returned (.tuple #[.int .u32 (4173316096 + n + d), .bool true]) ∧ Below w.heap.size w w' := by
  go_enter Try.func23, Try.ntmps23
  go_wp2_with (first | (go_at_call 21; refine (lowI_c _ _ (by decide) (by decide) _).mono ?_; rintro e w' ⟨rfl, rfl⟩; dsimp only) | (go_at_call 22; refine (whenI_c _ _ _).mono ?_; rintro e w' ⟨rfl, rfl⟩; dsimp only))
  go_ret2
  exact ⟨ret_tw (by omega), below_alloc _ _⟩
set_option maxRecDepth 4000 in
set_option maxHeartbeats 4000000 in
theorem ac22 (sub rd rn rm ra imm imm2 amount shift cond sys : Int) (flags minus not link : Bool) (d n m s : Int) (d0 : 0 ≤ d) (d1 : d < 32) (n0 : 0 ≤ n) (n1 : n ≤ 992) (m0 : 0 ≤ m) (m1 : m ≤ 2031616) (s0 : 0 ≤ s) (s1 : s ≤ 3) (w : World) :
    Calls Try.prog 23 #[(⟨22, sub, rd, rn, rm, ra, imm, imm2, amount, shift, cond, sys, flags, minus, not, link⟩ : Ins).val, .int .u32 d, .int .u32 n, .int .u32 m, .int .u32 s] w fun e w' => e = .returned (.tuple #[.int .u32 (3365927936 + n + d), .bool true]) ∧ Below w.heap.size w w' := by
  go_enter Try.func23, Try.ntmps23
  go_wp2_with (first | (go_at_call 21; refine (lowI_c _ _ (by decide) (by decide) _).mono ?_; rintro e w' ⟨rfl, rfl⟩; dsimp only) | (go_at_call 22; refine (whenI_c _ _ _).mono ?_; rintro e w' ⟨rfl, rfl⟩; dsimp only))
  go_ret2
  exact ⟨ret_tw (by omega), below_alloc _ _⟩
set_option maxRecDepth 4000 in
set_option maxHeartbeats 4000000 in
theorem ac23 (sub rd rn rm ra imm imm2 amount shift cond sys : Int) (flags minus not link : Bool) (d n m s : Int) (d0 : 0 ≤ d) (d1 : d < 32) (n0 : 0 ≤ n) (n1 : n ≤ 992) (m0 : 0 ≤ m) (m1 : m ≤ 2031616) (s0 : 0 ≤ s) (s1 : s ≤ 3) (w : World) :
    Calls Try.prog 23 #[(⟨23, sub, rd, rn, rm, ra, imm, imm2, amount, shift, cond, sys, flags, minus, not, link⟩ : Ins).val, .int .u32 d, .int .u32 n, .int .u32 m, .int .u32 s] w fun e w' => e = .returned (.tuple #[.int .u32 (3361700864 + s * 32768 + n + d), .bool true]) ∧ Below w.heap.size w w' := by
  go_enter Try.func23, Try.ntmps23
  go_wp2_with (first | (go_at_call 21; refine (lowI_c _ _ (by decide) (by decide) _).mono ?_; rintro e w' ⟨rfl, rfl⟩; dsimp only) | (go_at_call 22; refine (whenI_c _ _ _).mono ?_; rintro e w' ⟨rfl, rfl⟩; dsimp only))
  go_ret2
  exact ⟨ret_tw (by omega), below_alloc _ _⟩
set_option maxRecDepth 4000 in
set_option maxHeartbeats 4000000 in
theorem ac24 (sub rd rn rm ra imm imm2 amount shift cond sys : Int) (flags minus not link : Bool) (d n m s : Int) (d0 : 0 ≤ d) (d1 : d < 32) (n0 : 0 ≤ n) (n1 : n ≤ 992) (m0 : 0 ≤ m) (m1 : m ≤ 2031616) (s0 : 0 ≤ s) (s1 : s ≤ 3) (w : World) :
    Calls Try.prog 23 #[(⟨24, sub, rd, rn, rm, ra, imm, imm2, amount, shift, cond, sys, flags, minus, not, link⟩ : Ins).val, .int .u32 d, .int .u32 n, .int .u32 m, .int .u32 s] w fun e w' => e = .returned (.tuple #[.int .u32 (3355474944 + s * 32768 + m + n + d), .bool true]) ∧ Below w.heap.size w w' := by
  go_enter Try.func23, Try.ntmps23
  go_wp2_with (first | (go_at_call 21; refine (lowI_c _ _ (by decide) (by decide) _).mono ?_; rintro e w' ⟨rfl, rfl⟩; dsimp only) | (go_at_call 22; refine (whenI_c _ _ _).mono ?_; rintro e w' ⟨rfl, rfl⟩; dsimp only))
  go_ret2
  exact ⟨ret_tw (by omega), below_alloc _ _⟩
set_option maxRecDepth 4000 in
set_option maxHeartbeats 4000000 in
theorem ac25 (sub rd rn rm ra imm imm2 amount shift cond sys : Int) (flags minus not link : Bool) (d n m s : Int) (d0 : 0 ≤ d) (d1 : d < 32) (n0 : 0 ≤ n) (n1 : n ≤ 992) (m0 : 0 ≤ m) (m1 : m ≤ 2031616) (s0 : 0 ≤ s) (s1 : s ≤ 3) (w : World) :
    Calls Try.prog 23 #[(⟨25, sub, rd, rn, rm, ra, imm, imm2, amount, shift, cond, sys, flags, minus, not, link⟩ : Ins).val, .int .u32 d, .int .u32 n, .int .u32 m, .int .u32 s] w fun e w' => e = .returned (.tuple #[.int .u32 (3573759839), .bool true]) ∧ Below w.heap.size w w' := by
  go_enter Try.func23, Try.ntmps23
  go_wp2_with (first | (go_at_call 21; refine (lowI_c _ _ (by decide) (by decide) _).mono ?_; rintro e w' ⟨rfl, rfl⟩; dsimp only) | (go_at_call 22; refine (whenI_c _ _ _).mono ?_; rintro e w' ⟨rfl, rfl⟩; dsimp only))
  go_ret2
  exact ⟨ret_tw (by omega), below_alloc _ _⟩
set_option maxRecDepth 4000 in
set_option maxHeartbeats 4000000 in
theorem ac26 (sub rd rn rm ra imm imm2 amount shift cond sys : Int) (flags minus not link : Bool) (d n m s : Int) (d0 : 0 ≤ d) (d1 : d < 32) (n0 : 0 ≤ n) (n1 : n ≤ 992) (m0 : 0 ≤ m) (m1 : m ≤ 2031616) (s0 : 0 ≤ s) (s1 : s ≤ 3) (x0 : 1 ≤ imm) (y0 : imm ≤ 3) (w : World) :
    Calls Try.prog 23 #[(⟨26, sub, rd, rn, rm, ra, imm, imm2, amount, shift, cond, sys, flags, minus, not, link⟩ : Ins).val, .int .u32 d, .int .u32 n, .int .u32 m, .int .u32 s] w fun e w' => e = .returned (.tuple #[.int .u32 (3573759167 - s * 32 + imm * 256), .bool true]) ∧ Below w.heap.size w w' := by
  go_enter Try.func23, Try.ntmps23
  go_wp2_with (first | (go_at_call 21; refine (lowI_c _ _ (by decide) (by decide) _).mono ?_; rintro e w' ⟨rfl, rfl⟩; dsimp only) | (go_at_call 22; refine (whenI_c _ _ _).mono ?_; rintro e w' ⟨rfl, rfl⟩; dsimp only))
  go_ret2
  exact ⟨ret_tw (by omega), below_alloc _ _⟩
set_option maxRecDepth 4000 in
set_option maxHeartbeats 4000000 in
theorem ac27 (sub rd rn rm ra imm imm2 amount shift cond sys : Int) (flags minus not link : Bool) (d n m s : Int) (d0 : 0 ≤ d) (d1 : d < 32) (n0 : 0 ≤ n) (n1 : n ≤ 992) (m0 : 0 ≤ m) (m1 : m ≤ 2031616) (s0 : 0 ≤ s) (s1 : s ≤ 3) (w : World) :
    Calls Try.prog 23 #[(⟨27, sub, rd, rn, rm, ra, imm, imm2, amount, shift, cond, sys, flags, minus, not, link⟩ : Ins).val, .int .u32 d, .int .u32 n, .int .u32 m, .int .u32 s] w fun e w' => e = .returned (.tuple #[.int .u32 (3573759967), .bool true]) ∧ Below w.heap.size w w' := by
  go_enter Try.func23, Try.ntmps23
  go_wp2_with (first | (go_at_call 21; refine (lowI_c _ _ (by decide) (by decide) _).mono ?_; rintro e w' ⟨rfl, rfl⟩; dsimp only) | (go_at_call 22; refine (whenI_c _ _ _).mono ?_; rintro e w' ⟨rfl, rfl⟩; dsimp only))
  go_ret2
  exact ⟨ret_tw (by omega), below_alloc _ _⟩
set_option maxRecDepth 4000 in
set_option maxHeartbeats 4000000 in
theorem ac28 (sub rd rn rm ra imm imm2 amount shift cond sys : Int) (flags minus not link : Bool) (d n m s : Int) (d0 : 0 ≤ d) (d1 : d < 32) (n0 : 0 ≤ n) (n1 : n ≤ 992) (m0 : 0 ≤ m) (m1 : m ≤ 2031616) (s0 : 0 ≤ s) (s1 : s ≤ 3) (w : World) :
    Calls Try.prog 23 #[(⟨28, sub, rd, rn, rm, ra, imm, imm2, amount, shift, cond, sys, flags, minus, not, link⟩ : Ins).val, .int .u32 d, .int .u32 n, .int .u32 m, .int .u32 s] w fun e w' => e = .returned (.tuple #[.int .u32 (3574297888 + d), .bool true]) ∧ Below w.heap.size w w' := by
  go_enter Try.func23, Try.ntmps23
  go_wp2_with (first | (go_at_call 21; refine (lowI_c _ _ (by decide) (by decide) _).mono ?_; rintro e w' ⟨rfl, rfl⟩; dsimp only) | (go_at_call 22; refine (whenI_c _ _ _).mono ?_; rintro e w' ⟨rfl, rfl⟩; dsimp only))
  go_ret2
  exact ⟨ret_tw (by omega), below_alloc _ _⟩
set_option maxRecDepth 4000 in
set_option maxHeartbeats 4000000 in
theorem ac30 (sub rd rn rm ra imm imm2 amount shift cond sys : Int) (flags minus not link : Bool) (d n m s : Int) (d0 : 0 ≤ d) (d1 : d < 32) (n0 : 0 ≤ n) (n1 : n ≤ 992) (m0 : 0 ≤ m) (m1 : m ≤ 2031616) (s0 : 0 ≤ s) (s1 : s ≤ 3) (w : World) :
    Calls Try.prog 23 #[(⟨30, sub, rd, rn, rm, ra, imm, imm2, amount, shift, cond, sys, flags, minus, not, link⟩ : Ins).val, .int .u32 d, .int .u32 n, .int .u32 m, .int .u32 s] w fun e w' => e = .returned (.tuple #[.int .u32 (3574299424 + d), .bool true]) ∧ Below w.heap.size w w' := by
  go_enter Try.func23, Try.ntmps23
  go_wp2_with (first | (go_at_call 21; refine (lowI_c _ _ (by decide) (by decide) _).mono ?_; rintro e w' ⟨rfl, rfl⟩; dsimp only) | (go_at_call 22; refine (whenI_c _ _ _).mono ?_; rintro e w' ⟨rfl, rfl⟩; dsimp only))
  go_ret2
  exact ⟨ret_tw (by omega), below_alloc _ _⟩
set_option maxRecDepth 4000 in
set_option maxHeartbeats 4000000 in
theorem ac29 (sub rd rn rm ra imm imm2 amount shift cond sys : Int) (flags minus not link : Bool) (d n m s : Int) (d0 : 0 ≤ d) (d1 : d < 32) (n0 : 0 ≤ n) (n1 : n ≤ 992) (m0 : 0 ≤ m) (m1 : m ≤ 2031616) (s0 : 0 ≤ s) (s1 : s ≤ 3) (w : World) :
    Calls Try.prog 23 #[(⟨29, sub, rd, rn, rm, ra, imm, imm2, amount, shift, cond, sys, flags, minus, not, link⟩ : Ins).val, .int .u32 d, .int .u32 n, .int .u32 m, .int .u32 s] w fun e w' => e = .returned (.tuple #[.int .u32 (3574101279), .bool true]) ∧ Below w.heap.size w w' := by
  go_enter Try.func23, Try.ntmps23
  go_wp2_with (first | (go_at_call 21; refine (lowI_c _ _ (by decide) (by decide) _).mono ?_; rintro e w' ⟨rfl, rfl⟩; dsimp only) | (go_at_call 22; refine (whenI_c _ _ _).mono ?_; rintro e w' ⟨rfl, rfl⟩; dsimp only))
  go_ret2
  exact ⟨ret_tw (by omega), below_alloc _ _⟩
set_option maxRecDepth 4000 in
set_option maxHeartbeats 4000000 in
theorem ac31 (sub rd rn rm ra imm imm2 amount shift cond sys : Int) (flags minus not link : Bool) (d n m s : Int) (d0 : 0 ≤ d) (d1 : d < 32) (n0 : 0 ≤ n) (n1 : n ≤ 992) (m0 : 0 ≤ m) (m1 : m ≤ 2031616) (s0 : 0 ≤ s) (s1 : s ≤ 3) (x0 : 0 ≤ sys) (y0 : sys ≤ 32767) (w : World) :
    Calls Try.prog 23 #[(⟨31, sub, rd, rn, rm, ra, imm, imm2, amount, shift, cond, sys, flags, minus, not, link⟩ : Ins).val, .int .u32 d, .int .u32 n, .int .u32 m, .int .u32 s] w fun e w' => e = .returned (.tuple #[.int .u32 (3576692736 + sys * 32 + d), .bool true]) ∧ Below w.heap.size w w' := by
  go_enter Try.func23, Try.ntmps23
  go_wp2_with (first | (go_at_call 21; refine (lowI_c _ _ (by decide) (by decide) _).mono ?_; rintro e w' ⟨rfl, rfl⟩; dsimp only) | (go_at_call 22; refine (whenI_c _ _ _).mono ?_; rintro e w' ⟨rfl, rfl⟩; dsimp only))
  go_ret2
  exact ⟨ret_tw (by omega), below_alloc _ _⟩
set_option maxRecDepth 4000 in
set_option maxHeartbeats 4000000 in
theorem ac32 (sub rd rn rm ra imm imm2 amount shift cond sys : Int) (flags minus not link : Bool) (d n m s : Int) (d0 : 0 ≤ d) (d1 : d < 32) (n0 : 0 ≤ n) (n1 : n ≤ 992) (m0 : 0 ≤ m) (m1 : m ≤ 2031616) (s0 : 0 ≤ s) (s1 : s ≤ 3) (x0 : 0 ≤ sys) (y0 : sys ≤ 32767) (w : World) :
    Calls Try.prog 23 #[(⟨32, sub, rd, rn, rm, ra, imm, imm2, amount, shift, cond, sys, flags, minus, not, link⟩ : Ins).val, .int .u32 d, .int .u32 n, .int .u32 m, .int .u32 s] w fun e w' => e = .returned (.tuple #[.int .u32 (3574595584 + sys * 32 + d), .bool true]) ∧ Below w.heap.size w w' := by
  go_enter Try.func23, Try.ntmps23
  go_wp2_with (first | (go_at_call 21; refine (lowI_c _ _ (by decide) (by decide) _).mono ?_; rintro e w' ⟨rfl, rfl⟩; dsimp only) | (go_at_call 22; refine (whenI_c _ _ _).mono ?_; rintro e w' ⟨rfl, rfl⟩; dsimp only))
  go_ret2
  exact ⟨ret_tw (by omega), below_alloc _ _⟩
set_option maxRecDepth 4000 in
set_option maxHeartbeats 4000000 in
theorem ac33 (sub rd rn rm ra imm imm2 amount shift cond sys : Int) (flags minus not link : Bool) (d n m s : Int) (d0 : 0 ≤ d) (d1 : d < 32) (n0 : 0 ≤ n) (n1 : n ≤ 992) (m0 : 0 ≤ m) (m1 : m ≤ 2031616) (s0 : 0 ≤ s) (s1 : s ≤ 3) (x0 : 0 ≤ imm) (y0 : imm ≤ 15) (w : World) :
    Calls Try.prog 23 #[(⟨33, sub, rd, rn, rm, ra, imm, imm2, amount, shift, cond, sys, flags, minus, not, link⟩ : Ins).val, .int .u32 d, .int .u32 n, .int .u32 m, .int .u32 s] w fun e w' => e = .returned (.tuple #[.int .u32 (3573760223 + s * 32 + imm * 256), .bool true]) ∧ Below w.heap.size w w' := by
  go_enter Try.func23, Try.ntmps23
  go_wp2_with (first | (go_at_call 21; refine (lowI_c _ _ (by decide) (by decide) _).mono ?_; rintro e w' ⟨rfl, rfl⟩; dsimp only) | (go_at_call 22; refine (whenI_c _ _ _).mono ?_; rintro e w' ⟨rfl, rfl⟩; dsimp only))
  go_ret2
  exact ⟨ret_tw (by omega), below_alloc _ _⟩
set_option maxRecDepth 4000 in
set_option maxHeartbeats 4000000 in
theorem ac34 (sub rd rn rm ra imm imm2 amount shift cond sys : Int) (flags minus not link : Bool) (d n m s : Int) (d0 : 0 ≤ d) (d1 : d < 32) (n0 : 0 ≤ n) (n1 : n ≤ 992) (m0 : 0 ≤ m) (m1 : m ≤ 2031616) (s0 : 0 ≤ s) (s1 : s ≤ 3) (x0 : 0 ≤ imm) (y0 : imm ≤ 65535) (w : World) :
    Calls Try.prog 23 #[(⟨34, sub, rd, rn, rm, ra, imm, imm2, amount, shift, cond, sys, flags, minus, not, link⟩ : Ins).val, .int .u32 d, .int .u32 n, .int .u32 m, .int .u32 s] w fun e w' => e = .returned (.tuple #[.int .u32 (3556769793 + imm * 32), .bool true]) ∧ Below w.heap.size w w' := by
  go_enter Try.func23, Try.ntmps23
  go_wp2_with (first | (go_at_call 21; refine (lowI_c _ _ (by decide) (by decide) _).mono ?_; rintro e w' ⟨rfl, rfl⟩; dsimp only) | (go_at_call 22; refine (whenI_c _ _ _).mono ?_; rintro e w' ⟨rfl, rfl⟩; dsimp only))
  go_ret2
  exact ⟨ret_tw (by omega), below_alloc _ _⟩
set_option maxRecDepth 4000 in
set_option maxHeartbeats 4000000 in
theorem ac35 (sub rd rn rm ra imm imm2 amount shift cond sys : Int) (flags minus not link : Bool) (d n m s : Int) (d0 : 0 ≤ d) (d1 : d < 32) (n0 : 0 ≤ n) (n1 : n ≤ 992) (m0 : 0 ≤ m) (m1 : m ≤ 2031616) (s0 : 0 ≤ s) (s1 : s ≤ 3) (x0 : 0 ≤ imm) (y0 : imm ≤ 65535) (w : World) :
    Calls Try.prog 23 #[(⟨35, sub, rd, rn, rm, ra, imm, imm2, amount, shift, cond, sys, flags, minus, not, link⟩ : Ins).val, .int .u32 d, .int .u32 n, .int .u32 m, .int .u32 s] w fun e w' => e = .returned (.tuple #[.int .u32 (3558866944 + imm * 32), .bool true]) ∧ Below w.heap.size w w' := by
  go_enter Try.func23, Try.ntmps23
  go_wp2_with (first | (go_at_call 21; refine (lowI_c _ _ (by decide) (by decide) _).mono ?_; rintro e w' ⟨rfl, rfl⟩; dsimp only) | (go_at_call 22; refine (whenI_c _ _ _).mono ?_; rintro e w' ⟨rfl, rfl⟩; dsimp only))
  go_ret2
  exact ⟨ret_tw (by omega), below_alloc _ _⟩
set_option maxRecDepth 4000 in
set_option maxHeartbeats 4000000 in
theorem ac36 (sub rd rn rm ra imm imm2 amount shift cond sys : Int) (flags minus not link : Bool) (d n m s : Int) (d0 : 0 ≤ d) (d1 : d < 32) (n0 : 0 ≤ n) (n1 : n ≤ 992) (m0 : 0 ≤ m) (m1 : m ≤ 2031616) (s0 : 0 ≤ s) (s1 : s ≤ 3) (w : World) :
    Calls Try.prog 23 #[(⟨36, sub, rd, rn, rm, ra, imm, imm2, amount, shift, cond, sys, flags, minus, not, link⟩ : Ins).val, .int .u32 d, .int .u32 n, .int .u32 m, .int .u32 s] w fun e w' => e = .returned (.tuple #[.int .u32 (3600745440), .bool true]) ∧ Below w.heap.size w w' := by
  go_enter Try.func23, Try.ntmps23
  go_wp2_with (first | (go_at_call 21; refine (lowI_c _ _ (by decide) (by decide) _).mono ?_; rintro e w' ⟨rfl, rfl⟩; dsimp only) | (go_at_call 22; refine (whenI_c _ _ _).mono ?_; rintro e w' ⟨rfl, rfl⟩; dsimp only))
  go_ret2
  exact ⟨ret_tw (by omega), below_alloc _ _⟩
set_option maxRecDepth 4000 in
set_option maxHeartbeats 4000000 in
theorem ac37 (sub rd rn rm ra imm imm2 amount shift cond sys : Int) (flags minus not link : Bool) (d n m s : Int) (d0 : 0 ≤ d) (d1 : d < 32) (n0 : 0 ≤ n) (n1 : n ≤ 992) (m0 : 0 ≤ m) (m1 : m ≤ 2031616) (s0 : 0 ≤ s) (s1 : s ≤ 3) (x0 : 0 ≤ imm) (y0 : imm ≤ 5) (w : World) :
    Calls Try.prog 23 #[(⟨37, sub, rd, rn, rm, ra, imm, imm2, amount, shift, cond, sys, flags, minus, not, link⟩ : Ins).val, .int .u32 d, .int .u32 n, .int .u32 m, .int .u32 s] w fun e w' => e = .returned (.tuple #[.int .u32 (3573751839 + imm * 32), .bool true]) ∧ Below w.heap.size w w' := by
  go_enter Try.func23, Try.ntmps23
  go_wp2_with (first | (go_at_call 21; refine (lowI_c _ _ (by decide) (by decide) _).mono ?_; rintro e w' ⟨rfl, rfl⟩; dsimp only) | (go_at_call 22; refine (whenI_c _ _ _).mono ?_; rintro e w' ⟨rfl, rfl⟩; dsimp only))
  go_ret2
  exact ⟨ret_tw (by omega), below_alloc _ _⟩
end Go.Proofs.Ytcmilajlngnibaa
/- Small facts for the words of the document's own answer: plain. -/
namespace Go.Proofs.Ytcmilajlngnibaa
open Go.RowKit Go.Rel
set_option linter.unusedVariables false
set_option linter.unusedSimpArgs false

theorem sys_in {n : Int} (h : sysB n = true) : 0 ≤ n ∧ n ≤ 32767 := by
  obtain ⟨x, hx, e⟩ := sys_of h
  have : x < 32768 := hx
  omega
theorem when_two {n : Int} (h : n = 0 ∨ n.tmod 12 = 0) (h0 : 0 ≤ n) (h1 : n ≤ 12) : whenI (n == 12) 4194304 = n.tdiv 12 % 2 * 4194304 := by
  obtain ⟨c, rfl⟩ := of_tmod h
  rcases (by omega : c = 0 ∨ c = 1) with rfl | rfl <;> rfl
theorem when_three {n : Int} (h : n = 0 ∨ n.tmod 3 = 0) (h0 : 0 ≤ n) (h1 : n ≤ 3) : whenI (n == 3) 4096 = n.tdiv 3 % 2 * 4096 := by
  obtain ⟨c, rfl⟩ := of_tmod h
  rcases (by omega : c = 0 ∨ c = 1) with rfl | rfl <;> rfl
end Go.Proofs.Ytcmilajlngnibaa
