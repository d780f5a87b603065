/- System registers: what Get of package regs, and of the document's own answer, tells: contracts, for every state. -/
import Derived.Test.YthohkemkiohicaaNz
namespace Go.Proofs.Ythohkemkiohicaa
open Go.RowKit

def daifV (c : Cor) : Int := bif c.mask then 128 else 0
def mpidrV (c : Cor) : Int := (2147483648 + c.id) % 18446744073709551616
def elV (c : Cor) : Int := (c.el * 4) % 18446744073709551616
def getV (c : Cor) (sys : Int) : Int := bif sys == 17920 then c.vbar else bif sys == 16897 then c.elr else bif sys == 16896 then c.spsr else bif sys == 17040 then c.esr else bif sys == 17152 then c.far else bif sys == 16904 then c.sp0 else bif sys == 24194 then c.tpidr else bif sys == 23056 then nzcvV c else bif sys == 23057 then daifV c else bif sys == 16389 then mpidrV c else bif sys == 16914 then elV c else 0
def getB (sys : Int) : Bool := sys == 17920 || sys == 16897 || sys == 16896 || sys == 17040 || sys == 17152 || sys == 16904 || sys == 24194 || sys == 23056 || sys == 23057 || sys == 16389 || sys == 16914
def setB (sys : Int) : Bool := sys == 17920 || sys == 16897 || sys == 16896 || sys == 17040 || sys == 17152 || sys == 16904 || sys == 24194 || sys == 23056 || sys == 23057
structure NoPlace (sys : Int) : Prop where
  n17920 : sys ≠ 17920
  n16897 : sys ≠ 16897
  n16896 : sys ≠ 16896
  n17040 : sys ≠ 17040
  n17152 : sys ≠ 17152
  n16904 : sys ≠ 16904
  n24194 : sys ≠ 24194
set_option maxHeartbeats 400000 in
theorem place_vbar (b : Nat) (w : World) : Calls Try.prog 33 #[.pointer (some ⟨b, 0, none⟩), vI 17920] w fun e w' => e = .returned (.pointer (some ⟨b, 44, none⟩)) ∧ w' = w := by
  go_enter Try.func33, Try.ntmps33
  go_wp2
  go_ret
  exact ⟨rfl, rfl⟩
set_option maxHeartbeats 400000 in
theorem place_elr (b : Nat) (w : World) : Calls Try.prog 33 #[.pointer (some ⟨b, 0, none⟩), vI 16897] w fun e w' => e = .returned (.pointer (some ⟨b, 41, none⟩)) ∧ w' = w := by
  go_enter Try.func33, Try.ntmps33
  go_wp2
  go_ret
  exact ⟨rfl, rfl⟩
set_option maxHeartbeats 400000 in
theorem place_spsr (b : Nat) (w : World) : Calls Try.prog 33 #[.pointer (some ⟨b, 0, none⟩), vI 16896] w fun e w' => e = .returned (.pointer (some ⟨b, 40, none⟩)) ∧ w' = w := by
  go_enter Try.func33, Try.ntmps33
  go_wp2
  go_ret
  exact ⟨rfl, rfl⟩
set_option maxHeartbeats 400000 in
theorem place_esr (b : Nat) (w : World) : Calls Try.prog 33 #[.pointer (some ⟨b, 0, none⟩), vI 17040] w fun e w' => e = .returned (.pointer (some ⟨b, 42, none⟩)) ∧ w' = w := by
  go_enter Try.func33, Try.ntmps33
  go_wp2
  go_ret
  exact ⟨rfl, rfl⟩
set_option maxHeartbeats 400000 in
theorem place_far (b : Nat) (w : World) : Calls Try.prog 33 #[.pointer (some ⟨b, 0, none⟩), vI 17152] w fun e w' => e = .returned (.pointer (some ⟨b, 43, none⟩)) ∧ w' = w := by
  go_enter Try.func33, Try.ntmps33
  go_wp2
  go_ret
  exact ⟨rfl, rfl⟩
set_option maxHeartbeats 400000 in
theorem place_sp0 (b : Nat) (w : World) : Calls Try.prog 33 #[.pointer (some ⟨b, 0, none⟩), vI 16904] w fun e w' => e = .returned (.pointer (some ⟨b, 31, none⟩)) ∧ w' = w := by
  go_enter Try.func33, Try.ntmps33
  go_wp2
  go_ret
  exact ⟨rfl, rfl⟩
set_option maxHeartbeats 400000 in
theorem place_tpidr (b : Nat) (w : World) : Calls Try.prog 33 #[.pointer (some ⟨b, 0, none⟩), vI 24194] w fun e w' => e = .returned (.pointer (some ⟨b, 45, none⟩)) ∧ w' = w := by
  go_enter Try.func33, Try.ntmps33
  go_wp2
  go_ret
  exact ⟨rfl, rfl⟩
set_option maxHeartbeats 400000 in
theorem place_no (b : Nat) (sys : Int) (h17920 : sys ≠ 17920) (h16897 : sys ≠ 16897) (h16896 : sys ≠ 16896) (h17040 : sys ≠ 17040) (h17152 : sys ≠ 17152) (h16904 : sys ≠ 16904) (h24194 : sys ≠ 24194) (w : World) : Calls Try.prog 33 #[.pointer (some ⟨b, 0, none⟩), vI sys] w fun e w' => e = .returned (.pointer none) ∧ w' = w := by
  go_enter Try.func33, Try.ntmps33
  go_wp2
  go_ret
  exact ⟨rfl, rfl⟩
set_option maxHeartbeats 1000000 in
theorem Get_vbar (c : Cor) (w : World) : Calls Try.prog 25 #[c.val, vI 17920] w fun e w' => e = .returned (.tuple #[vU c.vbar, .bool true]) ∧ Below w.heap.size w w' := by
  go_enter Try.func25, Try.ntmps25
  go_wp2_with (first | (go_at_call 33; refine (place_vbar _ _).mono ?_; rintro e w1 ⟨rfl, rfl⟩) | (go_at_call 31; refine (bitIf_c _ _ _).mono ?_; rintro e w1 ⟨rfl, rfl⟩))
  go_ret2
  exact ⟨rfl, by repeat (first | exact Below.refl _ _ | apply below_more | apply below_drew | apply below_drewN)⟩
set_option maxHeartbeats 1000000 in
theorem Get_elr (c : Cor) (w : World) : Calls Try.prog 25 #[c.val, vI 16897] w fun e w' => e = .returned (.tuple #[vU c.elr, .bool true]) ∧ Below w.heap.size w w' := by
  go_enter Try.func25, Try.ntmps25
  go_wp2_with (first | (go_at_call 33; refine (place_elr _ _).mono ?_; rintro e w1 ⟨rfl, rfl⟩) | (go_at_call 31; refine (bitIf_c _ _ _).mono ?_; rintro e w1 ⟨rfl, rfl⟩))
  go_ret2
  exact ⟨rfl, by repeat (first | exact Below.refl _ _ | apply below_more | apply below_drew | apply below_drewN)⟩
set_option maxHeartbeats 1000000 in
theorem Get_spsr (c : Cor) (w : World) : Calls Try.prog 25 #[c.val, vI 16896] w fun e w' => e = .returned (.tuple #[vU c.spsr, .bool true]) ∧ Below w.heap.size w w' := by
  go_enter Try.func25, Try.ntmps25
  go_wp2_with (first | (go_at_call 33; refine (place_spsr _ _).mono ?_; rintro e w1 ⟨rfl, rfl⟩) | (go_at_call 31; refine (bitIf_c _ _ _).mono ?_; rintro e w1 ⟨rfl, rfl⟩))
  go_ret2
  exact ⟨rfl, by repeat (first | exact Below.refl _ _ | apply below_more | apply below_drew | apply below_drewN)⟩
set_option maxHeartbeats 1000000 in
theorem Get_esr (c : Cor) (w : World) : Calls Try.prog 25 #[c.val, vI 17040] w fun e w' => e = .returned (.tuple #[vU c.esr, .bool true]) ∧ Below w.heap.size w w' := by
  go_enter Try.func25, Try.ntmps25
  go_wp2_with (first | (go_at_call 33; refine (place_esr _ _).mono ?_; rintro e w1 ⟨rfl, rfl⟩) | (go_at_call 31; refine (bitIf_c _ _ _).mono ?_; rintro e w1 ⟨rfl, rfl⟩))
  go_ret2
  exact ⟨rfl, by repeat (first | exact Below.refl _ _ | apply below_more | apply below_drew | apply below_drewN)⟩
set_option maxHeartbeats 1000000 in
theorem Get_far (c : Cor) (w : World) : Calls Try.prog 25 #[c.val, vI 17152] w fun e w' => e = .returned (.tuple #[vU c.far, .bool true]) ∧ Below w.heap.size w w' := by
  go_enter Try.func25, Try.ntmps25
  go_wp2_with (first | (go_at_call 33; refine (place_far _ _).mono ?_; rintro e w1 ⟨rfl, rfl⟩) | (go_at_call 31; refine (bitIf_c _ _ _).mono ?_; rintro e w1 ⟨rfl, rfl⟩))
  go_ret2
  exact ⟨rfl, by repeat (first | exact Below.refl _ _ | apply below_more | apply below_drew | apply below_drewN)⟩
set_option maxHeartbeats 1000000 in
theorem Get_sp0 (c : Cor) (w : World) : Calls Try.prog 25 #[c.val, vI 16904] w fun e w' => e = .returned (.tuple #[vU c.sp0, .bool true]) ∧ Below w.heap.size w w' := by
  go_enter Try.func25, Try.ntmps25
  go_wp2_with (first | (go_at_call 33; refine (place_sp0 _ _).mono ?_; rintro e w1 ⟨rfl, rfl⟩) | (go_at_call 31; refine (bitIf_c _ _ _).mono ?_; rintro e w1 ⟨rfl, rfl⟩))
  go_ret2
  exact ⟨rfl, by repeat (first | exact Below.refl _ _ | apply below_more | apply below_drew | apply below_drewN)⟩
set_option maxHeartbeats 1000000 in
theorem Get_tpidr (c : Cor) (w : World) : Calls Try.prog 25 #[c.val, vI 24194] w fun e w' => e = .returned (.tuple #[vU c.tpidr, .bool true]) ∧ Below w.heap.size w w' := by
  go_enter Try.func25, Try.ntmps25
  go_wp2_with (first | (go_at_call 33; refine (place_tpidr _ _).mono ?_; rintro e w1 ⟨rfl, rfl⟩) | (go_at_call 31; refine (bitIf_c _ _ _).mono ?_; rintro e w1 ⟨rfl, rfl⟩))
  go_ret2
  exact ⟨rfl, by repeat (first | exact Below.refl _ _ | apply below_more | apply below_drew | apply below_drewN)⟩
set_option maxHeartbeats 1000000 in
theorem Get_daif (c : Cor) (w : World) : Calls Try.prog 25 #[c.val, vI 23057] w fun e w' => e = .returned (.tuple #[vU (daifV c), .bool true]) ∧ Below w.heap.size w w' := by
  go_enter Try.func25, Try.ntmps25
  go_wp2_with (first | (go_at_call 33; refine (place_vbar _ _).mono ?_; rintro e w1 ⟨rfl, rfl⟩) | (go_at_call 31; refine (bitIf_c _ _ _).mono ?_; rintro e w1 ⟨rfl, rfl⟩))
  go_ret2
  exact ⟨rfl, by repeat (first | exact Below.refl _ _ | apply below_more | apply below_drew | apply below_drewN)⟩
set_option maxHeartbeats 1000000 in
theorem Get_mpidr (c : Cor) (w : World) : Calls Try.prog 25 #[c.val, vI 16389] w fun e w' => e = .returned (.tuple #[vU (mpidrV c), .bool true]) ∧ Below w.heap.size w w' := by
  go_enter Try.func25, Try.ntmps25
  go_wp2
  go_ret2
  refine ⟨ret_ub ?_ rfl, by repeat (first | exact Below.refl _ _ | apply below_more | apply below_drew | apply below_drewN)⟩
  unfold mpidrV
  simp only [IntKind.wrap_u64]
  omega
set_option maxHeartbeats 1000000 in
theorem Get_el (c : Cor) (w : World) : Calls Try.prog 25 #[c.val, vI 16914] w fun e w' => e = .returned (.tuple #[vU (elV c), .bool true]) ∧ Below w.heap.size w w' := by
  go_enter Try.func25, Try.ntmps25
  go_wp2
  go_ret2
  refine ⟨ret_ub ?_ rfl, by repeat (first | exact Below.refl _ _ | apply below_more | apply below_drew | apply below_drewN)⟩
  unfold elV
  simp only [IntKind.wrap_u64]
  omega
set_option maxHeartbeats 1000000 in
theorem Get_nzcv (c : Cor) (w : World) : Calls Try.prog 25 #[c.val, vI 23056] w fun e w' => e = .returned (.tuple #[vU (nzcvV c), .bool true]) ∧ Below w.heap.size w w' := by
  go_enter Try.func25, Try.ntmps25
  go_upto_region 3 with fail
  go_step
  with_reducible refine wpList_load_row rfl 26 _ rfl _ rfl 26 _ (0, 0) _ (heap_alloc_new _ _) Try.underlying26 rfl (Cor.info _) ?_
  simp only [Act.put, List.setIfInBounds_toArray, List.set_cons_succ, List.set_cons_zero]
  go_step
  go_step
  go_at_call 21
  refine (Nzcv_c _ _).mono ?_
  rintro e w1 ⟨rfl, hb⟩
  dsimp only
  go_wp2
  go_ret2
  exact ⟨rfl, below_then (below_alloc _ _) hb⟩
set_option maxHeartbeats 1000000 in
theorem Get_no (c : Cor) (sys : Int) (h17920 : sys ≠ 17920) (h16897 : sys ≠ 16897) (h16896 : sys ≠ 16896) (h17040 : sys ≠ 17040) (h17152 : sys ≠ 17152) (h16904 : sys ≠ 16904) (h24194 : sys ≠ 24194) (h23056 : sys ≠ 23056) (h23057 : sys ≠ 23057) (h16389 : sys ≠ 16389) (h16914 : sys ≠ 16914) (w : World) : Calls Try.prog 25 #[c.val, vI sys] w fun e w' => e = .returned (.tuple #[vU 0, .bool false]) ∧ Below w.heap.size w w' := by
  go_enter Try.func25, Try.ntmps25
  go_wp2_with (first | (go_at_call 33; refine (place_no _ _ h17920 h16897 h16896 h17040 h17152 h16904 h24194 _).mono ?_; rintro e w1 ⟨rfl, rfl⟩) | (go_at_call 31; refine (bitIf_c _ _ _).mono ?_; rintro e w1 ⟨rfl, rfl⟩))
  go_ret2
  exact ⟨rfl, by repeat (first | exact Below.refl _ _ | apply below_more | apply below_drew | apply below_drewN)⟩
theorem Get_c (c : Cor) (sys : Int) (w : World) : Calls Try.prog 25 #[c.val, vI sys] w fun e w' => e = .returned (.tuple #[vU (getV c sys), .bool (getB sys)]) ∧ Below w.heap.size w w' := by
  by_cases h17920 : sys = 17920
  · subst h17920; exact Get_vbar c w
  by_cases h16897 : sys = 16897
  · subst h16897; exact Get_elr c w
  by_cases h16896 : sys = 16896
  · subst h16896; exact Get_spsr c w
  by_cases h17040 : sys = 17040
  · subst h17040; exact Get_esr c w
  by_cases h17152 : sys = 17152
  · subst h17152; exact Get_far c w
  by_cases h16904 : sys = 16904
  · subst h16904; exact Get_sp0 c w
  by_cases h24194 : sys = 24194
  · subst h24194; exact Get_tpidr c w
  by_cases h23056 : sys = 23056
  · subst h23056; exact Get_nzcv c w
  by_cases h23057 : sys = 23057
  · subst h23057; exact Get_daif c w
  by_cases h16389 : sys = 16389
  · subst h16389; exact Get_mpidr c w
  by_cases h16914 : sys = 16914
  · subst h16914; exact Get_el c w
  have h := Get_no c sys h17920 h16897 h16896 h17040 h17152 h16904 h24194 h23056 h23057 h16389 h16914 w
  rwa [show (0 : Int) = getV c sys by simp only [getV, beq_false_of_ne h17920, beq_false_of_ne h16897, beq_false_of_ne h16896, beq_false_of_ne h17040, beq_false_of_ne h17152, beq_false_of_ne h16904, beq_false_of_ne h24194, beq_false_of_ne h23056, beq_false_of_ne h23057, beq_false_of_ne h16389, beq_false_of_ne h16914, cond_false], show false = getB sys by simp only [getB, beq_false_of_ne h17920, beq_false_of_ne h16897, beq_false_of_ne h16896, beq_false_of_ne h17040, beq_false_of_ne h17152, beq_false_of_ne h16904, beq_false_of_ne h24194, beq_false_of_ne h23056, beq_false_of_ne h23057, beq_false_of_ne h16389, beq_false_of_ne h16914, Bool.or_false]] at h
set_option maxHeartbeats 1000000 in
theorem refGet_vbar (c : Cor) (w : World) : Calls Try.prog 26 #[c.val, vI 17920] w fun e w' => e = .returned (.tuple #[vU c.vbar, .bool true]) ∧ Below w.heap.size w w' := by
  go_enter Try.func26, Try.ntmps26
  go_wp2_with (go_at_call 32; refine (one_c _ _ (by decide) _).mono ?_; rintro e w1 ⟨rfl, rfl⟩)
  go_ret2
  exact ⟨rfl, by repeat (first | exact Below.refl _ _ | apply below_more | apply below_drew | apply below_drewN)⟩
set_option maxHeartbeats 1000000 in
theorem refGet_elr (c : Cor) (w : World) : Calls Try.prog 26 #[c.val, vI 16897] w fun e w' => e = .returned (.tuple #[vU c.elr, .bool true]) ∧ Below w.heap.size w w' := by
  go_enter Try.func26, Try.ntmps26
  go_wp2_with (go_at_call 32; refine (one_c _ _ (by decide) _).mono ?_; rintro e w1 ⟨rfl, rfl⟩)
  go_ret2
  exact ⟨rfl, by repeat (first | exact Below.refl _ _ | apply below_more | apply below_drew | apply below_drewN)⟩
set_option maxHeartbeats 1000000 in
theorem refGet_spsr (c : Cor) (w : World) : Calls Try.prog 26 #[c.val, vI 16896] w fun e w' => e = .returned (.tuple #[vU c.spsr, .bool true]) ∧ Below w.heap.size w w' := by
  go_enter Try.func26, Try.ntmps26
  go_wp2_with (go_at_call 32; refine (one_c _ _ (by decide) _).mono ?_; rintro e w1 ⟨rfl, rfl⟩)
  go_ret2
  exact ⟨rfl, by repeat (first | exact Below.refl _ _ | apply below_more | apply below_drew | apply below_drewN)⟩
set_option maxHeartbeats 1000000 in
theorem refGet_esr (c : Cor) (w : World) : Calls Try.prog 26 #[c.val, vI 17040] w fun e w' => e = .returned (.tuple #[vU c.esr, .bool true]) ∧ Below w.heap.size w w' := by
  go_enter Try.func26, Try.ntmps26
  go_wp2_with (go_at_call 32; refine (one_c _ _ (by decide) _).mono ?_; rintro e w1 ⟨rfl, rfl⟩)
  go_ret2
  exact ⟨rfl, by repeat (first | exact Below.refl _ _ | apply below_more | apply below_drew | apply below_drewN)⟩
set_option maxHeartbeats 1000000 in
theorem refGet_far (c : Cor) (w : World) : Calls Try.prog 26 #[c.val, vI 17152] w fun e w' => e = .returned (.tuple #[vU c.far, .bool true]) ∧ Below w.heap.size w w' := by
  go_enter Try.func26, Try.ntmps26
  go_wp2_with (go_at_call 32; refine (one_c _ _ (by decide) _).mono ?_; rintro e w1 ⟨rfl, rfl⟩)
  go_ret2
  exact ⟨rfl, by repeat (first | exact Below.refl _ _ | apply below_more | apply below_drew | apply below_drewN)⟩
set_option maxHeartbeats 1000000 in
theorem refGet_sp0 (c : Cor) (w : World) : Calls Try.prog 26 #[c.val, vI 16904] w fun e w' => e = .returned (.tuple #[vU c.sp0, .bool true]) ∧ Below w.heap.size w w' := by
  go_enter Try.func26, Try.ntmps26
  go_wp2_with (go_at_call 32; refine (one_c _ _ (by decide) _).mono ?_; rintro e w1 ⟨rfl, rfl⟩)
  go_ret2
  exact ⟨rfl, by repeat (first | exact Below.refl _ _ | apply below_more | apply below_drew | apply below_drewN)⟩
set_option maxHeartbeats 1000000 in
theorem refGet_tpidr (c : Cor) (w : World) : Calls Try.prog 26 #[c.val, vI 24194] w fun e w' => e = .returned (.tuple #[vU c.tpidr, .bool true]) ∧ Below w.heap.size w w' := by
  go_enter Try.func26, Try.ntmps26
  go_wp2_with (go_at_call 32; refine (one_c _ _ (by decide) _).mono ?_; rintro e w1 ⟨rfl, rfl⟩)
  go_ret2
  exact ⟨rfl, by repeat (first | exact Below.refl _ _ | apply below_more | apply below_drew | apply below_drewN)⟩
set_option maxHeartbeats 1000000 in
theorem refGet_daif (c : Cor) (w : World) : Calls Try.prog 26 #[c.val, vI 23057] w fun e w' => e = .returned (.tuple #[vU (daifV c), .bool true]) ∧ Below w.heap.size w w' := by
  go_enter Try.func26, Try.ntmps26
  go_wp2_with (go_at_call 32; refine (one_c _ _ (by decide) _).mono ?_; rintro e w1 ⟨rfl, rfl⟩)
  go_ret2
  exact ⟨rfl, by repeat (first | exact Below.refl _ _ | apply below_more | apply below_drew | apply below_drewN)⟩
set_option maxHeartbeats 1000000 in
theorem refGet_mpidr (c : Cor) (w : World) : Calls Try.prog 26 #[c.val, vI 16389] w fun e w' => e = .returned (.tuple #[vU (mpidrV c), .bool true]) ∧ Below w.heap.size w w' := by
  go_enter Try.func26, Try.ntmps26
  go_wp2
  go_ret2
  refine ⟨ret_ub ?_ rfl, by repeat (first | exact Below.refl _ _ | apply below_more | apply below_drew | apply below_drewN)⟩
  unfold mpidrV
  simp only [IntKind.wrap_u64]
  omega
set_option maxHeartbeats 1000000 in
theorem refGet_el (c : Cor) (w : World) : Calls Try.prog 26 #[c.val, vI 16914] w fun e w' => e = .returned (.tuple #[vU (elV c), .bool true]) ∧ Below w.heap.size w w' := by
  go_enter Try.func26, Try.ntmps26
  go_wp2
  go_ret2
  refine ⟨ret_ub ?_ rfl, by repeat (first | exact Below.refl _ _ | apply below_more | apply below_drew | apply below_drewN)⟩
  unfold elV
  simp only [IntKind.wrap_u64]
  omega
set_option maxHeartbeats 1000000 in
theorem refGet_nzcv (c : Cor) (w : World) : Calls Try.prog 26 #[c.val, vI 23056] w fun e w' => e = .returned (.tuple #[vU (nzcvV c), .bool true]) ∧ Below w.heap.size w w' := by
  go_enter Try.func26, Try.ntmps26
  go_upto_region 17 with fail
  go_step
  with_reducible refine wpList_load_row rfl 26 _ rfl _ rfl 26 _ (0, 0) _ (heap_alloc_new _ _) Try.underlying26 rfl (Cor.info _) ?_
  simp only [Act.put, List.setIfInBounds_toArray, List.set_cons_succ, List.set_cons_zero]
  go_step
  go_step
  go_at_call 22
  refine (refNzcv_c _ _).mono ?_
  rintro e w1 ⟨rfl, hb⟩
  dsimp only
  go_wp2
  go_ret2
  exact ⟨rfl, below_then (below_alloc _ _) hb⟩
set_option maxHeartbeats 1000000 in
theorem refGet_no (c : Cor) (sys : Int) (h17920 : sys ≠ 17920) (h16897 : sys ≠ 16897) (h16896 : sys ≠ 16896) (h17040 : sys ≠ 17040) (h17152 : sys ≠ 17152) (h16904 : sys ≠ 16904) (h24194 : sys ≠ 24194) (h23056 : sys ≠ 23056) (h23057 : sys ≠ 23057) (h16389 : sys ≠ 16389) (h16914 : sys ≠ 16914) (w : World) : Calls Try.prog 26 #[c.val, vI sys] w fun e w' => e = .returned (.tuple #[vU 0, .bool false]) ∧ Below w.heap.size w w' := by
  go_enter Try.func26, Try.ntmps26
  go_wp2_with (go_at_call 32; refine (one_c _ _ (by decide) _).mono ?_; rintro e w1 ⟨rfl, rfl⟩)
  go_ret2
  exact ⟨rfl, by repeat (first | exact Below.refl _ _ | apply below_more | apply below_drew | apply below_drewN)⟩
theorem refGet_c (c : Cor) (sys : Int) (w : World) : Calls Try.prog 26 #[c.val, vI sys] w fun e w' => e = .returned (.tuple #[vU (getV c sys), .bool (getB sys)]) ∧ Below w.heap.size w w' := by
  by_cases h17920 : sys = 17920
  · subst h17920; exact refGet_vbar c w
  by_cases h16897 : sys = 16897
  · subst h16897; exact refGet_elr c w
  by_cases h16896 : sys = 16896
  · subst h16896; exact refGet_spsr c w
  by_cases h17040 : sys = 17040
  · subst h17040; exact refGet_esr c w
  by_cases h17152 : sys = 17152
  · subst h17152; exact refGet_far c w
  by_cases h16904 : sys = 16904
  · subst h16904; exact refGet_sp0 c w
  by_cases h24194 : sys = 24194
  · subst h24194; exact refGet_tpidr c w
  by_cases h23056 : sys = 23056
  · subst h23056; exact refGet_nzcv c w
  by_cases h23057 : sys = 23057
  · subst h23057; exact refGet_daif c w
  by_cases h16389 : sys = 16389
  · subst h16389; exact refGet_mpidr c w
  by_cases h16914 : sys = 16914
  · subst h16914; exact refGet_el c w
  have h := refGet_no c sys h17920 h16897 h16896 h17040 h17152 h16904 h24194 h23056 h23057 h16389 h16914 w
  rwa [show (0 : Int) = getV c sys by simp only [getV, beq_false_of_ne h17920, beq_false_of_ne h16897, beq_false_of_ne h16896, beq_false_of_ne h17040, beq_false_of_ne h17152, beq_false_of_ne h16904, beq_false_of_ne h24194, beq_false_of_ne h23056, beq_false_of_ne h23057, beq_false_of_ne h16389, beq_false_of_ne h16914, cond_false], show false = getB sys by simp only [getB, beq_false_of_ne h17920, beq_false_of_ne h16897, beq_false_of_ne h16896, beq_false_of_ne h17040, beq_false_of_ne h17152, beq_false_of_ne h16904, beq_false_of_ne h24194, beq_false_of_ne h23056, beq_false_of_ne h23057, beq_false_of_ne h16389, beq_false_of_ne h16914, Bool.or_false]] at h
end Go.Proofs.Ythohkemkiohicaa
