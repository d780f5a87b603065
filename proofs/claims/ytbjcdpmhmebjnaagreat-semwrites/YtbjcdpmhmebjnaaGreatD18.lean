/- System registers: what Get of package regs, and of the document's own answer, tells: contracts, for every state. -/
import Derived.Test.YtbjcdpmhmebjnaaGreatD31
import Derived.Test.YtbjcdpmhmebjnaaGreatD05
import Derived.Test.YtbjcdpmhmebjnaaGreatD17
namespace Go.Proofs.YtbjcdpmhmebjnaaGreat
open Go.RowKit

def daifV (c : Cor) : Int := bif c.mask then 128 else 0
def mpidrV (c : Cor) : Int := (2147483648 + c.id) % 18446744073709551616
def elV (c : Cor) : Int := (c.el * 4) % 18446744073709551616
def getV (c : Cor) (sys : Int) : Int := bif sys == 17920 then c.vbar else bif sys == 16897 then c.elr else bif sys == 16896 then c.spsr else bif sys == 17040 then c.esr else bif sys == 17152 then c.far else bif sys == 16904 then c.sp0 else bif sys == 24194 then c.tpidr else bif sys == 23056 then nzcvV c else bif sys == 23057 then daifV c else bif sys == 16389 then mpidrV c else bif sys == 16914 then elV c else 0
def getB (sys : Int) : Bool := sys == 17920 || sys == 16897 || sys == 16896 || sys == 17040 || sys == 17152 || sys == 16904 || sys == 24194 || sys == 23056 || sys == 23057 || sys == 16389 || sys == 16914
def setB (sys : Int) : Bool := sys == 17920 || sys == 16897 || sys == 16896 || sys == 17040 || sys == 17152 || sys == 16904 || sys == 24194 || sys == 23056 || sys == 23057
structure NoPlace (sys : Int) : Prop where
  n17920 : sys ≠ 17920
  n16897 : sys ≠ 16897
  n16896 : sys ≠ 16896
  n17040 : sys ≠ 17040
  n17152 : sys ≠ 17152
  n16904 : sys ≠ 16904
  n24194 : sys ≠ 24194
set_option maxHeartbeats 400000 in
theorem place_vbar (b : Nat) (w : World) : Calls Tryz.prog 240 #[.pointer (some ⟨b, 0, none⟩), r_vI 17920] w fun e w' => e = .returned (.pointer (some ⟨b, 44, none⟩)) ∧ w' = w := by
  go_enter Tryz.func240, Tryz.ntmps240
  go_wp2
  go_ret
  exact ⟨rfl, rfl⟩
set_option maxHeartbeats 400000 in
theorem place_elr (b : Nat) (w : World) : Calls Tryz.prog 240 #[.pointer (some ⟨b, 0, none⟩), r_vI 16897] w fun e w' => e = .returned (.pointer (some ⟨b, 41, none⟩)) ∧ w' = w := by
  go_enter Tryz.func240, Tryz.ntmps240
  go_wp2
  go_ret
  exact ⟨rfl, rfl⟩
set_option maxHeartbeats 400000 in
theorem place_spsr (b : Nat) (w : World) : Calls Tryz.prog 240 #[.pointer (some ⟨b, 0, none⟩), r_vI 16896] w fun e w' => e = .returned (.pointer (some ⟨b, 40, none⟩)) ∧ w' = w := by
  go_enter Tryz.func240, Tryz.ntmps240
  go_wp2
  go_ret
  exact ⟨rfl, rfl⟩
set_option maxHeartbeats 400000 in
theorem place_esr (b : Nat) (w : World) : Calls Tryz.prog 240 #[.pointer (some ⟨b, 0, none⟩), r_vI 17040] w fun e w' => e = .returned (.pointer (some ⟨b, 42, none⟩)) ∧ w' = w := by
  go_enter Tryz.func240, Tryz.ntmps240
  go_wp2
  go_ret
  exact ⟨rfl, rfl⟩
set_option maxHeartbeats 400000 in
theorem place_far (b : Nat) (w : World) : Calls Tryz.prog 240 #[.pointer (some ⟨b, 0, none⟩), r_vI 17152] w fun e w' => e = .returned (.pointer (some ⟨b, 43, none⟩)) ∧ w' = w := by
  go_enter Tryz.func240, Tryz.ntmps240
  go_wp2
  go_ret
  exact ⟨rfl, rfl⟩
set_option maxHeartbeats 400000 in
theorem place_sp0 (b : Nat) (w : World) : Calls Tryz.prog 240 #[.pointer (some ⟨b, 0, none⟩), r_vI 16904] w fun e w' => e = .returned (.pointer (some ⟨b, 31, none⟩)) ∧ w' = w := by
  go_enter Tryz.func240, Tryz.ntmps240
  go_wp2
  go_ret
  exact ⟨rfl, rfl⟩
set_option maxHeartbeats 400000 in
theorem place_tpidr (b : Nat) (w : World) : Calls Tryz.prog 240 #[.pointer (some ⟨b, 0, none⟩), r_vI 24194] w fun e w' => e = .returned (.pointer (some ⟨b, 45, none⟩)) ∧ w' = w := by
  go_enter Tryz.func240, Tryz.ntmps240
  go_wp2
  go_ret
  exact ⟨rfl, rfl⟩
set_option maxHeartbeats 400000 in
theorem place_no (b : Nat) (sys : Int) (h17920 : sys ≠ 17920) (h16897 : sys ≠ 16897) (h16896 : sys ≠ 16896) (h17040 : sys ≠ 17040) (h17152 : sys ≠ 17152) (h16904 : sys ≠ 16904) (h24194 : sys ≠ 24194) (w : World) : Calls Tryz.prog 240 #[.pointer (some ⟨b, 0, none⟩), r_vI sys] w fun e w' => e = .returned (.pointer none) ∧ w' = w := by
  go_enter Tryz.func240, Tryz.ntmps240
  go_wp2
  go_ret
  exact ⟨rfl, rfl⟩
set_option maxHeartbeats 1000000 in
theorem Get_vbar (c : Cor) (w : World) : Calls Tryz.prog 206 #[c.val, r_vI 17920] w fun e w' => e = .returned (.tuple #[vU c.vbar, .bool true]) ∧ Below w.heap.size w w' := by
  go_enter Tryz.func206, Tryz.ntmps206
  go_wp2_with (first | (go_at_call 240; refine (place_vbar _ _).mono ?_; rintro e w1 ⟨rfl, rfl⟩) | (go_at_call 225; refine (bitIf_c _ _ _).mono ?_; rintro e w1 ⟨rfl, rfl⟩))
  go_ret2
  exact ⟨rfl, by repeat (first | exact Below.refl _ _ | apply r_below_more | apply below_drew | apply r_below_drewN)⟩
set_option maxHeartbeats 1000000 in
theorem Get_elr (c : Cor) (w : World) : Calls Tryz.prog 206 #[c.val, r_vI 16897] w fun e w' => e = .returned (.tuple #[vU c.elr, .bool true]) ∧ Below w.heap.size w w' := by
  go_enter Tryz.func206, Tryz.ntmps206
  go_wp2_with (first | (go_at_call 240; refine (place_elr _ _).mono ?_; rintro e w1 ⟨rfl, rfl⟩) | (go_at_call 225; refine (bitIf_c _ _ _).mono ?_; rintro e w1 ⟨rfl, rfl⟩))
  go_ret2
  exact ⟨rfl, by repeat (first | exact Below.refl _ _ | apply r_below_more | apply below_drew | apply r_below_drewN)⟩
set_option maxHeartbeats 1000000 in
theorem Get_spsr (c : Cor) (w : World) : Calls Tryz.prog 206 #[c.val, r_vI 16896] w fun e w' => e = .returned (.tuple #[vU c.spsr, .bool true]) ∧ Below w.heap.size w w' := by
  go_enter Tryz.func206, Tryz.ntmps206
  go_wp2_with (first | (go_at_call 240; refine (place_spsr _ _).mono ?_; rintro e w1 ⟨rfl, rfl⟩) | (go_at_call 225; refine (bitIf_c _ _ _).mono ?_; rintro e w1 ⟨rfl, rfl⟩))
  go_ret2
  exact ⟨rfl, by repeat (first | exact Below.refl _ _ | apply r_below_more | apply below_drew | apply r_below_drewN)⟩
set_option maxHeartbeats 1000000 in
theorem Get_esr (c : Cor) (w : World) : Calls Tryz.prog 206 #[c.val, r_vI 17040] w fun e w' => e = .returned (.tuple #[vU c.esr, .bool true]) ∧ Below w.heap.size w w' := by
  go_enter Tryz.func206, Tryz.ntmps206
  go_wp2_with (first | (go_at_call 240; refine (place_esr _ _).mono ?_; rintro e w1 ⟨rfl, rfl⟩) | (go_at_call 225; refine (bitIf_c _ _ _).mono ?_; rintro e w1 ⟨rfl, rfl⟩))
  go_ret2
  exact ⟨rfl, by repeat (first | exact Below.refl _ _ | apply r_below_more | apply below_drew | apply r_below_drewN)⟩
set_option maxHeartbeats 1000000 in
theorem Get_far (c : Cor) (w : World) : Calls Tryz.prog 206 #[c.val, r_vI 17152] w fun e w' => e = .returned (.tuple #[vU c.far, .bool true]) ∧ Below w.heap.size w w' := by
  go_enter Tryz.func206, Tryz.ntmps206
  go_wp2_with (first | (go_at_call 240; refine (place_far _ _).mono ?_; rintro e w1 ⟨rfl, rfl⟩) | (go_at_call 225; refine (bitIf_c _ _ _).mono ?_; rintro e w1 ⟨rfl, rfl⟩))
  go_ret2
  exact ⟨rfl, by repeat (first | exact Below.refl _ _ | apply r_below_more | apply below_drew | apply r_below_drewN)⟩
set_option maxHeartbeats 1000000 in
theorem Get_sp0 (c : Cor) (w : World) : Calls Tryz.prog 206 #[c.val, r_vI 16904] w fun e w' => e = .returned (.tuple #[vU c.sp0, .bool true]) ∧ Below w.heap.size w w' := by
  go_enter Tryz.func206, Tryz.ntmps206
  go_wp2_with (first | (go_at_call 240; refine (place_sp0 _ _).mono ?_; rintro e w1 ⟨rfl, rfl⟩) | (go_at_call 225; refine (bitIf_c _ _ _).mono ?_; rintro e w1 ⟨rfl, rfl⟩))
  go_ret2
  exact ⟨rfl, by repeat (first | exact Below.refl _ _ | apply r_below_more | apply below_drew | apply r_below_drewN)⟩
set_option maxHeartbeats 1000000 in
theorem Get_tpidr (c : Cor) (w : World) : Calls Tryz.prog 206 #[c.val, r_vI 24194] w fun e w' => e = .returned (.tuple #[vU c.tpidr, .bool true]) ∧ Below w.heap.size w w' := by
  go_enter Tryz.func206, Tryz.ntmps206
  go_wp2_with (first | (go_at_call 240; refine (place_tpidr _ _).mono ?_; rintro e w1 ⟨rfl, rfl⟩) | (go_at_call 225; refine (bitIf_c _ _ _).mono ?_; rintro e w1 ⟨rfl, rfl⟩))
  go_ret2
  exact ⟨rfl, by repeat (first | exact Below.refl _ _ | apply r_below_more | apply below_drew | apply r_below_drewN)⟩
set_option maxHeartbeats 1000000 in
theorem Get_daif (c : Cor) (w : World) : Calls Tryz.prog 206 #[c.val, r_vI 23057] w fun e w' => e = .returned (.tuple #[vU (daifV c), .bool true]) ∧ Below w.heap.size w w' := by
  go_enter Tryz.func206, Tryz.ntmps206
  go_wp2_with (first | (go_at_call 240; refine (place_vbar _ _).mono ?_; rintro e w1 ⟨rfl, rfl⟩) | (go_at_call 225; refine (bitIf_c _ _ _).mono ?_; rintro e w1 ⟨rfl, rfl⟩))
  go_ret2
  exact ⟨rfl, by repeat (first | exact Below.refl _ _ | apply r_below_more | apply below_drew | apply r_below_drewN)⟩
set_option maxHeartbeats 1000000 in
theorem Get_mpidr (c : Cor) (w : World) : Calls Tryz.prog 206 #[c.val, r_vI 16389] w fun e w' => e = .returned (.tuple #[vU (mpidrV c), .bool true]) ∧ Below w.heap.size w w' := by
  go_enter Tryz.func206, Tryz.ntmps206
  go_wp2
  go_ret2
  refine ⟨ret_ub ?_ rfl, by repeat (first | exact Below.refl _ _ | apply r_below_more | apply below_drew | apply r_below_drewN)⟩
  unfold mpidrV
  simp only [IntKind.wrap_u64]
  omega
set_option maxHeartbeats 1000000 in
theorem Get_el (c : Cor) (w : World) : Calls Tryz.prog 206 #[c.val, r_vI 16914] w fun e w' => e = .returned (.tuple #[vU (elV c), .bool true]) ∧ Below w.heap.size w w' := by
  go_enter Tryz.func206, Tryz.ntmps206
  go_wp2
  go_ret2
  refine ⟨ret_ub ?_ rfl, by repeat (first | exact Below.refl _ _ | apply r_below_more | apply below_drew | apply r_below_drewN)⟩
  unfold elV
  simp only [IntKind.wrap_u64]
  omega
set_option maxHeartbeats 1000000 in
theorem Get_nzcv (c : Cor) (w : World) : Calls Tryz.prog 206 #[c.val, r_vI 23056] w fun e w' => e = .returned (.tuple #[vU (nzcvV c), .bool true]) ∧ Below w.heap.size w w' := by
  go_enter Tryz.func206, Tryz.ntmps206
  go_upto_region 3 with fail
  go_step
  with_reducible refine wpList_load_row rfl 26 _ rfl _ rfl 26 _ (0, 0) _ (heap_alloc_new _ _) Tryz.underlying26 rfl (Cor.info _) ?_
  simp only [Act.put, List.setIfInBounds_toArray, List.set_cons_succ, List.set_cons_zero]
  go_step
  go_step
  go_at_call 192
  refine (Nzcv_c _ _).mono ?_
  rintro e w1 ⟨rfl, hb⟩
  dsimp only
  go_wp2
  go_ret2
  exact ⟨rfl, r_below_then (r_below_alloc _ _) hb⟩
set_option maxHeartbeats 1000000 in
theorem Get_no (c : Cor) (sys : Int) (h17920 : sys ≠ 17920) (h16897 : sys ≠ 16897) (h16896 : sys ≠ 16896) (h17040 : sys ≠ 17040) (h17152 : sys ≠ 17152) (h16904 : sys ≠ 16904) (h24194 : sys ≠ 24194) (h23056 : sys ≠ 23056) (h23057 : sys ≠ 23057) (h16389 : sys ≠ 16389) (h16914 : sys ≠ 16914) (w : World) : Calls Tryz.prog 206 #[c.val, r_vI sys] w fun e w' => e = .returned (.tuple #[vU 0, .bool false]) ∧ Below w.heap.size w w' := by
  go_enter Tryz.func206, Tryz.ntmps206
  go_wp2_with (first | (go_at_call 240; refine (place_no _ _ h17920 h16897 h16896 h17040 h17152 h16904 h24194 _).mono ?_; rintro e w1 ⟨rfl, rfl⟩) | (go_at_call 225; refine (bitIf_c _ _ _).mono ?_; rintro e w1 ⟨rfl, rfl⟩))
  go_ret2
  exact ⟨rfl, by repeat (first | exact Below.refl _ _ | apply r_below_more | apply below_drew | apply r_below_drewN)⟩
theorem Get_c (c : Cor) (sys : Int) (w : World) : Calls Tryz.prog 206 #[c.val, r_vI sys] w fun e w' => e = .returned (.tuple #[vU (getV c sys), .bool (getB sys)]) ∧ Below w.heap.size w w' := by
  by_cases h17920 : sys = 17920
  · subst h17920; exact Get_vbar c w
  by_cases h16897 : sys = 16897
  · subst h16897; exact Get_elr c w
  by_cases h16896 : sys = 16896
  · subst h16896; exact Get_spsr c w
  by_cases h17040 : sys = 17040
  · subst h17040; exact Get_esr c w
  by_cases h17152 : sys = 17152
  · subst h17152; exact Get_far c w
  by_cases h16904 : sys = 16904
  · subst h16904; exact Get_sp0 c w
  by_cases h24194 : sys = 24194
  · subst h24194; exact Get_tpidr c w
  by_cases h23056 : sys = 23056
  · subst h23056; exact Get_nzcv c w
  by_cases h23057 : sys = 23057
  · subst h23057; exact Get_daif c w
  by_cases h16389 : sys = 16389
  · subst h16389; exact Get_mpidr c w
  by_cases h16914 : sys = 16914
  · subst h16914; exact Get_el c w
  have h := Get_no c sys h17920 h16897 h16896 h17040 h17152 h16904 h24194 h23056 h23057 h16389 h16914 w
  rwa [show (0 : Int) = getV c sys by simp only [getV, beq_false_of_ne h17920, beq_false_of_ne h16897, beq_false_of_ne h16896, beq_false_of_ne h17040, beq_false_of_ne h17152, beq_false_of_ne h16904, beq_false_of_ne h24194, beq_false_of_ne h23056, beq_false_of_ne h23057, beq_false_of_ne h16389, beq_false_of_ne h16914, cond_false], show false = getB sys by simp only [getB, beq_false_of_ne h17920, beq_false_of_ne h16897, beq_false_of_ne h16896, beq_false_of_ne h17040, beq_false_of_ne h17152, beq_false_of_ne h16904, beq_false_of_ne h24194, beq_false_of_ne h23056, beq_false_of_ne h23057, beq_false_of_ne h16389, beq_false_of_ne h16914, Bool.or_false]] at h
end Go.Proofs.YtbjcdpmhmebjnaaGreat
/- New and Set of package regs, and of the document's own answer: contracts, for every state. -/
namespace Go.Proofs.YtbjcdpmhmebjnaaGreat
open Go.RowKit

theorem wpList_build_new {ops : Array Oper} {rest : List Oper} {o : Oper} {a : Act} {w : World} {Q : Exit → Act → World → Prop} (hw : Region.wanted o (yielded ops a.tmps) = true) (x y : Operand) (ho : o.op = .build 26 #[(15, x), (2, y), (7, .const (.int .i64 1)), (8, .const (.bool true))])
    (id pc : Int) (hx : a.eval x = r_vI id) (hy : a.eval y = vU pc) (h : wpList Tryz.prog ops Q rest (a.put o.dst (newV id pc).val) w) : wpList Tryz.prog ops Q (o :: rest) a w := by
  have e : (Array.map (fun x : Nat × Operand => match x with | (i, x) => (i, a.eval x)) #[(15, x), (2, y), (7, .const (.int .i64 1)), (8, .const (.bool true))]).toList = [(15, r_vI id), (2, vU pc), (7, r_vI 1), (8, .bool true)] := by
    simp only [List.map_toArray, List.map_cons, List.map_nil, hx, hy]
    rfl
  refine BigFrame.wpList_want hw fun K hK => wp_build 26 _ ho (by rw [e, built_new]; rfl) ?_
  refine hK _ _ ?_
  rw [e, built_new]
  exact h
def setV (c : Cor) (sys v : Int) : Cor := bif sys == 17920 then { c with vbar := v - v % 2048 } else bif sys == 16897 then { c with elr := v } else bif sys == 16896 then { c with spsr := v } else bif sys == 17040 then { c with esr := v % 4294967296 } else bif sys == 17152 then { c with far := v } else bif sys == 16904 then { c with sp0 := v } else bif sys == 24194 then { c with tpidr := v } else bif sys == 23056 then setNzcvV c v else bif sys == 23057 then { c with mask := bitB v 7 } else nilC
theorem tm_vbar {v : Int} (h : U64 v) : v - v.tmod 2048 = v - v % 2048 := by rw [Int.tmod_eq_emod_of_nonneg h.1]
theorem tm_esr {v : Int} (h : U64 v) : v.tmod 4294967296 = v % 4294967296 := by rw [Int.tmod_eq_emod_of_nonneg h.1]
theorem wr_vbar {v : Int} (h : U64 v) : IntKind.u64.wrap (v - v % 2048) = v - v % 2048 := by
  have := h.1; have := h.2
  rw [IntKind.wrap_u64]; omega
theorem heap_two {w x : World} {A B : Obj} (h : Below ((w.alloc A).alloc B).heap.size ((w.alloc A).alloc B) x) : x.heap[w.heap.size]? = some A ∧ x.heap[w.heap.size + 1]? = some B := by
  have e : ((w.alloc A).alloc B).heap.size = w.heap.size + 2 := by simp
  rw [e] at h
  rw [h.block _ (by omega), h.block _ (by omega)]
  exact ⟨heap_alloc2_old _ _ _, heap_alloc2_new _ _ _⟩
set_option maxHeartbeats 1000000 in
theorem Set_vbar (c : Cor) (v : Int) (hv : Hid (U64 v)) (w : World) : Calls Tryz.prog 207 #[c.val, r_vI 17920, vU v] w fun e w' => e = .returned (.tuple #[({ c with vbar := v - v % 2048 } : Cor).val, .bool true]) ∧ Below w.heap.size w w' := by
  have e1 := andNot_vbar hv.out
  go_enter Tryz.func207, Tryz.ntmps207
  go_upto_region 14 with (go_at_call 240; refine (place_vbar _ _).mono ?_; rintro e w1 ⟨rfl, rfl⟩)
  go_step
  with_reducible refine wpList_load_row rfl 26 _ rfl _ rfl 26 _ (0, 0) _ (heap_alloc2_old _ _ _) Tryz.underlying26 rfl (Cor.info _) ?_
  simp only [Act.put, List.setIfInBounds_toArray, List.set_cons_succ, List.set_cons_zero]
  with_reducible refine wpList_store_row rfl 26 _ _ rfl _ _ rfl rfl 26 _ (heap_alloc2_new _ _ _) (Cor.info _) ?_ (Cor.one _) ?_
  focus (rw [Cor.size]; rfl)
  go_wp2
  refine bodyPost_ret (back_two rfl _ _ _ _ _ _ rfl (setRow_heap _ _ _ _ _ _ (heap_alloc2_new _ _ _))) rfl ?_
  exact ⟨rfl, by repeat (first | exact Below.refl _ _ | apply r_below_more | apply below_drew | apply r_below_drewN | (refine r_below_setRow ?_ (by simp)))⟩
set_option maxHeartbeats 1000000 in
theorem Set_elr (c : Cor) (v : Int) (_hv : Hid (U64 v)) (w : World) : Calls Tryz.prog 207 #[c.val, r_vI 16897, vU v] w fun e w' => e = .returned (.tuple #[({ c with elr := v } : Cor).val, .bool true]) ∧ Below w.heap.size w w' := by
  go_enter Tryz.func207, Tryz.ntmps207
  go_upto_region 14 with (go_at_call 240; refine (place_elr _ _).mono ?_; rintro e w1 ⟨rfl, rfl⟩)
  go_step
  with_reducible refine wpList_load_row rfl 26 _ rfl _ rfl 26 _ (0, 0) _ (heap_alloc2_old _ _ _) Tryz.underlying26 rfl (Cor.info _) ?_
  simp only [Act.put, List.setIfInBounds_toArray, List.set_cons_succ, List.set_cons_zero]
  with_reducible refine wpList_store_row rfl 26 _ _ rfl _ _ rfl rfl 26 _ (heap_alloc2_new _ _ _) (Cor.info _) ?_ (Cor.one _) ?_
  focus (rw [Cor.size]; rfl)
  go_wp2
  refine bodyPost_ret (back_two rfl _ _ _ _ _ _ rfl (setRow_heap _ _ _ _ _ _ (heap_alloc2_new _ _ _))) rfl ?_
  exact ⟨rfl, by repeat (first | exact Below.refl _ _ | apply r_below_more | apply below_drew | apply r_below_drewN | (refine r_below_setRow ?_ (by simp)))⟩
set_option maxHeartbeats 1000000 in
theorem Set_spsr (c : Cor) (v : Int) (_hv : Hid (U64 v)) (w : World) : Calls Tryz.prog 207 #[c.val, r_vI 16896, vU v] w fun e w' => e = .returned (.tuple #[({ c with spsr := v } : Cor).val, .bool true]) ∧ Below w.heap.size w w' := by
  go_enter Tryz.func207, Tryz.ntmps207
  go_upto_region 14 with (go_at_call 240; refine (place_spsr _ _).mono ?_; rintro e w1 ⟨rfl, rfl⟩)
  go_step
  with_reducible refine wpList_load_row rfl 26 _ rfl _ rfl 26 _ (0, 0) _ (heap_alloc2_old _ _ _) Tryz.underlying26 rfl (Cor.info _) ?_
  simp only [Act.put, List.setIfInBounds_toArray, List.set_cons_succ, List.set_cons_zero]
  with_reducible refine wpList_store_row rfl 26 _ _ rfl _ _ rfl rfl 26 _ (heap_alloc2_new _ _ _) (Cor.info _) ?_ (Cor.one _) ?_
  focus (rw [Cor.size]; rfl)
  go_wp2
  refine bodyPost_ret (back_two rfl _ _ _ _ _ _ rfl (setRow_heap _ _ _ _ _ _ (heap_alloc2_new _ _ _))) rfl ?_
  exact ⟨rfl, by repeat (first | exact Below.refl _ _ | apply r_below_more | apply below_drew | apply r_below_drewN | (refine r_below_setRow ?_ (by simp)))⟩
set_option maxHeartbeats 1000000 in
theorem Set_esr (c : Cor) (v : Int) (hv : Hid (U64 v)) (w : World) : Calls Tryz.prog 207 #[c.val, r_vI 17040, vU v] w fun e w' => e = .returned (.tuple #[({ c with esr := v % 4294967296 } : Cor).val, .bool true]) ∧ Below w.heap.size w w' := by
  have e1 := and_word hv.out
  go_enter Tryz.func207, Tryz.ntmps207
  go_upto_region 14 with (go_at_call 240; refine (place_esr _ _).mono ?_; rintro e w1 ⟨rfl, rfl⟩)
  go_step
  with_reducible refine wpList_load_row rfl 26 _ rfl _ rfl 26 _ (0, 0) _ (heap_alloc2_old _ _ _) Tryz.underlying26 rfl (Cor.info _) ?_
  simp only [Act.put, List.setIfInBounds_toArray, List.set_cons_succ, List.set_cons_zero]
  with_reducible refine wpList_store_row rfl 26 _ _ rfl _ _ rfl rfl 26 _ (heap_alloc2_new _ _ _) (Cor.info _) ?_ (Cor.one _) ?_
  focus (rw [Cor.size]; rfl)
  go_wp2
  refine bodyPost_ret (back_two rfl _ _ _ _ _ _ rfl (setRow_heap _ _ _ _ _ _ (heap_alloc2_new _ _ _))) rfl ?_
  exact ⟨rfl, by repeat (first | exact Below.refl _ _ | apply r_below_more | apply below_drew | apply r_below_drewN | (refine r_below_setRow ?_ (by simp)))⟩
set_option maxHeartbeats 1000000 in
theorem Set_far (c : Cor) (v : Int) (_hv : Hid (U64 v)) (w : World) : Calls Tryz.prog 207 #[c.val, r_vI 17152, vU v] w fun e w' => e = .returned (.tuple #[({ c with far := v } : Cor).val, .bool true]) ∧ Below w.heap.size w w' := by
  go_enter Tryz.func207, Tryz.ntmps207
  go_upto_region 14 with (go_at_call 240; refine (place_far _ _).mono ?_; rintro e w1 ⟨rfl, rfl⟩)
  go_step
  with_reducible refine wpList_load_row rfl 26 _ rfl _ rfl 26 _ (0, 0) _ (heap_alloc2_old _ _ _) Tryz.underlying26 rfl (Cor.info _) ?_
  simp only [Act.put, List.setIfInBounds_toArray, List.set_cons_succ, List.set_cons_zero]
  with_reducible refine wpList_store_row rfl 26 _ _ rfl _ _ rfl rfl 26 _ (heap_alloc2_new _ _ _) (Cor.info _) ?_ (Cor.one _) ?_
  focus (rw [Cor.size]; rfl)
  go_wp2
  refine bodyPost_ret (back_two rfl _ _ _ _ _ _ rfl (setRow_heap _ _ _ _ _ _ (heap_alloc2_new _ _ _))) rfl ?_
  exact ⟨rfl, by repeat (first | exact Below.refl _ _ | apply r_below_more | apply below_drew | apply r_below_drewN | (refine r_below_setRow ?_ (by simp)))⟩
set_option maxHeartbeats 1000000 in
theorem Set_sp0 (c : Cor) (v : Int) (_hv : Hid (U64 v)) (w : World) : Calls Tryz.prog 207 #[c.val, r_vI 16904, vU v] w fun e w' => e = .returned (.tuple #[({ c with sp0 := v } : Cor).val, .bool true]) ∧ Below w.heap.size w w' := by
  go_enter Tryz.func207, Tryz.ntmps207
  go_upto_region 14 with (go_at_call 240; refine (place_sp0 _ _).mono ?_; rintro e w1 ⟨rfl, rfl⟩)
  go_step
  with_reducible refine wpList_load_row rfl 26 _ rfl _ rfl 26 _ (0, 0) _ (heap_alloc2_old _ _ _) Tryz.underlying26 rfl (Cor.info _) ?_
  simp only [Act.put, List.setIfInBounds_toArray, List.set_cons_succ, List.set_cons_zero]
  with_reducible refine wpList_store_row rfl 26 _ _ rfl _ _ rfl rfl 26 _ (heap_alloc2_new _ _ _) (Cor.info _) ?_ (Cor.one _) ?_
  focus (rw [Cor.size]; rfl)
  go_wp2
  refine bodyPost_ret (back_two rfl _ _ _ _ _ _ rfl (setRow_heap _ _ _ _ _ _ (heap_alloc2_new _ _ _))) rfl ?_
  exact ⟨rfl, by repeat (first | exact Below.refl _ _ | apply r_below_more | apply below_drew | apply r_below_drewN | (refine r_below_setRow ?_ (by simp)))⟩
set_option maxHeartbeats 1000000 in
theorem Set_tpidr (c : Cor) (v : Int) (_hv : Hid (U64 v)) (w : World) : Calls Tryz.prog 207 #[c.val, r_vI 24194, vU v] w fun e w' => e = .returned (.tuple #[({ c with tpidr := v } : Cor).val, .bool true]) ∧ Below w.heap.size w w' := by
  go_enter Tryz.func207, Tryz.ntmps207
  go_upto_region 14 with (go_at_call 240; refine (place_tpidr _ _).mono ?_; rintro e w1 ⟨rfl, rfl⟩)
  go_step
  with_reducible refine wpList_load_row rfl 26 _ rfl _ rfl 26 _ (0, 0) _ (heap_alloc2_old _ _ _) Tryz.underlying26 rfl (Cor.info _) ?_
  simp only [Act.put, List.setIfInBounds_toArray, List.set_cons_succ, List.set_cons_zero]
  with_reducible refine wpList_store_row rfl 26 _ _ rfl _ _ rfl rfl 26 _ (heap_alloc2_new _ _ _) (Cor.info _) ?_ (Cor.one _) ?_
  focus (rw [Cor.size]; rfl)
  go_wp2
  refine bodyPost_ret (back_two rfl _ _ _ _ _ _ rfl (setRow_heap _ _ _ _ _ _ (heap_alloc2_new _ _ _))) rfl ?_
  exact ⟨rfl, by repeat (first | exact Below.refl _ _ | apply r_below_more | apply below_drew | apply r_below_drewN | (refine r_below_setRow ?_ (by simp)))⟩
set_option maxHeartbeats 1000000 in
theorem Set_daif (c : Cor) (v : Int) (hv : Hid (U64 v)) (w : World) : Calls Tryz.prog 207 #[c.val, r_vI 23057, vU v] w fun e w' => e = .returned (.tuple #[({ c with mask := bitB v 7 } : Cor).val, .bool true]) ∧ Below w.heap.size w w' := by
  have e1 := and_7 hv.out
  go_enter Tryz.func207, Tryz.ntmps207
  go_upto_region 6 with fail
  go_step
  with_reducible refine wpList_load_row rfl 26 _ rfl _ rfl 26 _ (0, 0) _ (heap_alloc2_old _ _ _) Tryz.underlying26 rfl (Cor.info _) ?_
  simp only [Act.put, List.setIfInBounds_toArray, List.set_cons_succ, List.set_cons_zero]
  with_reducible refine wpList_store_row rfl 26 _ _ rfl _ _ rfl rfl 26 _ (heap_alloc2_new _ _ _) (Cor.info _) ?_ (Cor.one _) ?_
  focus (rw [Cor.size]; rfl)
  go_wp2
  refine bodyPost_ret (back_two rfl _ _ _ _ _ _ rfl (setRow_heap _ _ _ _ _ _ (heap_alloc2_new _ _ _))) rfl ?_
  exact ⟨rfl, by repeat (first | exact Below.refl _ _ | apply r_below_more | apply below_drew | apply r_below_drewN | (refine r_below_setRow ?_ (by simp)))⟩
set_option maxHeartbeats 1000000 in
theorem Set_nzcv (c : Cor) (v : Int) (hv : Hid (U64 v)) (w : World) : Calls Tryz.prog 207 #[c.val, r_vI 23056, vU v] w fun e w' => e = .returned (.tuple #[(setNzcvV c v).val, .bool true]) ∧ Below w.heap.size w w' := by
  go_enter Tryz.func207, Tryz.ntmps207
  go_upto_region 3 with fail
  go_step
  with_reducible refine wpList_load_row rfl 26 _ rfl _ rfl 26 _ (0, 0) _ (heap_alloc2_old _ _ _) Tryz.underlying26 rfl (Cor.info _) ?_
  simp only [Act.put, List.setIfInBounds_toArray, List.set_cons_succ, List.set_cons_zero]
  iterate 5 go_step
  go_at_call 241
  refine (SetNzcv_c _ _ hv _).mono ?_
  rintro e w1 ⟨rfl, hb⟩
  dsimp only
  go_step
  have hh := heap_two hb
  have hB := r_below_then (r_below_more (r_below_alloc _ _)) hb
  with_reducible refine wpList_store_row rfl 26 _ _ rfl _ _ rfl rfl 26 _ hh.2 (Cor.info _) ?_ (Cor.one _) ?_
  focus (rw [Cor.size]; rfl)
  go_wp2
  refine bodyPost_ret (back_two rfl _ _ _ _ _ _ rfl (setRow_heap _ _ _ _ _ _ hh.2)) rfl ?_
  exact ⟨rfl, r_below_setRow hB (by simp)⟩
set_option maxHeartbeats 1000000 in
theorem Set_no (c : Cor) (sys v : Int) (h17920 : sys ≠ 17920) (h16897 : sys ≠ 16897) (h16896 : sys ≠ 16896) (h17040 : sys ≠ 17040) (h17152 : sys ≠ 17152) (h16904 : sys ≠ 16904) (h24194 : sys ≠ 24194) (h23056 : sys ≠ 23056) (h23057 : sys ≠ 23057) (w : World) : Calls Tryz.prog 207 #[c.val, r_vI sys, vU v] w fun e w' => e = .returned (.tuple #[nilC.val, .bool false]) ∧ Below w.heap.size w w' := by
  go_enter Tryz.func207, Tryz.ntmps207
  go_upto_region 15 with (go_at_call 240; refine (place_no _ _ h17920 h16897 h16896 h17040 h17152 h16904 h24194 _).mono ?_; rintro e w1 ⟨rfl, rfl⟩)
  go_step
  with_reducible refine wpList_build_nil rfl rfl ?_
  simp only [Act.put, List.setIfInBounds_toArray, List.set_cons_succ, List.set_cons_zero]
  with_reducible refine wpList_store_row rfl 26 _ _ rfl _ _ rfl rfl 26 _ (heap_alloc2_new _ _ _) (Cor.info _) ?_ (Cor.one _) ?_
  focus (rw [Cor.size]; rfl)
  go_wp2
  refine bodyPost_ret (back_two rfl _ _ _ _ _ _ rfl (setRow_heap _ _ _ _ _ _ (heap_alloc2_new _ _ _))) rfl ?_
  exact ⟨rfl, by repeat (first | exact Below.refl _ _ | apply r_below_more | apply below_drew | apply r_below_drewN | (refine r_below_setRow ?_ (by simp)))⟩
theorem Set_c (c : Cor) (sys v : Int) (hv : Hid (U64 v)) (w : World) : Calls Tryz.prog 207 #[c.val, r_vI sys, vU v] w fun e w' => e = .returned (.tuple #[(setV c sys v).val, .bool (setB sys)]) ∧ Below w.heap.size w w' := by
  by_cases h17920 : sys = 17920
  · subst h17920; exact Set_vbar c v hv w
  by_cases h16897 : sys = 16897
  · subst h16897; exact Set_elr c v hv w
  by_cases h16896 : sys = 16896
  · subst h16896; exact Set_spsr c v hv w
  by_cases h17040 : sys = 17040
  · subst h17040; exact Set_esr c v hv w
  by_cases h17152 : sys = 17152
  · subst h17152; exact Set_far c v hv w
  by_cases h16904 : sys = 16904
  · subst h16904; exact Set_sp0 c v hv w
  by_cases h24194 : sys = 24194
  · subst h24194; exact Set_tpidr c v hv w
  by_cases h23056 : sys = 23056
  · subst h23056; exact Set_nzcv c v hv w
  by_cases h23057 : sys = 23057
  · subst h23057; exact Set_daif c v hv w
  have h := Set_no c sys v h17920 h16897 h16896 h17040 h17152 h16904 h24194 h23056 h23057 w
  rwa [show nilC = setV c sys v by simp only [setV, beq_false_of_ne h17920, beq_false_of_ne h16897, beq_false_of_ne h16896, beq_false_of_ne h17040, beq_false_of_ne h17152, beq_false_of_ne h16904, beq_false_of_ne h24194, beq_false_of_ne h23056, beq_false_of_ne h23057, cond_false], show false = setB sys by simp only [setB, beq_false_of_ne h17920, beq_false_of_ne h16897, beq_false_of_ne h16896, beq_false_of_ne h17040, beq_false_of_ne h17152, beq_false_of_ne h16904, beq_false_of_ne h24194, beq_false_of_ne h23056, beq_false_of_ne h23057, Bool.or_false]] at h
end Go.Proofs.YtbjcdpmhmebjnaaGreat
/- What Bcond, Csel where its condition holds, Mrs and MovWide do to a step: contracts. -/
namespace Go.Proofs.YtbjcdpmhmebjnaaGreat
open Go.RowKit
set_option linter.unusedVariables false

theorem chn_load_core {o : Oper} {a : Act} {w : World} {s : Stp} {C : World → Prop} (x : Operand) (ho : o.op = .load 26 x) (g : Nat) (hx : a.eval x = .pointer (some ⟨g, 16, none⟩)) (hg : w.heap[g]? = some (.cells s.cells 58)) (hC : C w) :
    Chn.upon Tryz.prog (fun v w' => v = s.c.val ∧ C w') w ((execOp a.eval o).run Tryz.prog w) := by
  unfold execOp
  simp only [ho, hx, Instr.loadAt, Instr.sureAddr, Sem.run_bind, Sem.run_pure, Result.andThen_ok, run_load_core hg]
  exact ⟨rfl, hC⟩
theorem out_is (n : Int) (b : Bool) (h : outB n = b) (w : World) : Calls Tryz.prog 186 #[.int .i64 n] w fun e w' => e = .returned (.bool b) ∧ w' = w := h ▸ isOutside_c n w
set_option maxRecDepth 4000 in
set_option maxHeartbeats 2000000 in
theorem stHolds_c (g : Nat) (i : Ins) (c : Cor) (k : Gt) (e : Int) (w : World) (h : w.heap[g]? = some (.cells (Stp.cells ⟨i, c, k, e⟩) 58)) (B : Bool) (hB : holdsV c i.cond = B) : Calls Tryz.prog 203 #[.pointer (some ⟨g, 0, none⟩)] w fun e2 w' => e2 = .returned (.bool B) ∧ w'.heap[g]? = some (.cells (Stp.cells ⟨i, c, k, e⟩) 58) ∧ But g w w' := by
  obtain ⟨z, hz⟩ : ∃ z, condE i.cond = z := ⟨_, rfl⟩
  go_enter Tryz.func203, Tryz.ntmps203
  go_upto_region 1 with fail
  refine Chn.wp_region_chain (Ph g i (fun _ => c) k e w) [9] [(.pointer (some ⟨g, 0, none⟩)), (.pointer (some ⟨g, 0, none⟩)), (.pointer (some ⟨g, 16, none⟩)), c.val, (.pointer (some ⟨g, 0, none⟩)), (.pointer (some ⟨g, 0, none⟩)), (.pointer (some ⟨g, 0, none⟩)), (.pointer (some ⟨g, 10, none⟩)), (.int .i64 i.cond), (.tuple #[.bool B, .int .i64 z]), (.tuple #[.bool B, .int .i64 z]), (.bool B), (.int .i64 z), (.bool B), (.int .i64 z)] (by kernel_rfl) (by kernel_rfl) (by kernel_rfl) (by kernel_rfl) (ph_start h) ?_
  refine ⟨fun j w1 hC => by exact Chn.upon_pure hC (fun F hF => by (go_simp <;> exact hF)), ?_⟩
  simp only [Act.put, List.setIfInBounds_toArray, List.set_cons_succ, List.set_cons_zero]
  refine ⟨fun j w1 hC => by exact Chn.upon_pure hC (fun F hF => by (go_simp <;> exact hF)), ?_⟩
  simp only [Act.put, List.setIfInBounds_toArray, List.set_cons_succ, List.set_cons_zero]
  refine ⟨fun j w1 hC => by exact Chn.upon_pure hC (fun F hF => by (go_simp <;> exact hF)), ?_⟩
  simp only [Act.put, List.setIfInBounds_toArray, List.set_cons_succ, List.set_cons_zero]
  refine ⟨fun j w1 hC => by exact chn_load_core (s := ⟨i, c, k, e⟩) _ rfl g rfl hC.1 hC, ?_⟩
  simp only [Act.put, List.setIfInBounds_toArray, List.set_cons_succ, List.set_cons_zero]
  refine ⟨fun j w1 hC => by exact Chn.upon_pure hC (fun F hF => by (go_simp <;> exact hF)), ?_⟩
  simp only [Act.put, List.setIfInBounds_toArray, List.set_cons_succ, List.set_cons_zero]
  refine ⟨fun j w1 hC => by exact Chn.upon_pure hC (fun F hF => by (go_simp <;> exact hF)), ?_⟩
  simp only [Act.put, List.setIfInBounds_toArray, List.set_cons_succ, List.set_cons_zero]
  refine ⟨fun j w1 hC => by exact Chn.upon_pure hC (fun F hF => by (go_simp <;> exact hF)), ?_⟩
  simp only [Act.put, List.setIfInBounds_toArray, List.set_cons_succ, List.set_cons_zero]
  refine ⟨fun j w1 hC => by exact Chn.upon_pure hC (fun F hF => by (go_simp <;> exact hF)), ?_⟩
  simp only [Act.put, List.setIfInBounds_toArray, List.set_cons_succ, List.set_cons_zero]
  refine ⟨fun j w1 hC => by have hq := at_i hC.1 10 (.int .i64 i.cond) (by decide) rfl; exact Chn.upon_pure hC (fun F hF => by (go_simp <;> exact hF)), ?_⟩
  simp only [Act.put, List.setIfInBounds_toArray, List.set_cons_succ, List.set_cons_zero]
  refine ⟨fun w1 hC => by exact Chn.upon_call (Holds_c c i.cond w1) (fun e2 w2 hh => ⟨by rw [hh.1, hB, hz], hC.same rfl hh.2⟩) (fun F hF => by (go_simp <;> exact hF)), ?_⟩
  simp only [Act.put, List.setIfInBounds_toArray, List.set_cons_succ, List.set_cons_zero]
  refine ⟨fun j w1 hC => by exact Chn.upon_pure hC (fun F hF => by (go_simp <;> exact hF)), ?_⟩
  simp only [Act.put, List.setIfInBounds_toArray, List.set_cons_succ, List.set_cons_zero]
  refine ⟨fun j w1 hC => by exact Chn.upon_pure hC (fun F hF => by (go_simp <;> exact hF)), ?_⟩
  simp only [Act.put, List.setIfInBounds_toArray, List.set_cons_succ, List.set_cons_zero]
  refine ⟨fun j w1 hC => by exact Chn.upon_pure hC (fun F hF => by (go_simp <;> exact hF)), ?_⟩
  simp only [Act.put, List.setIfInBounds_toArray, List.set_cons_succ, List.set_cons_zero]
  refine ⟨fun j w1 hC => by exact Chn.upon_pure hC (fun F hF => by (go_simp <;> exact hF)), ?_⟩
  simp only [Act.put, List.setIfInBounds_toArray, List.set_cons_succ, List.set_cons_zero]
  refine ⟨fun j w1 hC => by exact Chn.upon_pure hC (fun F hF => by (go_simp <;> exact hF)), ?_⟩
  simp only [Act.put, List.setIfInBounds_toArray, List.set_cons_succ, List.set_cons_zero]
  intro w2 hC
  go_wp2
  go_ret
  exact ⟨rfl, hC⟩
set_option maxRecDepth 4000 in
set_option maxHeartbeats 2000000 in
theorem stBranchCond_c (g : Nat) (i : Ins) (c : Cor) (k : Gt) (e : Int) (w : World) (h : w.heap[g]? = some (.cells (Stp.cells ⟨i, c, k, e⟩) 58)) (B : Bool) (hB : holdsV c i.cond = B) (a m b : Int) (ha : IntKind.u64.wrap (c.pc - 4) = a) (hm : i.imm % 18446744073709551616 = m) (hb : (a + m) % 18446744073709551616 = b) : Calls Tryz.prog 138 #[.pointer (some ⟨g, 0, none⟩)] w fun e2 w' => e2 = .returned (.tuple #[]) ∧ w'.heap[g]? = some (.cells (Stp.cells ⟨i, jumpV c B b, k, e⟩) 58) ∧ But g w w' := by
  go_enter Tryz.func138, Tryz.ntmps138
  go_wp2_with (first | (go_at_call 203; refine (stHolds_c g i c k e _ h B hB).mono ?_; rintro e2 w2 ⟨rfl, hs2, hB2⟩; dsimp only) | (go_at_call 205; refine (jump_c g i c k e _ hs2 B a m b ha hm hb).mono ?_; rintro e2 w3 ⟨rfl, hs3, hB3⟩; dsimp only))
  first | go_end0 | ((try simp only [Exit.inBlock, Exit.then]); refine bodyPost_ret (results_none rfl _ _ _) rfl ?_)
  exact ⟨rfl, hs3, hB2.trans hB3⟩
set_option maxRecDepth 4000 in
set_option maxHeartbeats 2000000 in
theorem stChoose_Y (g : Nat) (i : Ins) (c : Cor) (k : Gt) (e : Int) (w : World) (h : w.heap[g]? = some (.cells (Stp.cells ⟨i, c, k, e⟩) 58)) (hB : holdsV c i.cond = true) (X : Int) (hX : xV c i.rn = X) : Calls Tryz.prog 135 #[.pointer (some ⟨g, 0, none⟩)] w fun e2 w' => e2 = .returned (.tuple #[]) ∧ w'.heap[g]? = some (.cells (Stp.cells ⟨i, setXV c i.rd X, k, e⟩) 58) ∧ But g w w' := by
  go_enter Tryz.func135, Tryz.ntmps135
  go_upto_region 1 with (go_at_call 203; refine (stHolds_c g i c k e _ h true hB).mono ?_; rintro e2 w1 ⟨rfl, hs1, hB1⟩; dsimp only)
  refine Chn.wp_region_chain (Ph g i (pick2 c (setXV c i.rd X)) k e w1) [12, 13] [(.pointer (some ⟨g, 0, none⟩)), (.pointer (some ⟨g, 0, none⟩)), (.pointer (some ⟨g, 0, none⟩)), (.pointer (some ⟨g, 0, none⟩)), (.pointer (some ⟨g, 2, none⟩)), (.int .i64 i.rd), (.pointer (some ⟨g, 0, none⟩)), (.pointer (some ⟨g, 0, none⟩)), (.pointer (some ⟨g, 0, none⟩)), (.pointer (some ⟨g, 0, none⟩)), (.pointer (some ⟨g, 3, none⟩)), (.int .i64 i.rn), (.int .u64 X), (.tuple #[])] (by kernel_rfl) (by kernel_rfl) (by kernel_rfl) (by kernel_rfl) (ph_start hs1) ?_
  refine ⟨fun j w1 hC => by exact Chn.upon_pure hC (fun F hF => by (go_simp <;> exact hF)), ?_⟩
  simp only [Act.put, List.setIfInBounds_toArray, List.set_cons_succ, List.set_cons_zero]
  refine ⟨fun j w1 hC => by exact Chn.upon_pure hC (fun F hF => by (go_simp <;> exact hF)), ?_⟩
  simp only [Act.put, List.setIfInBounds_toArray, List.set_cons_succ, List.set_cons_zero]
  refine ⟨fun j w1 hC => by exact Chn.upon_pure hC (fun F hF => by (go_simp <;> exact hF)), ?_⟩
  simp only [Act.put, List.setIfInBounds_toArray, List.set_cons_succ, List.set_cons_zero]
  refine ⟨fun j w1 hC => by exact Chn.upon_pure hC (fun F hF => by (go_simp <;> exact hF)), ?_⟩
  simp only [Act.put, List.setIfInBounds_toArray, List.set_cons_succ, List.set_cons_zero]
  refine ⟨fun j w1 hC => by exact Chn.upon_pure hC (fun F hF => by (go_simp <;> exact hF)), ?_⟩
  simp only [Act.put, List.setIfInBounds_toArray, List.set_cons_succ, List.set_cons_zero]
  refine ⟨fun j w1 hC => by have hq := at_i hC.1 2 (.int .i64 i.rd) (by decide) rfl; exact Chn.upon_pure hC (fun F hF => by (go_simp <;> exact hF)), ?_⟩
  simp only [Act.put, List.setIfInBounds_toArray, List.set_cons_succ, List.set_cons_zero]
  refine ⟨fun j w1 hC => by exact Chn.upon_pure hC (fun F hF => by (go_simp <;> exact hF)), ?_⟩
  simp only [Act.put, List.setIfInBounds_toArray, List.set_cons_succ, List.set_cons_zero]
  refine ⟨fun j w1 hC => by exact Chn.upon_pure hC (fun F hF => by (go_simp <;> exact hF)), ?_⟩
  simp only [Act.put, List.setIfInBounds_toArray, List.set_cons_succ, List.set_cons_zero]
  refine ⟨fun j w1 hC => by exact Chn.upon_pure hC (fun F hF => by (go_simp <;> exact hF)), ?_⟩
  simp only [Act.put, List.setIfInBounds_toArray, List.set_cons_succ, List.set_cons_zero]
  refine ⟨fun j w1 hC => by exact Chn.upon_pure hC (fun F hF => by (go_simp <;> exact hF)), ?_⟩
  simp only [Act.put, List.setIfInBounds_toArray, List.set_cons_succ, List.set_cons_zero]
  refine ⟨fun j w1 hC => by exact Chn.upon_pure hC (fun F hF => by (go_simp <;> exact hF)), ?_⟩
  simp only [Act.put, List.setIfInBounds_toArray, List.set_cons_succ, List.set_cons_zero]
  refine ⟨fun j w1 hC => by have hq := at_i hC.1 3 (.int .i64 i.rn) (by decide) rfl; exact Chn.upon_pure hC (fun F hF => by (go_simp <;> exact hF)), ?_⟩
  simp only [Act.put, List.setIfInBounds_toArray, List.set_cons_succ, List.set_cons_zero]
  refine ⟨fun w1 hC => by exact Chn.upon_call (sx_c g ⟨i, c, k, e⟩ i.rn w1 hC.1) (fun e2 w2 hh => ⟨by rw [hh.1]; show _ = Ending.returned (.int .u64 X); rw [← hX], hC.same rfl hh.2⟩) (fun F hF => by (go_simp <;> exact hF)), ?_⟩
  simp only [Act.put, List.setIfInBounds_toArray, List.set_cons_succ, List.set_cons_zero]
  refine ⟨fun w1 hC => by exact Chn.upon_call (setX_c g ⟨i, c, k, e⟩ i.rd X w1 hC.1) (fun e2 w2 hh => ⟨hh.1, hC.next hh.2.1 hh.2.2⟩) (fun F hF => by (go_simp <;> exact hF)), ?_⟩
  simp only [Act.put, List.setIfInBounds_toArray, List.set_cons_succ, List.set_cons_zero]
  intro w2 hC
  go_wp2
  first | go_end0 | ((try simp only [Exit.inBlock, Exit.then]); refine bodyPost_ret (results_none rfl _ _ _) rfl ?_)
  exact ⟨rfl, hC.1, hB1.trans hC.2⟩
set_option maxRecDepth 4000 in
set_option maxHeartbeats 2000000 in
theorem stMrs_O (g : Nat) (i : Ins) (c : Cor) (k : Gt) (e : Int) (w : World) (h : w.heap[g]? = some (.cells (Stp.cells ⟨i, c, k, e⟩) 58)) (hO : outB i.sys = true) : Calls Tryz.prog 144 #[.pointer (some ⟨g, 0, none⟩)] w fun e2 w' => e2 = .returned (.tuple #[]) ∧ w'.heap[g]? = some (.cells (Stp.cells ⟨i, setXV c i.rd k.value, k, e⟩) 58) ∧ But g w w' := by
  have cg := at_g h 0 (.int .u64 k.value) (by decide) rfl
  have c11 := at_i h 11 (.int .i64 i.sys) (by decide) rfl
  have c2 := at_i h 2 (.int .i64 i.rd) (by decide) rfl
  go_enter Tryz.func144, Tryz.ntmps144
  go_wp2_with (first | (go_at_call 186; refine (out_is _ _ hO _).mono ?_; rintro e2 w1 ⟨rfl, hw1⟩; obtain rfl := hw1.symm; dsimp only) | (go_at_call 196; refine (setX_c g ⟨i, c, k, e⟩ i.rd _ _ h).mono ?_; rintro e2 w3 ⟨rfl, hs3, hB3⟩; dsimp only))
  first | go_end0 | ((try simp only [Exit.inBlock, Exit.then]); refine bodyPost_ret (results_none rfl _ _ _) rfl ?_)
  exact ⟨rfl, hs3, hB3⟩
set_option maxRecDepth 4000 in
set_option maxHeartbeats 2000000 in
theorem stMrs_I (g : Nat) (i : Ins) (c : Cor) (k : Gt) (e : Int) (w : World) (h : w.heap[g]? = some (.cells (Stp.cells ⟨i, c, k, e⟩) 58)) (hO : outB i.sys = false) (X : Int) (hX : getV c i.sys = X) : Calls Tryz.prog 144 #[.pointer (some ⟨g, 0, none⟩)] w fun e2 w' => e2 = .returned (.tuple #[]) ∧ w'.heap[g]? = some (.cells (Stp.cells ⟨i, setXV c i.rd X, k, e⟩) 58) ∧ But g w w' := by
  obtain ⟨z, hz⟩ : ∃ z, getB i.sys = z := ⟨_, rfl⟩
  have cg := at_g h 0 (.int .u64 k.value) (by decide) rfl
  have c11 := at_i h 11 (.int .i64 i.sys) (by decide) rfl
  go_enter Tryz.func144, Tryz.ntmps144
  go_upto_region 2 with (go_at_call 186; refine (out_is _ _ hO _).mono ?_; rintro e2 w1 ⟨rfl, hw1⟩; obtain rfl := hw1.symm; dsimp only)
  refine Chn.wp_region_chain (Ph g i (fun _ => c) k e w) [9] [(.pointer (some ⟨g, 0, none⟩)), (.pointer (some ⟨g, 0, none⟩)), (.pointer (some ⟨g, 16, none⟩)), c.val, (.pointer (some ⟨g, 0, none⟩)), (.pointer (some ⟨g, 0, none⟩)), (.pointer (some ⟨g, 0, none⟩)), (.pointer (some ⟨g, 11, none⟩)), (.int .i64 i.sys), (.tuple #[.int .u64 X, .bool z]), (.tuple #[.int .u64 X, .bool z]), (.int .u64 X), (.bool z), (.int .u64 X)] (by kernel_rfl) (by kernel_rfl) (by kernel_rfl) (by kernel_rfl) (ph_start h) ?_
  refine ⟨fun j w1 hC => by exact Chn.upon_pure hC (fun F hF => by (go_simp <;> exact hF)), ?_⟩
  simp only [Act.put, List.setIfInBounds_toArray, List.set_cons_succ, List.set_cons_zero]
  refine ⟨fun j w1 hC => by exact Chn.upon_pure hC (fun F hF => by (go_simp <;> exact hF)), ?_⟩
  simp only [Act.put, List.setIfInBounds_toArray, List.set_cons_succ, List.set_cons_zero]
  refine ⟨fun j w1 hC => by exact Chn.upon_pure hC (fun F hF => by (go_simp <;> exact hF)), ?_⟩
  simp only [Act.put, List.setIfInBounds_toArray, List.set_cons_succ, List.set_cons_zero]
  refine ⟨fun j w1 hC => by exact chn_load_core (s := ⟨i, c, k, e⟩) _ rfl g rfl hC.1 hC, ?_⟩
  simp only [Act.put, List.setIfInBounds_toArray, List.set_cons_succ, List.set_cons_zero]
  refine ⟨fun j w1 hC => by exact Chn.upon_pure hC (fun F hF => by (go_simp <;> exact hF)), ?_⟩
  simp only [Act.put, List.setIfInBounds_toArray, List.set_cons_succ, List.set_cons_zero]
  refine ⟨fun j w1 hC => by exact Chn.upon_pure hC (fun F hF => by (go_simp <;> exact hF)), ?_⟩
  simp only [Act.put, List.setIfInBounds_toArray, List.set_cons_succ, List.set_cons_zero]
  refine ⟨fun j w1 hC => by exact Chn.upon_pure hC (fun F hF => by (go_simp <;> exact hF)), ?_⟩
  simp only [Act.put, List.setIfInBounds_toArray, List.set_cons_succ, List.set_cons_zero]
  refine ⟨fun j w1 hC => by exact Chn.upon_pure hC (fun F hF => by (go_simp <;> exact hF)), ?_⟩
  simp only [Act.put, List.setIfInBounds_toArray, List.set_cons_succ, List.set_cons_zero]
  refine ⟨fun j w1 hC => by have hq := at_i hC.1 11 (.int .i64 i.sys) (by decide) rfl; exact Chn.upon_pure hC (fun F hF => by (go_simp <;> exact hF)), ?_⟩
  simp only [Act.put, List.setIfInBounds_toArray, List.set_cons_succ, List.set_cons_zero]
  refine ⟨fun w1 hC => by exact Chn.upon_call (Get_c c i.sys w1) (fun e2 w2 hh => ⟨by rw [hh.1, hX, hz], hC.same rfl hh.2⟩) (fun F hF => by (go_simp <;> exact hF)), ?_⟩
  simp only [Act.put, List.setIfInBounds_toArray, List.set_cons_succ, List.set_cons_zero]
  refine ⟨fun j w1 hC => by exact Chn.upon_pure hC (fun F hF => by (go_simp <;> exact hF)), ?_⟩
  simp only [Act.put, List.setIfInBounds_toArray, List.set_cons_succ, List.set_cons_zero]
  refine ⟨fun j w1 hC => by exact Chn.upon_pure hC (fun F hF => by (go_simp <;> exact hF)), ?_⟩
  simp only [Act.put, List.setIfInBounds_toArray, List.set_cons_succ, List.set_cons_zero]
  refine ⟨fun j w1 hC => by exact Chn.upon_pure hC (fun F hF => by (go_simp <;> exact hF)), ?_⟩
  simp only [Act.put, List.setIfInBounds_toArray, List.set_cons_succ, List.set_cons_zero]
  refine ⟨fun j w1 hC => by exact Chn.upon_pure hC (fun F hF => by (go_simp <;> exact hF)), ?_⟩
  simp only [Act.put, List.setIfInBounds_toArray, List.set_cons_succ, List.set_cons_zero]
  intro w2 hC
  have c2 := at_i hC.1 2 (.int .i64 i.rd) (by decide) rfl
  go_wp2_with (go_at_call 196; refine (setX_c g ⟨i, c, k, e⟩ i.rd _ _ hC.1).mono ?_; rintro e2 w3 ⟨rfl, hs3, hB3⟩; dsimp only)
  first | go_end0 | ((try simp only [Exit.inBlock, Exit.then]); refine bodyPost_ret (results_none rfl _ _ _) rfl ?_)
  exact ⟨rfl, hs3, hC.2.trans hB3⟩
end Go.Proofs.YtbjcdpmhmebjnaaGreat
