/- The bus: words of bits, read and written. -/
import Derived.Test.YteklkololojamaaGreatBc
namespace Go.Proofs.YteklkololojamaaGreat
open Go.RowKit
set_option linter.unusedVariables false
set_option linter.unusedSimpArgs false
set_option maxRecDepth 8000

/-- The controller behind the first bits of a word. -/
def sprF (f : Pg → Int → Pg) (P : Pg) (v : Nat) : Nat → Pg
  | 0 => P
  | i + 1 => if v.testBit i = true then f (sprF f P v i) i else sprF f P v i
theorem bit_at (v i : Nat) (hv : v < 2 ^ 64) : (bits BinOp.and IntKind.u64 ((v : Int) / 2 ^ i) 1 == 1) = v.testBit i := by
  have e1 : (v : Int) / 2 ^ i = ((v / 2 ^ i : Nat) : Int) := by push_cast; rfl
  have e2 := Bit.and_bit (a := v / 2 ^ i) (b := 1) (Nat.lt_of_le_of_lt (Nat.div_le_self _ _) hv) (by decide)
  rw [e1, show (1 : Int) = ((1 : Nat) : Int) from rfl, e2, Nat.and_one_is_mod, Nat.testBit_eq_decide_div_mod_eq]
  have := Nat.mod_two_eq_zero_or_one (v / 2 ^ i)
  rcases this with h | h <;> rw [h] <;> rfl
theorem wrap_pow {i : Nat} (h : i < 64) : IntKind.u64.wrap (2 ^ i) = ((2 ^ i : Nat) : Int) := by
  have hp : 2 ^ i < 2 ^ 64 := Nat.pow_lt_pow_right (by decide) h
  have e : ((2 ^ i : Nat) : Int) = (2 : Int) ^ i := by push_cast; rfl
  rw [IntKind.wrap_u64, ← e]
  generalize (2 ^ i : Nat) = q at hp
  omega
section
variable {b g t n : Nat} {S S' : Bs} {Y Y' : BLay} {w w' w1 w2 : World}

set_option maxHeartbeats 1000000 in
theorem gather_e (H : BusAt b g t n S Y w) (core : Int) : Calls Tryz.prog 110 #[ptr b 0, vI core, .func (.func 111) #[] #[]] w fun e w' => e = .returned (vU (Bit.orN (fun i => (lookV n S.P core i).e) 64 : Nat)) ∧ Below w.heap.size w w' := by
  generalize hf : (fun i : Nat => (lookV n S.P core i).e) = f
  go_enter Tryz.func110, Tryz.ntmps110
  go_wp2
  go_loopw [7, 9] (fun s7 s9 wr => ∃ i : Nat, i ≤ 64 ∧ s7 = .int .u64 (Bit.orN f i : Nat) ∧ s9 = .int .i64 i ∧ Hid (Below w.heap.size w wr)) (fun _ s9 _ => 64 - (intOf s9).toNat)
  case atStart => exact ⟨0, Nat.zero_le _, rfl, rfl, Below.refl _ _⟩
  case round =>
    obtain ⟨i, hi, rfl, rfl, hB⟩ := hrel
    replace hB := hB.out
    have H1 := H.grow hB
    have c1 := H1.c1
    have hB : Hid (Below w.heap.size w wr) := hB
    by_cases hlt : (i : Int) < 64
    · have hcall : Calls Tryz.prog 111 #[ptr g 0, vI core, vI i] wr fun e w' => e = .returned (.bool (f i)) ∧ Below wr.heap.size wr w' := by rw [← hf]; exact enabled_c H1.gic core i
      cases hfi : f i with
      | true =>
        rw [hfi] at hcall
        have e1 : Bit.orN f (i + 1) = Bit.orN f i ||| 2 ^ i := by rw [Bit.orN, hfi, if_pos rfl]
        have hp : 2 ^ i < 2 ^ 64 := Nat.pow_lt_pow_right (by decide) (by omega)
        have ho : Bit.orN f i < 2 ^ 64 := Nat.lt_of_lt_of_le (Bit.orN_lt f i) (Nat.pow_le_pow_right (by decide) hi)
        have e2 := Bit.or_bit ho hp
        rw [← e1] at e2
        replace e2 := show Hid _ from e2
        go_upto_region 6 with (first | (go_at_call 111; refine hcall.mono ?_; rintro e w1 ⟨rfl, hB1⟩; dsimp only))
        clear hcall c1
        go_wp2
        go_roundw
        case rel => exact ⟨i + 1, by omega, by rw [← e2.out, ← wrap_pow (by omega)], by go_num, below_then hB.out (Nat.le_refl _) hB1⟩
        case measure => simp [intOf]; omega
      | false =>
        rw [hfi] at hcall
        have e1 : Bit.orN f (i + 1) = Bit.orN f i := by rw [Bit.orN, hfi, if_neg (by decide)]
        replace e1 := show Hid _ from e1
        go_wp2_with (first | (go_at_call 111; refine hcall.mono ?_; rintro e w1 ⟨rfl, hB1⟩; dsimp only))
        go_roundw
        case rel => exact ⟨i + 1, by omega, by rw [e1.out], by go_num, below_then hB.out (Nat.le_refl _) hB1⟩
        case measure => simp [intOf]; omega
    · obtain rfl : i = 64 := by omega
      go_wp2
      go_ret
      exact ⟨rfl, hB.out⟩

set_option maxHeartbeats 1000000 in
theorem gather_p (H : BusAt b g t n S Y w) (core : Int) : Calls Tryz.prog 110 #[ptr b 0, vI core, .func (.func 37) #[] #[]] w fun e w' => e = .returned (vU (Bit.orN (fun i => ((lookV n S.P core i).l || (lookV n S.P core i).h)) 64 : Nat)) ∧ Below w.heap.size w w' := by
  generalize hf : (fun i : Nat => ((lookV n S.P core i).l || (lookV n S.P core i).h)) = f
  go_enter Tryz.func110, Tryz.ntmps110
  go_wp2
  go_loopw [7, 9] (fun s7 s9 wr => ∃ i : Nat, i ≤ 64 ∧ s7 = .int .u64 (Bit.orN f i : Nat) ∧ s9 = .int .i64 i ∧ Hid (Below w.heap.size w wr)) (fun _ s9 _ => 64 - (intOf s9).toNat)
  case atStart => exact ⟨0, Nat.zero_le _, rfl, rfl, Below.refl _ _⟩
  case round =>
    obtain ⟨i, hi, rfl, rfl, hB⟩ := hrel
    replace hB := hB.out
    have H1 := H.grow hB
    have c1 := H1.c1
    have hB : Hid (Below w.heap.size w wr) := hB
    by_cases hlt : (i : Int) < 64
    · have hcall : Calls Tryz.prog 37 #[ptr g 0, vI core, vI i] wr fun e w' => e = .returned (.bool (f i)) ∧ Below wr.heap.size wr w' := by rw [← hf]; exact pending_c H1.gic core i
      cases hfi : f i with
      | true =>
        rw [hfi] at hcall
        have e1 : Bit.orN f (i + 1) = Bit.orN f i ||| 2 ^ i := by rw [Bit.orN, hfi, if_pos rfl]
        have hp : 2 ^ i < 2 ^ 64 := Nat.pow_lt_pow_right (by decide) (by omega)
        have ho : Bit.orN f i < 2 ^ 64 := Nat.lt_of_lt_of_le (Bit.orN_lt f i) (Nat.pow_le_pow_right (by decide) hi)
        have e2 := Bit.or_bit ho hp
        rw [← e1] at e2
        replace e2 := show Hid _ from e2
        go_upto_region 6 with (first | (go_at_call 37; refine hcall.mono ?_; rintro e w1 ⟨rfl, hB1⟩; dsimp only))
        clear hcall c1
        go_wp2
        go_roundw
        case rel => exact ⟨i + 1, by omega, by rw [← e2.out, ← wrap_pow (by omega)], by go_num, below_then hB.out (Nat.le_refl _) hB1⟩
        case measure => simp [intOf]; omega
      | false =>
        rw [hfi] at hcall
        have e1 : Bit.orN f (i + 1) = Bit.orN f i := by rw [Bit.orN, hfi, if_neg (by decide)]
        replace e1 := show Hid _ from e1
        go_wp2_with (first | (go_at_call 37; refine hcall.mono ?_; rintro e w1 ⟨rfl, hB1⟩; dsimp only))
        go_roundw
        case rel => exact ⟨i + 1, by omega, by rw [e1.out], by go_num, below_then hB.out (Nat.le_refl _) hB1⟩
        case measure => simp [intOf]; omega
    · obtain rfl : i = 64 := by omega
      go_wp2
      go_ret
      exact ⟨rfl, hB.out⟩

set_option maxHeartbeats 1000000 in
theorem gather_a (H : BusAt b g t n S Y w) (core : Int) : Calls Tryz.prog 110 #[ptr b 0, vI core, .func (.func 115) #[] #[]] w fun e w' => e = .returned (vU (Bit.orN (fun i => (lookV n S.P core i).a) 64 : Nat)) ∧ Below w.heap.size w w' := by
  generalize hf : (fun i : Nat => (lookV n S.P core i).a) = f
  go_enter Tryz.func110, Tryz.ntmps110
  go_wp2
  go_loopw [7, 9] (fun s7 s9 wr => ∃ i : Nat, i ≤ 64 ∧ s7 = .int .u64 (Bit.orN f i : Nat) ∧ s9 = .int .i64 i ∧ Hid (Below w.heap.size w wr)) (fun _ s9 _ => 64 - (intOf s9).toNat)
  case atStart => exact ⟨0, Nat.zero_le _, rfl, rfl, Below.refl _ _⟩
  case round =>
    obtain ⟨i, hi, rfl, rfl, hB⟩ := hrel
    replace hB := hB.out
    have H1 := H.grow hB
    have c1 := H1.c1
    have hB : Hid (Below w.heap.size w wr) := hB
    by_cases hlt : (i : Int) < 64
    · have hcall : Calls Tryz.prog 115 #[ptr g 0, vI core, vI i] wr fun e w' => e = .returned (.bool (f i)) ∧ Below wr.heap.size wr w' := by rw [← hf]; exact active_c H1.gic core i
      cases hfi : f i with
      | true =>
        rw [hfi] at hcall
        have e1 : Bit.orN f (i + 1) = Bit.orN f i ||| 2 ^ i := by rw [Bit.orN, hfi, if_pos rfl]
        have hp : 2 ^ i < 2 ^ 64 := Nat.pow_lt_pow_right (by decide) (by omega)
        have ho : Bit.orN f i < 2 ^ 64 := Nat.lt_of_lt_of_le (Bit.orN_lt f i) (Nat.pow_le_pow_right (by decide) hi)
        have e2 := Bit.or_bit ho hp
        rw [← e1] at e2
        replace e2 := show Hid _ from e2
        go_upto_region 6 with (first | (go_at_call 115; refine hcall.mono ?_; rintro e w1 ⟨rfl, hB1⟩; dsimp only))
        clear hcall c1
        go_wp2
        go_roundw
        case rel => exact ⟨i + 1, by omega, by rw [← e2.out, ← wrap_pow (by omega)], by go_num, below_then hB.out (Nat.le_refl _) hB1⟩
        case measure => simp [intOf]; omega
      | false =>
        rw [hfi] at hcall
        have e1 : Bit.orN f (i + 1) = Bit.orN f i := by rw [Bit.orN, hfi, if_neg (by decide)]
        replace e1 := show Hid _ from e1
        go_wp2_with (first | (go_at_call 115; refine hcall.mono ?_; rintro e w1 ⟨rfl, hB1⟩; dsimp only))
        go_roundw
        case rel => exact ⟨i + 1, by omega, by rw [e1.out], by go_num, below_then hB.out (Nat.le_refl _) hB1⟩
        case measure => simp [intOf]; omega
    · obtain rfl : i = 64 := by omega
      go_wp2
      go_ret
      exact ⟨rfl, hB.out⟩

set_option maxHeartbeats 1000000 in
theorem spread_e (H : BusAt b g t n S Y w) (core : Int) (v : Nat) (hv : v < 2 ^ 64) (on : Bool) : Calls Tryz.prog 112 #[ptr b 0, vI core, vU v, .func (.func 113) #[] #[], .bool on] w fun e w' => e = .returned (.tuple #[]) ∧ BT b g t n Y { S with P := sprF (fun Q id => genableP n Q core id on) S.P v 64 } w w' := by
  generalize hf : (fun (Q : Pg) (id : Int) => genableP n Q core id on) = f
  go_enter Tryz.func112, Tryz.ntmps112
  go_wp2
  go_loopw [11] (fun s11 wr => ∃ i : Nat, i ≤ 64 ∧ s11 = .int .i64 i ∧ Hid (BT b g t n Y { S with P := sprF f S.P v i } w wr)) (fun s11 _ => 64 - (intOf s11).toNat)
  case atStart => exact ⟨0, Nat.zero_le _, rfl, H.refl⟩
  case round =>
    obtain ⟨i, hi, rfl, hT⟩ := hrel
    by_cases hlt : (i : Int) < 64
    · have hbt := bit_at v i hv
      cases hfi : v.testBit i with
      | true =>
        have e1 : sprF f S.P v (i + 1) = f (sprF f S.P v i) i := if_pos hfi
        rw [hfi] at hbt
        obtain ⟨Z, H1, G1, F1⟩ := hT.out
        clear hT
        have c1 := H1.c1
        have hcall := genable_c H1.gic core i on
        have e2 : genableP n (sprF f S.P v i) core i on = f (sprF f S.P v i) i := by rw [← hf]
        replace e1 := show Hid _ from e1
        replace e2 := show Hid _ from e2
        go_wp2_with (first | (go_at_call 113; refine hcall.mono ?_; rintro e w1 ⟨rfl, hC⟩; dsimp only))
        go_roundw
        case rel => exact ⟨i + 1, by omega, by go_num, by rw [e1.out, ← e2.out]; exact BT.then G1 F1 (H1.gicT hC.gtl)⟩
        case measure => simp [intOf]; omega
      | false =>
        have e1 : sprF f S.P v (i + 1) = sprF f S.P v i := if_neg (by rw [hfi]; decide)
        rw [hfi] at hbt
        replace e1 := show Hid _ from e1
        go_wp2
        go_roundw
        case rel => exact ⟨i + 1, by omega, by go_num, by rw [e1.out]; exact hT⟩
        case measure => simp [intOf]; omega
    · obtain rfl : i = 64 := by omega
      go_wp2
      exact bodyPost_end (results_none rfl _ _ _) rfl ⟨rfl, hT.out⟩

set_option maxHeartbeats 1000000 in
theorem spread_p (H : BusAt b g t n S Y w) (core : Int) (v : Nat) (hv : v < 2 ^ 64) (on : Bool) : Calls Tryz.prog 112 #[ptr b 0, vI core, vU v, .func (.func 114) #[] #[], .bool on] w fun e w' => e = .returned (.tuple #[]) ∧ BT b g t n Y { S with P := sprF (fun Q id => gpendP n Q core id on) S.P v 64 } w w' := by
  generalize hf : (fun (Q : Pg) (id : Int) => gpendP n Q core id on) = f
  go_enter Tryz.func112, Tryz.ntmps112
  go_wp2
  go_loopw [11] (fun s11 wr => ∃ i : Nat, i ≤ 64 ∧ s11 = .int .i64 i ∧ Hid (BT b g t n Y { S with P := sprF f S.P v i } w wr)) (fun s11 _ => 64 - (intOf s11).toNat)
  case atStart => exact ⟨0, Nat.zero_le _, rfl, H.refl⟩
  case round =>
    obtain ⟨i, hi, rfl, hT⟩ := hrel
    by_cases hlt : (i : Int) < 64
    · have hbt := bit_at v i hv
      cases hfi : v.testBit i with
      | true =>
        have e1 : sprF f S.P v (i + 1) = f (sprF f S.P v i) i := if_pos hfi
        rw [hfi] at hbt
        obtain ⟨Z, H1, G1, F1⟩ := hT.out
        clear hT
        have c1 := H1.c1
        have hcall := gpend_c H1.gic core i on
        have e2 : gpendP n (sprF f S.P v i) core i on = f (sprF f S.P v i) i := by rw [← hf]
        replace e1 := show Hid _ from e1
        replace e2 := show Hid _ from e2
        go_wp2_with (first | (go_at_call 114; refine hcall.mono ?_; rintro e w1 ⟨rfl, hC⟩; dsimp only))
        go_roundw
        case rel => exact ⟨i + 1, by omega, by go_num, by rw [e1.out, ← e2.out]; exact BT.then G1 F1 (H1.gicT hC.gtl)⟩
        case measure => simp [intOf]; omega
      | false =>
        have e1 : sprF f S.P v (i + 1) = sprF f S.P v i := if_neg (by rw [hfi]; decide)
        rw [hfi] at hbt
        replace e1 := show Hid _ from e1
        go_wp2
        go_roundw
        case rel => exact ⟨i + 1, by omega, by go_num, by rw [e1.out]; exact hT⟩
        case measure => simp [intOf]; omega
    · obtain rfl : i = 64 := by omega
      go_wp2
      exact bodyPost_end (results_none rfl _ _ _) rfl ⟨rfl, hT.out⟩

theorem enabledM (H : BusAt b g t n S Y w) (core p : Int) : Calls Tryz.prog 81 #[ptr b 0, vI core, vI p] w fun e w' => e = .returned (vU (Bit.orN (fun i => (lookV n S.P core i).e) 64 : Nat)) ∧ Below w.heap.size w w' := by
  go_enter Tryz.func81, Tryz.ntmps81
  go_wp2_with (first | (go_at_call 110; refine (gather_e H core).mono ?_; rintro e w1 ⟨rfl, hB⟩; dsimp only))
  go_ret
  exact ⟨rfl, hB⟩

theorem pendingM (H : BusAt b g t n S Y w) (core p : Int) : Calls Tryz.prog 84 #[ptr b 0, vI core, vI p] w fun e w' => e = .returned (vU (Bit.orN (fun i => ((lookV n S.P core i).l || (lookV n S.P core i).h)) 64 : Nat)) ∧ Below w.heap.size w w' := by
  go_enter Tryz.func84, Tryz.ntmps84
  go_wp2_with (first | (go_at_call 110; refine (gather_p H core).mono ?_; rintro e w1 ⟨rfl, hB⟩; dsimp only))
  go_ret
  exact ⟨rfl, hB⟩

theorem activeM (H : BusAt b g t n S Y w) (core p : Int) : Calls Tryz.prog 87 #[ptr b 0, vI core, vI p] w fun e w' => e = .returned (vU (Bit.orN (fun i => (lookV n S.P core i).a) 64 : Nat)) ∧ Below w.heap.size w w' := by
  go_enter Tryz.func87, Tryz.ntmps87
  go_wp2_with (first | (go_at_call 110; refine (gather_a H core).mono ?_; rintro e w1 ⟨rfl, hB⟩; dsimp only))
  go_ret
  exact ⟨rfl, hB⟩

theorem enableM (H : BusAt b g t n S Y w) (core p : Int) (v : Nat) (hv : v < 2 ^ 64) : Calls Tryz.prog 82 #[ptr b 0, vI core, vI p, vU v] w fun e w' => e = .returned (.tuple #[]) ∧ BT b g t n Y { S with P := sprF (fun Q id => genableP n Q core id true) S.P v 64 } w w' := by
  go_enter Tryz.func82, Tryz.ntmps82
  go_wp2_with (first | (go_at_call 112; refine (spread_e H core v hv true).mono ?_; rintro e w1 ⟨rfl, hT⟩; dsimp only))
  exact bodyPost_end (results_none rfl _ _ _) rfl ⟨rfl, hT⟩

theorem disableM (H : BusAt b g t n S Y w) (core p : Int) (v : Nat) (hv : v < 2 ^ 64) : Calls Tryz.prog 83 #[ptr b 0, vI core, vI p, vU v] w fun e w' => e = .returned (.tuple #[]) ∧ BT b g t n Y { S with P := sprF (fun Q id => genableP n Q core id false) S.P v 64 } w w' := by
  go_enter Tryz.func83, Tryz.ntmps83
  go_wp2_with (first | (go_at_call 112; refine (spread_e H core v hv false).mono ?_; rintro e w1 ⟨rfl, hT⟩; dsimp only))
  exact bodyPost_end (results_none rfl _ _ _) rfl ⟨rfl, hT⟩

theorem latchM (H : BusAt b g t n S Y w) (core p : Int) (v : Nat) (hv : v < 2 ^ 64) : Calls Tryz.prog 85 #[ptr b 0, vI core, vI p, vU v] w fun e w' => e = .returned (.tuple #[]) ∧ BT b g t n Y { S with P := sprF (fun Q id => gpendP n Q core id true) S.P v 64 } w w' := by
  go_enter Tryz.func85, Tryz.ntmps85
  go_wp2_with (first | (go_at_call 112; refine (spread_p H core v hv true).mono ?_; rintro e w1 ⟨rfl, hT⟩; dsimp only))
  exact bodyPost_end (results_none rfl _ _ _) rfl ⟨rfl, hT⟩

theorem unlatchM (H : BusAt b g t n S Y w) (core p : Int) (v : Nat) (hv : v < 2 ^ 64) : Calls Tryz.prog 86 #[ptr b 0, vI core, vI p, vU v] w fun e w' => e = .returned (.tuple #[]) ∧ BT b g t n Y { S with P := sprF (fun Q id => gpendP n Q core id false) S.P v 64 } w w' := by
  go_enter Tryz.func86, Tryz.ntmps86
  go_wp2_with (first | (go_at_call 112; refine (spread_p H core v hv false).mono ?_; rintro e w1 ⟨rfl, hT⟩; dsimp only))
  exact bodyPost_end (results_none rfl _ _ _) rfl ⟨rfl, hT⟩
end
end Go.Proofs.YteklkololojamaaGreat
