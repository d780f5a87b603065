/- The bus: its system registers' methods. -/
import Derived.Test.YteklkololojamaaGreatBe
namespace Go.Proofs.YteklkololojamaaGreat
open Go.RowKit
set_option linter.unusedVariables false
set_option linter.unusedSimpArgs false
set_option maxRecDepth 8000

def turnS (n : Nat) (S : Bs) (core sys : Int) (v : Nat) : Bs := joinS n { S with T := Tmr.writeT n S.T core sys v }
/-- To whom SysSgi sends. -/
def sgiT (n : Nat) (core : Int) (v : Nat) : Int := if v.testBit 40 = true then 2 ^ n - 1 - 2 ^ core.toNat else ((v % 2 ^ n : Nat) : Int)
def sgiI (v : Nat) : Nat := v / 16777216 % 16
theorem u64_of {v : Nat} (hv : v < 2 ^ 64) : U64 (v : Int) := ⟨by omega, by omega⟩
theorem iand_mask (x k : Nat) (hx : x < 2 ^ 62) (hk : k ≤ 32) : bits BinOp.and IntKind.i64 (x : Int) ((2 ^ k - 1 : Nat) : Int) = ((x % 2 ^ k : Nat) : Int) := by
  have hp : 2 ^ k ≤ 2 ^ 32 := Nat.pow_le_pow_right (by decide) hk
  have key : (BitVec.ofInt 64 (x : Int) &&& BitVec.ofInt 64 ((2 ^ k - 1 : Nat) : Int)).toNat = x % 2 ^ k := by
    rw [BitVec.toNat_and, BitVec.toNat_ofInt, BitVec.toNat_ofInt]
    have e1 : ((x : Int) % ((2 ^ 64 : Nat) : Int)).toNat = x := by omega
    have e2 : ((((2 ^ k - 1 : Nat) : Int)) % ((2 ^ 64 : Nat) : Int)).toNat = 2 ^ k - 1 := by omega
    rw [e1, e2, Nat.and_two_pow_sub_one_eq_mod]
  have hlt : x % 2 ^ k ≤ x := Nat.mod_le _ _
  show IntKind.i64.wrap ((BitVec.ofInt 64 (x : Int) &&& BitVec.ofInt 64 ((2 ^ k - 1 : Nat) : Int)).toNat : Nat) = _
  rw [key, IntKind.wrap_i64]
  omega
theorem all_not {n c : Nat} (hn : n ≤ 8) (hc : c < n) : bits BinOp.andNot IntKind.i64 (2 ^ n - 1) (2 ^ c) = 2 ^ n - 1 - 2 ^ c := by
  have h1 : n = 1 ∨ n = 2 ∨ n = 3 ∨ n = 4 ∨ n = 5 ∨ n = 6 ∨ n = 7 ∨ n = 8 := by omega
  rcases h1 with rfl | rfl | rfl | rfl | rfl | rfl | rfl | rfl
  all_goals
    have h2 : c = 0 ∨ c = 1 ∨ c = 2 ∨ c = 3 ∨ c = 4 ∨ c = 5 ∨ c = 6 ∨ c = 7 := by omega
    rcases h2 with rfl | rfl | rfl | rfl | rfl | rfl | rfl | rfl <;> first | (exact absurd hc (by decide)) | decide
theorem bit40 (v : Nat) (hv : v < 2 ^ 64) : (bits BinOp.and IntKind.u64 (v : Int) 1099511627776 != 0) = v.testBit 40 := by
  have e1 := Bit.and_bit hv (b := 1099511627776) (by decide)
  have e2 : ((1099511627776 : Nat) : Int) = 1099511627776 := rfl
  rw [← e2, e1]
  have e3 : v &&& 1099511627776 = if v.testBit 40 then 1099511627776 else 0 := by
    apply Nat.eq_of_testBit_eq
    intro j
    rw [Nat.testBit_and, show (1099511627776 : Nat) = 2 ^ 40 from rfl, Nat.testBit_two_pow]
    by_cases e : 40 = j
    · subst e
      cases h : v.testBit 40
      · simp
      · simp [show Nat.testBit 1099511627776 40 = true from by decide]
    · rw [decide_eq_false e, Bool.and_false]
      cases h : v.testBit 40
      · simp
      · simp only [if_true]; rw [Nat.testBit_two_pow, decide_eq_false e]
  rw [e3]
  cases v.testBit 40 <;> rfl
section
variable {b g t n : Nat} {S S' : Bs} {Y Y' : BLay} {w w' w1 w2 : World}
theorem ask_c (H : BusAt b g t n S Y w) (core sys : Int) : Calls Tryz.prog 119 #[ptr b 0, vI core, vI sys] w fun e w' => e = .returned (vU (Tmr.readV n S.T core sys)) ∧ Below w.heap.size w w' := by
  have c2 := H.c2
  have hcall := Tmr.read_c H.tim core sys
  go_enter Tryz.func119, Tryz.ntmps119
  go_wp2_with (first | (go_at_call 132; refine hcall.mono ?_; rintro e w1 ⟨rfl, hB⟩; dsimp only))
  go_ret
  exact ⟨rfl, hB⟩
theorem turn_c (H : BusAt b g t n S Y w) (core sys : Int) (v : Nat) (hv : v < 2 ^ 64) : Calls Tryz.prog 120 #[ptr b 0, vI core, vI sys, vU v] w fun e w' => e = .returned (.tuple #[]) ∧ BT b g t n Y (turnS n S core sys v) w w' := by
  have c2 := H.c2
  have hcall := Tmr.write_c H.tim core sys (u64_of hv)
  go_enter Tryz.func120, Tryz.ntmps120
  go_upto_region 1 with (first | (go_at_call 133; refine hcall.mono ?_; rintro e w1 ⟨rfl, hT⟩; dsimp only))
  obtain ⟨Z, H1, G1, F1⟩ := H.timT hT
  clear hT hcall c2
  go_wp2_with (first | (go_at_call 58; refine (join_c H1).mono ?_; rintro e w2 ⟨rfl, hT⟩; dsimp only))
  exact bodyPost_end (results_none rfl _ _ _) rfl ⟨rfl, BT.then G1 F1 hT⟩

theorem countM (H : BusAt b g t n S Y w) (core : Int) : Calls Tryz.prog 95 #[ptr b 0, vI core] w fun e w' => e = .returned (vU (Tmr.readV n S.T core 24322)) ∧ Below w.heap.size w w' := by
  go_enter Tryz.func95, Tryz.ntmps95
  go_wp2_with (first | (go_at_call 119; refine (ask_c H core 24322).mono ?_; rintro e w1 ⟨rfl, hB⟩; dsimp only))
  go_ret
  exact ⟨rfl, hB⟩

theorem ctlM (H : BusAt b g t n S Y w) (core : Int) : Calls Tryz.prog 96 #[ptr b 0, vI core] w fun e w' => e = .returned (vU (Tmr.readV n S.T core 24345)) ∧ Below w.heap.size w w' := by
  go_enter Tryz.func96, Tryz.ntmps96
  go_wp2_with (first | (go_at_call 119; refine (ask_c H core 24345).mono ?_; rintro e w1 ⟨rfl, hB⟩; dsimp only))
  go_ret
  exact ⟨rfl, hB⟩

theorem cvalM (H : BusAt b g t n S Y w) (core : Int) : Calls Tryz.prog 98 #[ptr b 0, vI core] w fun e w' => e = .returned (vU (Tmr.readV n S.T core 24346)) ∧ Below w.heap.size w w' := by
  go_enter Tryz.func98, Tryz.ntmps98
  go_wp2_with (first | (go_at_call 119; refine (ask_c H core 24346).mono ?_; rintro e w1 ⟨rfl, hB⟩; dsimp only))
  go_ret
  exact ⟨rfl, hB⟩

theorem setCtlM (H : BusAt b g t n S Y w) (core : Int) (v : Nat) (hv : v < 2 ^ 64) : Calls Tryz.prog 97 #[ptr b 0, vI core, vU v] w fun e w' => e = .returned (.tuple #[]) ∧ BT b g t n Y (turnS n S core 24345 v) w w' := by
  go_enter Tryz.func97, Tryz.ntmps97
  go_wp2_with (first | (go_at_call 120; refine (turn_c H core 24345 v hv).mono ?_; rintro e w1 ⟨rfl, hT⟩; dsimp only))
  exact bodyPost_end (results_none rfl _ _ _) rfl ⟨rfl, hT⟩

theorem setCvalM (H : BusAt b g t n S Y w) (core : Int) (v : Nat) (hv : v < 2 ^ 64) : Calls Tryz.prog 99 #[ptr b 0, vI core, vU v] w fun e w' => e = .returned (.tuple #[]) ∧ BT b g t n Y (turnS n S core 24346 v) w w' := by
  go_enter Tryz.func99, Tryz.ntmps99
  go_wp2_with (first | (go_at_call 120; refine (turn_c H core 24346 v hv).mono ?_; rintro e w1 ⟨rfl, hT⟩; dsimp only))
  exact bodyPost_end (results_none rfl _ _ _) rfl ⟨rfl, hT⟩

theorem takeM (H : BusAt b g t n S Y w) (core : Int) (hlen : ∀ c, c < n → (S.P.wk c).length + 1 < 1000000) : Calls Tryz.prog 100 #[ptr b 0, vI core] w fun e w' => e = .returned (vU (ackV n S.P core % 18446744073709551616)) ∧ BT b g t n Y { S with P := ackP n S.P core } w w' := by
  have c1 := H.c1
  have hcall := gack_c H.gic core hlen
  generalize ackV n S.P core = z at *
  have e1 : IntKind.u64.wrap z = z % 18446744073709551616 := by rw [IntKind.wrap_u64]
  rw [← e1]
  clear e1
  go_enter Tryz.func100, Tryz.ntmps100
  go_wp2_with (first | (go_at_call 121; refine hcall.mono ?_; rintro e w1 ⟨rfl, hT⟩; dsimp only))
  go_ret
  exact ⟨rfl, H.gicT hT⟩
theorem setLimitM (H : BusAt b g t n S Y w) (core : Int) (v : Nat) (hv : v < 2 ^ 64) : Calls Tryz.prog 102 #[ptr b 0, vI core, vU v] w fun e w' => e = .returned (.tuple #[]) ∧ BT b g t n Y { S with P := gmaskP n S.P core (v % 256 : Nat) } w w' := by
  have c1 := H.c1
  have e1 := and8 v hv
  have e2 := conv_i (v % 256) (by omega)
  have hcall := gmask_c H.gic core (v % 256 : Nat)
  generalize ((v % 256 : Nat) : Int) = z at *
  generalize (v : Int) = x at *
  generalize (if gmaskE n core z = true then (1 : Int) else 0) = E at hcall
  go_enter Tryz.func102, Tryz.ntmps102
  go_wp2_with (first | (go_at_call 123; refine hcall.mono ?_; rintro e w1 ⟨rfl, hT⟩; dsimp only))
  exact bodyPost_end (results_none rfl _ _ _) rfl ⟨rfl, H.gicT hT.gtl⟩
theorem endM (H : BusAt b g t n S Y w) (core : Int) (v : Nat) (hv : v < 2 ^ 64) : Calls Tryz.prog 103 #[ptr b 0, vI core, vU v] w fun e w' => e = .returned (.tuple #[]) ∧ BT b g t n Y { S with P := geoiP n S.P core (v % 16777216 : Nat) } w w' := by
  have c1 := H.c1
  have e1 := and24 v hv
  have e2 := conv_i (v % 16777216) (by omega)
  have hcall := geoi_c H.gic core (v % 16777216 : Nat)
  generalize ((v % 16777216 : Nat) : Int) = z at *
  generalize (v : Int) = x at *
  generalize geoiE n core z = E at hcall
  generalize eoiB n S.P core z = B at hcall
  go_enter Tryz.func103, Tryz.ntmps103
  go_wp2_with (first | (go_at_call 124; refine hcall.mono ?_; rintro e w1 ⟨rfl, hT⟩; dsimp only))
  exact bodyPost_end (results_none rfl _ _ _) rfl ⟨rfl, H.gicT hT⟩
end
end Go.Proofs.YteklkololojamaaGreat
