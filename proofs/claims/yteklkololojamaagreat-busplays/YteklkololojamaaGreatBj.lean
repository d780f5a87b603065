/- The bus: SysSgi. -/
import Derived.Test.YteklkololojamaaGreatBi
namespace Go.Proofs.YteklkololojamaaGreat
open Go.RowKit
set_option linter.unusedVariables false
set_option linter.unusedSimpArgs false
set_option maxRecDepth 8000

theorem pow_dv {n : Nat} (hn : n ≤ 8) : 2 ^ n ∣ 65536 := by
  have h1 : n = 0 ∨ n = 1 ∨ n = 2 ∨ n = 3 ∨ n = 4 ∨ n = 5 ∨ n = 6 ∨ n = 7 ∨ n = 8 := by omega
  rcases h1 with rfl | rfl | rfl | rfl | rfl | rfl | rfl | rfl | rfl <;> decide
theorem pow_sub1 (n : Nat) : ((2 ^ n - 1 : Nat) : Int) = 2 ^ n - 1 := by
  have hq : 1 ≤ 2 ^ n := Nat.two_pow_pos n
  rw [Int.natCast_sub hq]
  simp
theorem low_mask (v : Nat) {n : Nat} (hn : n ≤ 8) : bits BinOp.and IntKind.i64 ((v % 65536 : Nat) : Int) (2 ^ n - 1) = ((v % 2 ^ n : Nat) : Int) := by
  have hm : v % 65536 % 2 ^ n = v % 2 ^ n := Nat.mod_mod_of_dvd v (pow_dv hn)
  have hx : v % 65536 < 2 ^ 62 := Nat.lt_of_lt_of_le (Nat.mod_lt _ (by decide)) (by decide)
  have e := iand_mask (v % 65536) n hx (Nat.le_trans hn (by decide))
  rw [hm, pow_sub1] at e
  exact e

theorem sgiI_lt (v : Nat) : sgiI v < 2 ^ 62 := by unfold sgiI; omega
theorem sgi_and (v : Nat) (hv : v < 2 ^ 64) : bits BinOp.and IntKind.u64 ((v : Int) / 16777216) 15 = (sgiI v : Int) := by
  have := and15 (v / 16777216) (by omega)
  have e3 : ((v / 16777216 : Nat) : Int) = (v : Int) / 16777216 := by omega
  rw [e3] at this
  exact this
theorem pow_facts {n c : Nat} (hn : n ≤ 8) (hc : c < n) : wrap64 (2 ^ n) = 2 ^ n ∧ wrap64 (2 ^ n - 1) = 2 ^ n - 1 ∧ wrap64 (2 ^ c) = 2 ^ c := by
  have hpn : (2 : Int) ^ n ≤ 256 := gpow_le hn
  have hp0 : (0 : Int) < 2 ^ n := Int.pow_pos (by decide)
  have hpc : (2 : Int) ^ c ≤ 256 := gpow_le (by omega)
  have hp1 : (0 : Int) < 2 ^ c := Int.pow_pos (by decide)
  exact ⟨IntWalk.wrap64_in _ ⟨by omega, by omega⟩, IntWalk.wrap64_in _ ⟨by omega, by omega⟩, IntWalk.wrap64_in _ ⟨by omega, by omega⟩⟩
theorem v16_lt (v : Nat) : v % 65536 < 2 ^ 62 := by omega
section
variable {b g t n : Nat} {S S' : Bs} {Y Y' : BLay} {w w' w1 w2 : World}
set_option maxHeartbeats 1000000 in
theorem sendM (H : BusAt b g t n S Y w) (c : Nat) (hc : c < n) (v : Nat) (hv : v < 2 ^ 64) : Calls Tryz.prog 104 #[ptr b 0, vI c, vU v] w fun e w' => e = .returned (.tuple #[]) ∧ BT b g t n Y { S with P := gsendP n S.P (sgiT n c v) (sgiI v) } w w' := by
  have c0 := H.c0
  have c1 := H.c1
  have hn := H.gic.le8
  obtain ⟨w1, w2, w3⟩ := pow_facts hn hc
  have a1 := and16 v hv
  have a2 := conv_i (v % 65536) (v16_lt v)
  have a3 := low_mask v hn
  have a4 := all_not hn hc
  have a5 := bit40 v hv
  have a6 := sgi_and v hv
  have a7 := conv_i (sgiI v) (sgiI_lt v)
  have hcall := gsend_c H.gic (sgiT n c v) (sgiI v)
  generalize (if gsendE n (sgiT n c v) (sgiI v) = true then (1 : Int) else 0) = E at hcall
  cases hb : v.testBit 40 with
  | true =>
    have e9 : sgiT n c v = 2 ^ n - 1 - 2 ^ c := by unfold sgiT; rw [if_pos hb, Int.toNat_natCast]
    rw [e9] at hcall ⊢
    rw [hb] at a5
    generalize ((v % 65536 : Nat) : Int) = v16 at *
    generalize ((v % 2 ^ n : Nat) : Int) = vn at *
    generalize (sgiI v : Int) = si at *
    generalize (v : Int) = x at *
    clear hb e9 hv
    go_enter Tryz.func104, Tryz.ntmps104
    go_wp2_with (first | (go_at_call 125; refine hcall.mono ?_; rintro e w1 ⟨rfl, hT⟩; dsimp only))
    exact bodyPost_end (results_none rfl _ _ _) rfl ⟨rfl, H.gicT hT.gtl⟩
  | false =>
    have e9 : sgiT n c v = ((v % 2 ^ n : Nat) : Int) := by unfold sgiT; rw [if_neg (by rw [hb]; decide)]
    rw [e9] at hcall ⊢
    rw [hb] at a5
    generalize ((v % 65536 : Nat) : Int) = v16 at *
    generalize ((v % 2 ^ n : Nat) : Int) = vn at *
    generalize (sgiI v : Int) = si at *
    generalize (v : Int) = x at *
    clear hb e9 hv
    go_enter Tryz.func104, Tryz.ntmps104
    go_wp2_with (first | (go_at_call 125; refine hcall.mono ?_; rintro e w1 ⟨rfl, hT⟩; dsimp only))
    exact bodyPost_end (results_none rfl _ _ _) rfl ⟨rfl, H.gicT hT.gtl⟩
end
end Go.Proofs.YteklkololojamaaGreat
