/- The sets of registers that package insn keeps by bits: what its small functions give back: contracts. -/
import Derived.Test.YtmbefmmnkfoneaaDoorRight
namespace Go.Proofs.YtmbefmmnkfoneaaDoor
open Go.RowKit Go.Rel

def zeroF (n : Int) : Int := if n = 31 then 0 else 2 ^ n.toNat
def stackF (n : Int) : Int := 2 ^ n.toNat
def accB (op : Int) : Bool := decide (17 ≤ op) && decide (op ≤ 24)
def spD (i : Ins) : Bool := (i.op == 1 || i.op == 4) && !i.flags
def spN (i : Ins) : Bool := i.op == 1 || accB i.op

theorem zero_fin : ∀ k : Fin 32, bits .andNot .u32 (IntKind.u32.wrap (2 ^ (k.val : Int).toNat)) 2147483648 = zeroF (k.val : Int) := by decide +kernel
theorem stack_fin : ∀ k : Fin 32, IntKind.u32.wrap (2 ^ (k.val : Int).toNat) = stackF (k.val : Int) := by decide +kernel
theorem zero_walk {n : Int} (h0 : 0 ≤ n) (h1 : n ≤ 31) : bits .andNot .u32 (IntKind.u32.wrap (2 ^ n.toNat)) 2147483648 = zeroF n := by
  have := zero_fin ⟨n.toNat, by omega⟩
  rwa [show ((⟨n.toNat, by omega⟩ : Fin 32).val : Int) = n by simp; omega] at this
theorem stack_walk {n : Int} (h0 : 0 ≤ n) (h1 : n ≤ 31) : IntKind.u32.wrap (2 ^ n.toNat) = stackF n := by
  have := stack_fin ⟨n.toNat, by omega⟩
  rwa [show ((⟨n.toNat, by omega⟩ : Fin 32).val : Int) = n by simp; omega] at this

set_option maxHeartbeats 400000 in
theorem zeroOr_c (n : Int) (h0 : 0 ≤ n) (h1 : n ≤ 31) (w : World) :
    Calls Tryd.prog 27 #[vI n] w fun e w' => e = .returned (.int .u32 (zeroF n)) ∧ w' = w := by
  have hZ : Hid (bits .andNot .u32 (IntKind.u32.wrap (2 ^ n.toNat)) 2147483648 = zeroF n) := zero_walk h0 h1
  go_enter Tryd.func27, Tryd.ntmps27
  go_wp2
  go_ret
  exact ⟨ret_int hZ.out, rfl⟩

set_option maxHeartbeats 400000 in
theorem stackOr_c (n : Int) (h0 : 0 ≤ n) (h1 : n ≤ 31) (w : World) :
    Calls Tryd.prog 54 #[vI n] w fun e w' => e = .returned (.int .u32 (stackF n)) ∧ w' = w := by
  have hZ : Hid (IntKind.u32.wrap (2 ^ n.toNat) = stackF n) := stack_walk h0 h1
  go_enter Tryd.func54, Tryd.ntmps54
  go_wp2
  go_ret
  exact ⟨ret_int hZ.out, rfl⟩

set_option maxHeartbeats 400000 in
theorem accesses_c (op : Int) (w : World) : Calls Tryd.prog 58 #[vI op] w fun e w' => e = .returned (.bool (accB op)) ∧ w' = w := by
  by_cases h1 : 17 ≤ op
  · by_cases h2 : op ≤ 24
    · have hR : Hid (accB op = true) := by show _ = _; simp [accB, h1, h2]
      go_enter Tryd.func58, Tryd.ntmps58
      go_wp2
      go_ret
      exact ⟨ret_bool (by rw [hR.out]), rfl⟩
    · have hR : Hid (accB op = false) := by show _ = _; simp [accB, h2]
      have h2 : 24 < op := by omega
      go_enter Tryd.func58, Tryd.ntmps58
      go_wp2
      go_ret
      exact ⟨ret_bool (by rw [hR.out]), rfl⟩
  · have hR : Hid (accB op = false) := by show _ = _; simp [accB, h1]
    have h1 : op < 17 := by omega
    go_enter Tryd.func58, Tryd.ntmps58
    go_wp2
    go_ret
    exact ⟨ret_bool (by rw [hR.out]), rfl⟩

set_option maxHeartbeats 400000 in
theorem stackRd_c (i : Ins) (w : World) : Calls Tryd.prog 38 #[i.val] w fun e w' => e = .returned (.bool (spD i)) ∧ w' = w.alloc (.cells i.cells 23) := by
  obtain ⟨op, sub, rd, rn, rm, ra, imm, imm2, amount, shift, cond, sys, flags, minus, not, link⟩ := i
  cases h1 : (op == 1) <;> cases h4 : (op == 4) <;> cases flags
  all_goals
    go_enter Tryd.func38, Tryd.ntmps38
    go_wp2
    go_ret
    exact ⟨ret_bool (by simp only [spD, h1, h4]; rfl), rfl⟩

set_option maxHeartbeats 400000 in
theorem stackRn_c (i : Ins) (w : World) : Calls Tryd.prog 39 #[i.val] w fun e w' => e = .returned (.bool (spN i)) ∧ w' = w.alloc (.cells i.cells 23) := by
  obtain ⟨op, sub, rd, rn, rm, ra, imm, imm2, amount, shift, cond, sys, flags, minus, not, link⟩ := i
  cases h1 : (op == 1)
  all_goals
    go_enter Tryd.func39, Tryd.ntmps39
    go_wp2_with (go_at_call 58; refine (accesses_c _ _).mono ?_; rintro e w' ⟨rfl, rfl⟩)
    go_ret
    exact ⟨ret_bool (by simp only [spN, h1]; rfl), rfl⟩
end Go.Proofs.YtmbefmmnkfoneaaDoor
