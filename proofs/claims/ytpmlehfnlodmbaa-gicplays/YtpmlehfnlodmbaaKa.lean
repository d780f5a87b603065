/- Which of several; the chapter's example. -/
import Derived.Test.YtpmlehfnlodmbaaQz
import Derived.Test.YtpmlehfnlodmbaaQv
import Derived.Test.YtpmlehfnlodmbaaQu
namespace Go.Proofs.Ytpmlehfnlodmbaa
open Go.RowKit
set_option linter.unusedVariables false
set_option linter.unusedSimpArgs false
set_option maxRecDepth 8000

def pickV (c : Int) (n : Nat) : Nat := (if c < 0 then -(c + 1) else c).toNat % n
theorem pick_lt {c : Int} {n : Nat} (h : 0 < n) : pickV c n < n := Nat.mod_lt _ h
theorem gpick_c (c : Int) (n : Nat) (h0 : 0 < n) (hn : n < 1000) (hc : -9223372036854775808 ≤ c ∧ c < 9223372036854775808) (w : World) : Calls Try.prog 15 #[vI c, vI n] w fun e w' => e = .returned (vI (pickV c n)) ∧ w' = w := by
  have hn0 : ¬ ((n : Int) = 0) := by omega
  by_cases h : c < 0
  · have e : ((pickV c n : Nat) : Int) = -((c + 1).tmod (n : Int)) := by
      rw [pickV, if_pos h, Int.natCast_emod, Int.toNat_of_nonneg (by omega), ← Int.neg_tmod, Int.tmod_eq_emod_of_nonneg (by omega)]
    rw [e]
    go_enter Try.func15, Try.ntmps15
    go_wp2
    go_ret
    exact ⟨rfl, rfl⟩
  · have e : ((pickV c n : Nat) : Int) = c % (n : Int) := by
      rw [pickV, if_neg h, Int.natCast_emod, Int.toNat_of_nonneg (by omega)]
    rw [e]
    go_enter Try.func15, Try.ntmps15
    go_wp2
    go_ret
    exact ⟨rfl, rfl⟩
/-- All that is new is in F. -/
def Fresh (F : Nat → Prop) (w : World) : Prop := ∀ k, w.heap.size ≤ k → F k
theorem Fresh.goes {F G : Nat → Prop} {w w' : World} (h : Fresh F w) (g : Goes G w w') : Fresh F w' := fun k hk => h k (Nat.le_trans g.size hk)
theorem Fresh.below {F : Nat → Prop} {B : Nat} {w w' : World} (h : Fresh F w) (g : Below B w w') : Fresh F w' := fun k hk => h k (Nat.le_trans g.size hk)
def k1 : Pg := gsendP 2 newP 2 3
def k2 : Pg := genableP 2 k1 1 3 true
def k3 : Pg := ackP 2 k2 1
def k4 : Pg := ackP 2 k3 1
def k5 : Pg := geoiP 2 k4 1 3
theorem kn1 : gsendE 2 2 3 = false := by kernel_rfl
theorem kn2 : (nextV 2 k1 1).isSome = false := by kernel_rfl
theorem kn3 : genableE 2 1 3 true = false := by kernel_rfl
theorem kn4 : (nextV 2 k2 1).isSome = true := by kernel_rfl
theorem kn5 : (nextT 2 k2 1).id = 3 := by kernel_rfl
theorem kn6 : (nextV 2 k2 0).isSome = false := by kernel_rfl
theorem kn7 : ackV 2 k2 1 = 3 := by kernel_rfl
theorem kn8 : (lookV 2 k3 1 3).a = true := by kernel_rfl
theorem kn9 : runC 2 k3 1 = 160 := by kernel_rfl
theorem kn10 : ackV 2 k3 1 = 1023 := by kernel_rfl
theorem kn11 : eoiB 2 k4 1 3 = true := by kernel_rfl
theorem kn12 : geoiE 2 1 3 = 0 := by kernel_rfl
theorem kn13 : runC 2 k5 1 = 256 := by kernel_rfl
theorem kl2 : ∀ c, c < 2 → (k2.wk c).length + 1 < 1000000 := by
  intro c hc
  match c, hc with
  | 0, _ => exact of_decide_eq_true (by kernel_rfl)
  | 1, _ => exact of_decide_eq_true (by kernel_rfl)
theorem kl3 : ∀ c, c < 2 → (k3.wk c).length + 1 < 1000000 := by
  intro c hc
  match c, hc with
  | 0, _ => exact of_decide_eq_true (by kernel_rfl)
  | 1, _ => exact of_decide_eq_true (by kernel_rfl)
end Go.Proofs.Ytpmlehfnlodmbaa
