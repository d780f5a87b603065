/- Send. -/
import Derived.Test.YteklkololojamaaGreatQr
namespace Go.Proofs.YteklkololojamaaGreat
open Go.RowKit
set_option linter.unusedVariables false
set_option linter.unusedSimpArgs false
set_option maxRecDepth 8000

def gsendF (P : Pg) (t : Int) (id : Nat) : Nat → Pg
  | 0 => P
  | c + 1 => if t / 2 ^ c % 2 = 1 then (gsendF P t id c).put c id { (gsendF P t id c).src c id with l := true } else gsendF P t id c
def gsendE (n : Nat) (t id : Int) : Bool := decide (id < 0) || decide (16 ≤ id) || decide (t < 0) || decide (2 ^ n ≤ t)
def gsendP (n : Nat) (P : Pg) (t id : Int) : Pg := if gsendE n t id then P else gsendF P t id.toNat n
theorem gpow_le {n : Nat} (hn : n ≤ 8) : (2 : Int) ^ n ≤ 256 := by
  have : n = 0 ∨ n = 1 ∨ n = 2 ∨ n = 3 ∨ n = 4 ∨ n = 5 ∨ n = 6 ∨ n = 7 ∨ n = 8 := by omega
  rcases this with rfl | rfl | rfl | rfl | rfl | rfl | rfl | rfl | rfl <;> decide
theorem gand_one (x : Int) : bits .and .i64 x 1 = x % 2 := by
  have h1 : (BitVec.ofInt 64 1).toNat = 2 ^ 1 - 1 := by decide
  have key : (BitVec.ofInt 64 x &&& BitVec.ofInt 64 1).toNat = (x % ((2 ^ 64 : Nat) : Int)).toNat % 2 ^ 1 := by
    rw [BitVec.toNat_and, BitVec.toNat_ofInt, h1, Nat.and_two_pow_sub_one_eq_mod]
  show IntKind.i64.wrap ((BitVec.ofInt 64 x &&& BitVec.ofInt 64 1).toNat : Nat) = x % 2
  rw [key, IntKind.wrap_i64]
  omega
theorem gsend_c {g n : Nat} {P : Pg} {L : GLay} {w : World} (H : GicAt g n P L w) (t id : Int) : Calls Tryz.prog 125 #[ptr g 0, vI t, vI id] w fun e w' => e = .returned (vI (if gsendE n t id then 1 else 0)) ∧ GT g n L (gsendP n P t id) w w' := by
  have c0 := H.c0
  have hn := H.le8
  have hp := gpow_le hn
  have hp0 : (0 : Int) < 2 ^ n := Int.pow_pos (by decide)
  have w1 : wrap64 (2 ^ n) = 2 ^ n := IntWalk.wrap64_in _ ⟨by omega, by omega⟩
  by_cases h1 : id < 0
  · have e0 : gsendE n t id = true := by rw [gsendE, decide_eq_true h1]; rfl
    rw [gsendP, e0, if_pos rfl, if_pos rfl]
    go_enter Tryz.func125, Tryz.ntmps125
    go_wp2
    go_ret
    exact ⟨rfl, gt_refl H⟩
  by_cases h2 : 16 ≤ id
  · have e0 : gsendE n t id = true := by rw [gsendE, decide_eq_true h2]; simp
    rw [gsendP, e0, if_pos rfl, if_pos rfl]
    go_enter Tryz.func125, Tryz.ntmps125
    go_wp2
    go_ret
    exact ⟨rfl, gt_refl H⟩
  by_cases h3 : t < 0
  · have e0 : gsendE n t id = true := by rw [gsendE, decide_eq_true h3]; simp
    rw [gsendP, e0, if_pos rfl, if_pos rfl]
    go_enter Tryz.func125, Tryz.ntmps125
    go_wp2
    go_ret
    exact ⟨rfl, gt_refl H⟩
  by_cases h4 : 2 ^ n ≤ t
  · have e0 : gsendE n t id = true := by rw [gsendE, decide_eq_true h4]; simp
    rw [gsendP, e0, if_pos rfl, if_pos rfl]
    go_enter Tryz.func125, Tryz.ntmps125
    go_wp2
    go_ret
    exact ⟨rfl, gt_refl H⟩
  have e0 : gsendE n t id = false := by rw [gsendE, decide_eq_false h1, decide_eq_false h2, decide_eq_false h3, decide_eq_false h4]; rfl
  rw [gsendP, e0, if_neg (by decide), if_neg (by decide)]
  obtain ⟨k, rfl⟩ : ∃ k : Nat, id = (k : Int) := ⟨id.toNat, by omega⟩
  rw [Int.toNat_natCast]
  have hk : k < 32 := by omega
  have hk32 : (k : Int) < 32 := by omega
  clear e0
  go_enter Tryz.func125, Tryz.ntmps125
  go_wp2
  clear c0
  go_loopw [33] (fun s7 wr => ∃ c : Nat, c ≤ n ∧ s7 = .int .i64 c ∧ Hid (GT g n L (gsendF P t k c) w wr)) (fun s7 _ => 8 - (intOf s7).toNat)
  case atStart => exact ⟨0, Nat.zero_le _, rfl, gt_refl H⟩
  case round =>
    obtain ⟨c, hcn, rfl, hT⟩ := hrel
    obtain ⟨H1, G1⟩ := hT.out
    clear hT
    have c0 := H1.c0
    by_cases hlt : (c : Int) < n
    · have hc : c < n := by omega
      by_cases hbit : t / 2 ^ c % 2 = 1
      · have hF : gsendF P t k (c + 1) = (gsendF P t k c).put c k { (gsendF P t k c).src c k with l := true } := if_pos hbit
        replace hF := show Hid _ from hF
        have hbt : (bits BinOp.and IntKind.i64 (t / 2 ^ c) 1 == 1) = true := by rw [gand_one, hbit]; rfl
        have e1 : sb g n L c = L.cb := if_neg (by omega)
        have e2 : so n c k = c * 194 + 1 + k * 6 := if_neg (by omega)
        have z : wr.cell? ⟨L.cb, c * 194 + 1 + k * 6 + 1, none⟩ = some (.bool ((gsendF P t k c).src c k).l) := by
          have := H1.at (r := c) (k := k) hcn hk 1 (by decide)
          rw [e1, e2] at this
          exact this
        have fz := H1.frz (.inr rfl) (c * 194 + 1 + k * 6 + 1)
        have hT := H1.set hcn hk (s' := { (gsendF P t k c).src c k with l := true }) 1 (by decide) (v := .bool true) rfl
        rw [e1, e2] at hT
        clear e1 e2 hbit
        go_upto_region 8 with fail
        generalize World.setCell _ _ _ = w2 at hT ⊢
        clear z fz c0
        go_wp2
        go_roundw
        case rel => exact ⟨c + 1, by omega, by go_num, by rw [hF.out]; exact ⟨hT.1, G1.trans hT.2 fun _ _ e => e⟩⟩
        case measure => simp [intOf]; omega
      · have hF : gsendF P t k (c + 1) = gsendF P t k c := if_neg hbit
        replace hF := show Hid _ from hF
        have hbt : (bits BinOp.and IntKind.i64 (t / 2 ^ c) 1 == 1) = false := by rw [gand_one]; simpa using hbit
        go_wp2
        go_roundw
        case rel => exact ⟨c + 1, by omega, by go_num, by rw [hF.out]; exact ⟨H1, G1⟩⟩
        case measure => simp [intOf]; omega
    · have hcn2 : c = n := by omega
      subst hcn2
      go_wp2
      go_ret
      exact ⟨rfl, H1, G1⟩
end Go.Proofs.YteklkololojamaaGreat
