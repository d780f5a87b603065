/- The document's own controller: Send. -/
import Derived.Test.YtpmlehfnlodmbaaGi
namespace Go.Proofs.Ytpmlehfnlodmbaa.Doc
open Go.RowKit
set_option linter.unusedVariables false
set_option linter.unusedSimpArgs false

def sendF (X : Ref) (t : Int) (id : Nat) : Nat → Ref
  | 0 => X
  | c + 1 => if t / 2 ^ c % 2 = 1 then (sendF X t id c).put c id { (sendF X t id c).get c id with l := true } else sendF X t id c
def sendE (n : Nat) (t id : Int) : Int := if id < 0 ∨ 15 < id ∨ t < 0 ∨ 2 ^ n ≤ t then 1 else 0
def sendR (X : Ref) (n : Nat) (t id : Int) : Ref := if sendE n t id = 0 then sendF X t id.toNat n else X
theorem pow_le {n : Nat} (hn : n ≤ 8) : (2 : Int) ^ n ≤ 256 := by
  have : n = 0 ∨ n = 1 ∨ n = 2 ∨ n = 3 ∨ n = 4 ∨ n = 5 ∨ n = 6 ∨ n = 7 ∨ n = 8 := by omega
  rcases this with rfl | rfl | rfl | rfl | rfl | rfl | rfl | rfl | rfl <;> decide
theorem and_one (x : Int) : bits .and .i64 x 1 = x % 2 := by
  have h1 : (BitVec.ofInt 64 1).toNat = 2 ^ 1 - 1 := by decide
  have key : (BitVec.ofInt 64 x &&& BitVec.ofInt 64 1).toNat = (x % ((2 ^ 64 : Nat) : Int)).toNat % 2 ^ 1 := by
    rw [BitVec.toNat_and, BitVec.toNat_ofInt, h1, Nat.and_two_pow_sub_one_eq_mod]
  show IntKind.i64.wrap ((BitVec.ofInt 64 x &&& BitVec.ofInt 64 1).toNat : Nat) = x % 2
  rw [key, IntKind.wrap_i64]
  omega
set_option maxRecDepth 4000 in
theorem send_c {h n : Nat} {X : Ref} {L : RLay} {w : World} (H : RefAt h n X L w) (t id : Int) (hn : n ≤ 8) : Calls Try.prog 38 #[ptr h 0, vI t, vI id] w fun e w' => e = .returned (vI (sendE n t id)) ∧ RTurn h n L (sendR X n t id) w w' := by
  have c0 := H.c0
  have hp := pow_le hn
  have hp0 : (0 : Int) < 2 ^ n := Int.pow_pos (by decide)
  have w1 : wrap64 (2 ^ n) = 2 ^ n := IntWalk.wrap64_in _ ⟨by omega, by omega⟩
  by_cases h1 : id < 0
  · have e0 : sendE n t id = 1 := if_pos (.inl h1)
    rw [sendR, e0, if_neg (by decide)]
    go_enter Try.func38, Try.ntmps38
    go_wp2
    go_ret
    exact ⟨rfl, rturn_refl H⟩
  by_cases h2 : 15 < id
  · have e0 : sendE n t id = 1 := if_pos (.inr (.inl h2))
    rw [sendR, e0, if_neg (by decide)]
    go_enter Try.func38, Try.ntmps38
    go_wp2
    go_ret
    exact ⟨rfl, rturn_refl H⟩
  by_cases h3 : t < 0
  · have e0 : sendE n t id = 1 := if_pos (.inr (.inr (.inl h3)))
    rw [sendR, e0, if_neg (by decide)]
    go_enter Try.func38, Try.ntmps38
    go_wp2
    go_ret
    exact ⟨rfl, rturn_refl H⟩
  by_cases h4 : 2 ^ n ≤ t
  · have e0 : sendE n t id = 1 := if_pos (.inr (.inr (.inr h4)))
    rw [sendR, e0, if_neg (by decide)]
    go_enter Try.func38, Try.ntmps38
    go_wp2
    go_ret
    exact ⟨rfl, rturn_refl H⟩
  have e0 : sendE n t id = 0 := if_neg (by omega)
  rw [sendR, e0, if_pos rfl]
  obtain ⟨k, rfl⟩ : ∃ k : Nat, id = (k : Int) := ⟨id.toNat, by omega⟩
  rw [Int.toNat_natCast]
  clear e0
  go_enter Try.func38, Try.ntmps38
  go_wp2
  clear c0
  go_loopw [7] (fun s7 wr => ∃ c : Nat, c ≤ n ∧ s7 = .int .i64 c ∧ Hid (RTurn h n L (sendF X t k c) w wr)) (fun s7 _ => 8 - (intOf s7).toNat)
  case atStart => exact ⟨0, Nat.zero_le _, rfl, rturn_refl H⟩
  case round =>
    obtain ⟨c, hcn, rfl, hT⟩ := hrel
    obtain ⟨H1, G1⟩ := hT.out
    clear hT
    have c0 := H1.c0
    by_cases hlt : (c : Int) < n
    · by_cases hbit : t / 2 ^ c % 2 = 1
      · have hF : sendF X t k (c + 1) = (sendF X t k c).put c k { (sendF X t k c).get c k with l := true } := if_pos hbit
        replace hF := show Hid _ from hF
        have hbt : (bits BinOp.and IntKind.i64 (t / 2 ^ c) 1 == 1) = true := by rw [and_one, hbit]; rfl
        have hs := H1.in8g (r := c) (k := k) hcn (by omega)
        generalize (sendF X t k c).get c k = s at hs hF
        have z1 : wr.cell? ⟨L.rb c, k * 8 + 1, none⟩ = some (.bool s.l) := H1.at hcn hs 1 (by decide)
        have fz := H1.fz hcn (k * 8 + 1)
        have hT := H1.set hcn hs (s' := { s with l := true }) 1 (by decide) (v := .bool true) rfl
        obtain ⟨b, cap, eo, _, _, _, hcell, _⟩ := own_addr H1.own (by omega)
        have z := hcell c (by omega)
        rw [List.getElem?_map, List.getElem?_range (by omega)] at z
        replace z : wr.cell? ⟨b, c, none⟩ = some (.slice (some ⟨L.rb c, 0, none⟩) 32 (L.rc c)) := z
        have c1 := H1.c1
        rw [eo] at c1
        clear hcell eo hs hbit
        go_upto_region 5 with fail
        generalize World.setCell _ _ _ = w2 at hT ⊢
        clear z1 fz z c1 c0
        go_wp2
        go_roundw
        case rel => exact ⟨c + 1, by omega, by go_num, by rw [hF.out]; exact ⟨hT.1, G1.trans hT.2 fun _ _ e => e⟩⟩
        case measure => simp [intOf]; omega
      · have hF : sendF X t k (c + 1) = sendF X t k c := if_neg hbit
        replace hF := show Hid _ from hF
        have hbt : (bits BinOp.and IntKind.i64 (t / 2 ^ c) 1 == 1) = false := by rw [and_one]; simpa using hbit
        go_wp2
        go_roundw
        case rel => exact ⟨c + 1, by omega, by go_num, by rw [hF.out]; exact ⟨H1, G1⟩⟩
        case measure => simp [intOf]; omega
    · have hcn2 : c = n := by omega
      subst hcn2
      go_wp2
      go_ret
      exact ⟨rfl, H1, G1⟩
end Go.Proofs.Ytpmlehfnlodmbaa.Doc
