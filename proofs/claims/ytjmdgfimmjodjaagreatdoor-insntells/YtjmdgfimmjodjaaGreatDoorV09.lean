/- What Mask of the document's own answer to chapter 1 gives back, for all numbers: contracts. -/
import Derived.Test.YtjmdgfimmjodjaaGreatDoorV02
import Derived.Test.YtjmdgfimmjodjaaGreatDoorV08
import Derived.Test.YtjmdgfimmjodjaaGreatDoorV06
namespace Go.Proofs.YtjmdgfimmjodjaaGreatDoor
open Go.RowKit

set_option maxHeartbeats 400000 in
theorem bit_c (v n : Int) (hn : 0 ≤ n) (hn2 : n ≤ 63) (w : World) :
    Calls Tryz.prog 50 #[.int .u64 v, .int .i64 n] w fun e w' => e = .returned (.int .u64 (bitF v n)) ∧ w' = w := by
  go_enter Tryz.func50, Tryz.ntmps50
  go_wp2
  go_ret
  exact ⟨ret_int (bitF_walk v n), rfl⟩

set_option maxHeartbeats 800000 in
theorem refRor_c (v b m : Int) (hv : Hid (0 ≤ v ∧ v < 18446744073709551616)) (w : World) :
    Calls Tryz.prog 49 #[.int .u64 v, .int .i64 b, .int .i64 m] w fun e w' => e = .returned (.tuple #[.int .u64 (rorV v b m), .int .i64 (rorE v b m)]) ∧ w' = w := by
  by_cases ha : 1 ≤ m ∧ m ≤ 64 ∧ 0 ≤ b
  · obtain ⟨h1, h2, h0⟩ := ha
    have hb : inNumB m = true := by unfold inNumB; rw [decide_eq_true_eq]; omega
    have hs := fits64_shr (m := m) hv
    have r1 : 0 ≤ b % m := Int.emod_nonneg _ (by omega)
    have r2 : b % m < m := Int.emod_lt_of_pos _ (by omega)
    by_cases hf : fits64 v m = true
    · have hE := ror_yes hb h0 hf
      replace hE := show Hid _ from hE
      rw [hf] at hs
      clear hf hb
      go_enter Tryz.func49, Tryz.ntmps49
      go_wp2
      all_goals
        go_loop [8, 9] (fun o i => ∃ k : Nat, k ≤ m.toNat ∧ i = .int .i64 k ∧ o = .int .u64 ((orBits (rorBit v.toNat b.toNat m.toNat) k : Nat) : Int))
          (fun _ i => m.toNat - (intOf i).toNat)
        case atStart => exact ⟨0, Nat.zero_le _, rfl, rfl⟩
        case round =>
          obtain ⟨k, hk, rfl, rfl⟩ := hrel
          by_cases hlt : (k : Int) < m
          · have q1 : 0 ≤ ((k : Int) + b) % m := Int.emod_nonneg _ (by omega)
            have q2 : ((k : Int) + b) % m < m := Int.emod_lt_of_pos _ (by omega)
            go_wp2_with fail
            refine (bit_c _ _ ?hn ?hn2 _).mono ?_
            case hn => omega
            case hn2 => omega
            rintro e w' ⟨rfl, rfl⟩
            go_wp2
            go_round
            case rel =>
              refine ⟨k + 1, by omega, by go_num, ?_⟩
              rw [or_step _ k (by omega)]
              rw [bitF_of hv.out.1 (by omega), ror_place h0 h1]
              rfl
            case measure => simp [intOf]; omega
          · obtain rfl : k = m.toNat := by omega
            go_wp2
            go_ret2
            exact ⟨ret_two hE.out.1 hE.out.2.symm, rfl⟩
    · have hE := ror_no hb h0 (by simpa using hf)
      replace hE := show Hid _ from hE
      have h64 : m < 64 := by
        rcases Int.lt_or_eq_of_le h2 with h | h
        · exact h
        · exact absurd (by rw [h]; exact fits64_all hv) hf
      rw [show fits64 v m = false by simpa using hf] at hs
      clear hf hb
      go_enter Tryz.func49, Tryz.ntmps49
      go_wp2
      go_ret2
      exact ⟨ret_two hE.out.1.symm hE.out.2.symm, rfl⟩
  · have hE := ror_arg (value := v) (b := b) (m := m) ha
    replace hE := show Hid _ from hE
    have hn : Hid (¬ (1 ≤ m ∧ m ≤ 64 ∧ 0 ≤ b)) := ha
    clear ha
    go_enter Tryz.func49, Tryz.ntmps49
    go_wp2
    all_goals first | (exfalso; have := hn.out; omega) | (go_ret2; exact ⟨ret_two hE.out.1.symm hE.out.2.symm, rfl⟩)

set_option maxHeartbeats 1600000 in
theorem refMask_c (n r s : Int) (w : World) :
    Calls Tryz.prog 23 #[.int .i64 n, .int .i64 r, .int .i64 s] w fun e w' => e = .returned (.tuple #[.int .u64 (maskV n r s), .int .i64 (maskE n r s)]) ∧ w' = w := by
  by_cases ha : argB n r s = true
  · obtain ⟨⟨a1, a2⟩, ⟨a3, a4⟩, a5, a6⟩ := arg_of ha
    have hbad : Hid (sizeI n s < 2 ∨ s % sizeI n s = sizeI n s - 1 → maskV n r s = 0 ∧ maskE n r s = 2) := fun hb => mask_bad ha (decide_eq_true hb)
    have hgood : Hid (¬ (sizeI n s < 2 ∨ s % sizeI n s = sizeI n s - 1) → maskV n r s = ((maskN (sizeI n s).toNat (s % sizeI n s).toNat (r % sizeI n s).toNat : Nat) : Int) ∧ maskE n r s = 0) := fun hb => mask_yes ha (decide_eq_false hb)
    clear ha
    by_cases hn : n = 0
    · obtain ⟨_, z2, z3⟩ := sizeI_cases n s
      have hN : Hid (n ≠ 1) := by show ¬ _; omega
      have hn0 : (n == 0) = true := by simpa using hn
      clear hn
      go_enter Tryz.func23, Tryz.ntmps23
      go_wp2
      go_loop [8] (fun z => ∃ k : Int, Hid (sizeHead s k) ∧ z = .int .i64 k) (fun z => (intOf z).toNat)
      case atStart => exact ⟨32, Or.inl rfl, rfl⟩
      case round =>
        obtain ⟨k, hk, rfl⟩ := hrel
        obtain ⟨b1, b2⟩ := sizeHead_bounds hk.out
        by_cases hlt : 63 - s < k
        · obtain ⟨g1, g2, g3⟩ := sizeHead_next a5 a6 hk.out hlt
          have G : Hid (sizeHead s (k / 2)) := g1
          clear g1
          go_wp2
          go_round
          case rel => exact ⟨k / 2, G, rfl⟩
          case measure => simp [intOf]; omega
        · have hz := sizeHead_end hN.out a6 hk.out (by omega)
          subst hz
          have zz : sizeI n s < 2 ∨ 2 ≤ sizeI n s := by omega
          rcases zz with hz | hz
          · have hE := (hbad.out (Or.inl hz))
            replace hE : Hid (maskV n r s = 0 ∧ maskE n r s = 2) := hE
            go_wp2
            go_ret2
            exact ⟨ret_two hE.out.1.symm hE.out.2.symm, rfl⟩
          · by_cases hz2 : s % sizeI n s = sizeI n s - 1
            · have hE : Hid (maskV n r s = 0 ∧ maskE n r s = 2) := hbad.out (Or.inr hz2)
              replace hz2 : (s % sizeI n s == sizeI n s - 1) = true := by rw [beq_iff_eq]; exact hz2
              go_wp2
              go_ret2
              exact ⟨ret_two hE.out.1.symm hE.out.2.symm, rfl⟩
            · have hE : Hid (maskV n r s = ((maskN (sizeI n s).toNat (s % sizeI n s).toNat (r % sizeI n s).toNat : Nat) : Int) ∧ maskE n r s = 0) := hgood.out (by omega)
              replace hz2 : (s % sizeI n s == sizeI n s - 1) = false := by rw [beq_eq_false_iff_ne]; exact hz2
              have q1 : 0 ≤ s % sizeI n s := Int.emod_nonneg _ (by omega)
              have q2 : s % sizeI n s < sizeI n s := Int.emod_lt_of_pos _ (by omega)
              have q3 : 0 ≤ r % sizeI n s := Int.emod_nonneg _ (by omega)
              have q4 : r % sizeI n s < sizeI n s := Int.emod_lt_of_pos _ (by omega)
              have hM : Hid (repF (turnF (lowF (s % sizeI n s + 1)) (r % sizeI n s) (sizeI n s)) (sizeI n s) = ((maskN (sizeI n s).toNat (s % sizeI n s).toNat (r % sizeI n s).toNat : Nat) : Int)) := mask_code hz z2
              have hO : Hid (((orBits (fun _ => true) ((s % sizeI n s).toNat + 1) : Nat) : Int) = lowF (s % sizeI n s + 1)) := by
                show _ = _
                rw [ones_low _ (by omega)]
                congr 1
                omega
              have hR : Hid (turnF (lowF (s % sizeI n s + 1)) (r % sizeI n s) (sizeI n s) = rorV (lowF (s % sizeI n s + 1)) (r % sizeI n s) (sizeI n s)) := ror_walk (by unfold inNumB; rw [decide_eq_true_eq]; omega) q3 (low_fits (by omega) (by omega))
              go_wp2
              go_loop [10, 11] (fun o i => ∃ k : Nat, k ≤ (s % sizeI n s).toNat + 1 ∧ i = .int .i64 k ∧ o = .int .u64 ((orBits (fun _ => true) k : Nat) : Int)) (fun _ i => (s % sizeI n s).toNat + 1 - (intOf i).toNat)
              case atStart => exact ⟨0, Nat.zero_le _, rfl, rfl⟩
              case round =>
                obtain ⟨k, hk, rfl, rfl⟩ := hrel
                by_cases hlt : (k : Int) ≤ s % sizeI n s
                · go_wp2
                  go_round
                  case rel =>
                    refine ⟨k + 1, by omega, by go_num, ?_⟩
                    rw [one_step k (by omega)]
                  case measure => simp [intOf]; omega
                · obtain rfl : k = (s % sizeI n s).toNat + 1 := by omega
                  rw [hO.out]
                  go_wp2_with fail
                  refine (refRor_c _ _ _ (lowF_bounds _) _).mono ?_
                  rw [← hR.out]
                  rintro e w' ⟨rfl, rfl⟩
                  go_wp2
                  go_loop [12, 13] (fun o i => ∃ k : Nat, k ≤ 64 ∧ i = .int .i64 k ∧ o = .int .u64 ((orBits (repBit (turnF (lowF (s % sizeI n s + 1)) (r % sizeI n s) (sizeI n s)) (sizeI n s)) k : Nat) : Int)) (fun _ i => 64 - (intOf i).toNat)
                  case atStart => exact ⟨0, Nat.zero_le _, rfl, rfl⟩
                  case round =>
                    obtain ⟨k, hk, rfl, rfl⟩ := hrel
                    by_cases hlt : (k : Int) < 64
                    · have q5 : 0 ≤ (k : Int) % sizeI n s := Int.emod_nonneg _ (by omega)
                      have q6 : (k : Int) % sizeI n s < sizeI n s := Int.emod_lt_of_pos _ (by omega)
                      go_wp2_with fail
                      refine (bit_c _ _ ?hn ?hn2 _).mono ?_
                      case hn => omega
                      case hn2 => omega
                      rintro e w' ⟨rfl, rfl⟩
                      go_wp2
                      go_round
                      case rel =>
                        refine ⟨k + 1, by omega, by go_num, ?_⟩
                        rw [or_step _ k (by omega)]
                        rw [bitF_of (turnF_bounds _ _ _ (by omega)).1 (by omega), mod_place (by omega)]
                        rfl
                      case measure => simp [intOf]; omega
                    · obtain rfl : k = 64 := by omega
                      go_wp2
                      go_ret2
                      exact ⟨ret_two (by rw [hE.out.1]; exact hM.out) hE.out.2.symm, rfl⟩
    · obtain rfl : n = 1 := by omega
      have h64 : sizeI 1 s = 64 := rfl
      rw [h64] at hbad hgood
      have z2 : (64 : Int) ≤ 64 := by omega
      have hz : (2 : Int) ≤ 64 := by omega
      clear h64 hn
      go_enter Tryz.func23, Tryz.ntmps23
      by_cases hz2 : s % 64 = 64 - 1
      · have hE : Hid (maskV 1 r s = 0 ∧ maskE 1 r s = 2) := hbad.out (Or.inr hz2)
        replace hz2 : (s % 64 == 63) = true := by rw [beq_iff_eq]; exact hz2
        go_wp2
        go_ret2
        exact ⟨ret_two hE.out.1.symm hE.out.2.symm, rfl⟩
      · have hE : Hid (maskV 1 r s = ((maskN (64 : Int).toNat (s % 64).toNat (r % 64).toNat : Nat) : Int) ∧ maskE 1 r s = 0) := hgood.out (by omega)
        replace hz2 : (s % 64 == 63) = false := by rw [beq_eq_false_iff_ne]; exact hz2
        have q1 : 0 ≤ s % 64 := Int.emod_nonneg _ (by omega)
        have q2 : s % 64 < 64 := Int.emod_lt_of_pos _ (by omega)
        have q3 : 0 ≤ r % 64 := Int.emod_nonneg _ (by omega)
        have q4 : r % 64 < 64 := Int.emod_lt_of_pos _ (by omega)
        have hM : Hid (repF (turnF (lowF (s % 64 + 1)) (r % 64) (64)) (64) = ((maskN (64 : Int).toNat (s % 64).toNat (r % 64).toNat : Nat) : Int)) := mask_code hz z2
        have hO : Hid (((orBits (fun _ => true) ((s % 64).toNat + 1) : Nat) : Int) = lowF (s % 64 + 1)) := by
          show _ = _
          rw [ones_low _ (by omega)]
          congr 1
          omega
        have hR : Hid (turnF (lowF (s % 64 + 1)) (r % 64) (64) = rorV (lowF (s % 64 + 1)) (r % 64) (64)) := ror_walk (by unfold inNumB; rw [decide_eq_true_eq]; omega) q3 (low_fits (by omega) (by omega))
        go_wp2
        go_loop [10, 11] (fun o i => ∃ k : Nat, k ≤ (s % 64).toNat + 1 ∧ i = .int .i64 k ∧ o = .int .u64 ((orBits (fun _ => true) k : Nat) : Int)) (fun _ i => (s % 64).toNat + 1 - (intOf i).toNat)
        case atStart => exact ⟨0, Nat.zero_le _, rfl, rfl⟩
        case round =>
          obtain ⟨k, hk, rfl, rfl⟩ := hrel
          by_cases hlt : (k : Int) ≤ s % 64
          · go_wp2
            go_round
            case rel =>
              refine ⟨k + 1, by omega, by go_num, ?_⟩
              rw [one_step k (by omega)]
            case measure => simp [intOf]; omega
          · obtain rfl : k = (s % 64).toNat + 1 := by omega
            rw [hO.out]
            go_wp2_with fail
            refine (refRor_c _ _ _ (lowF_bounds _) _).mono ?_
            rw [← hR.out]
            rintro e w' ⟨rfl, rfl⟩
            go_wp2
            go_loop [12, 13] (fun o i => ∃ k : Nat, k ≤ 64 ∧ i = .int .i64 k ∧ o = .int .u64 ((orBits (repBit (turnF (lowF (s % 64 + 1)) (r % 64) (64)) (64)) k : Nat) : Int)) (fun _ i => 64 - (intOf i).toNat)
            case atStart => exact ⟨0, Nat.zero_le _, rfl, rfl⟩
            case round =>
              obtain ⟨k, hk, rfl, rfl⟩ := hrel
              by_cases hlt : (k : Int) < 64
              · have q5 : 0 ≤ (k : Int) % 64 := Int.emod_nonneg _ (by omega)
                have q6 : (k : Int) % 64 < 64 := Int.emod_lt_of_pos _ (by omega)
                go_wp2_with fail
                refine (bit_c _ _ ?hn ?hn2 _).mono ?_
                case hn => omega
                case hn2 => omega
                rintro e w' ⟨rfl, rfl⟩
                go_wp2
                go_round
                case rel =>
                  refine ⟨k + 1, by omega, by go_num, ?_⟩
                  rw [or_step _ k (by omega)]
                  rw [bitF_of (turnF_bounds _ _ _ (by omega)).1 (by omega), mod_place (by omega)]
                  rfl
                case measure => simp [intOf]; omega
              · obtain rfl : k = 64 := by omega
                go_wp2
                go_ret2
                exact ⟨ret_two (by rw [hE.out.1]; exact hM.out) hE.out.2.symm, rfl⟩
  · have ha : argB n r s = false := by simpa using ha
    have hE := mask_arg ha
    replace hE := show Hid _ from hE
    have hn : Hid (¬ ((0 ≤ n ∧ n ≤ 1) ∧ (0 ≤ r ∧ r ≤ 63) ∧ (0 ≤ s ∧ s ≤ 63))) := notarg_of ha
    clear ha
    go_enter Tryz.func23, Tryz.ntmps23
    go_wp2
    all_goals first | (exfalso; have := hn.out; omega) | (go_ret2; exact ⟨ret_two hE.out.1.symm hE.out.2.symm, rfl⟩)

end Go.Proofs.YtjmdgfimmjodjaaGreatDoor
/- Whether an instruction is right, as the document's own answer to chapter 2 tells it: plain, and the laws of its walks. -/
namespace Go.Proofs.YtjmdgfimmjodjaaGreatDoor
open Go.RowKit Go.Rel

def condR (i : Ins) : Bool :=
  bif i.op == 1 then inB i.imm 0 4095 && (i.amount == 0 || i.amount == 12) else
  bif i.op == 2 then inB i.shift 0 2 && inB i.amount 0 63 else
  bif i.op == 3 then inB i.sub 0 2 && (!i.flags || i.sub == 0) && inB i.shift 0 3 && inB i.amount 0 63 else
  bif i.op == 4 then inB i.sub 0 2 && (!i.flags || i.sub == 0) && maskE i.amount i.imm i.imm2 == 0 else
  bif i.op == 5 then (i.sub == 0 || i.sub == 2 || i.sub == 3) && inB i.imm 0 65535 && stepB i.amount 16 0 48 else
  bif i.op == 6 then (i.sub == 0 || i.sub == 2) && inB i.imm 0 63 && inB i.imm2 0 63 else
  bif i.op == 7 then inB i.sub 0 3 else
  bif i.op == 9 then inB i.sub 0 1 else
  bif i.op == 10 then inB i.sub 0 3 && inB i.cond 0 15 else
  bif i.op == 11 then (i.sub == 0 && inB i.imm (-1048576) 1048575 || i.sub == 1 && stepB i.imm 4096 (-4294967296) 4294963200) else
  bif i.op == 12 then stepB i.imm 4 (-134217728) 134217724 else
  bif i.op == 13 then inB i.cond 0 15 && stepB i.imm 4 (-1048576) 1048572 else
  bif i.op == 14 then stepB i.imm 4 (-1048576) 1048572 else
  bif i.op == 15 then inB i.amount 0 63 && stepB i.imm 4 (-32768) 32764 else
  bif i.op == 16 then inB i.sub 0 2 else
  bif i.op == 17 then stepB i.imm 8 0 32760 else
  bif i.op == 18 then stepB i.imm 8 0 32760 else
  bif i.op == 19 then (i.amount == 0 || i.amount == 3) else
  bif i.op == 20 then (i.amount == 0 || i.amount == 3) else
  bif i.op == 21 then inB i.sub 0 1 else
  bif i.op == 23 then inB i.sub 0 1 else
  bif i.op == 24 then inB i.sub 0 1 else
  bif i.op == 26 then inB i.sub 0 1 && inB i.imm 1 3 else
  bif i.op == 31 then sysB i.sys else
  bif i.op == 32 then sysB i.sys else
  bif i.op == 33 then inB i.sub 0 1 && inB i.imm 0 15 else
  bif i.op == 34 then inB i.imm 0 65535 else
  bif i.op == 35 then inB i.imm 0 65535 else
  bif i.op == 37 then inB i.imm 0 5 else
  true
def rightR (i : Ins) : Bool := clearB i && condR i
theorem cell_in {w : World} {b : Nat} {cs : Array Value} (h : w.heap[b]? = some (.cells cs 23)) (k : Nat) {v : Value} (hv : cs[k]? = some v) : w.cell? ⟨b, k, none⟩ = some v := by
  rw [cell_of_row _ _ _ _ _ _ h]; exact hv
theorem cells16 {w : World} {b : Nat} {v0 v1 v2 v3 v4 v5 v6 v7 v8 v9 v10 v11 v12 v13 v14 v15 : Value} (h : w.heap[b]? = some (.cells #[v0, v1, v2, v3, v4, v5, v6, v7, v8, v9, v10, v11, v12, v13, v14, v15] 23)) : w.cell? ⟨b, 0, none⟩ = some v0 ∧ w.cell? ⟨b, 1, none⟩ = some v1 ∧ w.cell? ⟨b, 2, none⟩ = some v2 ∧ w.cell? ⟨b, 3, none⟩ = some v3 ∧ w.cell? ⟨b, 4, none⟩ = some v4 ∧ w.cell? ⟨b, 5, none⟩ = some v5 ∧ w.cell? ⟨b, 6, none⟩ = some v6 ∧ w.cell? ⟨b, 7, none⟩ = some v7 ∧ w.cell? ⟨b, 8, none⟩ = some v8 ∧ w.cell? ⟨b, 9, none⟩ = some v9 ∧ w.cell? ⟨b, 10, none⟩ = some v10 ∧ w.cell? ⟨b, 11, none⟩ = some v11 ∧ w.cell? ⟨b, 12, none⟩ = some v12 ∧ w.cell? ⟨b, 13, none⟩ = some v13 ∧ w.cell? ⟨b, 14, none⟩ = some v14 ∧ w.cell? ⟨b, 15, none⟩ = some v15 :=
  ⟨cell_in h 0 rfl, cell_in h 1 rfl, cell_in h 2 rfl, cell_in h 3 rfl, cell_in h 4 rfl, cell_in h 5 rfl, cell_in h 6 rfl, cell_in h 7 rfl, cell_in h 8 rfl, cell_in h 9 rfl, cell_in h 10 rfl, cell_in h 11 rfl, cell_in h 12 rfl, cell_in h 13 rfl, cell_in h 14 rfl, cell_in h 15 rfl⟩
theorem keepB {w x : World} {b : Nat} {o : Obj} (h : w.heap[b]? = some o) (hb : Below w.heap.size w x) : x.heap[b]? = some o := (hb.block _ (Array.getElem?_eq_some_iff.1 h).1).trans h
theorem thenH {w x y : World} (h : Below w.heap.size w x) (k : Below x.heap.size x y) : Hid (Below w.heap.size w y) := h.trans (k.mono h.size)
theorem drewB {w : World} {b : Nat} {o : Obj} (h : w.heap[b]? = some o) (n : Nat) : (w.drewN n).heap[b]? = some o := h
theorem infoK (cs : Array Value) (h : cs.size = 16) : (Tryz.prog.info? 23).map (·.size) = some cs.size := by rw [h]; kernel_rfl
end Go.Proofs.YtjmdgfimmjodjaaGreatDoor
