/- The document's own timer: Next. -/
import Derived.Test.YtebkpmplhpebbaaDb
namespace Go.Proofs.Ytebkpmplhpebbaa
open Go.RowKit
open Tim
set_option linter.unusedVariables false
set_option linter.unusedSimpArgs false
set_option maxRecDepth 8000

theorem nextF_no {T : Tm} {i : Nat} (h : T.due i = false) : T.nextF (i + 1) = T.nextF i := by
  show (if T.due i = true ∧ (T.nextF i < 0 ∨ T.cval i < T.cval (T.nextF i).toNat) then (i : Int) else T.nextF i) = _
  rw [if_neg (by rw [h]; simp)]
theorem nextF_first {T : Tm} {i : Nat} (h : T.due i = true) (hn : T.nextF i = -1) : T.nextF (i + 1) = i := by
  show (if T.due i = true ∧ (T.nextF i < 0 ∨ T.cval i < T.cval (T.nextF i).toNat) then (i : Int) else T.nextF i) = _
  rw [if_pos ⟨h, .inl (by omega)⟩]
theorem nextF_less {T : Tm} {i k : Nat} (h : T.due i = true) (hn : T.nextF i = k) (hl : T.cval i < T.cval k) : T.nextF (i + 1) = i := by
  show (if T.due i = true ∧ (T.nextF i < 0 ∨ T.cval i < T.cval (T.nextF i).toNat) then (i : Int) else T.nextF i) = _
  rw [if_pos ⟨h, .inr (by rw [hn, Int.toNat_natCast]; exact hl)⟩]
theorem nextF_more {T : Tm} {i k : Nat} (hn : T.nextF i = k) (hl : ¬ T.cval i < T.cval k) : T.nextF (i + 1) = k := by
  show (if T.due i = true ∧ (T.nextF i < 0 ∨ T.cval i < T.cval (T.nextF i).toNat) then (i : Int) else T.nextF i) = _
  rw [if_neg (by rw [hn, Int.toNat_natCast]; rintro ⟨_, h | h⟩ <;> omega), hn]
section
variable {r cb cv n : Nat} {T : Tm} {w w' : World}
set_option maxHeartbeats 2000000 in
theorem rnext_c (H : RefAt r cb cv n T w) : Calls Try.prog 19 #[ptr r 0] w fun e w' => e = .returned (.tuple #[vI (nxC n T), vU (nxN n T), .bool (nxB n T)]) ∧ Below w.heap.size w w' := by
  have n8 := H.le8
  go_enter Try.func19, Try.ntmps19
  go_wp2
  go_loopw [5, 6] (fun s5 s6 wr => ∃ i : Nat, i ≤ n ∧ s6 = .int .i64 i ∧ s5 = .int .i64 (T.nextF i) ∧ Hid (Below w.heap.size w wr)) (fun s5 s6 _ => n - (intOf s6).toNat)
  case atStart => exact ⟨0, Nat.zero_le _, rfl, rfl, Below.refl _ _⟩
  case round =>
    obtain ⟨i, hi, rfl, rfl, hB⟩ := hrel
    have H1 := H.grow hB.out
    have c0 := H1.c0
    have c1 := H1.c1
    have c2 := H1.c2
    by_cases hin : (i : Int) < n
    · have z1 := H1.cc (c := i) (by omega)
      have z2 := H1.cl (c := i) (by omega)
      have hsp := next_spec T i
      by_cases g1 : T.ctl i = 1
      · by_cases g2 : T.cnt < T.cval i
        · have hd : T.due i = true := (due_iff i).2 ⟨g1, g2⟩
          rcases hsp with ⟨e1, _⟩ | ⟨k, e1, hk, _, _⟩
          · have e2 := nextF_first hd e1
            replace e2 := show Hid _ from e2
            rw [e1]
            rw [g1] at z1
            clear e1 g1 hd H1
            go_upto_region 5 with fail
            go_quiet (fail)
            go_wp2
            go_roundw
            case rel => exact ⟨i + 1, by omega, by go_num, by rw [e2.out], Rel.below_draws hB.out⟩
            case measure => simp [intOf]; omega
          · have z3 := H1.cl (c := k) (by omega)
            have hkn : (k : Int) < n := by omega
            by_cases g3 : T.cval i < T.cval k
            · have e2 := nextF_less hd e1 g3
              replace e2 := show Hid _ from e2
              rw [e1]
              rw [g1] at z1
              clear e1 g1 hd H1
              go_upto_region 5 with fail
              go_quiet (fail)
              go_wp2
              go_roundw
              case rel => exact ⟨i + 1, by omega, by go_num, by rw [e2.out], Rel.below_draws hB.out⟩
              case measure => simp [intOf]; omega
            · have e2 := nextF_more e1 g3
              replace e2 := show Hid _ from e2
              rw [e1]
              rw [g1] at z1
              clear e1 g1 hd H1
              go_upto_region 5 with fail
              go_quiet (fail)
              go_wp2
              go_roundw
              case rel => exact ⟨i + 1, by omega, by go_num, by rw [e2.out], Rel.below_draws hB.out⟩
              case measure => simp [intOf]; omega
        · have hd : T.due i = false := by
            rw [Bool.eq_false_iff]; intro h; exact g2 ((due_iff i).1 h).2
          have e2 := nextF_no hd
          replace e2 := show Hid _ from e2
          rw [g1] at z1
          clear g1 hd H1 hsp
          go_upto_region 5 with fail
          go_quiet (fail)
          go_wp2
          go_roundw
          case rel => exact ⟨i + 1, by omega, by go_num, by rw [e2.out], Rel.below_draws hB.out⟩
          case measure => simp [intOf]; omega
      · have hd : T.due i = false := by
          rw [Bool.eq_false_iff]; intro h; exact g1 ((due_iff i).1 h).1
        have e2 := nextF_no hd
        replace e2 := show Hid _ from e2
        have b1 : (T.ctl i == 1) = false := by simpa using g1
        clear hd H1 hsp
        go_upto_region 5 with fail
        go_quiet (fail)
        go_wp2
        go_roundw
        case rel => exact ⟨i + 1, by omega, by go_num, by rw [e2.out], Rel.below_draws hB.out⟩
        case measure => simp [intOf]; omega
    · obtain rfl : n = i := by omega
      rcases next_spec T n with ⟨e1, _⟩ | ⟨k, e1, hk, hd, _⟩
      · have eE : Hid (Ending.returned (.tuple #[vI 0, vU 0, .bool false]) = Ending.returned (.tuple #[vI (nxC n T), vU (nxN n T), .bool (nxB n T)])) := by
          show _ = _
          unfold nxC nxN nxB
          rw [e1]; rfl
        rw [e1]
        clear e1 H1
        go_wp2
        go_ret3
        exact ⟨eE.out, hB.out⟩
      · have hlt := ((due_iff k).1 hd).2
        have v1 := H.ok.v1 k
        have v0 := H.ok.c0
        have e0 : IntKind.u64.wrap (T.cval k - T.cnt) = T.cval k - T.cnt := by rw [IntKind.wrap_u64]; omega
        have eE : Hid (Ending.returned (.tuple #[vI k, vU (IntKind.u64.wrap (T.cval k - T.cnt)), .bool true]) = Ending.returned (.tuple #[vI (nxC n T), vU (nxN n T), .bool (nxB n T)])) := by
          show _ = _
          unfold nxC nxN nxB
          rw [e1, if_neg (by omega), if_neg (by omega), decide_eq_false (by omega), Int.toNat_natCast, e0]; rfl
        have z3 := H1.cl hk
        have hkn : (k : Int) < n := by omega
        rw [e1]
        clear e1 H1 e0 hlt v1 v0 hd
        go_upto_region 9 with fail
        go_quiet (fail)
        go_wp2
        go_ret3
        exact ⟨eE.out, Rel.below_draws hB.out⟩
end
end Go.Proofs.Ytebkpmplhpebbaa
