/- The bus: what is small; lines joined; Tick. -/
import Derived.Test.YteklkololojamaaGreatBa
namespace Go.Proofs.YteklkololojamaaGreat
open Go.RowKit
set_option linter.unusedVariables false
set_option linter.unusedSimpArgs false
set_option maxRecDepth 8000

def busIs (a : Int) : Bool := decide ((a - 134217728) % 18446744073709551616 < 4096) || decide ((a - 150994944) % 18446744073709551616 < 8)
/-- The lines of the first cores, as the timer has them. -/
def jnF (n : Nat) (T : Tim.Tm) (P : Pg) : Nat → Pg
  | 0 => P
  | c + 1 => glineP n (jnF n T P c) c 27 (Tmr.highV n T c)
def joinS (n : Nat) (S : Bs) : Bs := { S with P := jnF n S.T S.P n }
def tickS (n : Nat) (S : Bs) (k : Int) : Bs := joinS n { S with T := S.T.tick k }
theorem within_c (a f s : Int) (w : World) : Calls Tryz.prog 59 #[vU a, vU f, vU s] w fun e w' => e = .returned (.bool (decide ((a - f) % 18446744073709551616 < s))) ∧ w' = w := by
  have e1 : IntKind.u64.wrap (a - f) = (a - f) % 18446744073709551616 := by rw [IntKind.wrap_u64]
  rw [← e1]
  clear e1
  go_enter Tryz.func59, Tryz.ntmps59
  go_wp2
  go_ret
  exact ⟨rfl, rfl⟩
theorem is_c (b : Nat) (a : Int) (w : World) : Calls Tryz.prog 24 #[ptr b 0, vU a] w fun e w' => e = .returned (.bool (busIs a)) ∧ w' = w := by
  unfold busIs
  cases h1 : decide ((a - 134217728) % 18446744073709551616 < 4096) with
  | true =>
    go_enter Tryz.func24, Tryz.ntmps24
    go_wp2_with (first | (go_at_call 59; refine (within_c a 134217728 4096 w).mono ?_; rintro e w' ⟨rfl, rfl⟩; dsimp only; rw [h1]))
    go_ret
    exact ⟨rfl, rfl⟩
  | false =>
    go_enter Tryz.func24, Tryz.ntmps24
    go_wp2_with (first | (go_at_call 59; with_reducible refine (within_c a 134217728 4096 _).mono ?_; rintro e w' ⟨rfl, rfl⟩; dsimp only; rw [h1]) | (go_at_call 59; with_reducible refine (within_c a 150994944 8 _).mono ?_; rintro e w' ⟨rfl, rfl⟩; dsimp only))
    go_ret
    exact ⟨rfl, rfl⟩
section
variable {b g t n : Nat} {S S' : Bs} {Y Y' : BLay} {w w' w1 w2 : World}
theorem bhas_c (H : BusAt b g t n S Y w) (core : Int) : Calls Tryz.prog 43 #[ptr b 0, vI core] w fun e w' => e = .returned (.bool (hasB n core)) ∧ w' = w := by
  have c0 := H.c0
  clear H
  unfold hasB
  by_cases h1 : 0 ≤ core
  · rw [decide_eq_true h1]
    go_enter Tryz.func43, Tryz.ntmps43
    go_wp2
    go_ret
    exact ⟨rfl, rfl⟩
  · rw [decide_eq_false h1]
    go_enter Tryz.func43, Tryz.ntmps43
    go_wp2
    go_ret
    exact ⟨rfl, rfl⟩
theorem bgic_c (H : BusAt b g t n S Y w) : Calls Tryz.prog 26 #[ptr b 0] w fun e w' => e = .returned (ptr g 0) ∧ w' = w := by
  have c1 := H.c1
  clear H
  go_enter Tryz.func26, Tryz.ntmps26
  go_wp2
  go_ret
  exact ⟨rfl, rfl⟩
theorem btim_c (H : BusAt b g t n S Y w) : Calls Tryz.prog 29 #[ptr b 0] w fun e w' => e = .returned (ptr t 0) ∧ w' = w := by
  have c2 := H.c2
  clear H
  go_enter Tryz.func29, Tryz.ntmps29
  go_wp2
  go_ret
  exact ⟨rfl, rfl⟩
theorem BusAt.ovs (H : BusAt b g t n S Y w) : ∃ ao cap, Y.ov = .slice ao S.O.length cap := by
  obtain ⟨ao, cap, e, _⟩ := own_len H.out
  exact ⟨ao, cap, e⟩
theorem said_c (H : BusAt b g t n S Y w) (core p : Int) : Calls Tryz.prog 93 #[ptr b 0, vI core, vI p] w fun e w' => e = .returned (vU S.O.length) ∧ w' = w := by
  have c3 := H.c3
  obtain ⟨ao, cap, e⟩ := H.ovs
  rw [e] at c3
  have hl := H.len
  have e1 : IntKind.u64.wrap (S.O.length : Int) = S.O.length := by rw [IntKind.wrap_u64]; omega
  clear H e
  generalize S.O.length = m at *
  go_enter Tryz.func93, Tryz.ntmps93
  go_wp2
  go_ret
  exact ⟨rfl, rfl⟩
def JnC (b g t n : Nat) (Y : BLay) (P' : Pg) (S : Bs) (w : World) : Nat → World → Prop
  | 0, w' => Below w.heap.size w w'
  | 1, w' => Below w.heap.size w w'
  | 2, w' => BT b g t n Y { S with P := P' } w w'
  | _, _ => False
theorem jnC_below {P' : Pg} {j : Nat} (hj : j ≤ 1) (h : JnC b g t n Y P' S w j w') : Below w.heap.size w w' := by
  match j, hj with
  | 0, _ => exact h
  | 1, _ => exact h
set_option maxHeartbeats 1000000 in
theorem join_c (H : BusAt b g t n S Y w) : Calls Tryz.prog 58 #[ptr b 0] w fun e w' => e = .returned (.tuple #[]) ∧ BT b g t n Y (joinS n S) w w' := by
  have c0 := H.c0
  have hn := H.gic.le8
  go_enter Tryz.func58, Tryz.ntmps58
  go_wp2
  clear c0
  go_loopw [7] (fun s7 wr => ∃ c : Nat, c ≤ n ∧ s7 = .int .i64 c ∧ Hid (BT b g t n Y { S with P := jnF n S.T S.P c } w wr)) (fun s7 _ => 8 - (intOf s7).toNat)
  case atStart => exact ⟨0, Nat.zero_le _, rfl, H.refl⟩
  case round =>
    obtain ⟨c, hcn, rfl, hT⟩ := hrel
    by_cases hlt : (c : Int) < n
    · obtain ⟨Z, H1, G1, F1⟩ := hT.out
      clear hT
      generalize hQ : ({ S with P := jnF n S.T S.P c } : Bs) = Q at H1
      have hF : ({ Q with P := glineP n Q.P c 27 (Tmr.highV n Q.T c) } : Bs) = { S with P := jnF n S.T S.P (c + 1) } := by rw [← hQ]; rfl
      replace hF := show Hid _ from hF
      clear hQ
      go_upto_region 3 with fail
      have hst : JnC b g t n Z (glineP n Q.P c 27 (Tmr.highV n Q.T c)) Q wr 0 { wr with drawn := wr.drawn + 1 } := Rel.below_draws (n := 1) (Below.refl _ _)
      refine Chn.wp_region_chainL (JnC b g t n Z (glineP n Q.P c 27 (Tmr.highV n Q.T c)) Q wr) [10, 11] [2, 2, 2, 1, 2, 2, 2, 2, 0, 2, 2, 2] [ptr b 0, ptr b 0, ptr b 1, ptr g 0, vI c, ptr b 0, ptr b 0, ptr b 2, ptr t 0, vI c, .bool (Tmr.highV n Q.T c), vI (if glineE n c 27 (Tmr.highV n Q.T c) then 1 else 0)] (by kernel_rfl) (by kernel_rfl) (by kernel_rfl) (by kernel_rfl) (by kernel_rfl) hst ?_
      clear hst
      refine ⟨fun j w1 hj hC => by exact Chn.upon_pure hC (fun F hF => by (go_simp <;> exact hF)), ?_⟩
      simp only [Act.put, List.setIfInBounds_toArray, List.set_cons_succ, List.set_cons_zero]
      refine ⟨fun j w1 hj hC => by exact Chn.upon_pure hC (fun F hF => by (go_simp <;> exact hF)), ?_⟩
      simp only [Act.put, List.setIfInBounds_toArray, List.set_cons_succ, List.set_cons_zero]
      refine ⟨fun j w1 hj hC => by exact Chn.upon_pure hC (fun F hF => by (go_simp <;> exact hF)), ?_⟩
      simp only [Act.put, List.setIfInBounds_toArray, List.set_cons_succ, List.set_cons_zero]
      refine ⟨fun j w1 hj hC => by
        have z := (H1.grow (jnC_below hj hC)).c1
        exact Chn.upon_pure hC (fun F hF => by (go_simp <;> exact hF)), ?_⟩
      simp only [Act.put, List.setIfInBounds_toArray, List.set_cons_succ, List.set_cons_zero]
      refine ⟨fun j w1 hj hC => by exact Chn.upon_pure hC (fun F hF => by (go_simp <;> exact hF)), ?_⟩
      simp only [Act.put, List.setIfInBounds_toArray, List.set_cons_succ, List.set_cons_zero]
      refine ⟨fun j w1 hj hC => by exact Chn.upon_pure hC (fun F hF => by (go_simp <;> exact hF)), ?_⟩
      simp only [Act.put, List.setIfInBounds_toArray, List.set_cons_succ, List.set_cons_zero]
      refine ⟨fun j w1 hj hC => by exact Chn.upon_pure hC (fun F hF => by (go_simp <;> exact hF)), ?_⟩
      simp only [Act.put, List.setIfInBounds_toArray, List.set_cons_succ, List.set_cons_zero]
      refine ⟨fun j w1 hj hC => by exact Chn.upon_pure hC (fun F hF => by (go_simp <;> exact hF)), ?_⟩
      simp only [Act.put, List.setIfInBounds_toArray, List.set_cons_succ, List.set_cons_zero]
      refine ⟨fun j w1 hj hC => by
        have z := (H1.grow (jnC_below (Nat.le_trans hj (by decide)) hC)).c2
        exact Chn.upon_pure hC (fun F hF => by (go_simp <;> exact hF)), ?_⟩
      simp only [Act.put, List.setIfInBounds_toArray, List.set_cons_succ, List.set_cons_zero]
      refine ⟨fun j w1 hj hC => by exact Chn.upon_pure hC (fun F hF => by (go_simp <;> exact hF)), ?_⟩
      simp only [Act.put, List.setIfInBounds_toArray, List.set_cons_succ, List.set_cons_zero]
      refine ⟨fun w1 hC => by
        exact Chn.upon_call (C := (JnC b g t n Z (glineP n Q.P c 27 (Tmr.highV n Q.T c)) Q wr) 1) (Tmr.thigh_c (H1.grow hC).tim c) (fun e2 w2 hh => ⟨hh.1, below_then hC (Nat.le_refl _) hh.2⟩) (fun F hF => by (go_simp <;> exact hF)), ?_⟩
      simp only [Act.put, List.setIfInBounds_toArray, List.set_cons_succ, List.set_cons_zero]
      refine ⟨fun w1 hC => by
        exact Chn.upon_call (C := (JnC b g t n Z (glineP n Q.P c 27 (Tmr.highV n Q.T c)) Q wr) 2) (gline_c (H1.grow hC).gic c 27 (Tmr.highV n Q.T c)) (fun e2 w2 hh => ⟨hh.1, BT.ahead hC ((H1.grow hC).gicT hh.2.gtl)⟩) (fun F hF => by (go_simp <;> exact hF)), ?_⟩
      simp only [Act.put, List.setIfInBounds_toArray, List.set_cons_succ, List.set_cons_zero]
      intro w5 hC

      replace hC : BT b g t n Z { Q with P := glineP n Q.P c 27 (Tmr.highV n Q.T c) } wr w5 := hC
      rw [hF.out] at hC
      go_wp2
      go_roundw
      case rel => exact ⟨c + 1, by omega, by go_num, BT.then G1 F1 hC⟩
      case measure => simp [intOf]; omega
    · have hcn2 : c = n := by omega
      subst hcn2
      go_wp2
      exact bodyPost_end (results_none rfl _ _ _) rfl ⟨rfl, hT.out⟩
theorem btick_c (H : BusAt b g t n S Y w) (k : Int) : Calls Tryz.prog 22 #[ptr b 0, vU k] w fun e w' => e = .returned (.tuple #[]) ∧ BT b g t n Y (tickS n S k) w w' := by
  have c2 := H.c2
  go_enter Tryz.func22, Tryz.ntmps22
  go_upto_region 1 with (first | (go_at_call 57; refine (Tmr.tick_c H.tim k).mono ?_; rintro e w1 ⟨rfl, hT⟩; dsimp only))
  obtain ⟨Z, H1, G1, F1⟩ := H.timT hT
  clear hT
  go_wp2_with (first | (go_at_call 58; refine (join_c H1).mono ?_; rintro e w2 ⟨rfl, hT⟩; dsimp only))
  exact bodyPost_end (results_none rfl _ _ _) rfl ⟨rfl, BT.then G1 F1 hT⟩
end
end Go.Proofs.YteklkololojamaaGreat
