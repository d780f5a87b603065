/- RelLaws. -/
import Derived.Test.YtfgbhdcoemkdoaaDoorVa
namespace Go.Proofs.YtfgbhdcoemkdoaaDoor
open Go.RowKit
set_option linter.unusedVariables false
set_option linter.unusedSimpArgs false
set_option maxRecDepth 8000

open Rlw
theorem same_y {b1 b2 n : Nat} {v1 v2 : Value} {R S : Nat → Nat → Bool} {w : World} (h : R = S) (R1 : w.ownsRow b1 60 2 v1 (prsN n n R).length (flatP (prsN n n R))) (R2 : w.ownsRow b2 60 2 v2 (prsN n n S).length (flatP (prsN n n S))) : Calls Tryd.prog 36 #[v1, v2] w fun e w' => e = .returned (.bool true) ∧ Below w.heap.size w w' := by
  subst h
  refine (same_c R1 R2).mono fun e w' ⟨h1, h2⟩ => ⟨?_, h2⟩
  rw [h1, decide_eq_true rfl]
theorem turn_twice (R : Nat → Nat → Bool) : tuR (tuR R) = R := rfl
theorem turn_union (R S : Nat → Nat → Bool) : tuR (unR R S) = unR (tuR R) (tuR S) := rfl
theorem loop_o {r n : Nat} {R : Nat → Nat → Bool} {w : World} (H : RelAt r n R w) : Calls Tryd.prog 17 #[ptr r 0] w fun e w' => e = .returned (.tuple #[vI ((Rlw.loopF n R).getD 0 : Nat), .bool (!ordB n R)]) ∧ Below w.heap.size w w' := by
  refine (loop_c H).mono fun e w' ⟨h1, h2⟩ => ⟨?_, h2⟩
  rw [h1, ord_loop H.fit, Bool.not_not]
theorem ordered_o {r m b0 : Nat} {R : Nat → Nat → Bool} {v : Value} {w : World} (H : RelAt r m R w) (hT : Tab w) (hl : w.ownsRow b0 3 1 v (ordV m R).length (flN (ordV m R))) : Calls Tryd.prog 38 #[ptr r 0, v] w fun e w' => e = .returned (.bool (ordB m R)) ∧ Below w.heap.size w w' := by
  cases ho : ordB m R with
  | true =>
    have e : ordV m R = ordL m R m := by unfold ordV; rw [ho]; rfl
    rw [e] at hl
    exact ordered_c H hT hl (by simpa [ordB] using ho) (ordL_ordd H.fit m)
  | false =>
    have e : ordV m R = [] := by unfold ordV; rw [ho]; rfl
    rw [e] at hl
    refine (ordered_no H hl ?_).mono fun e w' ⟨h1, h2⟩ => ⟨h1, by rw [h2]; exact Below.refl _ _⟩
    rintro rfl
    simp [ordB, ordL] at ho
set_option maxHeartbeats 8000000 in
theorem laws_walk (n : Int) {v1 v2 v3 : Value} {p1 p2 p3 : List (Int × Int)} {w : World} (hv1 : Prs w v1 p1) (hv2 : Prs w v2 p2) (hv3 : Prs w v3 p3) (hT : Tab w) : Calls Tryd.prog 5 #[vI n, v1, v2, v3] w fun e w' => e = .returned (.bool true) ∧ Below w.heap.size w w' := by
  have hW : Below w.heap.size w w := Below.refl _ _
  by_cases hn : newE n = 0
  · obtain ⟨m, rfl, hm⟩ := new_nat hn
    clear hn
    go_enter Tryd.func5, Tryd.ntmps5
    go_upto_region 2 with (first | (go_at_call 7; (with_reducible refine (examples_c hT).mono ?_); rintro e ww ⟨rfl, hB⟩; dsimp only; replace hT := hT.grow hB; replace hv1 := hv1.grow hB; replace hv2 := hv2.grow hB; replace hv3 := hv3.grow hB; replace hW := hW.trans (hB.mono hW.size); clear hB))
    go_upto_region 3 with (first | (go_at_call 8; (with_reducible refine (made_ok hm hv1).mono ?_); rintro e ww ⟨r, xHR, R, rfl, HB⟩; dsimp only; have hB := HB.low; have HR := HB.rel; clear HB; replace hT := hT.grow hB; replace hv2 := hv2.grow hB; replace hv3 := hv3.grow hB; replace hW := hW.trans (hB.mono hW.size); clear hB))
    go_upto_region 4 with (first | (go_at_call 8; (with_reducible refine (made_ok hm hv2).mono ?_); rintro e ww ⟨s, xHS, S, rfl, HB⟩; dsimp only; have hB := HB.low; have HS := HB.rel; clear HB; replace hT := hT.grow hB; replace hv3 := hv3.grow hB; replace hW := hW.trans (hB.mono hW.size); replace HR := HR.grow hB; clear hB))
    go_upto_region 5 with (first | (go_at_call 8; (with_reducible refine (made_ok hm hv3).mono ?_); rintro e ww ⟨t, xHT, T, rfl, HB⟩; dsimp only; have hB := HB.low; have HT := HB.rel; clear HB; replace hT := hT.grow hB; replace hW := hW.trans (hB.mono hW.size); replace HR := HR.grow hB; replace HS := HS.grow hB; clear hB))
    clear hv1 hv2 hv3
    go_upto_region 10 with (first | (go_at_call 25; (with_reducible refine (then_r HR HS hT).mono ?_); rintro e ww ⟨x, rfl, HX, _, hB⟩; dsimp only; replace hT := hT.grow hB; replace hW := hW.trans (hB.mono hW.size); replace HR := HR.grow hB; replace HS := HS.grow hB; replace HT := HT.grow hB; clear hB))
    go_upto_region 11 with (first | (go_at_call 25; (with_reducible refine (then_r HX HT hT).mono ?_); rintro e ww ⟨y, rfl, HY, _, hB⟩; dsimp only; replace hT := hT.grow hB; replace hW := hW.trans (hB.mono hW.size); replace HR := HR.grow hB; replace HS := HS.grow hB; replace HT := HT.grow hB; replace HX := HX.grow hB; clear hB))
    go_upto_region 12 with (first | (go_at_call 25; (with_reducible refine (then_r HS HT hT).mono ?_); rintro e ww ⟨z, rfl, HZ, _, hB⟩; dsimp only; replace hT := hT.grow hB; replace hW := hW.trans (hB.mono hW.size); replace HR := HR.grow hB; replace HS := HS.grow hB; replace HT := HT.grow hB; replace HX := HX.grow hB; replace HY := HY.grow hB; clear hB))
    go_upto_region 13 with (first | (go_at_call 25; (with_reducible refine (then_r HR HZ hT).mono ?_); rintro e ww ⟨q, rfl, HQ, _, hB⟩; dsimp only; replace hT := hT.grow hB; replace hW := hW.trans (hB.mono hW.size); replace HR := HR.grow hB; replace HS := HS.grow hB; replace HT := HT.grow hB; replace HX := HX.grow hB; replace HY := HY.grow hB; replace HZ := HZ.grow hB; clear hB))
    rw [Rlw.th_group HR.fit HS.fit] at HY
    clear HX HZ
    go_upto_region 14 with (first | (go_at_call 22; (with_reducible refine (union_r HR HS hT).mono ?_); rintro e ww ⟨u, rfl, HU, _, hB⟩; dsimp only; replace hT := hT.grow hB; replace hW := hW.trans (hB.mono hW.size); replace HR := HR.grow hB; replace HS := HS.grow hB; replace HY := HY.grow hB; replace HQ := HQ.grow hB; clear hB))
    go_upto_region 15 with (first | (go_at_call 22; (with_reducible refine (union_r HR2 HS2 hT).mono ?_); rintro e ww ⟨v, rfl, HV, _, hB⟩; dsimp only; replace hT := hT.grow hB; replace hW := hW.trans (hB.mono hW.size); replace HR := HR.grow hB; replace HS := HS.grow hB; replace HY := HY.grow hB; replace HQ := HQ.grow hB; replace HU := HU.grow hB; replace HR2 := HR2.grow hB; replace HS2 := HS2.grow hB; clear hB) | (go_at_call 13; (with_reducible refine (turned_r HS hT).mono ?_); rintro e ww ⟨s2, rfl, HS2, _, hB⟩; dsimp only; replace hT := hT.grow hB; replace hW := hW.trans (hB.mono hW.size); replace HR := HR.grow hB; replace HS := HS.grow hB; replace HY := HY.grow hB; replace HQ := HQ.grow hB; replace HU := HU.grow hB; replace HR2 := HR2.grow hB; clear hB) | (go_at_call 13; (with_reducible refine (turned_r HR hT).mono ?_); rintro e ww ⟨r2, rfl, HR2, _, hB⟩; dsimp only; replace hT := hT.grow hB; replace hW := hW.trans (hB.mono hW.size); replace HR := HR.grow hB; replace HS := HS.grow hB; replace HY := HY.grow hB; replace HQ := HQ.grow hB; replace HU := HU.grow hB; clear hB))
    clear HR2 HS2 HS
    have ho := order_c HR hT
    go_upto_region 18 with (first | (go_at_call 19; (with_reducible refine (ho).mono ?_); rintro e ww ⟨vl, rfl, hL, hB⟩; dsimp only; replace hT := hT.grow hB; replace hW := hW.trans (hB.mono hW.size); replace HR := HR.grow hB; replace HY := HY.grow hB; replace HQ := HQ.grow hB; replace HU := HU.grow hB; replace HV := HV.grow hB; clear hB))
    clear ho
    have hlo := loop_o HR
    go_upto_region 19 with (first | (go_at_call 17; (with_reducible refine (hlo).mono ?_); rintro e ww ⟨rfl, hB⟩; dsimp only; replace hT := hT.grow hB; replace hW := hW.trans (hB.mono hW.size); replace HR := HR.grow hB; replace HY := HY.grow hB; replace HQ := HQ.grow hB; replace HU := HU.grow hB; replace HV := HV.grow hB; replace hL := own_grow hL hB; clear hB))
    clear hlo
    go_upto_region 20 with (first | (go_at_call 15; (with_reducible refine (closed_c HR).mono ?_); rintro e ww ⟨cc, rfl, HC, _, hB⟩; dsimp only; replace hT := hT.grow hB; replace hW := hW.trans (hB.mono hW.size); replace HR := HR.grow hB; replace HY := HY.grow hB; replace HQ := HQ.grow hB; replace HU := HU.grow hB; replace HV := HV.grow hB; replace hL := own_grow hL hB; clear hB))
    go_upto_region 21 with (first | (go_at_call 36; (with_reducible refine (same_y (Rlw.war_twice HR.fit) hPD hPC).mono ?_); rintro e ww ⟨rfl, hB⟩; dsimp only; replace hT := hT.grow hB; replace hW := hW.trans (hB.mono hW.size); replace HR := HR.grow hB; replace HY := HY.grow hB; replace HQ := HQ.grow hB; replace HU := HU.grow hB; replace HV := HV.grow hB; replace hL := own_grow hL hB; replace HC := HC.grow hB; replace HD := HD.grow hB; replace hPD := own_grow hPD hB; replace hPC := own_grow hPC hB; clear hB) | (go_at_call 37; (with_reducible refine (pairs_r HC hT).mono ?_); rintro e ww ⟨vc, rfl, hPC, hB⟩; dsimp only; replace hT := hT.grow hB; replace hW := hW.trans (hB.mono hW.size); replace HR := HR.grow hB; replace HY := HY.grow hB; replace HQ := HQ.grow hB; replace HU := HU.grow hB; replace HV := HV.grow hB; replace hL := own_grow hL hB; replace HC := HC.grow hB; replace HD := HD.grow hB; replace hPD := own_grow hPD hB; clear hB) | (go_at_call 37; (with_reducible refine (pairs_r HD hT).mono ?_); rintro e ww ⟨vd, rfl, hPD, hB⟩; dsimp only; replace hT := hT.grow hB; replace hW := hW.trans (hB.mono hW.size); replace HR := HR.grow hB; replace HY := HY.grow hB; replace HQ := HQ.grow hB; replace HU := HU.grow hB; replace HV := HV.grow hB; replace hL := own_grow hL hB; replace HC := HC.grow hB; replace HD := HD.grow hB; clear hB) | (go_at_call 15; (with_reducible refine (closed_c HC).mono ?_); rintro e ww ⟨cd, rfl, HD, _, hB⟩; dsimp only; replace hT := hT.grow hB; replace hW := hW.trans (hB.mono hW.size); replace HR := HR.grow hB; replace HY := HY.grow hB; replace HQ := HQ.grow hB; replace HU := HU.grow hB; replace HV := HV.grow hB; replace hL := own_grow hL hB; replace HC := HC.grow hB; clear hB))
    clear hPD hPC HC HD
    go_upto_region 22 with (first | (go_at_call 36; (with_reducible refine (same_y rfl hPD hPC).mono ?_); rintro e ww ⟨rfl, hB⟩; dsimp only; replace hT := hT.grow hB; replace hW := hW.trans (hB.mono hW.size); replace HR := HR.grow hB; replace HY := HY.grow hB; replace HQ := HQ.grow hB; replace HU := HU.grow hB; replace HV := HV.grow hB; replace hL := own_grow hL hB; replace hPD := own_grow hPD hB; replace hPC := own_grow hPC hB; clear hB) | (go_at_call 37; (with_reducible refine (pairs_r HQ hT).mono ?_); rintro e ww ⟨vc, rfl, hPC, hB⟩; dsimp only; replace hT := hT.grow hB; replace hW := hW.trans (hB.mono hW.size); replace HR := HR.grow hB; replace HY := HY.grow hB; replace HQ := HQ.grow hB; replace HU := HU.grow hB; replace HV := HV.grow hB; replace hL := own_grow hL hB; replace hPD := own_grow hPD hB; clear hB) | (go_at_call 37; (with_reducible refine (pairs_r HY hT).mono ?_); rintro e ww ⟨vd, rfl, hPD, hB⟩; dsimp only; replace hT := hT.grow hB; replace hW := hW.trans (hB.mono hW.size); replace HR := HR.grow hB; replace HY := HY.grow hB; replace HQ := HQ.grow hB; replace HU := HU.grow hB; replace HV := HV.grow hB; replace hL := own_grow hL hB; clear hB))
    clear hPD hPC HY HQ
    go_upto_region 23 with (first | (go_at_call 36; (with_reducible refine (same_y (turn_twice R) hPD hPC).mono ?_); rintro e ww ⟨rfl, hB⟩; dsimp only; replace hT := hT.grow hB; replace hW := hW.trans (hB.mono hW.size); replace HR := HR.grow hB; replace HU := HU.grow hB; replace HV := HV.grow hB; replace hL := own_grow hL hB; replace HR2 := HR2.grow hB; replace HR3 := HR3.grow hB; replace hPD := own_grow hPD hB; replace hPC := own_grow hPC hB; clear hB) | (go_at_call 37; (with_reducible refine (pairs_r HR hT).mono ?_); rintro e ww ⟨vc, rfl, hPC, hB⟩; dsimp only; replace hT := hT.grow hB; replace hW := hW.trans (hB.mono hW.size); replace HR := HR.grow hB; replace HU := HU.grow hB; replace HV := HV.grow hB; replace hL := own_grow hL hB; replace HR2 := HR2.grow hB; replace HR3 := HR3.grow hB; replace hPD := own_grow hPD hB; clear hB) | (go_at_call 37; (with_reducible refine (pairs_r HR3 hT).mono ?_); rintro e ww ⟨vd, rfl, hPD, hB⟩; dsimp only; replace hT := hT.grow hB; replace hW := hW.trans (hB.mono hW.size); replace HR := HR.grow hB; replace HU := HU.grow hB; replace HV := HV.grow hB; replace hL := own_grow hL hB; replace HR2 := HR2.grow hB; replace HR3 := HR3.grow hB; clear hB) | (go_at_call 13; (with_reducible refine (turned_r HR2 hT).mono ?_); rintro e ww ⟨r3, rfl, HR3, _, hB⟩; dsimp only; replace hT := hT.grow hB; replace hW := hW.trans (hB.mono hW.size); replace HR := HR.grow hB; replace HU := HU.grow hB; replace HV := HV.grow hB; replace hL := own_grow hL hB; replace HR2 := HR2.grow hB; clear hB) | (go_at_call 13; (with_reducible refine (turned_r HR hT).mono ?_); rintro e ww ⟨r2, rfl, HR2, _, hB⟩; dsimp only; replace hT := hT.grow hB; replace hW := hW.trans (hB.mono hW.size); replace HR := HR.grow hB; replace HU := HU.grow hB; replace HV := HV.grow hB; replace hL := own_grow hL hB; clear hB))
    clear hPD hPC HR2 HR3
    go_upto_region 24 with (first | (go_at_call 36; (with_reducible refine (same_y (turn_union R S) hPD hPC).mono ?_); rintro e ww ⟨rfl, hB⟩; dsimp only; replace hT := hT.grow hB; replace hW := hW.trans (hB.mono hW.size); replace HR := HR.grow hB; replace HU := HU.grow hB; replace HV := HV.grow hB; replace hL := own_grow hL hB; replace HR2 := HR2.grow hB; replace hPD := own_grow hPD hB; replace hPC := own_grow hPC hB; clear hB) | (go_at_call 37; (with_reducible refine (pairs_r HV hT).mono ?_); rintro e ww ⟨vc, rfl, hPC, hB⟩; dsimp only; replace hT := hT.grow hB; replace hW := hW.trans (hB.mono hW.size); replace HR := HR.grow hB; replace HU := HU.grow hB; replace HV := HV.grow hB; replace hL := own_grow hL hB; replace HR2 := HR2.grow hB; replace hPD := own_grow hPD hB; clear hB) | (go_at_call 37; (with_reducible refine (pairs_r HR2 hT).mono ?_); rintro e ww ⟨vd, rfl, hPD, hB⟩; dsimp only; replace hT := hT.grow hB; replace hW := hW.trans (hB.mono hW.size); replace HR := HR.grow hB; replace HU := HU.grow hB; replace HV := HV.grow hB; replace hL := own_grow hL hB; replace HR2 := HR2.grow hB; clear hB) | (go_at_call 13; (with_reducible refine (turned_r HU hT).mono ?_); rintro e ww ⟨r2, rfl, HR2, _, hB⟩; dsimp only; replace hT := hT.grow hB; replace hW := hW.trans (hB.mono hW.size); replace HR := HR.grow hB; replace HU := HU.grow hB; replace HV := HV.grow hB; replace hL := own_grow hL hB; clear hB))
    clear hPD hPC HR2 HU HV
    have hor := ordered_o HR hT hL
    go_upto_region 25 with (first | (go_at_call 38; (with_reducible refine (hor).mono ?_); rintro e ww ⟨rfl, hB⟩; dsimp only; replace hT := hT.grow hB; replace hW := hW.trans (hB.mono hW.size); replace HR := HR.grow hB; replace hL := own_grow hL hB; clear hB))
    clear hor hL
    generalize ordB m R = o at *
    cases o
    · go_wp2
      go_ret
      exact ⟨rfl, hW⟩
    · go_wp2
      go_ret
      exact ⟨rfl, hW⟩
  · go_enter Tryd.func5, Tryd.ntmps5
    go_upto_region 2 with (first | (go_at_call 7; (with_reducible refine (examples_c hT).mono ?_); rintro e ww ⟨rfl, hB⟩; dsimp only; replace hT := hT.grow hB; replace hv1 := hv1.grow hB; replace hv2 := hv2.grow hB; replace hv3 := hv3.grow hB; replace hW := hW.trans (hB.mono hW.size); clear hB))
    go_upto_region 3 with (first | (go_at_call 8; (with_reducible refine (made_bad hn hv1).mono ?_); rintro e ww ⟨rfl, hB⟩; dsimp only; replace hv2 := hv2.grow hB; replace hv3 := hv3.grow hB; replace hW := hW.trans (hB.mono hW.size); clear hB))
    go_upto_region 4 with (first | (go_at_call 8; (with_reducible refine (made_bad hn hv2).mono ?_); rintro e ww ⟨rfl, hB⟩; dsimp only; replace hv3 := hv3.grow hB; replace hW := hW.trans (hB.mono hW.size); clear hB))
    go_upto_region 5 with (first | (go_at_call 8; (with_reducible refine (made_bad hn hv3).mono ?_); rintro e ww ⟨rfl, hB⟩; dsimp only; replace hW := hW.trans (hB.mono hW.size); clear hB))
    go_wp2
    go_ret
    exact ⟨rfl, hW⟩
end Go.Proofs.YtfgbhdcoemkdoaaDoor
