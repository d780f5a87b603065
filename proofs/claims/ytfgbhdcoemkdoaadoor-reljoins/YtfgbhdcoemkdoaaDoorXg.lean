/- RelJoins: two sizes, and none. -/
import Derived.Test.YtfgbhdcoemkdoaaDoorWd
import Derived.Test.YtfgbhdcoemkdoaaDoorXe
namespace Go.Proofs.YtfgbhdcoemkdoaaDoor
open Go.RowKit
set_option linter.unusedVariables false
set_option linter.unusedSimpArgs false
set_option maxRecDepth 8000

open Rlw
set_option maxHeartbeats 16000000 in
theorem joins_apart {p q : Nat} (hp : p ≤ 64) (hq : q ≤ 64) (hpq : p ≠ q) {v1 v2 v3 v4 : Value} {p1 p2 : List (Int × Int)} {z3 z4 : List Int} {w : World} (hv1 : Prs w v1 p1) (hv2 : Prs w v2 p2) (hv3 : RawI w v3 z3) (hv4 : RawI w v4 z4) (hT : Tab w) : Calls Tryd.prog 4 #[vI p, vI q, v1, v2, v3, v4] w fun e w' => e = .returned (.bool true) ∧ Below w.heap.size w w' := by
    have hW : Below w.heap.size w w := Below.refl _ _
    go_enter Tryd.func4, Tryd.ntmps4
    go_upto_region 2 with (first | (go_at_call 7; (with_reducible refine (examples_c hT).mono ?_); rintro e ww ⟨rfl, hB⟩; dsimp only; replace hT := hT.grow hB; replace hv1 := hv1.grow hB; replace hv2 := hv2.grow hB; replace hv3 := hv3.grow hB; replace hv4 := hv4.grow hB; replace hW := hW.trans (hB.mono hW.size); clear hB))
    go_upto_region 3 with (first | (go_at_call 8; (with_reducible refine (made_ok hp hv1).mono ?_); rintro e ww ⟨r, x, R, rfl, HBB⟩; dsimp only; have hB := HBB.low; have HR := HBB.rel; have HX := HBB.ref; clear HBB; replace hT := hT.grow hB; replace hv1 := hv1.grow hB; replace hv2 := hv2.grow hB; replace hv3 := hv3.grow hB; replace hv4 := hv4.grow hB; replace hW := hW.trans (hB.mono hW.size); clear hB))
    go_upto_region 4 with (first | (go_at_call 8; (with_reducible refine (made_ok hq hv2).mono ?_); rintro e ww ⟨s, y, S, rfl, HBB⟩; dsimp only; have hB := HBB.low; have HS := HBB.rel; have HY := HBB.ref; clear HBB; replace HR := HR.grow hB; replace HX := HX.grow hB; replace hT := hT.grow hB; replace hv1 := hv1.grow hB; replace hv2 := hv2.grow hB; replace hv3 := hv3.grow hB; replace hv4 := hv4.grow hB; replace hW := hW.trans (hB.mono hW.size); clear hB))
    clear hv1 hv2 hv3 hv4 hT HX HY
    go_upto_region 9 with (first | (go_at_call 22; (with_reducible refine (union_no HR.row HS.row hpq).mono ?_); rintro e ww ⟨rfl, hB⟩; dsimp only; replace HR := HR.grow hB; replace HS := HS.grow hB; replace hW := hW.trans (hB.mono hW.size); clear hB))
    go_upto_region 10 with (first | (go_at_call 23; (with_reducible refine (inter_no HR.row HS.row hpq).mono ?_); rintro e ww ⟨rfl, hB⟩; dsimp only; replace HR := HR.grow hB; replace HS := HS.grow hB; replace hW := hW.trans (hB.mono hW.size); clear hB))
    go_upto_region 11 with (first | (go_at_call 24; (with_reducible refine (minus_no HR.row HS.row hpq).mono ?_); rintro e ww ⟨rfl, hB⟩; dsimp only; replace HR := HR.grow hB; replace HS := HS.grow hB; replace hW := hW.trans (hB.mono hW.size); clear hB))
    go_upto_region 12 with (first | (go_at_call 25; (with_reducible refine (then_no HR.row HS.row hpq).mono ?_); rintro e ww ⟨rfl, hB⟩; dsimp only; replace HR := HR.grow hB; replace HS := HS.grow hB; replace hW := hW.trans (hB.mono hW.size); clear hB))
    have hne := eqN hpq
    clear HR HS
    go_wp2
    go_ret
    exact ⟨rfl, hW⟩
set_option maxHeartbeats 16000000 in
theorem joins_bb {n m : Int} (hn : newE n ≠ 0) (hm : newE m ≠ 0) {v1 v2 v3 v4 : Value} {p1 p2 : List (Int × Int)} {z3 z4 : List Int} {w : World} (hv1 : Prs w v1 p1) (hv2 : Prs w v2 p2) (hv3 : RawI w v3 z3) (hv4 : RawI w v4 z4) (hT : Tab w) : Calls Tryd.prog 4 #[vI n, vI m, v1, v2, v3, v4] w fun e w' => e = .returned (.bool true) ∧ Below w.heap.size w w' := by
    have hW : Below w.heap.size w w := Below.refl _ _
    go_enter Tryd.func4, Tryd.ntmps4
    go_upto_region 2 with (first | (go_at_call 7; (with_reducible refine (examples_c hT).mono ?_); rintro e ww ⟨rfl, hB⟩; dsimp only; replace hT := hT.grow hB; replace hv1 := hv1.grow hB; replace hv2 := hv2.grow hB; replace hv3 := hv3.grow hB; replace hv4 := hv4.grow hB; replace hW := hW.trans (hB.mono hW.size); clear hB))
    go_upto_region 3 with (first | (go_at_call 8; (with_reducible refine (made_bad hn hv1).mono ?_); rintro e ww ⟨rfl, hB⟩; dsimp only; replace hT := hT.grow hB; replace hv1 := hv1.grow hB; replace hv2 := hv2.grow hB; replace hv3 := hv3.grow hB; replace hv4 := hv4.grow hB; replace hW := hW.trans (hB.mono hW.size); clear hB))
    go_upto_region 4 with (first | (go_at_call 8; (with_reducible refine (made_bad hm hv2).mono ?_); rintro e ww ⟨rfl, hB⟩; dsimp only; replace hT := hT.grow hB; replace hv1 := hv1.grow hB; replace hv2 := hv2.grow hB; replace hv3 := hv3.grow hB; replace hv4 := hv4.grow hB; replace hW := hW.trans (hB.mono hW.size); clear hB))
    go_wp2
    go_ret
    exact ⟨rfl, hW⟩
set_option maxHeartbeats 16000000 in
theorem joins_bo {n : Int} {q : Nat} (hn : newE n ≠ 0) (hq : q ≤ 64) {v1 v2 v3 v4 : Value} {p1 p2 : List (Int × Int)} {z3 z4 : List Int} {w : World} (hv1 : Prs w v1 p1) (hv2 : Prs w v2 p2) (hv3 : RawI w v3 z3) (hv4 : RawI w v4 z4) (hT : Tab w) : Calls Tryd.prog 4 #[vI n, vI q, v1, v2, v3, v4] w fun e w' => e = .returned (.bool true) ∧ Below w.heap.size w w' := by
    have hW : Below w.heap.size w w := Below.refl _ _
    go_enter Tryd.func4, Tryd.ntmps4
    go_upto_region 2 with (first | (go_at_call 7; (with_reducible refine (examples_c hT).mono ?_); rintro e ww ⟨rfl, hB⟩; dsimp only; replace hT := hT.grow hB; replace hv1 := hv1.grow hB; replace hv2 := hv2.grow hB; replace hv3 := hv3.grow hB; replace hv4 := hv4.grow hB; replace hW := hW.trans (hB.mono hW.size); clear hB))
    go_upto_region 3 with (first | (go_at_call 8; (with_reducible refine (made_bad hn hv1).mono ?_); rintro e ww ⟨rfl, hB⟩; dsimp only; replace hT := hT.grow hB; replace hv1 := hv1.grow hB; replace hv2 := hv2.grow hB; replace hv3 := hv3.grow hB; replace hv4 := hv4.grow hB; replace hW := hW.trans (hB.mono hW.size); clear hB))
    go_upto_region 4 with (first | (go_at_call 8; (with_reducible refine (made_ok hq hv2).mono ?_); rintro e ww ⟨s, y, S, rfl, HBB⟩; dsimp only; have hB := HBB.low; have HS := HBB.rel; have HY := HBB.ref; clear HBB; replace hT := hT.grow hB; replace hv1 := hv1.grow hB; replace hv2 := hv2.grow hB; replace hv3 := hv3.grow hB; replace hv4 := hv4.grow hB; replace hW := hW.trans (hB.mono hW.size); clear hB))
    go_wp2
    go_ret
    exact ⟨rfl, hW⟩
set_option maxHeartbeats 16000000 in
theorem joins_ob {p : Nat} {m : Int} (hp : p ≤ 64) (hm : newE m ≠ 0) {v1 v2 v3 v4 : Value} {p1 p2 : List (Int × Int)} {z3 z4 : List Int} {w : World} (hv1 : Prs w v1 p1) (hv2 : Prs w v2 p2) (hv3 : RawI w v3 z3) (hv4 : RawI w v4 z4) (hT : Tab w) : Calls Tryd.prog 4 #[vI p, vI m, v1, v2, v3, v4] w fun e w' => e = .returned (.bool true) ∧ Below w.heap.size w w' := by
    have hW : Below w.heap.size w w := Below.refl _ _
    go_enter Tryd.func4, Tryd.ntmps4
    go_upto_region 2 with (first | (go_at_call 7; (with_reducible refine (examples_c hT).mono ?_); rintro e ww ⟨rfl, hB⟩; dsimp only; replace hT := hT.grow hB; replace hv1 := hv1.grow hB; replace hv2 := hv2.grow hB; replace hv3 := hv3.grow hB; replace hv4 := hv4.grow hB; replace hW := hW.trans (hB.mono hW.size); clear hB))
    go_upto_region 3 with (first | (go_at_call 8; (with_reducible refine (made_ok hp hv1).mono ?_); rintro e ww ⟨r, x, R, rfl, HBB⟩; dsimp only; have hB := HBB.low; have HR := HBB.rel; have HX := HBB.ref; clear HBB; replace hT := hT.grow hB; replace hv1 := hv1.grow hB; replace hv2 := hv2.grow hB; replace hv3 := hv3.grow hB; replace hv4 := hv4.grow hB; replace hW := hW.trans (hB.mono hW.size); clear hB))
    go_upto_region 4 with (first | (go_at_call 8; (with_reducible refine (made_bad hm hv2).mono ?_); rintro e ww ⟨rfl, hB⟩; dsimp only; replace hT := hT.grow hB; replace hv1 := hv1.grow hB; replace hv2 := hv2.grow hB; replace hv3 := hv3.grow hB; replace hv4 := hv4.grow hB; replace hW := hW.trans (hB.mono hW.size); clear hB))
    go_wp2
    go_ret
    exact ⟨rfl, hW⟩
end Go.Proofs.YtfgbhdcoemkdoaaDoor
