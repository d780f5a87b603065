/- RelJoins: one size. -/
import Derived.Test.YtfgbhdcoemkdoaaDoorWd
import Derived.Test.YtfgbhdcoemkdoaaDoorXa
import Derived.Test.YtfgbhdcoemkdoaaDoorXb
import Derived.Test.YtfgbhdcoemkdoaaDoorXc
import Derived.Test.YtfgbhdcoemkdoaaDoorXd
import Derived.Test.YtfgbhdcoemkdoaaDoorXe
import Derived.Test.YtfgbhdcoemkdoaaDoorXf
import Derived.Test.YtfgbhdcoemkdoaaDoorXg
import Derived.Test.YtfgbhdcoemkdoaaDoorChx
namespace Go.Proofs.YtfgbhdcoemkdoaaDoor
open Go.RowKit
set_option linter.unusedVariables false
set_option linter.unusedSimpArgs false
set_option maxRecDepth 8000

open Rlw
def JC (g : Nat → Bool) (R : Nat → Nat → Bool) (W : World) (p : Nat) : Nat → Option Value → World → Prop
  | 0, none, w1 => w1.heap = W.heap ∧ Below W.heap.size W w1
  | 1, none, w1 => RelAt W.heap.size p (keR (fun _ => true) g R) w1 ∧ Below W.heap.size W w1
  | 2, some u, w1 => ∃ t, u = ptr t 0 ∧ RelAt W.heap.size p (keR (fun _ => true) g R) w1 ∧ RefAt t p (keR (fun _ => true) g R) w1 ∧ Below W.heap.size W w1
  | 3, some _, w1 => Below W.heap.size W w1
  | _, _, _ => False
theorem jc_low {g : Nat → Bool} {R : Nat → Nat → Bool} {W w1 : World} {p j : Nat} {ou : Option Value} (h : JC g R W p j ou w1) : Below W.heap.size W w1 := by
  match j, ou, h with
  | 0, none, h => exact h.2
  | 1, none, h => exact h.2
  | 2, some _, h => obtain ⟨_, _, _, _, hb⟩ := h; exact hb
  | 3, some _, h => exact h
set_option maxHeartbeats 16000000 in
theorem joins_main {p : Nat} (hp : p ≤ 64) {v1 v2 v3 v4 : Value} {p1 p2 : List (Int × Int)} {z3 z4 : List Int} {w : World} (hv1 : Prs w v1 p1) (hv2 : Prs w v2 p2) (hv3 : RawI w v3 z3) (hv4 : RawI w v4 z4) (hT : Tab w) : Calls Tryd.prog 4 #[vI p, vI p, v1, v2, v3, v4] w fun e w' => e = .returned (.bool true) ∧ Below w.heap.size w w' := by
    have hW : Below w.heap.size w w := Below.refl _ _
    go_enter Tryd.func4, Tryd.ntmps4
    go_upto_region 2 with (first | (go_at_call 7; (with_reducible refine (examples_c hT).mono ?_); rintro e ww ⟨rfl, hB⟩; dsimp only; replace hT := hT.grow hB; replace hv1 := hv1.grow hB; replace hv2 := hv2.grow hB; replace hv3 := hv3.grow hB; replace hv4 := hv4.grow hB; replace hW := hW.trans (hB.mono hW.size); clear hB))
    go_upto_region 3 with (first | (go_at_call 8; (with_reducible refine (made_ok hp hv1).mono ?_); rintro e ww ⟨r, x, R, rfl, HBB⟩; dsimp only; have hB := HBB.low; have HR := HBB.rel; have HX := HBB.ref; clear HBB; replace hT := hT.grow hB; replace hv1 := hv1.grow hB; replace hv2 := hv2.grow hB; replace hv3 := hv3.grow hB; replace hv4 := hv4.grow hB; replace hW := hW.trans (hB.mono hW.size); clear hB))
    go_upto_region 4 with (first | (go_at_call 8; (with_reducible refine (made_ok hp hv2).mono ?_); rintro e ww ⟨s, y, S, rfl, HBB⟩; dsimp only; have hB := HBB.low; have HS := HBB.rel; have HY := HBB.ref; clear HBB; replace HR := HR.grow hB; replace HX := HX.grow hB; replace hT := hT.grow hB; replace hv1 := hv1.grow hB; replace hv2 := hv2.grow hB; replace hv3 := hv3.grow hB; replace hv4 := hv4.grow hB; replace hW := hW.trans (hB.mono hW.size); clear hB))
    clear hv1 hv2
    go_upto_region 9 with (first | (go_at_call 22; (with_reducible refine (union_r HR HS hT).mono ?_); rintro e ww ⟨q22, rfl, HU, _, hB⟩; dsimp only; replace hT := hT.grow hB; replace hv3 := hv3.grow hB; replace hv4 := hv4.grow hB; replace hW := hW.trans (hB.mono hW.size); replace HR := HR.grow hB; replace HX := HX.grow hB; replace HS := HS.grow hB; replace HY := HY.grow hB; clear hB))
    go_upto_region 10 with (first | (go_at_call 23; (with_reducible refine (inter_r HR HS hT).mono ?_); rintro e ww ⟨q23, rfl, HI, _, hB⟩; dsimp only; replace hT := hT.grow hB; replace hv3 := hv3.grow hB; replace hv4 := hv4.grow hB; replace hW := hW.trans (hB.mono hW.size); replace HR := HR.grow hB; replace HX := HX.grow hB; replace HS := HS.grow hB; replace HY := HY.grow hB; replace HU := HU.grow hB; clear hB))
    go_upto_region 11 with (first | (go_at_call 24; (with_reducible refine (minus_r HR HS hT).mono ?_); rintro e ww ⟨q24, rfl, HM, _, hB⟩; dsimp only; replace hT := hT.grow hB; replace hv3 := hv3.grow hB; replace hv4 := hv4.grow hB; replace hW := hW.trans (hB.mono hW.size); replace HR := HR.grow hB; replace HX := HX.grow hB; replace HS := HS.grow hB; replace HY := HY.grow hB; replace HU := HU.grow hB; replace HI := HI.grow hB; clear hB))
    go_upto_region 12 with (first | (go_at_call 25; (with_reducible refine (then_r HR HS hT).mono ?_); rintro e ww ⟨q25, rfl, HN, _, hB⟩; dsimp only; replace hT := hT.grow hB; replace hv3 := hv3.grow hB; replace hv4 := hv4.grow hB; replace hW := hW.trans (hB.mono hW.size); replace HR := HR.grow hB; replace HX := HX.grow hB; replace HS := HS.grow hB; replace HY := HY.grow hB; replace HU := HU.grow hB; replace HI := HI.grow hB; replace HM := HM.grow hB; clear hB))
    have hne : ((p : Int) != (p : Int)) = false := by simp
    go_upto_region 14 with fail
    go_upto_region 15 with (first | (go_at_call 11; (with_reducible refine (is_c HU HD hT).mono ?_); rintro e ww ⟨rfl, hB⟩; dsimp only; replace hT := hT.grow hB; replace hv3 := hv3.grow hB; replace hv4 := hv4.grow hB; replace hW := hW.trans (hB.mono hW.size); replace HR := HR.grow hB; replace HX := HX.grow hB; replace HS := HS.grow hB; replace HY := HY.grow hB; replace HU := HU.grow hB; replace HI := HI.grow hB; replace HM := HM.grow hB; replace HN := HN.grow hB; replace HD := HD.grow hB; clear hB) | (go_at_call 26; (with_reducible refine (docUnion_c HX HY HR.fit HS.fit).mono ?_); rintro e ww ⟨d26, rfl, hD⟩; dsimp only; have hB := hD.low; have HD := hD.row; clear hD; replace hT := hT.grow hB; replace hv3 := hv3.grow hB; replace hv4 := hv4.grow hB; replace hW := hW.trans (hB.mono hW.size); replace HR := HR.grow hB; replace HX := HX.grow hB; replace HS := HS.grow hB; replace HY := HY.grow hB; replace HU := HU.grow hB; replace HI := HI.grow hB; replace HM := HM.grow hB; replace HN := HN.grow hB; clear hB))
    clear HD HU
    go_upto_region 16 with (first | (go_at_call 11; (with_reducible refine (is_c HI HD hT).mono ?_); rintro e ww ⟨rfl, hB⟩; dsimp only; replace hT := hT.grow hB; replace hv3 := hv3.grow hB; replace hv4 := hv4.grow hB; replace hW := hW.trans (hB.mono hW.size); replace HR := HR.grow hB; replace HX := HX.grow hB; replace HS := HS.grow hB; replace HY := HY.grow hB; replace HI := HI.grow hB; replace HM := HM.grow hB; replace HN := HN.grow hB; replace HD := HD.grow hB; clear hB) | (go_at_call 27; (with_reducible refine (docInter_c HX HY HR.fit HS.fit).mono ?_); rintro e ww ⟨d27, rfl, hD⟩; dsimp only; have hB := hD.low; have HD := hD.row; clear hD; replace hT := hT.grow hB; replace hv3 := hv3.grow hB; replace hv4 := hv4.grow hB; replace hW := hW.trans (hB.mono hW.size); replace HR := HR.grow hB; replace HX := HX.grow hB; replace HS := HS.grow hB; replace HY := HY.grow hB; replace HI := HI.grow hB; replace HM := HM.grow hB; replace HN := HN.grow hB; clear hB))
    clear HD HI
    go_upto_region 17 with (first | (go_at_call 11; (with_reducible refine (is_c HM HD hT).mono ?_); rintro e ww ⟨rfl, hB⟩; dsimp only; replace hT := hT.grow hB; replace hv3 := hv3.grow hB; replace hv4 := hv4.grow hB; replace hW := hW.trans (hB.mono hW.size); replace HR := HR.grow hB; replace HX := HX.grow hB; replace HS := HS.grow hB; replace HY := HY.grow hB; replace HM := HM.grow hB; replace HN := HN.grow hB; replace HD := HD.grow hB; clear hB) | (go_at_call 28; (with_reducible refine (docMinus_c HX HY HR.fit HS.fit).mono ?_); rintro e ww ⟨d28, rfl, hD⟩; dsimp only; have hB := hD.low; have HD := hD.row; clear hD; replace hT := hT.grow hB; replace hv3 := hv3.grow hB; replace hv4 := hv4.grow hB; replace hW := hW.trans (hB.mono hW.size); replace HR := HR.grow hB; replace HX := HX.grow hB; replace HS := HS.grow hB; replace HY := HY.grow hB; replace HM := HM.grow hB; replace HN := HN.grow hB; clear hB))
    clear HD HM
    go_upto_region 18 with (first | (go_at_call 11; (with_reducible refine (is_c HN HD hT).mono ?_); rintro e ww ⟨rfl, hB⟩; dsimp only; replace hT := hT.grow hB; replace hv3 := hv3.grow hB; replace hv4 := hv4.grow hB; replace hW := hW.trans (hB.mono hW.size); replace HR := HR.grow hB; replace HX := HX.grow hB; replace HS := HS.grow hB; replace HY := HY.grow hB; replace HN := HN.grow hB; replace HD := HD.grow hB; clear hB) | (go_at_call 29; (with_reducible refine (docThen_c HX HY HR.fit HS.fit).mono ?_); rintro e ww ⟨d29, rfl, hD⟩; dsimp only; have hB := hD.low; have HD := hD.row; clear hD; replace hT := hT.grow hB; replace hv3 := hv3.grow hB; replace hv4 := hv4.grow hB; replace hW := hW.trans (hB.mono hW.size); replace HR := HR.grow hB; replace HX := HX.grow hB; replace HS := HS.grow hB; replace HY := HY.grow hB; replace HN := HN.grow hB; clear hB))
    clear HD HN
    go_upto_region 19 with (first | (go_at_call 11; (with_reducible refine (is_c HR HX hT).mono ?_); rintro e ww ⟨rfl, hB⟩; dsimp only; replace hT := hT.grow hB; replace hv3 := hv3.grow hB; replace hv4 := hv4.grow hB; replace hW := hW.trans (hB.mono hW.size); replace HR := HR.grow hB; replace HX := HX.grow hB; replace HS := HS.grow hB; replace HY := HY.grow hB; clear hB))
    go_upto_region 20 with (first | (go_at_call 11; (with_reducible refine (is_c HS HY hT).mono ?_); rintro e ww ⟨rfl, hB⟩; dsimp only; replace hT := hT.grow hB; replace hv3 := hv3.grow hB; replace hv4 := hv4.grow hB; replace hW := hW.trans (hB.mono hW.size); replace HR := HR.grow hB; replace HX := HX.grow hB; replace HS := HS.grow hB; replace HY := HY.grow hB; clear hB))
    clear HS HY
    have hmk := marks_c hp hv3
    go_upto_region 21 with (first | (go_at_call 30; (with_reducible refine hmk.mono ?_); rintro e wm ⟨gf, f, rfl, hBI⟩; dsimp only))
    clear hmk
    have hF0 : ∀ a, a < p → wm.cell? ⟨gf, a, none⟩ = some (.bool (f a)) := fun a ha => (hBI.cell ha).1
    have hB := hBI.low.trans ((below_alloc wm (Obj.cells #[.slice (some ⟨gf, 0, none⟩) p p] 50)).mono hBI.low.size)
    have hsc : (wm.alloc (Obj.cells #[.slice (some ⟨gf, 0, none⟩) p p] 50)).cell? ⟨wm.heap.size, 0, none⟩ = some (.slice (some ⟨gf, 0, none⟩) p p) := by rw [cell_of_row _ _ _ _ _ _ (World.alloc_heap_new wm _)]; rfl
    have hF1 : ∀ a, a < p → (wm.alloc (Obj.cells #[.slice (some ⟨gf, 0, none⟩) p p] 50)).cell? ⟨gf, a, none⟩ = some (.bool (f a)) := fun a ha => by rw [(below_alloc wm _).cell (World.block_lt_of_cell? wm _ (hF0 a ha))]; exact hF0 a ha
    generalize wm.alloc (Obj.cells #[.slice (some ⟨gf, 0, none⟩) p p] 50) = wA at *
    generalize wm.heap.size = sb at *
    replace hT := hT.grow hB; replace hv4 := hv4.grow hB; replace hW := hW.trans (hB.mono hW.size); replace HR := HR.grow hB; replace HX := HX.grow hB
    clear hB hBI hF0 hv3
    have hmk := marks_c hp hv4
    go_upto_region 22 with (first | (go_at_call 30; (with_reducible refine hmk.mono ?_); rintro e wm ⟨gg, g, rfl, hBI⟩; dsimp only))
    clear hmk
    have hG0 : ∀ a, a < p → wm.cell? ⟨gg, a, none⟩ = some (.bool (g a)) := fun a ha => (hBI.cell ha).1
    have hB := hBI.low.trans ((below_alloc wm (Obj.cells #[.slice (some ⟨gg, 0, none⟩) p p] 50)).mono hBI.low.size)
    have hdc : (wm.alloc (Obj.cells #[.slice (some ⟨gg, 0, none⟩) p p] 50)).cell? ⟨wm.heap.size, 0, none⟩ = some (.slice (some ⟨gg, 0, none⟩) p p) := by rw [cell_of_row _ _ _ _ _ _ (World.alloc_heap_new wm _)]; rfl
    have hG1 : ∀ a, a < p → (wm.alloc (Obj.cells #[.slice (some ⟨gg, 0, none⟩) p p] 50)).cell? ⟨gg, a, none⟩ = some (.bool (g a)) := fun a ha => by rw [(below_alloc wm _).cell (World.block_lt_of_cell? wm _ (hG0 a ha))]; exact hG0 a ha
    generalize wm.alloc (Obj.cells #[.slice (some ⟨gg, 0, none⟩) p p] 50) = wB at *
    generalize wm.heap.size = db at *
    replace hT := hT.grow hB; replace hW := hW.trans (hB.mono hW.size); replace HR := HR.grow hB; replace HX := HX.grow hB
    have hsc2 : wB.cell? ⟨sb, 0, none⟩ = some (.slice (some ⟨gf, 0, none⟩) p p) := by rw [hB.cell (World.block_lt_of_cell? wA _ hsc)]; exact hsc
    have hF2 : ∀ a, a < p → wB.cell? ⟨gf, a, none⟩ = some (.bool (f a)) := fun a ha => by rw [hB.cell (World.block_lt_of_cell? wA _ (hF1 a ha))]; exact hF1 a ha
    clear hB hBI hG0 hv4 hsc hF1
    have uF : ∀ w1, Below wB.heap.size wB w1 → ∀ a, a < p → w1.cell? ⟨gf, a, none⟩ = some (.bool (f a)) := fun w1 h a ha => by rw [h.cell (World.block_lt_of_cell? wB _ (hF2 a ha))]; exact hF2 a ha
    have uG : ∀ w1, Below wB.heap.size wB w1 → ∀ a, a < p → w1.cell? ⟨gg, a, none⟩ = some (.bool (g a)) := fun w1 h a ha => by rw [h.cell (World.block_lt_of_cell? wB _ (hG1 a ha))]; exact hG1 a ha
    have uS : ∀ w1, Below wB.heap.size wB w1 → w1.cell? ⟨sb, 0, none⟩ = some (.slice (some ⟨gf, 0, none⟩) p p) := fun w1 h => by rw [h.cell (World.block_lt_of_cell? wB _ hsc2)]; exact hsc2
    have uD : ∀ w1, Below wB.heap.size wB w1 → w1.cell? ⟨db, 0, none⟩ = some (.slice (some ⟨gg, 0, none⟩) p p) := fun w1 h => by rw [h.cell (World.block_lt_of_cell? wB _ hdc)]; exact hdc
    have k32 : ∀ w1, Below wB.heap.size wB w1 → ∀ a, a < p → ∀ w2, Below w1.heap.size w1 w2 → Calls Tryd.prog 59 #[.func (.func 32) #[] #[ptr sb 0], vI a] w2 fun e w' => e = .returned (.bool (f a)) ∧ Below w2.heap.size w2 w' := fun w1 h1 a ha w2 h2 => says_c32 fun w3 h3 => (clo_c (uS w3 ((h1.trans (h2.mono h1.size)).trans (h3.mono (Nat.le_trans h1.size h2.size)))) ha (uF w3 ((h1.trans (h2.mono h1.size)).trans (h3.mono (Nat.le_trans h1.size h2.size))) a ha)).1
    have k33 : ∀ w1, Below wB.heap.size wB w1 → ∀ a, a < p → ∀ w2, Below w1.heap.size w1 w2 → Calls Tryd.prog 59 #[.func (.func 33) #[] #[ptr db 0], vI a] w2 fun e w' => e = .returned (.bool (g a)) ∧ Below w2.heap.size w2 w' := fun w1 h1 a ha w2 h2 => says_c33 fun w3 h3 => (clo_c (uD w3 ((h1.trans (h2.mono h1.size)).trans (h3.mono (Nat.le_trans h1.size h2.size)))) ha (uG w3 ((h1.trans (h2.mono h1.size)).trans (h3.mono (Nat.le_trans h1.size h2.size))) a ha)).2.1
    have k35 : ∀ w1, Below wB.heap.size wB w1 → ∀ a, a < p → ∀ w2, Below w1.heap.size w1 w2 → Calls Tryd.prog 59 #[.func (.func 35) #[] #[ptr db 0], vI a] w2 fun e w' => e = .returned (.bool (g a)) ∧ Below w2.heap.size w2 w' := fun w1 h1 a ha w2 h2 => says_c35 fun w3 h3 => (clo_c (uD w3 ((h1.trans (h2.mono h1.size)).trans (h3.mono (Nat.le_trans h1.size h2.size)))) ha (uG w3 ((h1.trans (h2.mono h1.size)).trans (h3.mono (Nat.le_trans h1.size h2.size))) a ha)).2.2
    clear hsc2 hF2 hdc hG1
    have hmf : ∀ (fn : Fn) (first cap : Array Value) (w : World), (Instr.makeFunc fn first cap).run Tryd.prog w = .ok (.func fn first cap) w := fun _ _ _ _ => rfl
    have hkp := kept_c HR hT (k32 wB (Below.refl _ _)) (k33 wB (Below.refl _ _))
    go_upto_region 23 with (first | (go_at_call 31; (with_reducible refine hkp.mono ?_); rintro e wC ⟨rfl, HK, hBC⟩; dsimp only))
    clear hkp
    replace hT := hT.grow hBC; replace hW := hW.trans (hBC.mono hW.size); replace HR := HR.grow hBC; replace HX := HX.grow hBC
    have uS1 := uS wC hBC
    have uD1 := uD wC hBC
    have hdk := docKept_c (f := f) (g := g) HX HR.fit (fun w1 h => uF w1 (hBC.trans (h.mono hBC.size))) (fun w1 h => uG w1 (hBC.trans (h.mono hBC.size)))
    go_upto_region 24 with (first | (go_at_call 34; (with_reducible refine hdk.mono ?_); rintro e wD ⟨td, rfl, hD⟩; dsimp only; have his := is_c (HK.grow hD.low) hD.row (hT.grow hD.low)) | (go_at_call 11; (with_reducible refine his.mono ?_); rintro e wE ⟨rfl, hBE⟩; dsimp only))
    have hCE : Below wC.heap.size wC wE := hD.low.trans (hBE.mono hD.low.size)
    have hBB : Below wB.heap.size wB wE := hBC.trans (hCE.mono hBC.size)
    replace hT := hT.grow hCE; replace hW := hW.trans (hCE.mono hW.size); replace HR := HR.grow hCE; replace HX := HX.grow hCE
    clear hdk his hD hBE hCE HK uS1 uD1 hBC k32 k33 uF uS
    have kc : ∀ w1, JC g R wE p 0 none w1 → Calls Tryd.prog 31 #[ptr r 0, .nilFunc, .func (.func 35) #[] #[ptr db 0]] w1 fun e w' => e = .returned (ptr wE.heap.size 0) ∧ JC g R wE p 1 none w' := fun w1 hC => by
      have e : w1.heap.size = wE.heap.size := congrArg Array.size hC.1
      refine (kept_c (f := fun _ => true) (g := g) (HR.grow hC.2) (hT.grow hC.2) (fun a ha w2 h2 => says_nil a w2) (k35 w1 (hBB.trans (hC.2.mono hBB.size)))).mono fun e2 w2 ⟨q1, q2, q3⟩ => ?_
      rw [e] at q1 q2 q3
      refine ⟨q1, q2, hC.2.trans ?_⟩
      exact q3
    have dk : ∀ w1, JC g R wE p 1 none w1 → Calls Tryd.prog 34 #[ptr x 0, .slice none 0 0, .slice (some ⟨gg, 0, none⟩) p p] w1 fun e w' => ∃ v, e = .returned v ∧ JC g R wE p 2 (some v) w' := fun w1 hC => by
      refine (docKept_n (f := fun _ => true) (g := g) (HX.grow hC.2) HR.fit (fun _ => rfl) (fun w2 h => uG w2 ((hBB.trans (hC.2.mono hBB.size)).trans (h.mono (Nat.le_trans hBB.size hC.2.size))))).mono fun e2 w2 ⟨t, q1, q2⟩ => ?_
      exact ⟨_, q1, t, rfl, hC.1.grow q2.low, q2.row, hC.2.trans (q2.low.mono hC.2.size)⟩
    have hst : (JC g R wE p) 0 none { wE with drawn := wE.drawn + 1 } := ⟨rfl, Rel.below_draws (n := 1) (Below.refl _ _)⟩
    refine Chn.wp_region_chainX (JC g R wE p) [2, 5, 6] [3, 3, 3, 3, 1, 3, 3, 3] 5 (fun u => [ptr r 0, .func (.func 35) #[] #[ptr db 0], ptr wE.heap.size 0, ptr x 0, .slice (some ⟨gg, 0, none⟩) p p, u, .bool true, .bool true]) (by kernel_rfl) (by kernel_rfl) (by kernel_rfl) (by kernel_rfl) (by kernel_rfl) (by kernel_rfl) (fun v q hq => by match q, hq with | 0, _ => rfl | 1, _ => rfl | 2, _ => rfl | 3, _ => rfl | 4, _ => rfl | 6, _ => rfl | 7, _ => rfl | n + 8, _ => rfl) (fun v => rfl) (by decide) hst ?_
    intro u
    iterate 2 (refine ⟨fun j ou w1 hj hn hC => by exact Chn.upon_pure hC (fun F hF => by (go_simp <;> exact hF)), ?_⟩; simp only [Act.put, List.setIfInBounds_toArray, List.set_cons_succ, List.set_cons_zero])
    refine ⟨fun ou w1 hn hC => by
      match ou, hC with
      | none, hC => exact Chn.upon_call (C := JC g R wE p 1 none) (kc w1 hC) (fun e2 w2 hh => hh) (fun F hF => by (go_simp <;> exact hF)), ?_⟩
    simp only [Act.put, List.setIfInBounds_toArray, List.set_cons_succ, List.set_cons_zero]
    refine ⟨fun j ou w1 hj hn hC => by exact Chn.upon_pure hC (fun F hF => by (go_simp <;> exact hF)), ?_⟩
    simp only [Act.put, List.setIfInBounds_toArray, List.set_cons_succ, List.set_cons_zero]
    refine ⟨fun j ou w1 hj hn hC => by
      have z := uD w1 (hBB.trans ((jc_low hC).mono hBB.size))
      exact Chn.upon_pure hC (fun F hF => by (go_simp <;> exact hF)), ?_⟩
    simp only [Act.put, List.setIfInBounds_toArray, List.set_cons_succ, List.set_cons_zero]
    refine ⟨fun w1 hC => by
      have hd := dk w1 hC
      go_simp <;> exact hd, ?_⟩
    simp only [Act.put, List.setIfInBounds_toArray, List.set_cons_succ, List.set_cons_zero]
    refine ⟨fun ou w1 hn hC => by
      obtain rfl := hn (by kernel_rfl)
      obtain ⟨t, rfl, HK, HD, hb⟩ := hC
      exact Chn.upon_call (C := JC g R wE p 3 (some (ptr t 0))) (is_c HK HD (hT.grow hb)) (fun e2 w2 hh => ⟨hh.1, hb.trans (hh.2.mono hb.size)⟩) (fun F hF => by (go_simp <;> exact hF)), ?_⟩
    simp only [Act.put, List.setIfInBounds_toArray, List.set_cons_succ, List.set_cons_zero]
    refine ⟨fun j ou w1 hj hn hC => by exact Chn.upon_pure hC (fun F hF => by (go_simp <;> exact hF)), ?_⟩
    simp only [Act.put, List.setIfInBounds_toArray, List.set_cons_succ, List.set_cons_zero]
    intro w5 hC
    have hB5 : Below wE.heap.size wE w5 := hC
    replace hW := hW.trans (hB5.mono hW.size)
    clear hC hB5
    go_wp2
    go_ret
    exact ⟨rfl, hW⟩

theorem joins_walk (n m : Int) {v1 v2 v3 v4 : Value} {p1 p2 : List (Int × Int)} {z3 z4 : List Int} {w : World} (hv1 : Prs w v1 p1) (hv2 : Prs w v2 p2) (hv3 : RawI w v3 z3) (hv4 : RawI w v4 z4) (hT : Tab w) : Calls Tryd.prog 4 #[vI n, vI m, v1, v2, v3, v4] w fun e w' => e = .returned (.bool true) ∧ Below w.heap.size w w' := by
  by_cases hn : newE n = 0
  · obtain ⟨p, rfl, hp⟩ := new_nat hn
    by_cases hm : newE m = 0
    · obtain ⟨q, rfl, hq⟩ := new_nat hm
      by_cases hpq : p = q
      · subst hpq; exact joins_main hp hv1 hv2 hv3 hv4 hT
      · exact joins_apart hp hq hpq hv1 hv2 hv3 hv4 hT
    · exact joins_ob hp hm hv1 hv2 hv3 hv4 hT
  · by_cases hm : newE m = 0
    · obtain ⟨q, rfl, hq⟩ := new_nat hm
      exact joins_bo hn hq hv1 hv2 hv3 hv4 hT
    · exact joins_bb hn hm hv1 hv2 hv3 hv4 hT
end Go.Proofs.YtfgbhdcoemkdoaaDoor
