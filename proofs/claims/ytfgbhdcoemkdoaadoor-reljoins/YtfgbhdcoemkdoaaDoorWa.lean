/- The document's Turned. -/
import Derived.Test.YtfgbhdcoemkdoaaDoorUb
import Derived.Test.YtfgbhdcoemkdoaaDoorChg
namespace Go.Proofs.YtfgbhdcoemkdoaaDoor
open Go.RowKit
set_option linter.unusedVariables false
set_option linter.unusedSimpArgs false
set_option maxRecDepth 8000

open Rlw
/-- A relation of the document's that is one's own. -/
structure DI (w : World) (t n : Nat) (T : Nat → Nat → Bool) (W : World) : Prop where
  row : RefAt t n T W
  low : Below w.heap.size w W
  own : w.heap.size ≤ t
section
variable {w W W' : World} {t n : Nat} {T U : Nat → Nat → Bool}
theorem DI.grow (h : DI w t n T W) (hb : Below W.heap.size W W') : DI w t n T W' := ⟨h.row.grow hb, h.low.trans (hb.mono h.low.size), h.own⟩
theorem DI.put (h : DI w t n T W) {a b : Nat} (ha : a < 64) (hb : b < 64) (v : Bool) : DI w t n (upT T a b v) (W.setCell ⟨t, 1 + a * 64 + b, none⟩ (.bool v)) := ⟨h.row.put ha hb v, h.low.setCell (p := ⟨t, 1 + a * 64 + b, none⟩) h.own _, h.own⟩
theorem DI.run (h : DI w t n T W) {a b : Nat} (ha : a < 64) (hb : b < 64) (v : Bool) : (storeVar 4 ⟨t, 1 + a * 64 + b, none⟩ (.bool v)).run Tryd.prog W = .ok () (W.setCell ⟨t, 1 + a * 64 + b, none⟩ (.bool v)) :=
  run_cell W 4 _ _ _ _ (by kernel_rfl) rfl rfl (h.row.cell ha hb) (h.row.frz _)
theorem DI.to (h : DI w t n T W) (e : T = U) : DI w t n U W := e ▸ h
end
/-- The table as far as it is filled: the rows below k, and of row k those below j. -/
def dT (G : Nat → Nat → Bool) (k j : Nat) : Nat → Nat → Bool := fun x y => (decide (x < k) || (decide (x = k) && decide (y < j))) && G x y
theorem dT_zero (G : Nat → Nat → Bool) : (fun _ _ => false) = dT G 0 0 := by funext x y; simp [dT]
theorem dT_put (G : Nat → Nat → Bool) (k j : Nat) : upT (dT G k j) k j (G k j) = dT G k (j + 1) := by
  funext x y
  unfold upT dT
  by_cases e : x = k ∧ y = j
  · obtain ⟨rfl, rfl⟩ := e; simp
  · rw [if_neg e]
    by_cases e1 : x = k
    · have e2 : y ≠ j := fun h => e ⟨e1, h⟩
      have : decide (y < j) = decide (y < j + 1) := decide_eq_decide.2 (by omega)
      rw [this]
    · simp [e1]
theorem dT_next {G : Nat → Nat → Bool} {n : Nat} (h : Fits n G) (k : Nat) : dT G k n = dT G (k + 1) 0 := by
  funext x y
  unfold dT
  cases e : G x y with
  | false => simp
  | true =>
    have hy := (h x y e).2
    rw [decide_eq_true hy, Bool.and_true, Bool.and_true, Bool.and_true]
    by_cases h1 : x < k
    · simp [h1]; omega
    · by_cases h2 : x = k
      · simp [h2]
      · simp [h1, h2]; omega
theorem dT_end {G : Nat → Nat → Bool} {n : Nat} (h : Fits n G) : dT G n 0 = G := by
  funext x y
  unfold dT
  cases e : G x y with
  | false => simp
  | true => simp [(h x y e).1]
theorem tuT_put (G : Nat → Nat → Bool) (k j : Nat) : upT (tuR (dT G k j)) j k (G k j) = tuR (dT G k (j + 1)) := by
  rw [← dT_put]
  funext x y
  show (if x = j ∧ y = k then G k j else dT G k j y x) = (if y = k ∧ x = j then G k j else dT G k j y x)
  by_cases e : x = j ∧ y = k
  · rw [if_pos e, if_pos ⟨e.2, e.1⟩]
  · rw [if_neg e, if_neg (fun h => e ⟨h.2, h.1⟩)]
set_option maxHeartbeats 4000000 in
theorem docTurned_c {x n : Nat} {T : Nat → Nat → Bool} {w : World} (H : RefAt x n T w) (hf : Fits n T) : Calls Tryd.prog 14 #[ptr x 0] w fun e w' => ∃ t, e = .returned (ptr t 0) ∧ DI w t n (tuR T) w' := by
  have hfit : Fits n (T) := hf
  have hle := H.le
  have c0 := H.c0
  go_enter Tryd.func14, Tryd.ntmps14
  go_upto_region 2 with (first | (with_reducible refine wpList_new38 rfl _ rfl n rfl ?_; simp only [Act.put, List.setIfInBounds_toArray, List.set_cons_succ, List.set_cons_zero]) | (with_reducible refine wpList_box38 rfl _ rfl n hle (fun _ _ => false) rfl ?_; intro w1 hR hB hsz; simp only [Act.put, List.setIfInBounds_toArray, List.set_cons_succ, List.set_cons_zero]))
  have hD0 : DI w w.heap.size n (tuR (dT (T) 0 0)) w1 := ⟨hR.congr fun a b _ _ => by first | exact congrFun (congrFun (dT_zero _) a) b | exact congrFun (congrFun (dT_zero _) b) a, hB, Nat.le_refl _⟩
  generalize ht : w.heap.size = t at hD0
  have hto : w.heap.size = t := ht
  clear hR hB hsz c0
  go_wp2
  go_loopw [4] (fun sa wr => ∃ k : Nat, k ≤ n ∧ sa = vI k ∧ Hid (DI w t n (tuR (dT (T) k 0)) wr)) (fun sa _ => 64 - (intOf sa).toNat)
  case atStart => exact ⟨0, Nat.zero_le _, rfl, hD0⟩
  case round =>
    obtain ⟨k, hkn, rfl, hH⟩ := hrel
    have hD := hH.out
    clear hH hD0
    have c0 := (H.grow hD.low).c0
    by_cases hlt : (k : Int) < n
    · have hkl : k < n := by omega
      have hk64 : k < 64 := by omega
      go_wp2
      clear c0
      go_loopw [5] (fun sb wr => ∃ j : Nat, j ≤ n ∧ sb = vI j ∧ Hid (DI w t n (tuR (dT (T) k j)) wr)) (fun sb _ => 64 - (intOf sb).toNat)
      case atStart => exact ⟨0, Nat.zero_le _, rfl, hD⟩
      case round =>
        obtain ⟨j, hjn, rfl, hH⟩ := hrel
        clear hD
        have hD := hH.out
        clear hH
        have c0 := (H.grow hD.low).c0
        by_cases hlt2 : (j : Int) < n
        · have hjl : j < n := by omega
          have hj64 : j < 64 := by omega
          have hk64i : (k : Int) < 64 := by omega
          have hj64i : (j : Int) < 64 := by omega
          go_upto_region 8 with fail
          have hst : (StC wr (fun w1 => DI w t n (tuR (dT (T) k (j + 1))) w1)) 0 { wr with drawn := wr.drawn + 1 } := Rel.below_draws (n := 1) (Below.refl _ _)
          refine Chg.wp_region_chainG (StC wr (fun w1 => DI w t n (tuR (dT (T) k (j + 1))) w1)) [15] [1, 1, 1, 1, 1, 1, 1, 1, 1, 1, 0, 1, 1, 1, 1, 1] [ptr t 0, vI j, vI k, ptr x 0, vI k, vI j, ptr x 0, ptr x 1, ptr x (1 + k * 64), ptr x (1 + k * 64 + j), .bool (T k j), ptr t 0, ptr t 1, ptr t (1 + j * 64), ptr t (1 + j * 64 + k), undef] (by kernel_rfl) (by kernel_rfl) (by kernel_rfl) (by kernel_rfl) (by kernel_rfl) hst ?_
          clear hst
          refine ⟨fun j w1 hj hC => Chg.uponW_yes (by rfl) (by exact Chn.upon_pure hC (fun F hF => by (go_simp <;> exact hF))), ?_⟩
          simp only [Act.put, List.setIfInBounds_toArray, List.set_cons_succ, List.set_cons_zero]
          refine ⟨fun j w1 hj hC => Chg.uponW_yes (by rfl) (by exact Chn.upon_pure hC (fun F hF => by (go_simp <;> exact hF))), ?_⟩
          simp only [Act.put, List.setIfInBounds_toArray, List.set_cons_succ, List.set_cons_zero]
          refine ⟨fun j w1 hj hC => Chg.uponW_yes (by rfl) (by exact Chn.upon_pure hC (fun F hF => by (go_simp <;> exact hF))), ?_⟩
          simp only [Act.put, List.setIfInBounds_toArray, List.set_cons_succ, List.set_cons_zero]
          refine ⟨fun j w1 hj hC => Chg.uponW_yes (by rfl) (by exact Chn.upon_pure hC (fun F hF => by (go_simp <;> exact hF))), ?_⟩
          simp only [Act.put, List.setIfInBounds_toArray, List.set_cons_succ, List.set_cons_zero]
          refine ⟨fun j w1 hj hC => Chg.uponW_yes (by rfl) (by exact Chn.upon_pure hC (fun F hF => by (go_simp <;> exact hF))), ?_⟩
          simp only [Act.put, List.setIfInBounds_toArray, List.set_cons_succ, List.set_cons_zero]
          refine ⟨fun j w1 hj hC => Chg.uponW_yes (by rfl) (by exact Chn.upon_pure hC (fun F hF => by (go_simp <;> exact hF))), ?_⟩
          simp only [Act.put, List.setIfInBounds_toArray, List.set_cons_succ, List.set_cons_zero]
          refine ⟨fun j w1 hj hC => Chg.uponW_yes (by rfl) (by exact Chn.upon_pure hC (fun F hF => by (go_simp <;> exact hF))), ?_⟩
          simp only [Act.put, List.setIfInBounds_toArray, List.set_cons_succ, List.set_cons_zero]
          refine ⟨fun j w1 hj hC => Chg.uponW_yes (by rfl) (by exact Chn.upon_pure hC (fun F hF => by (go_simp <;> exact hF))), ?_⟩
          simp only [Act.put, List.setIfInBounds_toArray, List.set_cons_succ, List.set_cons_zero]
          refine ⟨fun j w1 hj hC => Chg.uponW_yes (by rfl) (by exact Chn.upon_pure hC (fun F hF => by (go_simp <;> exact hF))), ?_⟩
          simp only [Act.put, List.setIfInBounds_toArray, List.set_cons_succ, List.set_cons_zero]
          refine ⟨fun j w1 hj hC => Chg.uponW_yes (by rfl) (by exact Chn.upon_pure hC (fun F hF => by (go_simp <;> exact hF))), ?_⟩
          simp only [Act.put, List.setIfInBounds_toArray, List.set_cons_succ, List.set_cons_zero]
          refine ⟨fun j w1 hj hC => Chg.uponW_yes (by rfl) (by
            have z := ((H.grow hD.low).grow (stC_low hj hC)).cell hk64 hj64
            exact Chn.upon_pure hC (fun F hF => by (go_simp <;> exact hF))), ?_⟩
          simp only [Act.put, List.setIfInBounds_toArray, List.set_cons_succ, List.set_cons_zero]
          refine ⟨fun j w1 hj hC => Chg.uponW_yes (by rfl) (by exact Chn.upon_pure hC (fun F hF => by (go_simp <;> exact hF))), ?_⟩
          simp only [Act.put, List.setIfInBounds_toArray, List.set_cons_succ, List.set_cons_zero]
          refine ⟨fun j w1 hj hC => Chg.uponW_yes (by rfl) (by exact Chn.upon_pure hC (fun F hF => by (go_simp <;> exact hF))), ?_⟩
          simp only [Act.put, List.setIfInBounds_toArray, List.set_cons_succ, List.set_cons_zero]
          refine ⟨fun j w1 hj hC => Chg.uponW_yes (by rfl) (by exact Chn.upon_pure hC (fun F hF => by (go_simp <;> exact hF))), ?_⟩
          simp only [Act.put, List.setIfInBounds_toArray, List.set_cons_succ, List.set_cons_zero]
          refine ⟨fun j w1 hj hC => Chg.uponW_yes (by rfl) (by exact Chn.upon_pure hC (fun F hF => by (go_simp <;> exact hF))), ?_⟩
          simp only [Act.put, List.setIfInBounds_toArray, List.set_cons_succ, List.set_cons_zero]
          refine ⟨fun w1 hC => Chg.uponW_yes (by rfl) (by
            exact chn_store (C := (StC wr (fun w1 => DI w t n (tuR (dT (T) k (j + 1))) w1)) 1) 4 _ _ rfl t (1 + j * 64 + k) rfl (.bool (T k j)) rfl ((hD.grow hC).run hj64 hk64 _) (((hD.grow hC).put hj64 hk64 (T k j)).to (tuT_put T k j))), ?_⟩
          simp only [Act.put, List.setIfInBounds_toArray, List.set_cons_succ, List.set_cons_zero]
          intro w5 hC
          have hD2 : DI w t n (tuR (dT (T) k (j + 1))) w5 := hC
          clear hC hD c0
          go_wp2
          go_roundw
          case rel => exact ⟨j + 1, by omega, by go_num, hD2⟩
          case measure => simp [intOf]; omega
        · obtain rfl : j = n := by omega
          have hD2 : DI w t j (tuR (dT (T) (k + 1) 0)) wr := hD.to (by rw [dT_next hfit])
          go_wp2
          go_roundw
          case rel => exact ⟨k + 1, by omega, by go_num, hD2⟩
          case measure => simp [intOf]; omega
    · obtain rfl : k = n := by omega
      have hD2 : DI w t k (tuR T) wr := hD.to (by rw [dT_end hfit])
      go_wp2
      go_ret
      exact ⟨t, rfl, hD2⟩
end Go.Proofs.YtfgbhdcoemkdoaaDoor
