/- The document's Union, Inter, Minus. -/
import Derived.Test.YtfgbhdcoemkdoaaDoorWa
namespace Go.Proofs.YtfgbhdcoemkdoaaDoor
open Go.RowKit
set_option linter.unusedVariables false
set_option linter.unusedSimpArgs false
set_option maxRecDepth 8000

open Rlw
set_option maxHeartbeats 4000000 in
theorem docUnion_c {x y n : Nat} {T S : Nat → Nat → Bool} {w : World} (H : RefAt x n T w) (K : RefAt y n S w) (hf : Fits n T) (hg : Fits n S) : Calls Tryd.prog 26 #[ptr x 0, ptr y 0] w fun e w' => ∃ t, e = .returned (ptr t 0) ∧ DI w t n (unR T S) w' := by
  have hfit : Fits n (unR T S) := hf.un hg
  have hle := H.le
  have c0 := H.c0
  go_enter Tryd.func26, Tryd.ntmps26
  go_upto_region 2 with (first | (with_reducible refine wpList_new38 rfl _ rfl n rfl ?_; simp only [Act.put, List.setIfInBounds_toArray, List.set_cons_succ, List.set_cons_zero]) | (with_reducible refine wpList_box38 rfl _ rfl n hle (fun _ _ => false) rfl ?_; intro w1 hR hB hsz; simp only [Act.put, List.setIfInBounds_toArray, List.set_cons_succ, List.set_cons_zero]))
  have hD0 : DI w w.heap.size n (dT (unR T S) 0 0) w1 := ⟨hR.congr fun a b _ _ => by first | exact congrFun (congrFun (dT_zero _) a) b | exact congrFun (congrFun (dT_zero _) b) a, hB, Nat.le_refl _⟩
  generalize ht : w.heap.size = t at hD0
  have hto : w.heap.size = t := ht
  clear hR hB hsz c0
  go_wp2
  go_loopw [6] (fun sa wr => ∃ k : Nat, k ≤ n ∧ sa = vI k ∧ Hid (DI w t n (dT (unR T S) k 0) wr)) (fun sa _ => 64 - (intOf sa).toNat)
  case atStart => exact ⟨0, Nat.zero_le _, rfl, hD0⟩
  case round =>
    obtain ⟨k, hkn, rfl, hH⟩ := hrel
    have hD := hH.out
    clear hH hD0
    have c0 := (H.grow hD.low).c0
    by_cases hlt : (k : Int) < n
    · have hkl : k < n := by omega
      have hk64 : k < 64 := by omega
      go_wp2
      clear c0
      go_loopw [7] (fun sb wr => ∃ j : Nat, j ≤ n ∧ sb = vI j ∧ Hid (DI w t n (dT (unR T S) k j) wr)) (fun sb _ => 64 - (intOf sb).toNat)
      case atStart => exact ⟨0, Nat.zero_le _, rfl, hD⟩
      case round =>
        obtain ⟨j, hjn, rfl, hH⟩ := hrel
        clear hD
        have hD := hH.out
        clear hH
        have c0 := (H.grow hD.low).c0
        by_cases hlt2 : (j : Int) < n
        · have hjl : j < n := by omega
          have hj64 : j < 64 := by omega
          have hk64i : (k : Int) < 64 := by omega
          have hj64i : (j : Int) < 64 := by omega
          cases hTk : T k j with
          | true =>
            have cx : ∀ w1, Below wr.heap.size wr w1 → w1.cell? ⟨x, 1 + k * 64 + j, none⟩ = some (.bool true) := fun w1 h1 => by rw [← hTk]; exact ((H.grow hD.low).grow h1).cell hk64 hj64
            have hG : (unR T S) k j = true := by simp [unR, inR, miR, hTk]
            have hput := dT_put (unR T S) k j
            rw [hG] at hput
            replace hput := show Hid _ from hput
            replace hTk := show Hid _ from hTk
            clear hG
            go_upto_region 8 with fail
            have hst : (StC wr (fun w1 => DI w t n (dT (unR T S) k (j + 1)) w1)) 0 { wr with drawn := wr.drawn + 1 } := Rel.below_draws (n := 1) (Below.refl _ _)
            refine Chg.wp_region_chainG (StC wr (fun w1 => DI w t n (dT (unR T S) k (j + 1)) w1)) [25] [1, 1, 1, 1, 1, 1, 1, 1, 1, 1, 0, 1, 1, 1, 1, 1, 1, 1, 1, 1, 1, 1, 1, 1, 1, 1] [ptr t 0, vI k, vI j, ptr x 0, vI k, vI j, ptr x 0, ptr x 1, ptr x (1 + k * 64), ptr x (1 + k * 64 + j), .bool true, .bool true, undef, undef, undef, undef, undef, undef, undef, undef, .bool true, ptr t 0, ptr t 1, ptr t (1 + k * 64), ptr t (1 + k * 64 + j), undef] (by kernel_rfl) (by kernel_rfl) (by kernel_rfl) (by kernel_rfl) (by kernel_rfl) hst ?_
            clear hst
            refine ⟨fun j w1 hj hC => Chg.uponW_yes (by rfl) (by exact Chn.upon_pure hC (fun F hF => by (go_simp <;> exact hF))), ?_⟩
            simp only [Act.put, List.setIfInBounds_toArray, List.set_cons_succ, List.set_cons_zero]
            refine ⟨fun j w1 hj hC => Chg.uponW_yes (by rfl) (by exact Chn.upon_pure hC (fun F hF => by (go_simp <;> exact hF))), ?_⟩
            simp only [Act.put, List.setIfInBounds_toArray, List.set_cons_succ, List.set_cons_zero]
            refine ⟨fun j w1 hj hC => Chg.uponW_yes (by rfl) (by exact Chn.upon_pure hC (fun F hF => by (go_simp <;> exact hF))), ?_⟩
            simp only [Act.put, List.setIfInBounds_toArray, List.set_cons_succ, List.set_cons_zero]
            refine ⟨fun j w1 hj hC => Chg.uponW_yes (by rfl) (by exact Chn.upon_pure hC (fun F hF => by (go_simp <;> exact hF))), ?_⟩
            simp only [Act.put, List.setIfInBounds_toArray, List.set_cons_succ, List.set_cons_zero]
            refine ⟨fun j w1 hj hC => Chg.uponW_yes (by rfl) (by exact Chn.upon_pure hC (fun F hF => by (go_simp <;> exact hF))), ?_⟩
            simp only [Act.put, List.setIfInBounds_toArray, List.set_cons_succ, List.set_cons_zero]
            refine ⟨fun j w1 hj hC => Chg.uponW_yes (by rfl) (by exact Chn.upon_pure hC (fun F hF => by (go_simp <;> exact hF))), ?_⟩
            simp only [Act.put, List.setIfInBounds_toArray, List.set_cons_succ, List.set_cons_zero]
            refine ⟨fun j w1 hj hC => Chg.uponW_yes (by rfl) (by exact Chn.upon_pure hC (fun F hF => by (go_simp <;> exact hF))), ?_⟩
            simp only [Act.put, List.setIfInBounds_toArray, List.set_cons_succ, List.set_cons_zero]
            refine ⟨fun j w1 hj hC => Chg.uponW_yes (by rfl) (by exact Chn.upon_pure hC (fun F hF => by (go_simp <;> exact hF))), ?_⟩
            simp only [Act.put, List.setIfInBounds_toArray, List.set_cons_succ, List.set_cons_zero]
            refine ⟨fun j w1 hj hC => Chg.uponW_yes (by rfl) (by exact Chn.upon_pure hC (fun F hF => by (go_simp <;> exact hF))), ?_⟩
            simp only [Act.put, List.setIfInBounds_toArray, List.set_cons_succ, List.set_cons_zero]
            refine ⟨fun j w1 hj hC => Chg.uponW_yes (by rfl) (by exact Chn.upon_pure hC (fun F hF => by (go_simp <;> exact hF))), ?_⟩
            simp only [Act.put, List.setIfInBounds_toArray, List.set_cons_succ, List.set_cons_zero]
            refine ⟨fun j w1 hj hC => Chg.uponW_yes (by rfl) (by
              have z := cx w1 (stC_low hj hC)
              exact Chn.upon_pure hC (fun F hF => by (go_simp <;> exact hF))), ?_⟩
            simp only [Act.put, List.setIfInBounds_toArray, List.set_cons_succ, List.set_cons_zero]
            refine ⟨fun j w1 hj hC => Chg.uponW_yes (by rfl) (by exact Chn.upon_pure hC (fun F hF => by (go_simp <;> exact hF))), ?_⟩
            simp only [Act.put, List.setIfInBounds_toArray, List.set_cons_succ, List.set_cons_zero]
            refine ⟨fun j w1 hj hC => Chg.uponW_no (by rfl) ⟨rfl, hC⟩, ?_⟩
            simp only [Act.put, List.setIfInBounds_toArray, List.set_cons_succ, List.set_cons_zero]
            refine ⟨fun j w1 hj hC => Chg.uponW_no (by rfl) ⟨rfl, hC⟩, ?_⟩
            simp only [Act.put, List.setIfInBounds_toArray, List.set_cons_succ, List.set_cons_zero]
            refine ⟨fun j w1 hj hC => Chg.uponW_no (by rfl) ⟨rfl, hC⟩, ?_⟩
            simp only [Act.put, List.setIfInBounds_toArray, List.set_cons_succ, List.set_cons_zero]
            refine ⟨fun j w1 hj hC => Chg.uponW_no (by rfl) ⟨rfl, hC⟩, ?_⟩
            simp only [Act.put, List.setIfInBounds_toArray, List.set_cons_succ, List.set_cons_zero]
            refine ⟨fun j w1 hj hC => Chg.uponW_no (by rfl) ⟨rfl, hC⟩, ?_⟩
            simp only [Act.put, List.setIfInBounds_toArray, List.set_cons_succ, List.set_cons_zero]
            refine ⟨fun j w1 hj hC => Chg.uponW_no (by rfl) ⟨rfl, hC⟩, ?_⟩
            simp only [Act.put, List.setIfInBounds_toArray, List.set_cons_succ, List.set_cons_zero]
            refine ⟨fun j w1 hj hC => Chg.uponW_no (by rfl) ⟨rfl, hC⟩, ?_⟩
            simp only [Act.put, List.setIfInBounds_toArray, List.set_cons_succ, List.set_cons_zero]
            refine ⟨fun j w1 hj hC => Chg.uponW_no (by rfl) ⟨rfl, hC⟩, ?_⟩
            simp only [Act.put, List.setIfInBounds_toArray, List.set_cons_succ, List.set_cons_zero]
            refine ⟨fun j w1 hj hC => Chg.uponW_yes (by rfl) (by exact Chn.upon_pure hC (fun F hF => by (go_simp <;> exact hF))), ?_⟩
            simp only [Act.put, List.setIfInBounds_toArray, List.set_cons_succ, List.set_cons_zero]
            refine ⟨fun j w1 hj hC => Chg.uponW_yes (by rfl) (by exact Chn.upon_pure hC (fun F hF => by (go_simp <;> exact hF))), ?_⟩
            simp only [Act.put, List.setIfInBounds_toArray, List.set_cons_succ, List.set_cons_zero]
            refine ⟨fun j w1 hj hC => Chg.uponW_yes (by rfl) (by exact Chn.upon_pure hC (fun F hF => by (go_simp <;> exact hF))), ?_⟩
            simp only [Act.put, List.setIfInBounds_toArray, List.set_cons_succ, List.set_cons_zero]
            refine ⟨fun j w1 hj hC => Chg.uponW_yes (by rfl) (by exact Chn.upon_pure hC (fun F hF => by (go_simp <;> exact hF))), ?_⟩
            simp only [Act.put, List.setIfInBounds_toArray, List.set_cons_succ, List.set_cons_zero]
            refine ⟨fun j w1 hj hC => Chg.uponW_yes (by rfl) (by exact Chn.upon_pure hC (fun F hF => by (go_simp <;> exact hF))), ?_⟩
            simp only [Act.put, List.setIfInBounds_toArray, List.set_cons_succ, List.set_cons_zero]
            refine ⟨fun w1 hC => Chg.uponW_yes (by rfl) (by
              exact chn_store (C := (StC wr (fun w1 => DI w t n (dT (unR T S) k (j + 1)) w1)) 1) 4 _ _ rfl t (1 + k * 64 + j) rfl (.bool true) rfl ((hD.grow hC).run hk64 hj64 _) (((hD.grow hC).put hk64 hj64 true).to hput.out)), ?_⟩
            simp only [Act.put, List.setIfInBounds_toArray, List.set_cons_succ, List.set_cons_zero]
            intro w5 hC
            have hD2 : DI w t n (dT (unR T S) k (j + 1)) w5 := hC
            clear hC hD c0
            go_wp2
            go_roundw
            case rel => exact ⟨j + 1, by omega, by go_num, hD2⟩
            case measure => simp [intOf]; omega
          | false =>
            have cx : ∀ w1, Below wr.heap.size wr w1 → w1.cell? ⟨x, 1 + k * 64 + j, none⟩ = some (.bool false) := fun w1 h1 => by rw [← hTk]; exact ((H.grow hD.low).grow h1).cell hk64 hj64
            have cy : ∀ w1, Below wr.heap.size wr w1 → w1.cell? ⟨y, 1 + k * 64 + j, none⟩ = some (.bool (S k j)) := fun w1 h1 => by exact ((K.grow hD.low).grow h1).cell hk64 hj64
            have hG : (unR T S) k j = (S k j) := by simp [unR, inR, miR, hTk]
            have hput := dT_put (unR T S) k j
            rw [hG] at hput
            replace hput := show Hid _ from hput
            replace hTk := show Hid _ from hTk
            clear hG
            generalize S k j = sv at cy hput
            go_upto_region 8 with fail
            have hst : (StC wr (fun w1 => DI w t n (dT (unR T S) k (j + 1)) w1)) 0 { wr with drawn := wr.drawn + 1 } := Rel.below_draws (n := 1) (Below.refl _ _)
            refine Chg.wp_region_chainG (StC wr (fun w1 => DI w t n (dT (unR T S) k (j + 1)) w1)) [25] [1, 1, 1, 1, 1, 1, 1, 1, 1, 1, 0, 1, 1, 1, 1, 1, 1, 1, 1, 0, 1, 1, 1, 1, 1, 1] [ptr t 0, vI k, vI j, ptr x 0, vI k, vI j, ptr x 0, ptr x 1, ptr x (1 + k * 64), ptr x (1 + k * 64 + j), .bool false, .bool false, ptr y 0, vI k, vI j, ptr y 0, ptr y 1, ptr y (1 + k * 64), ptr y (1 + k * 64 + j), .bool sv, .bool (sv), ptr t 0, ptr t 1, ptr t (1 + k * 64), ptr t (1 + k * 64 + j), undef] (by kernel_rfl) (by kernel_rfl) (by kernel_rfl) (by kernel_rfl) (by kernel_rfl) hst ?_
            clear hst
            refine ⟨fun j w1 hj hC => Chg.uponW_yes (by rfl) (by exact Chn.upon_pure hC (fun F hF => by (go_simp <;> exact hF))), ?_⟩
            simp only [Act.put, List.setIfInBounds_toArray, List.set_cons_succ, List.set_cons_zero]
            refine ⟨fun j w1 hj hC => Chg.uponW_yes (by rfl) (by exact Chn.upon_pure hC (fun F hF => by (go_simp <;> exact hF))), ?_⟩
            simp only [Act.put, List.setIfInBounds_toArray, List.set_cons_succ, List.set_cons_zero]
            refine ⟨fun j w1 hj hC => Chg.uponW_yes (by rfl) (by exact Chn.upon_pure hC (fun F hF => by (go_simp <;> exact hF))), ?_⟩
            simp only [Act.put, List.setIfInBounds_toArray, List.set_cons_succ, List.set_cons_zero]
            refine ⟨fun j w1 hj hC => Chg.uponW_yes (by rfl) (by exact Chn.upon_pure hC (fun F hF => by (go_simp <;> exact hF))), ?_⟩
            simp only [Act.put, List.setIfInBounds_toArray, List.set_cons_succ, List.set_cons_zero]
            refine ⟨fun j w1 hj hC => Chg.uponW_yes (by rfl) (by exact Chn.upon_pure hC (fun F hF => by (go_simp <;> exact hF))), ?_⟩
            simp only [Act.put, List.setIfInBounds_toArray, List.set_cons_succ, List.set_cons_zero]
            refine ⟨fun j w1 hj hC => Chg.uponW_yes (by rfl) (by exact Chn.upon_pure hC (fun F hF => by (go_simp <;> exact hF))), ?_⟩
            simp only [Act.put, List.setIfInBounds_toArray, List.set_cons_succ, List.set_cons_zero]
            refine ⟨fun j w1 hj hC => Chg.uponW_yes (by rfl) (by exact Chn.upon_pure hC (fun F hF => by (go_simp <;> exact hF))), ?_⟩
            simp only [Act.put, List.setIfInBounds_toArray, List.set_cons_succ, List.set_cons_zero]
            refine ⟨fun j w1 hj hC => Chg.uponW_yes (by rfl) (by exact Chn.upon_pure hC (fun F hF => by (go_simp <;> exact hF))), ?_⟩
            simp only [Act.put, List.setIfInBounds_toArray, List.set_cons_succ, List.set_cons_zero]
            refine ⟨fun j w1 hj hC => Chg.uponW_yes (by rfl) (by exact Chn.upon_pure hC (fun F hF => by (go_simp <;> exact hF))), ?_⟩
            simp only [Act.put, List.setIfInBounds_toArray, List.set_cons_succ, List.set_cons_zero]
            refine ⟨fun j w1 hj hC => Chg.uponW_yes (by rfl) (by exact Chn.upon_pure hC (fun F hF => by (go_simp <;> exact hF))), ?_⟩
            simp only [Act.put, List.setIfInBounds_toArray, List.set_cons_succ, List.set_cons_zero]
            refine ⟨fun j w1 hj hC => Chg.uponW_yes (by rfl) (by
              have z := cx w1 (stC_low hj hC)
              exact Chn.upon_pure hC (fun F hF => by (go_simp <;> exact hF))), ?_⟩
            simp only [Act.put, List.setIfInBounds_toArray, List.set_cons_succ, List.set_cons_zero]
            refine ⟨fun j w1 hj hC => Chg.uponW_yes (by rfl) (by exact Chn.upon_pure hC (fun F hF => by (go_simp <;> exact hF))), ?_⟩
            simp only [Act.put, List.setIfInBounds_toArray, List.set_cons_succ, List.set_cons_zero]
            refine ⟨fun j w1 hj hC => Chg.uponW_yes (by rfl) (by exact Chn.upon_pure hC (fun F hF => by (go_simp <;> exact hF))), ?_⟩
            simp only [Act.put, List.setIfInBounds_toArray, List.set_cons_succ, List.set_cons_zero]
            refine ⟨fun j w1 hj hC => Chg.uponW_yes (by rfl) (by exact Chn.upon_pure hC (fun F hF => by (go_simp <;> exact hF))), ?_⟩
            simp only [Act.put, List.setIfInBounds_toArray, List.set_cons_succ, List.set_cons_zero]
            refine ⟨fun j w1 hj hC => Chg.uponW_yes (by rfl) (by exact Chn.upon_pure hC (fun F hF => by (go_simp <;> exact hF))), ?_⟩
            simp only [Act.put, List.setIfInBounds_toArray, List.set_cons_succ, List.set_cons_zero]
            refine ⟨fun j w1 hj hC => Chg.uponW_yes (by rfl) (by exact Chn.upon_pure hC (fun F hF => by (go_simp <;> exact hF))), ?_⟩
            simp only [Act.put, List.setIfInBounds_toArray, List.set_cons_succ, List.set_cons_zero]
            refine ⟨fun j w1 hj hC => Chg.uponW_yes (by rfl) (by exact Chn.upon_pure hC (fun F hF => by (go_simp <;> exact hF))), ?_⟩
            simp only [Act.put, List.setIfInBounds_toArray, List.set_cons_succ, List.set_cons_zero]
            refine ⟨fun j w1 hj hC => Chg.uponW_yes (by rfl) (by exact Chn.upon_pure hC (fun F hF => by (go_simp <;> exact hF))), ?_⟩
            simp only [Act.put, List.setIfInBounds_toArray, List.set_cons_succ, List.set_cons_zero]
            refine ⟨fun j w1 hj hC => Chg.uponW_yes (by rfl) (by exact Chn.upon_pure hC (fun F hF => by (go_simp <;> exact hF))), ?_⟩
            simp only [Act.put, List.setIfInBounds_toArray, List.set_cons_succ, List.set_cons_zero]
            refine ⟨fun j w1 hj hC => Chg.uponW_yes (by rfl) (by
              have z := cy w1 (stC_low hj hC)
              exact Chn.upon_pure hC (fun F hF => by (go_simp <;> exact hF))), ?_⟩
            simp only [Act.put, List.setIfInBounds_toArray, List.set_cons_succ, List.set_cons_zero]
            refine ⟨fun j w1 hj hC => Chg.uponW_yes (by rfl) (by exact Chn.upon_pure hC (fun F hF => by (go_simp <;> exact hF))), ?_⟩
            simp only [Act.put, List.setIfInBounds_toArray, List.set_cons_succ, List.set_cons_zero]
            refine ⟨fun j w1 hj hC => Chg.uponW_yes (by rfl) (by exact Chn.upon_pure hC (fun F hF => by (go_simp <;> exact hF))), ?_⟩
            simp only [Act.put, List.setIfInBounds_toArray, List.set_cons_succ, List.set_cons_zero]
            refine ⟨fun j w1 hj hC => Chg.uponW_yes (by rfl) (by exact Chn.upon_pure hC (fun F hF => by (go_simp <;> exact hF))), ?_⟩
            simp only [Act.put, List.setIfInBounds_toArray, List.set_cons_succ, List.set_cons_zero]
            refine ⟨fun j w1 hj hC => Chg.uponW_yes (by rfl) (by exact Chn.upon_pure hC (fun F hF => by (go_simp <;> exact hF))), ?_⟩
            simp only [Act.put, List.setIfInBounds_toArray, List.set_cons_succ, List.set_cons_zero]
            refine ⟨fun j w1 hj hC => Chg.uponW_yes (by rfl) (by exact Chn.upon_pure hC (fun F hF => by (go_simp <;> exact hF))), ?_⟩
            simp only [Act.put, List.setIfInBounds_toArray, List.set_cons_succ, List.set_cons_zero]
            refine ⟨fun w1 hC => Chg.uponW_yes (by rfl) (by
              exact chn_store (C := (StC wr (fun w1 => DI w t n (dT (unR T S) k (j + 1)) w1)) 1) 4 _ _ rfl t (1 + k * 64 + j) rfl (.bool (sv)) rfl ((hD.grow hC).run hk64 hj64 _) (((hD.grow hC).put hk64 hj64 (sv)).to hput.out)), ?_⟩
            simp only [Act.put, List.setIfInBounds_toArray, List.set_cons_succ, List.set_cons_zero]
            intro w5 hC
            have hD2 : DI w t n (dT (unR T S) k (j + 1)) w5 := hC
            clear hC hD c0
            go_wp2
            go_roundw
            case rel => exact ⟨j + 1, by omega, by go_num, hD2⟩
            case measure => simp [intOf]; omega
        · obtain rfl : j = n := by omega
          have hD2 : DI w t j (dT (unR T S) (k + 1) 0) wr := hD.to (by rw [dT_next hfit])
          go_wp2
          go_roundw
          case rel => exact ⟨k + 1, by omega, by go_num, hD2⟩
          case measure => simp [intOf]; omega
    · obtain rfl : k = n := by omega
      have hD2 : DI w t k (unR T S) wr := hD.to (by rw [dT_end hfit])
      go_wp2
      go_ret
      exact ⟨t, rfl, hD2⟩
set_option maxHeartbeats 4000000 in
theorem docInter_c {x y n : Nat} {T S : Nat → Nat → Bool} {w : World} (H : RefAt x n T w) (K : RefAt y n S w) (hf : Fits n T) (hg : Fits n S) : Calls Tryd.prog 27 #[ptr x 0, ptr y 0] w fun e w' => ∃ t, e = .returned (ptr t 0) ∧ DI w t n (inR T S) w' := by
  have hfit : Fits n (inR T S) := hf.inn S
  have hle := H.le
  have c0 := H.c0
  go_enter Tryd.func27, Tryd.ntmps27
  go_upto_region 2 with (first | (with_reducible refine wpList_new38 rfl _ rfl n rfl ?_; simp only [Act.put, List.setIfInBounds_toArray, List.set_cons_succ, List.set_cons_zero]) | (with_reducible refine wpList_box38 rfl _ rfl n hle (fun _ _ => false) rfl ?_; intro w1 hR hB hsz; simp only [Act.put, List.setIfInBounds_toArray, List.set_cons_succ, List.set_cons_zero]))
  have hD0 : DI w w.heap.size n (dT (inR T S) 0 0) w1 := ⟨hR.congr fun a b _ _ => by first | exact congrFun (congrFun (dT_zero _) a) b | exact congrFun (congrFun (dT_zero _) b) a, hB, Nat.le_refl _⟩
  generalize ht : w.heap.size = t at hD0
  have hto : w.heap.size = t := ht
  clear hR hB hsz c0
  go_wp2
  go_loopw [6] (fun sa wr => ∃ k : Nat, k ≤ n ∧ sa = vI k ∧ Hid (DI w t n (dT (inR T S) k 0) wr)) (fun sa _ => 64 - (intOf sa).toNat)
  case atStart => exact ⟨0, Nat.zero_le _, rfl, hD0⟩
  case round =>
    obtain ⟨k, hkn, rfl, hH⟩ := hrel
    have hD := hH.out
    clear hH hD0
    have c0 := (H.grow hD.low).c0
    by_cases hlt : (k : Int) < n
    · have hkl : k < n := by omega
      have hk64 : k < 64 := by omega
      go_wp2
      clear c0
      go_loopw [7] (fun sb wr => ∃ j : Nat, j ≤ n ∧ sb = vI j ∧ Hid (DI w t n (dT (inR T S) k j) wr)) (fun sb _ => 64 - (intOf sb).toNat)
      case atStart => exact ⟨0, Nat.zero_le _, rfl, hD⟩
      case round =>
        obtain ⟨j, hjn, rfl, hH⟩ := hrel
        clear hD
        have hD := hH.out
        clear hH
        have c0 := (H.grow hD.low).c0
        by_cases hlt2 : (j : Int) < n
        · have hjl : j < n := by omega
          have hj64 : j < 64 := by omega
          have hk64i : (k : Int) < 64 := by omega
          have hj64i : (j : Int) < 64 := by omega
          cases hTk : T k j with
          | true =>
            have cx : ∀ w1, Below wr.heap.size wr w1 → w1.cell? ⟨x, 1 + k * 64 + j, none⟩ = some (.bool true) := fun w1 h1 => by rw [← hTk]; exact ((H.grow hD.low).grow h1).cell hk64 hj64
            have cy : ∀ w1, Below wr.heap.size wr w1 → w1.cell? ⟨y, 1 + k * 64 + j, none⟩ = some (.bool (S k j)) := fun w1 h1 => by exact ((K.grow hD.low).grow h1).cell hk64 hj64
            have hG : (inR T S) k j = (S k j) := by simp [unR, inR, miR, hTk]
            have hput := dT_put (inR T S) k j
            rw [hG] at hput
            replace hput := show Hid _ from hput
            replace hTk := show Hid _ from hTk
            clear hG
            generalize S k j = sv at cy hput
            go_upto_region 8 with fail
            have hst : (StC wr (fun w1 => DI w t n (dT (inR T S) k (j + 1)) w1)) 0 { wr with drawn := wr.drawn + 1 } := Rel.below_draws (n := 1) (Below.refl _ _)
            refine Chg.wp_region_chainG (StC wr (fun w1 => DI w t n (dT (inR T S) k (j + 1)) w1)) [25] [1, 1, 1, 1, 1, 1, 1, 1, 1, 1, 0, 1, 1, 1, 1, 1, 1, 1, 1, 0, 1, 1, 1, 1, 1, 1] [ptr t 0, vI k, vI j, ptr x 0, vI k, vI j, ptr x 0, ptr x 1, ptr x (1 + k * 64), ptr x (1 + k * 64 + j), .bool true, .bool true, ptr y 0, vI k, vI j, ptr y 0, ptr y 1, ptr y (1 + k * 64), ptr y (1 + k * 64 + j), .bool sv, .bool (sv), ptr t 0, ptr t 1, ptr t (1 + k * 64), ptr t (1 + k * 64 + j), undef] (by kernel_rfl) (by kernel_rfl) (by kernel_rfl) (by kernel_rfl) (by kernel_rfl) hst ?_
            clear hst
            refine ⟨fun j w1 hj hC => Chg.uponW_yes (by rfl) (by exact Chn.upon_pure hC (fun F hF => by (go_simp <;> exact hF))), ?_⟩
            simp only [Act.put, List.setIfInBounds_toArray, List.set_cons_succ, List.set_cons_zero]
            refine ⟨fun j w1 hj hC => Chg.uponW_yes (by rfl) (by exact Chn.upon_pure hC (fun F hF => by (go_simp <;> exact hF))), ?_⟩
            simp only [Act.put, List.setIfInBounds_toArray, List.set_cons_succ, List.set_cons_zero]
            refine ⟨fun j w1 hj hC => Chg.uponW_yes (by rfl) (by exact Chn.upon_pure hC (fun F hF => by (go_simp <;> exact hF))), ?_⟩
            simp only [Act.put, List.setIfInBounds_toArray, List.set_cons_succ, List.set_cons_zero]
            refine ⟨fun j w1 hj hC => Chg.uponW_yes (by rfl) (by exact Chn.upon_pure hC (fun F hF => by (go_simp <;> exact hF))), ?_⟩
            simp only [Act.put, List.setIfInBounds_toArray, List.set_cons_succ, List.set_cons_zero]
            refine ⟨fun j w1 hj hC => Chg.uponW_yes (by rfl) (by exact Chn.upon_pure hC (fun F hF => by (go_simp <;> exact hF))), ?_⟩
            simp only [Act.put, List.setIfInBounds_toArray, List.set_cons_succ, List.set_cons_zero]
            refine ⟨fun j w1 hj hC => Chg.uponW_yes (by rfl) (by exact Chn.upon_pure hC (fun F hF => by (go_simp <;> exact hF))), ?_⟩
            simp only [Act.put, List.setIfInBounds_toArray, List.set_cons_succ, List.set_cons_zero]
            refine ⟨fun j w1 hj hC => Chg.uponW_yes (by rfl) (by exact Chn.upon_pure hC (fun F hF => by (go_simp <;> exact hF))), ?_⟩
            simp only [Act.put, List.setIfInBounds_toArray, List.set_cons_succ, List.set_cons_zero]
            refine ⟨fun j w1 hj hC => Chg.uponW_yes (by rfl) (by exact Chn.upon_pure hC (fun F hF => by (go_simp <;> exact hF))), ?_⟩
            simp only [Act.put, List.setIfInBounds_toArray, List.set_cons_succ, List.set_cons_zero]
            refine ⟨fun j w1 hj hC => Chg.uponW_yes (by rfl) (by exact Chn.upon_pure hC (fun F hF => by (go_simp <;> exact hF))), ?_⟩
            simp only [Act.put, List.setIfInBounds_toArray, List.set_cons_succ, List.set_cons_zero]
            refine ⟨fun j w1 hj hC => Chg.uponW_yes (by rfl) (by exact Chn.upon_pure hC (fun F hF => by (go_simp <;> exact hF))), ?_⟩
            simp only [Act.put, List.setIfInBounds_toArray, List.set_cons_succ, List.set_cons_zero]
            refine ⟨fun j w1 hj hC => Chg.uponW_yes (by rfl) (by
              have z := cx w1 (stC_low hj hC)
              exact Chn.upon_pure hC (fun F hF => by (go_simp <;> exact hF))), ?_⟩
            simp only [Act.put, List.setIfInBounds_toArray, List.set_cons_succ, List.set_cons_zero]
            refine ⟨fun j w1 hj hC => Chg.uponW_yes (by rfl) (by exact Chn.upon_pure hC (fun F hF => by (go_simp <;> exact hF))), ?_⟩
            simp only [Act.put, List.setIfInBounds_toArray, List.set_cons_succ, List.set_cons_zero]
            refine ⟨fun j w1 hj hC => Chg.uponW_yes (by rfl) (by exact Chn.upon_pure hC (fun F hF => by (go_simp <;> exact hF))), ?_⟩
            simp only [Act.put, List.setIfInBounds_toArray, List.set_cons_succ, List.set_cons_zero]
            refine ⟨fun j w1 hj hC => Chg.uponW_yes (by rfl) (by exact Chn.upon_pure hC (fun F hF => by (go_simp <;> exact hF))), ?_⟩
            simp only [Act.put, List.setIfInBounds_toArray, List.set_cons_succ, List.set_cons_zero]
            refine ⟨fun j w1 hj hC => Chg.uponW_yes (by rfl) (by exact Chn.upon_pure hC (fun F hF => by (go_simp <;> exact hF))), ?_⟩
            simp only [Act.put, List.setIfInBounds_toArray, List.set_cons_succ, List.set_cons_zero]
            refine ⟨fun j w1 hj hC => Chg.uponW_yes (by rfl) (by exact Chn.upon_pure hC (fun F hF => by (go_simp <;> exact hF))), ?_⟩
            simp only [Act.put, List.setIfInBounds_toArray, List.set_cons_succ, List.set_cons_zero]
            refine ⟨fun j w1 hj hC => Chg.uponW_yes (by rfl) (by exact Chn.upon_pure hC (fun F hF => by (go_simp <;> exact hF))), ?_⟩
            simp only [Act.put, List.setIfInBounds_toArray, List.set_cons_succ, List.set_cons_zero]
            refine ⟨fun j w1 hj hC => Chg.uponW_yes (by rfl) (by exact Chn.upon_pure hC (fun F hF => by (go_simp <;> exact hF))), ?_⟩
            simp only [Act.put, List.setIfInBounds_toArray, List.set_cons_succ, List.set_cons_zero]
            refine ⟨fun j w1 hj hC => Chg.uponW_yes (by rfl) (by exact Chn.upon_pure hC (fun F hF => by (go_simp <;> exact hF))), ?_⟩
            simp only [Act.put, List.setIfInBounds_toArray, List.set_cons_succ, List.set_cons_zero]
            refine ⟨fun j w1 hj hC => Chg.uponW_yes (by rfl) (by
              have z := cy w1 (stC_low hj hC)
              exact Chn.upon_pure hC (fun F hF => by (go_simp <;> exact hF))), ?_⟩
            simp only [Act.put, List.setIfInBounds_toArray, List.set_cons_succ, List.set_cons_zero]
            refine ⟨fun j w1 hj hC => Chg.uponW_yes (by rfl) (by exact Chn.upon_pure hC (fun F hF => by (go_simp <;> exact hF))), ?_⟩
            simp only [Act.put, List.setIfInBounds_toArray, List.set_cons_succ, List.set_cons_zero]
            refine ⟨fun j w1 hj hC => Chg.uponW_yes (by rfl) (by exact Chn.upon_pure hC (fun F hF => by (go_simp <;> exact hF))), ?_⟩
            simp only [Act.put, List.setIfInBounds_toArray, List.set_cons_succ, List.set_cons_zero]
            refine ⟨fun j w1 hj hC => Chg.uponW_yes (by rfl) (by exact Chn.upon_pure hC (fun F hF => by (go_simp <;> exact hF))), ?_⟩
            simp only [Act.put, List.setIfInBounds_toArray, List.set_cons_succ, List.set_cons_zero]
            refine ⟨fun j w1 hj hC => Chg.uponW_yes (by rfl) (by exact Chn.upon_pure hC (fun F hF => by (go_simp <;> exact hF))), ?_⟩
            simp only [Act.put, List.setIfInBounds_toArray, List.set_cons_succ, List.set_cons_zero]
            refine ⟨fun j w1 hj hC => Chg.uponW_yes (by rfl) (by exact Chn.upon_pure hC (fun F hF => by (go_simp <;> exact hF))), ?_⟩
            simp only [Act.put, List.setIfInBounds_toArray, List.set_cons_succ, List.set_cons_zero]
            refine ⟨fun w1 hC => Chg.uponW_yes (by rfl) (by
              exact chn_store (C := (StC wr (fun w1 => DI w t n (dT (inR T S) k (j + 1)) w1)) 1) 4 _ _ rfl t (1 + k * 64 + j) rfl (.bool (sv)) rfl ((hD.grow hC).run hk64 hj64 _) (((hD.grow hC).put hk64 hj64 (sv)).to hput.out)), ?_⟩
            simp only [Act.put, List.setIfInBounds_toArray, List.set_cons_succ, List.set_cons_zero]
            intro w5 hC
            have hD2 : DI w t n (dT (inR T S) k (j + 1)) w5 := hC
            clear hC hD c0
            go_wp2
            go_roundw
            case rel => exact ⟨j + 1, by omega, by go_num, hD2⟩
            case measure => simp [intOf]; omega
          | false =>
            have cx : ∀ w1, Below wr.heap.size wr w1 → w1.cell? ⟨x, 1 + k * 64 + j, none⟩ = some (.bool false) := fun w1 h1 => by rw [← hTk]; exact ((H.grow hD.low).grow h1).cell hk64 hj64
            have hG : (inR T S) k j = false := by simp [unR, inR, miR, hTk]
            have hput := dT_put (inR T S) k j
            rw [hG] at hput
            replace hput := show Hid _ from hput
            replace hTk := show Hid _ from hTk
            clear hG
            go_upto_region 8 with fail
            have hst : (StC wr (fun w1 => DI w t n (dT (inR T S) k (j + 1)) w1)) 0 { wr with drawn := wr.drawn + 1 } := Rel.below_draws (n := 1) (Below.refl _ _)
            refine Chg.wp_region_chainG (StC wr (fun w1 => DI w t n (dT (inR T S) k (j + 1)) w1)) [25] [1, 1, 1, 1, 1, 1, 1, 1, 1, 1, 0, 1, 1, 1, 1, 1, 1, 1, 1, 1, 1, 1, 1, 1, 1, 1] [ptr t 0, vI k, vI j, ptr x 0, vI k, vI j, ptr x 0, ptr x 1, ptr x (1 + k * 64), ptr x (1 + k * 64 + j), .bool false, .bool false, undef, undef, undef, undef, undef, undef, undef, undef, .bool false, ptr t 0, ptr t 1, ptr t (1 + k * 64), ptr t (1 + k * 64 + j), undef] (by kernel_rfl) (by kernel_rfl) (by kernel_rfl) (by kernel_rfl) (by kernel_rfl) hst ?_
            clear hst
            refine ⟨fun j w1 hj hC => Chg.uponW_yes (by rfl) (by exact Chn.upon_pure hC (fun F hF => by (go_simp <;> exact hF))), ?_⟩
            simp only [Act.put, List.setIfInBounds_toArray, List.set_cons_succ, List.set_cons_zero]
            refine ⟨fun j w1 hj hC => Chg.uponW_yes (by rfl) (by exact Chn.upon_pure hC (fun F hF => by (go_simp <;> exact hF))), ?_⟩
            simp only [Act.put, List.setIfInBounds_toArray, List.set_cons_succ, List.set_cons_zero]
            refine ⟨fun j w1 hj hC => Chg.uponW_yes (by rfl) (by exact Chn.upon_pure hC (fun F hF => by (go_simp <;> exact hF))), ?_⟩
            simp only [Act.put, List.setIfInBounds_toArray, List.set_cons_succ, List.set_cons_zero]
            refine ⟨fun j w1 hj hC => Chg.uponW_yes (by rfl) (by exact Chn.upon_pure hC (fun F hF => by (go_simp <;> exact hF))), ?_⟩
            simp only [Act.put, List.setIfInBounds_toArray, List.set_cons_succ, List.set_cons_zero]
            refine ⟨fun j w1 hj hC => Chg.uponW_yes (by rfl) (by exact Chn.upon_pure hC (fun F hF => by (go_simp <;> exact hF))), ?_⟩
            simp only [Act.put, List.setIfInBounds_toArray, List.set_cons_succ, List.set_cons_zero]
            refine ⟨fun j w1 hj hC => Chg.uponW_yes (by rfl) (by exact Chn.upon_pure hC (fun F hF => by (go_simp <;> exact hF))), ?_⟩
            simp only [Act.put, List.setIfInBounds_toArray, List.set_cons_succ, List.set_cons_zero]
            refine ⟨fun j w1 hj hC => Chg.uponW_yes (by rfl) (by exact Chn.upon_pure hC (fun F hF => by (go_simp <;> exact hF))), ?_⟩
            simp only [Act.put, List.setIfInBounds_toArray, List.set_cons_succ, List.set_cons_zero]
            refine ⟨fun j w1 hj hC => Chg.uponW_yes (by rfl) (by exact Chn.upon_pure hC (fun F hF => by (go_simp <;> exact hF))), ?_⟩
            simp only [Act.put, List.setIfInBounds_toArray, List.set_cons_succ, List.set_cons_zero]
            refine ⟨fun j w1 hj hC => Chg.uponW_yes (by rfl) (by exact Chn.upon_pure hC (fun F hF => by (go_simp <;> exact hF))), ?_⟩
            simp only [Act.put, List.setIfInBounds_toArray, List.set_cons_succ, List.set_cons_zero]
            refine ⟨fun j w1 hj hC => Chg.uponW_yes (by rfl) (by exact Chn.upon_pure hC (fun F hF => by (go_simp <;> exact hF))), ?_⟩
            simp only [Act.put, List.setIfInBounds_toArray, List.set_cons_succ, List.set_cons_zero]
            refine ⟨fun j w1 hj hC => Chg.uponW_yes (by rfl) (by
              have z := cx w1 (stC_low hj hC)
              exact Chn.upon_pure hC (fun F hF => by (go_simp <;> exact hF))), ?_⟩
            simp only [Act.put, List.setIfInBounds_toArray, List.set_cons_succ, List.set_cons_zero]
            refine ⟨fun j w1 hj hC => Chg.uponW_yes (by rfl) (by exact Chn.upon_pure hC (fun F hF => by (go_simp <;> exact hF))), ?_⟩
            simp only [Act.put, List.setIfInBounds_toArray, List.set_cons_succ, List.set_cons_zero]
            refine ⟨fun j w1 hj hC => Chg.uponW_no (by rfl) ⟨rfl, hC⟩, ?_⟩
            simp only [Act.put, List.setIfInBounds_toArray, List.set_cons_succ, List.set_cons_zero]
            refine ⟨fun j w1 hj hC => Chg.uponW_no (by rfl) ⟨rfl, hC⟩, ?_⟩
            simp only [Act.put, List.setIfInBounds_toArray, List.set_cons_succ, List.set_cons_zero]
            refine ⟨fun j w1 hj hC => Chg.uponW_no (by rfl) ⟨rfl, hC⟩, ?_⟩
            simp only [Act.put, List.setIfInBounds_toArray, List.set_cons_succ, List.set_cons_zero]
            refine ⟨fun j w1 hj hC => Chg.uponW_no (by rfl) ⟨rfl, hC⟩, ?_⟩
            simp only [Act.put, List.setIfInBounds_toArray, List.set_cons_succ, List.set_cons_zero]
            refine ⟨fun j w1 hj hC => Chg.uponW_no (by rfl) ⟨rfl, hC⟩, ?_⟩
            simp only [Act.put, List.setIfInBounds_toArray, List.set_cons_succ, List.set_cons_zero]
            refine ⟨fun j w1 hj hC => Chg.uponW_no (by rfl) ⟨rfl, hC⟩, ?_⟩
            simp only [Act.put, List.setIfInBounds_toArray, List.set_cons_succ, List.set_cons_zero]
            refine ⟨fun j w1 hj hC => Chg.uponW_no (by rfl) ⟨rfl, hC⟩, ?_⟩
            simp only [Act.put, List.setIfInBounds_toArray, List.set_cons_succ, List.set_cons_zero]
            refine ⟨fun j w1 hj hC => Chg.uponW_no (by rfl) ⟨rfl, hC⟩, ?_⟩
            simp only [Act.put, List.setIfInBounds_toArray, List.set_cons_succ, List.set_cons_zero]
            refine ⟨fun j w1 hj hC => Chg.uponW_yes (by rfl) (by exact Chn.upon_pure hC (fun F hF => by (go_simp <;> exact hF))), ?_⟩
            simp only [Act.put, List.setIfInBounds_toArray, List.set_cons_succ, List.set_cons_zero]
            refine ⟨fun j w1 hj hC => Chg.uponW_yes (by rfl) (by exact Chn.upon_pure hC (fun F hF => by (go_simp <;> exact hF))), ?_⟩
            simp only [Act.put, List.setIfInBounds_toArray, List.set_cons_succ, List.set_cons_zero]
            refine ⟨fun j w1 hj hC => Chg.uponW_yes (by rfl) (by exact Chn.upon_pure hC (fun F hF => by (go_simp <;> exact hF))), ?_⟩
            simp only [Act.put, List.setIfInBounds_toArray, List.set_cons_succ, List.set_cons_zero]
            refine ⟨fun j w1 hj hC => Chg.uponW_yes (by rfl) (by exact Chn.upon_pure hC (fun F hF => by (go_simp <;> exact hF))), ?_⟩
            simp only [Act.put, List.setIfInBounds_toArray, List.set_cons_succ, List.set_cons_zero]
            refine ⟨fun j w1 hj hC => Chg.uponW_yes (by rfl) (by exact Chn.upon_pure hC (fun F hF => by (go_simp <;> exact hF))), ?_⟩
            simp only [Act.put, List.setIfInBounds_toArray, List.set_cons_succ, List.set_cons_zero]
            refine ⟨fun w1 hC => Chg.uponW_yes (by rfl) (by
              exact chn_store (C := (StC wr (fun w1 => DI w t n (dT (inR T S) k (j + 1)) w1)) 1) 4 _ _ rfl t (1 + k * 64 + j) rfl (.bool false) rfl ((hD.grow hC).run hk64 hj64 _) (((hD.grow hC).put hk64 hj64 false).to hput.out)), ?_⟩
            simp only [Act.put, List.setIfInBounds_toArray, List.set_cons_succ, List.set_cons_zero]
            intro w5 hC
            have hD2 : DI w t n (dT (inR T S) k (j + 1)) w5 := hC
            clear hC hD c0
            go_wp2
            go_roundw
            case rel => exact ⟨j + 1, by omega, by go_num, hD2⟩
            case measure => simp [intOf]; omega
        · obtain rfl : j = n := by omega
          have hD2 : DI w t j (dT (inR T S) (k + 1) 0) wr := hD.to (by rw [dT_next hfit])
          go_wp2
          go_roundw
          case rel => exact ⟨k + 1, by omega, by go_num, hD2⟩
          case measure => simp [intOf]; omega
    · obtain rfl : k = n := by omega
      have hD2 : DI w t k (inR T S) wr := hD.to (by rw [dT_end hfit])
      go_wp2
      go_ret
      exact ⟨t, rfl, hD2⟩
set_option maxHeartbeats 4000000 in
theorem docMinus_c {x y n : Nat} {T S : Nat → Nat → Bool} {w : World} (H : RefAt x n T w) (K : RefAt y n S w) (hf : Fits n T) (hg : Fits n S) : Calls Tryd.prog 28 #[ptr x 0, ptr y 0] w fun e w' => ∃ t, e = .returned (ptr t 0) ∧ DI w t n (miR T S) w' := by
  have hfit : Fits n (miR T S) := hf.mi S
  have hle := H.le
  have c0 := H.c0
  go_enter Tryd.func28, Tryd.ntmps28
  go_upto_region 2 with (first | (with_reducible refine wpList_new38 rfl _ rfl n rfl ?_; simp only [Act.put, List.setIfInBounds_toArray, List.set_cons_succ, List.set_cons_zero]) | (with_reducible refine wpList_box38 rfl _ rfl n hle (fun _ _ => false) rfl ?_; intro w1 hR hB hsz; simp only [Act.put, List.setIfInBounds_toArray, List.set_cons_succ, List.set_cons_zero]))
  have hD0 : DI w w.heap.size n (dT (miR T S) 0 0) w1 := ⟨hR.congr fun a b _ _ => by first | exact congrFun (congrFun (dT_zero _) a) b | exact congrFun (congrFun (dT_zero _) b) a, hB, Nat.le_refl _⟩
  generalize ht : w.heap.size = t at hD0
  have hto : w.heap.size = t := ht
  clear hR hB hsz c0
  go_wp2
  go_loopw [6] (fun sa wr => ∃ k : Nat, k ≤ n ∧ sa = vI k ∧ Hid (DI w t n (dT (miR T S) k 0) wr)) (fun sa _ => 64 - (intOf sa).toNat)
  case atStart => exact ⟨0, Nat.zero_le _, rfl, hD0⟩
  case round =>
    obtain ⟨k, hkn, rfl, hH⟩ := hrel
    have hD := hH.out
    clear hH hD0
    have c0 := (H.grow hD.low).c0
    by_cases hlt : (k : Int) < n
    · have hkl : k < n := by omega
      have hk64 : k < 64 := by omega
      go_wp2
      clear c0
      go_loopw [7] (fun sb wr => ∃ j : Nat, j ≤ n ∧ sb = vI j ∧ Hid (DI w t n (dT (miR T S) k j) wr)) (fun sb _ => 64 - (intOf sb).toNat)
      case atStart => exact ⟨0, Nat.zero_le _, rfl, hD⟩
      case round =>
        obtain ⟨j, hjn, rfl, hH⟩ := hrel
        clear hD
        have hD := hH.out
        clear hH
        have c0 := (H.grow hD.low).c0
        by_cases hlt2 : (j : Int) < n
        · have hjl : j < n := by omega
          have hj64 : j < 64 := by omega
          have hk64i : (k : Int) < 64 := by omega
          have hj64i : (j : Int) < 64 := by omega
          cases hTk : T k j with
          | true =>
            have cx : ∀ w1, Below wr.heap.size wr w1 → w1.cell? ⟨x, 1 + k * 64 + j, none⟩ = some (.bool true) := fun w1 h1 => by rw [← hTk]; exact ((H.grow hD.low).grow h1).cell hk64 hj64
            have cy : ∀ w1, Below wr.heap.size wr w1 → w1.cell? ⟨y, 1 + k * 64 + j, none⟩ = some (.bool (S k j)) := fun w1 h1 => by exact ((K.grow hD.low).grow h1).cell hk64 hj64
            have hG : (miR T S) k j = (!S k j) := by simp [unR, inR, miR, hTk]
            have hput := dT_put (miR T S) k j
            rw [hG] at hput
            replace hput := show Hid _ from hput
            replace hTk := show Hid _ from hTk
            clear hG
            generalize S k j = sv at cy hput
            go_upto_region 8 with fail
            have hst : (StC wr (fun w1 => DI w t n (dT (miR T S) k (j + 1)) w1)) 0 { wr with drawn := wr.drawn + 1 } := Rel.below_draws (n := 1) (Below.refl _ _)
            refine Chg.wp_region_chainG (StC wr (fun w1 => DI w t n (dT (miR T S) k (j + 1)) w1)) [26] [1, 1, 1, 1, 1, 1, 1, 1, 1, 1, 0, 1, 1, 1, 1, 1, 1, 1, 1, 0, 1, 1, 1, 1, 1, 1, 1] [ptr t 0, vI k, vI j, ptr x 0, vI k, vI j, ptr x 0, ptr x 1, ptr x (1 + k * 64), ptr x (1 + k * 64 + j), .bool true, .bool true, ptr y 0, vI k, vI j, ptr y 0, ptr y 1, ptr y (1 + k * 64), ptr y (1 + k * 64 + j), .bool sv, .bool (!sv), .bool (!sv), ptr t 0, ptr t 1, ptr t (1 + k * 64), ptr t (1 + k * 64 + j), undef] (by kernel_rfl) (by kernel_rfl) (by kernel_rfl) (by kernel_rfl) (by kernel_rfl) hst ?_
            clear hst
            refine ⟨fun j w1 hj hC => Chg.uponW_yes (by rfl) (by exact Chn.upon_pure hC (fun F hF => by (go_simp <;> exact hF))), ?_⟩
            simp only [Act.put, List.setIfInBounds_toArray, List.set_cons_succ, List.set_cons_zero]
            refine ⟨fun j w1 hj hC => Chg.uponW_yes (by rfl) (by exact Chn.upon_pure hC (fun F hF => by (go_simp <;> exact hF))), ?_⟩
            simp only [Act.put, List.setIfInBounds_toArray, List.set_cons_succ, List.set_cons_zero]
            refine ⟨fun j w1 hj hC => Chg.uponW_yes (by rfl) (by exact Chn.upon_pure hC (fun F hF => by (go_simp <;> exact hF))), ?_⟩
            simp only [Act.put, List.setIfInBounds_toArray, List.set_cons_succ, List.set_cons_zero]
            refine ⟨fun j w1 hj hC => Chg.uponW_yes (by rfl) (by exact Chn.upon_pure hC (fun F hF => by (go_simp <;> exact hF))), ?_⟩
            simp only [Act.put, List.setIfInBounds_toArray, List.set_cons_succ, List.set_cons_zero]
            refine ⟨fun j w1 hj hC => Chg.uponW_yes (by rfl) (by exact Chn.upon_pure hC (fun F hF => by (go_simp <;> exact hF))), ?_⟩
            simp only [Act.put, List.setIfInBounds_toArray, List.set_cons_succ, List.set_cons_zero]
            refine ⟨fun j w1 hj hC => Chg.uponW_yes (by rfl) (by exact Chn.upon_pure hC (fun F hF => by (go_simp <;> exact hF))), ?_⟩
            simp only [Act.put, List.setIfInBounds_toArray, List.set_cons_succ, List.set_cons_zero]
            refine ⟨fun j w1 hj hC => Chg.uponW_yes (by rfl) (by exact Chn.upon_pure hC (fun F hF => by (go_simp <;> exact hF))), ?_⟩
            simp only [Act.put, List.setIfInBounds_toArray, List.set_cons_succ, List.set_cons_zero]
            refine ⟨fun j w1 hj hC => Chg.uponW_yes (by rfl) (by exact Chn.upon_pure hC (fun F hF => by (go_simp <;> exact hF))), ?_⟩
            simp only [Act.put, List.setIfInBounds_toArray, List.set_cons_succ, List.set_cons_zero]
            refine ⟨fun j w1 hj hC => Chg.uponW_yes (by rfl) (by exact Chn.upon_pure hC (fun F hF => by (go_simp <;> exact hF))), ?_⟩
            simp only [Act.put, List.setIfInBounds_toArray, List.set_cons_succ, List.set_cons_zero]
            refine ⟨fun j w1 hj hC => Chg.uponW_yes (by rfl) (by exact Chn.upon_pure hC (fun F hF => by (go_simp <;> exact hF))), ?_⟩
            simp only [Act.put, List.setIfInBounds_toArray, List.set_cons_succ, List.set_cons_zero]
            refine ⟨fun j w1 hj hC => Chg.uponW_yes (by rfl) (by
              have z := cx w1 (stC_low hj hC)
              exact Chn.upon_pure hC (fun F hF => by (go_simp <;> exact hF))), ?_⟩
            simp only [Act.put, List.setIfInBounds_toArray, List.set_cons_succ, List.set_cons_zero]
            refine ⟨fun j w1 hj hC => Chg.uponW_yes (by rfl) (by exact Chn.upon_pure hC (fun F hF => by (go_simp <;> exact hF))), ?_⟩
            simp only [Act.put, List.setIfInBounds_toArray, List.set_cons_succ, List.set_cons_zero]
            refine ⟨fun j w1 hj hC => Chg.uponW_yes (by rfl) (by exact Chn.upon_pure hC (fun F hF => by (go_simp <;> exact hF))), ?_⟩
            simp only [Act.put, List.setIfInBounds_toArray, List.set_cons_succ, List.set_cons_zero]
            refine ⟨fun j w1 hj hC => Chg.uponW_yes (by rfl) (by exact Chn.upon_pure hC (fun F hF => by (go_simp <;> exact hF))), ?_⟩
            simp only [Act.put, List.setIfInBounds_toArray, List.set_cons_succ, List.set_cons_zero]
            refine ⟨fun j w1 hj hC => Chg.uponW_yes (by rfl) (by exact Chn.upon_pure hC (fun F hF => by (go_simp <;> exact hF))), ?_⟩
            simp only [Act.put, List.setIfInBounds_toArray, List.set_cons_succ, List.set_cons_zero]
            refine ⟨fun j w1 hj hC => Chg.uponW_yes (by rfl) (by exact Chn.upon_pure hC (fun F hF => by (go_simp <;> exact hF))), ?_⟩
            simp only [Act.put, List.setIfInBounds_toArray, List.set_cons_succ, List.set_cons_zero]
            refine ⟨fun j w1 hj hC => Chg.uponW_yes (by rfl) (by exact Chn.upon_pure hC (fun F hF => by (go_simp <;> exact hF))), ?_⟩
            simp only [Act.put, List.setIfInBounds_toArray, List.set_cons_succ, List.set_cons_zero]
            refine ⟨fun j w1 hj hC => Chg.uponW_yes (by rfl) (by exact Chn.upon_pure hC (fun F hF => by (go_simp <;> exact hF))), ?_⟩
            simp only [Act.put, List.setIfInBounds_toArray, List.set_cons_succ, List.set_cons_zero]
            refine ⟨fun j w1 hj hC => Chg.uponW_yes (by rfl) (by exact Chn.upon_pure hC (fun F hF => by (go_simp <;> exact hF))), ?_⟩
            simp only [Act.put, List.setIfInBounds_toArray, List.set_cons_succ, List.set_cons_zero]
            refine ⟨fun j w1 hj hC => Chg.uponW_yes (by rfl) (by
              have z := cy w1 (stC_low hj hC)
              exact Chn.upon_pure hC (fun F hF => by (go_simp <;> exact hF))), ?_⟩
            simp only [Act.put, List.setIfInBounds_toArray, List.set_cons_succ, List.set_cons_zero]
            refine ⟨fun j w1 hj hC => Chg.uponW_yes (by rfl) (by exact Chn.upon_pure hC (fun F hF => by (go_simp <;> exact hF))), ?_⟩
            simp only [Act.put, List.setIfInBounds_toArray, List.set_cons_succ, List.set_cons_zero]
            refine ⟨fun j w1 hj hC => Chg.uponW_yes (by rfl) (by exact Chn.upon_pure hC (fun F hF => by (go_simp <;> exact hF))), ?_⟩
            simp only [Act.put, List.setIfInBounds_toArray, List.set_cons_succ, List.set_cons_zero]
            refine ⟨fun j w1 hj hC => Chg.uponW_yes (by rfl) (by exact Chn.upon_pure hC (fun F hF => by (go_simp <;> exact hF))), ?_⟩
            simp only [Act.put, List.setIfInBounds_toArray, List.set_cons_succ, List.set_cons_zero]
            refine ⟨fun j w1 hj hC => Chg.uponW_yes (by rfl) (by exact Chn.upon_pure hC (fun F hF => by (go_simp <;> exact hF))), ?_⟩
            simp only [Act.put, List.setIfInBounds_toArray, List.set_cons_succ, List.set_cons_zero]
            refine ⟨fun j w1 hj hC => Chg.uponW_yes (by rfl) (by exact Chn.upon_pure hC (fun F hF => by (go_simp <;> exact hF))), ?_⟩
            simp only [Act.put, List.setIfInBounds_toArray, List.set_cons_succ, List.set_cons_zero]
            refine ⟨fun j w1 hj hC => Chg.uponW_yes (by rfl) (by exact Chn.upon_pure hC (fun F hF => by (go_simp <;> exact hF))), ?_⟩
            simp only [Act.put, List.setIfInBounds_toArray, List.set_cons_succ, List.set_cons_zero]
            refine ⟨fun w1 hC => Chg.uponW_yes (by rfl) (by
              exact chn_store (C := (StC wr (fun w1 => DI w t n (dT (miR T S) k (j + 1)) w1)) 1) 4 _ _ rfl t (1 + k * 64 + j) rfl (.bool (!sv)) rfl ((hD.grow hC).run hk64 hj64 _) (((hD.grow hC).put hk64 hj64 (!sv)).to hput.out)), ?_⟩
            simp only [Act.put, List.setIfInBounds_toArray, List.set_cons_succ, List.set_cons_zero]
            intro w5 hC
            have hD2 : DI w t n (dT (miR T S) k (j + 1)) w5 := hC
            clear hC hD c0
            go_wp2
            go_roundw
            case rel => exact ⟨j + 1, by omega, by go_num, hD2⟩
            case measure => simp [intOf]; omega
          | false =>
            have cx : ∀ w1, Below wr.heap.size wr w1 → w1.cell? ⟨x, 1 + k * 64 + j, none⟩ = some (.bool false) := fun w1 h1 => by rw [← hTk]; exact ((H.grow hD.low).grow h1).cell hk64 hj64
            have hG : (miR T S) k j = false := by simp [unR, inR, miR, hTk]
            have hput := dT_put (miR T S) k j
            rw [hG] at hput
            replace hput := show Hid _ from hput
            replace hTk := show Hid _ from hTk
            clear hG
            go_upto_region 8 with fail
            have hst : (StC wr (fun w1 => DI w t n (dT (miR T S) k (j + 1)) w1)) 0 { wr with drawn := wr.drawn + 1 } := Rel.below_draws (n := 1) (Below.refl _ _)
            refine Chg.wp_region_chainG (StC wr (fun w1 => DI w t n (dT (miR T S) k (j + 1)) w1)) [26] [1, 1, 1, 1, 1, 1, 1, 1, 1, 1, 0, 1, 1, 1, 1, 1, 1, 1, 1, 1, 1, 1, 1, 1, 1, 1, 1] [ptr t 0, vI k, vI j, ptr x 0, vI k, vI j, ptr x 0, ptr x 1, ptr x (1 + k * 64), ptr x (1 + k * 64 + j), .bool false, .bool false, undef, undef, undef, undef, undef, undef, undef, undef, undef, .bool false, ptr t 0, ptr t 1, ptr t (1 + k * 64), ptr t (1 + k * 64 + j), undef] (by kernel_rfl) (by kernel_rfl) (by kernel_rfl) (by kernel_rfl) (by kernel_rfl) hst ?_
            clear hst
            refine ⟨fun j w1 hj hC => Chg.uponW_yes (by rfl) (by exact Chn.upon_pure hC (fun F hF => by (go_simp <;> exact hF))), ?_⟩
            simp only [Act.put, List.setIfInBounds_toArray, List.set_cons_succ, List.set_cons_zero]
            refine ⟨fun j w1 hj hC => Chg.uponW_yes (by rfl) (by exact Chn.upon_pure hC (fun F hF => by (go_simp <;> exact hF))), ?_⟩
            simp only [Act.put, List.setIfInBounds_toArray, List.set_cons_succ, List.set_cons_zero]
            refine ⟨fun j w1 hj hC => Chg.uponW_yes (by rfl) (by exact Chn.upon_pure hC (fun F hF => by (go_simp <;> exact hF))), ?_⟩
            simp only [Act.put, List.setIfInBounds_toArray, List.set_cons_succ, List.set_cons_zero]
            refine ⟨fun j w1 hj hC => Chg.uponW_yes (by rfl) (by exact Chn.upon_pure hC (fun F hF => by (go_simp <;> exact hF))), ?_⟩
            simp only [Act.put, List.setIfInBounds_toArray, List.set_cons_succ, List.set_cons_zero]
            refine ⟨fun j w1 hj hC => Chg.uponW_yes (by rfl) (by exact Chn.upon_pure hC (fun F hF => by (go_simp <;> exact hF))), ?_⟩
            simp only [Act.put, List.setIfInBounds_toArray, List.set_cons_succ, List.set_cons_zero]
            refine ⟨fun j w1 hj hC => Chg.uponW_yes (by rfl) (by exact Chn.upon_pure hC (fun F hF => by (go_simp <;> exact hF))), ?_⟩
            simp only [Act.put, List.setIfInBounds_toArray, List.set_cons_succ, List.set_cons_zero]
            refine ⟨fun j w1 hj hC => Chg.uponW_yes (by rfl) (by exact Chn.upon_pure hC (fun F hF => by (go_simp <;> exact hF))), ?_⟩
            simp only [Act.put, List.setIfInBounds_toArray, List.set_cons_succ, List.set_cons_zero]
            refine ⟨fun j w1 hj hC => Chg.uponW_yes (by rfl) (by exact Chn.upon_pure hC (fun F hF => by (go_simp <;> exact hF))), ?_⟩
            simp only [Act.put, List.setIfInBounds_toArray, List.set_cons_succ, List.set_cons_zero]
            refine ⟨fun j w1 hj hC => Chg.uponW_yes (by rfl) (by exact Chn.upon_pure hC (fun F hF => by (go_simp <;> exact hF))), ?_⟩
            simp only [Act.put, List.setIfInBounds_toArray, List.set_cons_succ, List.set_cons_zero]
            refine ⟨fun j w1 hj hC => Chg.uponW_yes (by rfl) (by exact Chn.upon_pure hC (fun F hF => by (go_simp <;> exact hF))), ?_⟩
            simp only [Act.put, List.setIfInBounds_toArray, List.set_cons_succ, List.set_cons_zero]
            refine ⟨fun j w1 hj hC => Chg.uponW_yes (by rfl) (by
              have z := cx w1 (stC_low hj hC)
              exact Chn.upon_pure hC (fun F hF => by (go_simp <;> exact hF))), ?_⟩
            simp only [Act.put, List.setIfInBounds_toArray, List.set_cons_succ, List.set_cons_zero]
            refine ⟨fun j w1 hj hC => Chg.uponW_yes (by rfl) (by exact Chn.upon_pure hC (fun F hF => by (go_simp <;> exact hF))), ?_⟩
            simp only [Act.put, List.setIfInBounds_toArray, List.set_cons_succ, List.set_cons_zero]
            refine ⟨fun j w1 hj hC => Chg.uponW_no (by rfl) ⟨rfl, hC⟩, ?_⟩
            simp only [Act.put, List.setIfInBounds_toArray, List.set_cons_succ, List.set_cons_zero]
            refine ⟨fun j w1 hj hC => Chg.uponW_no (by rfl) ⟨rfl, hC⟩, ?_⟩
            simp only [Act.put, List.setIfInBounds_toArray, List.set_cons_succ, List.set_cons_zero]
            refine ⟨fun j w1 hj hC => Chg.uponW_no (by rfl) ⟨rfl, hC⟩, ?_⟩
            simp only [Act.put, List.setIfInBounds_toArray, List.set_cons_succ, List.set_cons_zero]
            refine ⟨fun j w1 hj hC => Chg.uponW_no (by rfl) ⟨rfl, hC⟩, ?_⟩
            simp only [Act.put, List.setIfInBounds_toArray, List.set_cons_succ, List.set_cons_zero]
            refine ⟨fun j w1 hj hC => Chg.uponW_no (by rfl) ⟨rfl, hC⟩, ?_⟩
            simp only [Act.put, List.setIfInBounds_toArray, List.set_cons_succ, List.set_cons_zero]
            refine ⟨fun j w1 hj hC => Chg.uponW_no (by rfl) ⟨rfl, hC⟩, ?_⟩
            simp only [Act.put, List.setIfInBounds_toArray, List.set_cons_succ, List.set_cons_zero]
            refine ⟨fun j w1 hj hC => Chg.uponW_no (by rfl) ⟨rfl, hC⟩, ?_⟩
            simp only [Act.put, List.setIfInBounds_toArray, List.set_cons_succ, List.set_cons_zero]
            refine ⟨fun j w1 hj hC => Chg.uponW_no (by rfl) ⟨rfl, hC⟩, ?_⟩
            simp only [Act.put, List.setIfInBounds_toArray, List.set_cons_succ, List.set_cons_zero]
            refine ⟨fun j w1 hj hC => Chg.uponW_no (by rfl) ⟨rfl, hC⟩, ?_⟩
            simp only [Act.put, List.setIfInBounds_toArray, List.set_cons_succ, List.set_cons_zero]
            refine ⟨fun j w1 hj hC => Chg.uponW_yes (by rfl) (by exact Chn.upon_pure hC (fun F hF => by (go_simp <;> exact hF))), ?_⟩
            simp only [Act.put, List.setIfInBounds_toArray, List.set_cons_succ, List.set_cons_zero]
            refine ⟨fun j w1 hj hC => Chg.uponW_yes (by rfl) (by exact Chn.upon_pure hC (fun F hF => by (go_simp <;> exact hF))), ?_⟩
            simp only [Act.put, List.setIfInBounds_toArray, List.set_cons_succ, List.set_cons_zero]
            refine ⟨fun j w1 hj hC => Chg.uponW_yes (by rfl) (by exact Chn.upon_pure hC (fun F hF => by (go_simp <;> exact hF))), ?_⟩
            simp only [Act.put, List.setIfInBounds_toArray, List.set_cons_succ, List.set_cons_zero]
            refine ⟨fun j w1 hj hC => Chg.uponW_yes (by rfl) (by exact Chn.upon_pure hC (fun F hF => by (go_simp <;> exact hF))), ?_⟩
            simp only [Act.put, List.setIfInBounds_toArray, List.set_cons_succ, List.set_cons_zero]
            refine ⟨fun j w1 hj hC => Chg.uponW_yes (by rfl) (by exact Chn.upon_pure hC (fun F hF => by (go_simp <;> exact hF))), ?_⟩
            simp only [Act.put, List.setIfInBounds_toArray, List.set_cons_succ, List.set_cons_zero]
            refine ⟨fun w1 hC => Chg.uponW_yes (by rfl) (by
              exact chn_store (C := (StC wr (fun w1 => DI w t n (dT (miR T S) k (j + 1)) w1)) 1) 4 _ _ rfl t (1 + k * 64 + j) rfl (.bool false) rfl ((hD.grow hC).run hk64 hj64 _) (((hD.grow hC).put hk64 hj64 false).to hput.out)), ?_⟩
            simp only [Act.put, List.setIfInBounds_toArray, List.set_cons_succ, List.set_cons_zero]
            intro w5 hC
            have hD2 : DI w t n (dT (miR T S) k (j + 1)) w5 := hC
            clear hC hD c0
            go_wp2
            go_roundw
            case rel => exact ⟨j + 1, by omega, by go_num, hD2⟩
            case measure => simp [intOf]; omega
        · obtain rfl : j = n := by omega
          have hD2 : DI w t j (dT (miR T S) (k + 1) 0) wr := hD.to (by rw [dT_next hfit])
          go_wp2
          go_roundw
          case rel => exact ⟨k + 1, by omega, by go_num, hD2⟩
          case measure => simp [intOf]; omega
    · obtain rfl : k = n := by omega
      have hD2 : DI w t k (miR T S) wr := hD.to (by rw [dT_end hfit])
      go_wp2
      go_ret
      exact ⟨t, rfl, hD2⟩
end Go.Proofs.YtfgbhdcoemkdoaaDoor
