/- The document's Then. -/
import Derived.Test.YtfgbhdcoemkdoaaDoorWa
namespace Go.Proofs.YtfgbhdcoemkdoaaDoor
open Go.RowKit
set_option linter.unusedVariables false
set_option linter.unusedSimpArgs false
set_option maxRecDepth 8000

open Rlw
/-- The table on its way. -/
def tT (n : Nat) (T S : Nat → Nat → Bool) (k j c : Nat) : Nat → Nat → Bool := fun x y => if x < k then thR n T S x y else if x = k then ((List.range j).any fun b => T k b && S b y) || (decide (y < c) && T k j && S j y) else false
theorem tT_zero (n : Nat) (T S : Nat → Nat → Bool) : (fun _ _ => false) = tT n T S 0 0 0 := by
  funext x y
  unfold tT
  rw [if_neg (by omega)]
  split <;> simp
theorem tT_at (n : Nat) (T S : Nat → Nat → Bool) (k j c : Nat) : tT n T S k j c k c = (List.range j).any fun b => T k b && S b c := by
  unfold tT
  rw [if_neg (by omega), if_pos rfl]; simp
theorem tT_put (n : Nat) {T S : Nat → Nat → Bool} {k j c : Nat} (h : T k j = true) : upT (tT n T S k j c) k c (tT n T S k j c k c || S j c) = tT n T S k j (c + 1) := by
  funext x y
  rw [tT_at]
  unfold upT tT
  by_cases e : x = k ∧ y = c
  · obtain ⟨rfl, rfl⟩ := e
    rw [if_pos ⟨rfl, rfl⟩, if_neg (by omega), if_pos rfl]
    simp [h]
  · rw [if_neg e]
    by_cases e1 : x = k
    · subst e1
      have e2 : y ≠ c := fun h => e ⟨rfl, h⟩
      have : decide (y < c) = decide (y < c + 1) := decide_eq_decide.2 (by omega)
      rw [this]
    · simp [e1]
theorem tT_next {n : Nat} {T S : Nat → Nat → Bool} (hg : Fits n S) (k j : Nat) : tT n T S k j n = tT n T S k (j + 1) 0 := by
  funext x y
  unfold tT
  by_cases e1 : x = k
  · subst e1
    simp only [Nat.lt_irrefl, ↓reduceIte]
    rw [List.range_succ, List.any_append]
    cases e : S j y with
    | false => simp [e]
    | true => simp [e, (hg j y e).2]
  · simp [e1]
theorem tT_skip {n : Nat} {T S : Nat → Nat → Bool} {k j : Nat} (h : T k j = false) : tT n T S k j 0 = tT n T S k (j + 1) 0 := by
  funext x y
  unfold tT
  by_cases e1 : x = k
  · subst e1
    simp only [Nat.lt_irrefl, ↓reduceIte]
    rw [List.range_succ, List.any_append]
    simp [h]
  · simp [e1]
theorem tT_row (n : Nat) (T S : Nat → Nat → Bool) (k : Nat) : tT n T S k n 0 = tT n T S (k + 1) 0 0 := by
  funext x y
  unfold tT
  by_cases e : x < k
  · rw [if_pos e, if_pos (by omega)]
  · rw [if_neg e]
    by_cases e1 : x = k
    · subst e1
      rw [if_pos rfl, if_pos (by omega)]
      simp [thR]
    · rw [if_neg e1, if_neg (by omega)]
      split <;> simp
theorem tT_end {n : Nat} {T S : Nat → Nat → Bool} (hf : Fits n T) (hg : Fits n S) : tT n T S n 0 0 = thR n T S := by
  funext x y
  unfold tT
  by_cases e : x < n
  · rw [if_pos e]
  · rw [if_neg e]
    have : thR n T S x y = false := by
      cases h : thR n T S x y with
      | false => rfl
      | true => exact absurd ((hf.th (m := n) hg) x y h).1 e
    rw [this]
    split <;> simp
set_option maxHeartbeats 8000000 in
theorem docThen_c {x y n : Nat} {T S : Nat → Nat → Bool} {w : World} (H : RefAt x n T w) (K : RefAt y n S w) (hf : Fits n T) (hg : Fits n S) : Calls Tryd.prog 29 #[ptr x 0, ptr y 0] w fun e w' => ∃ t, e = .returned (ptr t 0) ∧ DI w t n (thR n T S) w' := by
  have hle := H.le
  have c0 := H.c0
  go_enter Tryd.func29, Tryd.ntmps29
  go_upto_region 2 with (first | (with_reducible refine wpList_new38 rfl _ rfl n rfl ?_; simp only [Act.put, List.setIfInBounds_toArray, List.set_cons_succ, List.set_cons_zero]) | (with_reducible refine wpList_box38 rfl _ rfl n hle (fun _ _ => false) rfl ?_; intro w1 hR hB hsz; simp only [Act.put, List.setIfInBounds_toArray, List.set_cons_succ, List.set_cons_zero]))
  have hD0 : DI w w.heap.size n (tT n T S 0 0 0) w1 := ⟨hR.congr fun a b _ _ => congrFun (congrFun (tT_zero n T S) a) b, hB, Nat.le_refl _⟩
  generalize ht : w.heap.size = t at hD0
  clear hR hB hsz c0 ht
  go_wp2
  go_loopw [6] (fun sa wr => ∃ k : Nat, k ≤ n ∧ sa = vI k ∧ Hid (DI w t n (tT n T S k 0 0) wr)) (fun sa _ => 64 - (intOf sa).toNat)
  case atStart => exact ⟨0, Nat.zero_le _, rfl, hD0⟩
  case round =>
    obtain ⟨k, hkn, rfl, hH⟩ := hrel
    have hD := hH.out
    clear hH hD0
    have c0 := (H.grow hD.low).c0
    by_cases hlt : (k : Int) < n
    · have hkl : k < n := by omega
      have hk64 : k < 64 := by omega
      have hk64i : (k : Int) < 64 := by omega
      go_wp2
      clear c0
      go_loopw [7] (fun sb wr => ∃ j : Nat, j ≤ n ∧ sb = vI j ∧ Hid (DI w t n (tT n T S k j 0) wr)) (fun sb _ => 64 - (intOf sb).toNat)
      case atStart => exact ⟨0, Nat.zero_le _, rfl, hD⟩
      case round =>
        obtain ⟨j, hjn, rfl, hH⟩ := hrel
        clear hD
        have hD := hH.out
        clear hH
        have c0 := (H.grow hD.low).c0
        by_cases hlt2 : (j : Int) < n
        · have hjl : j < n := by omega
          have hj64 : j < 64 := by omega
          have hj64i : (j : Int) < 64 := by omega
          have cx := (H.grow hD.low).cell hk64 hj64
          cases hTk : T k j with
          | false =>
            rw [hTk] at cx
            have hD2 : DI w t n (tT n T S k (j + 1) 0) wr := hD.to (tT_skip hTk)
            replace hTk := show Hid _ from hTk
            clear hD
            go_wp2
            go_roundw
            case rel => exact ⟨j + 1, by omega, by go_num, hD2⟩
            case measure => simp [intOf]; omega
          | true =>
            rw [hTk] at cx
            replace hTk := show Hid _ from hTk
            go_wp2
            clear c0 cx
            go_loopw [8] (fun sc wr => ∃ c : Nat, c ≤ n ∧ sc = vI c ∧ Hid (DI w t n (tT n T S k j c) wr)) (fun sc _ => 64 - (intOf sc).toNat)
            case atStart => exact ⟨0, Nat.zero_le _, rfl, hD⟩
            case round =>
              obtain ⟨c, hcn, rfl, hH⟩ := hrel
              clear hD
              have hD := hH.out
              clear hH
              have c0 := (H.grow hD.low).c0
              by_cases hlt3 : (c : Int) < n
              · have hcl : c < n := by omega
                have hc64 : c < 64 := by omega
                have hc64i : (c : Int) < 64 := by omega
                have ct : ∀ w1, Below wr.heap.size wr w1 → w1.cell? ⟨t, 1 + k * 64 + c, none⟩ = some (.bool (tT n T S k j c k c)) := fun w1 h1 => (hD.grow h1).row.cell hk64 hc64
                have cy : ∀ w1, Below wr.heap.size wr w1 → w1.cell? ⟨y, 1 + j * 64 + c, none⟩ = some (.bool (S j c)) := fun w1 h1 => ((K.grow hD.low).grow h1).cell hj64 hc64
                have hput := tT_put n (S := S) (c := c) hTk.out
                generalize tT n T S k j c k c = tv at ct hput
                generalize S j c = sv at cy hput
                replace hput := show Hid _ from hput
                cases tv with
                | true =>
                  go_upto_region 12 with fail
                  have hst : (StC wr (fun w1 => DI w t n (tT n T S k j (c + 1)) w1)) 0 { wr with drawn := wr.drawn + 1 } := Rel.below_draws (n := 1) (Below.refl _ _)
                  refine Chg.wp_region_chainG (StC wr (fun w1 => DI w t n (tT n T S k j (c + 1)) w1)) [25] [1, 1, 1, 1, 1, 1, 1, 1, 1, 1, 0, 1, 1, 1, 1, 1, 1, 1, 1, 1, 1, 1, 1, 1, 1, 1] [ptr t 0, vI k, vI c, ptr t 0, vI k, vI c, ptr t 0, ptr t 1, ptr t (1 + k * 64), ptr t (1 + k * 64 + c), .bool true, .bool true, undef, undef, undef, undef, undef, undef, undef, undef, .bool true, ptr t 0, ptr t 1, ptr t (1 + k * 64), ptr t (1 + k * 64 + c), undef] (by kernel_rfl) (by kernel_rfl) (by kernel_rfl) (by kernel_rfl) (by kernel_rfl) hst ?_
                  clear hst
                  refine ⟨fun j w1 hj hC => Chg.uponW_yes (by rfl) (by exact Chn.upon_pure hC (fun F hF => by (go_simp <;> exact hF))), ?_⟩
                  simp only [Act.put, List.setIfInBounds_toArray, List.set_cons_succ, List.set_cons_zero]
                  refine ⟨fun j w1 hj hC => Chg.uponW_yes (by rfl) (by exact Chn.upon_pure hC (fun F hF => by (go_simp <;> exact hF))), ?_⟩
                  simp only [Act.put, List.setIfInBounds_toArray, List.set_cons_succ, List.set_cons_zero]
                  refine ⟨fun j w1 hj hC => Chg.uponW_yes (by rfl) (by exact Chn.upon_pure hC (fun F hF => by (go_simp <;> exact hF))), ?_⟩
                  simp only [Act.put, List.setIfInBounds_toArray, List.set_cons_succ, List.set_cons_zero]
                  refine ⟨fun j w1 hj hC => Chg.uponW_yes (by rfl) (by exact Chn.upon_pure hC (fun F hF => by (go_simp <;> exact hF))), ?_⟩
                  simp only [Act.put, List.setIfInBounds_toArray, List.set_cons_succ, List.set_cons_zero]
                  refine ⟨fun j w1 hj hC => Chg.uponW_yes (by rfl) (by exact Chn.upon_pure hC (fun F hF => by (go_simp <;> exact hF))), ?_⟩
                  simp only [Act.put, List.setIfInBounds_toArray, List.set_cons_succ, List.set_cons_zero]
                  refine ⟨fun j w1 hj hC => Chg.uponW_yes (by rfl) (by exact Chn.upon_pure hC (fun F hF => by (go_simp <;> exact hF))), ?_⟩
                  simp only [Act.put, List.setIfInBounds_toArray, List.set_cons_succ, List.set_cons_zero]
                  refine ⟨fun j w1 hj hC => Chg.uponW_yes (by rfl) (by exact Chn.upon_pure hC (fun F hF => by (go_simp <;> exact hF))), ?_⟩
                  simp only [Act.put, List.setIfInBounds_toArray, List.set_cons_succ, List.set_cons_zero]
                  refine ⟨fun j w1 hj hC => Chg.uponW_yes (by rfl) (by exact Chn.upon_pure hC (fun F hF => by (go_simp <;> exact hF))), ?_⟩
                  simp only [Act.put, List.setIfInBounds_toArray, List.set_cons_succ, List.set_cons_zero]
                  refine ⟨fun j w1 hj hC => Chg.uponW_yes (by rfl) (by exact Chn.upon_pure hC (fun F hF => by (go_simp <;> exact hF))), ?_⟩
                  simp only [Act.put, List.setIfInBounds_toArray, List.set_cons_succ, List.set_cons_zero]
                  refine ⟨fun j w1 hj hC => Chg.uponW_yes (by rfl) (by exact Chn.upon_pure hC (fun F hF => by (go_simp <;> exact hF))), ?_⟩
                  simp only [Act.put, List.setIfInBounds_toArray, List.set_cons_succ, List.set_cons_zero]
                  refine ⟨fun j w1 hj hC => Chg.uponW_yes (by rfl) (by
                    have z := ct w1 (stC_low hj hC)
                    exact Chn.upon_pure hC (fun F hF => by (go_simp <;> exact hF))), ?_⟩
                  simp only [Act.put, List.setIfInBounds_toArray, List.set_cons_succ, List.set_cons_zero]
                  refine ⟨fun j w1 hj hC => Chg.uponW_yes (by rfl) (by exact Chn.upon_pure hC (fun F hF => by (go_simp <;> exact hF))), ?_⟩
                  simp only [Act.put, List.setIfInBounds_toArray, List.set_cons_succ, List.set_cons_zero]
                  refine ⟨fun j w1 hj hC => Chg.uponW_no (by rfl) ⟨rfl, hC⟩, ?_⟩
                  simp only [Act.put, List.setIfInBounds_toArray, List.set_cons_succ, List.set_cons_zero]
                  refine ⟨fun j w1 hj hC => Chg.uponW_no (by rfl) ⟨rfl, hC⟩, ?_⟩
                  simp only [Act.put, List.setIfInBounds_toArray, List.set_cons_succ, List.set_cons_zero]
                  refine ⟨fun j w1 hj hC => Chg.uponW_no (by rfl) ⟨rfl, hC⟩, ?_⟩
                  simp only [Act.put, List.setIfInBounds_toArray, List.set_cons_succ, List.set_cons_zero]
                  refine ⟨fun j w1 hj hC => Chg.uponW_no (by rfl) ⟨rfl, hC⟩, ?_⟩
                  simp only [Act.put, List.setIfInBounds_toArray, List.set_cons_succ, List.set_cons_zero]
                  refine ⟨fun j w1 hj hC => Chg.uponW_no (by rfl) ⟨rfl, hC⟩, ?_⟩
                  simp only [Act.put, List.setIfInBounds_toArray, List.set_cons_succ, List.set_cons_zero]
                  refine ⟨fun j w1 hj hC => Chg.uponW_no (by rfl) ⟨rfl, hC⟩, ?_⟩
                  simp only [Act.put, List.setIfInBounds_toArray, List.set_cons_succ, List.set_cons_zero]
                  refine ⟨fun j w1 hj hC => Chg.uponW_no (by rfl) ⟨rfl, hC⟩, ?_⟩
                  simp only [Act.put, List.setIfInBounds_toArray, List.set_cons_succ, List.set_cons_zero]
                  refine ⟨fun j w1 hj hC => Chg.uponW_no (by rfl) ⟨rfl, hC⟩, ?_⟩
                  simp only [Act.put, List.setIfInBounds_toArray, List.set_cons_succ, List.set_cons_zero]
                  refine ⟨fun j w1 hj hC => Chg.uponW_yes (by rfl) (by exact Chn.upon_pure hC (fun F hF => by (go_simp <;> exact hF))), ?_⟩
                  simp only [Act.put, List.setIfInBounds_toArray, List.set_cons_succ, List.set_cons_zero]
                  refine ⟨fun j w1 hj hC => Chg.uponW_yes (by rfl) (by exact Chn.upon_pure hC (fun F hF => by (go_simp <;> exact hF))), ?_⟩
                  simp only [Act.put, List.setIfInBounds_toArray, List.set_cons_succ, List.set_cons_zero]
                  refine ⟨fun j w1 hj hC => Chg.uponW_yes (by rfl) (by exact Chn.upon_pure hC (fun F hF => by (go_simp <;> exact hF))), ?_⟩
                  simp only [Act.put, List.setIfInBounds_toArray, List.set_cons_succ, List.set_cons_zero]
                  refine ⟨fun j w1 hj hC => Chg.uponW_yes (by rfl) (by exact Chn.upon_pure hC (fun F hF => by (go_simp <;> exact hF))), ?_⟩
                  simp only [Act.put, List.setIfInBounds_toArray, List.set_cons_succ, List.set_cons_zero]
                  refine ⟨fun j w1 hj hC => Chg.uponW_yes (by rfl) (by exact Chn.upon_pure hC (fun F hF => by (go_simp <;> exact hF))), ?_⟩
                  simp only [Act.put, List.setIfInBounds_toArray, List.set_cons_succ, List.set_cons_zero]
                  refine ⟨fun w1 hC => Chg.uponW_yes (by rfl) (by
                    exact chn_store (C := (StC wr (fun w1 => DI w t n (tT n T S k j (c + 1)) w1)) 1) 4 _ _ rfl t (1 + k * 64 + c) rfl (.bool true) rfl ((hD.grow hC).run hk64 hc64 _) (((hD.grow hC).put hk64 hc64 true).to hput.out)), ?_⟩
                  simp only [Act.put, List.setIfInBounds_toArray, List.set_cons_succ, List.set_cons_zero]
                  intro w5 hC
                  have hD2 : DI w t n (tT n T S k j (c + 1)) w5 := hC
                  clear hC hD c0
                  go_wp2
                  go_roundw
                  case rel => exact ⟨c + 1, by omega, by go_num, hD2⟩
                  case measure => simp [intOf]; omega
                | false =>
                  go_upto_region 12 with fail
                  have hst : (StC wr (fun w1 => DI w t n (tT n T S k j (c + 1)) w1)) 0 { wr with drawn := wr.drawn + 1 } := Rel.below_draws (n := 1) (Below.refl _ _)
                  refine Chg.wp_region_chainG (StC wr (fun w1 => DI w t n (tT n T S k j (c + 1)) w1)) [25] [1, 1, 1, 1, 1, 1, 1, 1, 1, 1, 0, 1, 1, 1, 1, 1, 1, 1, 1, 0, 1, 1, 1, 1, 1, 1] [ptr t 0, vI k, vI c, ptr t 0, vI k, vI c, ptr t 0, ptr t 1, ptr t (1 + k * 64), ptr t (1 + k * 64 + c), .bool false, .bool false, ptr y 0, vI j, vI c, ptr y 0, ptr y 1, ptr y (1 + j * 64), ptr y (1 + j * 64 + c), .bool sv, .bool sv, ptr t 0, ptr t 1, ptr t (1 + k * 64), ptr t (1 + k * 64 + c), undef] (by kernel_rfl) (by kernel_rfl) (by kernel_rfl) (by kernel_rfl) (by kernel_rfl) hst ?_
                  clear hst
                  refine ⟨fun j w1 hj hC => Chg.uponW_yes (by rfl) (by exact Chn.upon_pure hC (fun F hF => by (go_simp <;> exact hF))), ?_⟩
                  simp only [Act.put, List.setIfInBounds_toArray, List.set_cons_succ, List.set_cons_zero]
                  refine ⟨fun j w1 hj hC => Chg.uponW_yes (by rfl) (by exact Chn.upon_pure hC (fun F hF => by (go_simp <;> exact hF))), ?_⟩
                  simp only [Act.put, List.setIfInBounds_toArray, List.set_cons_succ, List.set_cons_zero]
                  refine ⟨fun j w1 hj hC => Chg.uponW_yes (by rfl) (by exact Chn.upon_pure hC (fun F hF => by (go_simp <;> exact hF))), ?_⟩
                  simp only [Act.put, List.setIfInBounds_toArray, List.set_cons_succ, List.set_cons_zero]
                  refine ⟨fun j w1 hj hC => Chg.uponW_yes (by rfl) (by exact Chn.upon_pure hC (fun F hF => by (go_simp <;> exact hF))), ?_⟩
                  simp only [Act.put, List.setIfInBounds_toArray, List.set_cons_succ, List.set_cons_zero]
                  refine ⟨fun j w1 hj hC => Chg.uponW_yes (by rfl) (by exact Chn.upon_pure hC (fun F hF => by (go_simp <;> exact hF))), ?_⟩
                  simp only [Act.put, List.setIfInBounds_toArray, List.set_cons_succ, List.set_cons_zero]
                  refine ⟨fun j w1 hj hC => Chg.uponW_yes (by rfl) (by exact Chn.upon_pure hC (fun F hF => by (go_simp <;> exact hF))), ?_⟩
                  simp only [Act.put, List.setIfInBounds_toArray, List.set_cons_succ, List.set_cons_zero]
                  refine ⟨fun j w1 hj hC => Chg.uponW_yes (by rfl) (by exact Chn.upon_pure hC (fun F hF => by (go_simp <;> exact hF))), ?_⟩
                  simp only [Act.put, List.setIfInBounds_toArray, List.set_cons_succ, List.set_cons_zero]
                  refine ⟨fun j w1 hj hC => Chg.uponW_yes (by rfl) (by exact Chn.upon_pure hC (fun F hF => by (go_simp <;> exact hF))), ?_⟩
                  simp only [Act.put, List.setIfInBounds_toArray, List.set_cons_succ, List.set_cons_zero]
                  refine ⟨fun j w1 hj hC => Chg.uponW_yes (by rfl) (by exact Chn.upon_pure hC (fun F hF => by (go_simp <;> exact hF))), ?_⟩
                  simp only [Act.put, List.setIfInBounds_toArray, List.set_cons_succ, List.set_cons_zero]
                  refine ⟨fun j w1 hj hC => Chg.uponW_yes (by rfl) (by exact Chn.upon_pure hC (fun F hF => by (go_simp <;> exact hF))), ?_⟩
                  simp only [Act.put, List.setIfInBounds_toArray, List.set_cons_succ, List.set_cons_zero]
                  refine ⟨fun j w1 hj hC => Chg.uponW_yes (by rfl) (by
                    have z := ct w1 (stC_low hj hC)
                    exact Chn.upon_pure hC (fun F hF => by (go_simp <;> exact hF))), ?_⟩
                  simp only [Act.put, List.setIfInBounds_toArray, List.set_cons_succ, List.set_cons_zero]
                  refine ⟨fun j w1 hj hC => Chg.uponW_yes (by rfl) (by exact Chn.upon_pure hC (fun F hF => by (go_simp <;> exact hF))), ?_⟩
                  simp only [Act.put, List.setIfInBounds_toArray, List.set_cons_succ, List.set_cons_zero]
                  refine ⟨fun j w1 hj hC => Chg.uponW_yes (by rfl) (by exact Chn.upon_pure hC (fun F hF => by (go_simp <;> exact hF))), ?_⟩
                  simp only [Act.put, List.setIfInBounds_toArray, List.set_cons_succ, List.set_cons_zero]
                  refine ⟨fun j w1 hj hC => Chg.uponW_yes (by rfl) (by exact Chn.upon_pure hC (fun F hF => by (go_simp <;> exact hF))), ?_⟩
                  simp only [Act.put, List.setIfInBounds_toArray, List.set_cons_succ, List.set_cons_zero]
                  refine ⟨fun j w1 hj hC => Chg.uponW_yes (by rfl) (by exact Chn.upon_pure hC (fun F hF => by (go_simp <;> exact hF))), ?_⟩
                  simp only [Act.put, List.setIfInBounds_toArray, List.set_cons_succ, List.set_cons_zero]
                  refine ⟨fun j w1 hj hC => Chg.uponW_yes (by rfl) (by exact Chn.upon_pure hC (fun F hF => by (go_simp <;> exact hF))), ?_⟩
                  simp only [Act.put, List.setIfInBounds_toArray, List.set_cons_succ, List.set_cons_zero]
                  refine ⟨fun j w1 hj hC => Chg.uponW_yes (by rfl) (by exact Chn.upon_pure hC (fun F hF => by (go_simp <;> exact hF))), ?_⟩
                  simp only [Act.put, List.setIfInBounds_toArray, List.set_cons_succ, List.set_cons_zero]
                  refine ⟨fun j w1 hj hC => Chg.uponW_yes (by rfl) (by exact Chn.upon_pure hC (fun F hF => by (go_simp <;> exact hF))), ?_⟩
                  simp only [Act.put, List.setIfInBounds_toArray, List.set_cons_succ, List.set_cons_zero]
                  refine ⟨fun j w1 hj hC => Chg.uponW_yes (by rfl) (by exact Chn.upon_pure hC (fun F hF => by (go_simp <;> exact hF))), ?_⟩
                  simp only [Act.put, List.setIfInBounds_toArray, List.set_cons_succ, List.set_cons_zero]
                  refine ⟨fun j w1 hj hC => Chg.uponW_yes (by rfl) (by
                    have z := cy w1 (stC_low hj hC)
                    exact Chn.upon_pure hC (fun F hF => by (go_simp <;> exact hF))), ?_⟩
                  simp only [Act.put, List.setIfInBounds_toArray, List.set_cons_succ, List.set_cons_zero]
                  refine ⟨fun j w1 hj hC => Chg.uponW_yes (by rfl) (by exact Chn.upon_pure hC (fun F hF => by (go_simp <;> exact hF))), ?_⟩
                  simp only [Act.put, List.setIfInBounds_toArray, List.set_cons_succ, List.set_cons_zero]
                  refine ⟨fun j w1 hj hC => Chg.uponW_yes (by rfl) (by exact Chn.upon_pure hC (fun F hF => by (go_simp <;> exact hF))), ?_⟩
                  simp only [Act.put, List.setIfInBounds_toArray, List.set_cons_succ, List.set_cons_zero]
                  refine ⟨fun j w1 hj hC => Chg.uponW_yes (by rfl) (by exact Chn.upon_pure hC (fun F hF => by (go_simp <;> exact hF))), ?_⟩
                  simp only [Act.put, List.setIfInBounds_toArray, List.set_cons_succ, List.set_cons_zero]
                  refine ⟨fun j w1 hj hC => Chg.uponW_yes (by rfl) (by exact Chn.upon_pure hC (fun F hF => by (go_simp <;> exact hF))), ?_⟩
                  simp only [Act.put, List.setIfInBounds_toArray, List.set_cons_succ, List.set_cons_zero]
                  refine ⟨fun j w1 hj hC => Chg.uponW_yes (by rfl) (by exact Chn.upon_pure hC (fun F hF => by (go_simp <;> exact hF))), ?_⟩
                  simp only [Act.put, List.setIfInBounds_toArray, List.set_cons_succ, List.set_cons_zero]
                  refine ⟨fun w1 hC => Chg.uponW_yes (by rfl) (by
                    exact chn_store (C := (StC wr (fun w1 => DI w t n (tT n T S k j (c + 1)) w1)) 1) 4 _ _ rfl t (1 + k * 64 + c) rfl (.bool sv) rfl ((hD.grow hC).run hk64 hc64 _) (((hD.grow hC).put hk64 hc64 sv).to hput.out)), ?_⟩
                  simp only [Act.put, List.setIfInBounds_toArray, List.set_cons_succ, List.set_cons_zero]
                  intro w5 hC
                  have hD2 : DI w t n (tT n T S k j (c + 1)) w5 := hC
                  clear hC hD c0
                  go_wp2
                  go_roundw
                  case rel => exact ⟨c + 1, by omega, by go_num, hD2⟩
                  case measure => simp [intOf]; omega
              · obtain rfl : c = n := by omega
                have hD2 : DI w t c (tT c T S k (j + 1) 0) wr := hD.to (tT_next hg k j)
                go_wp2
                go_roundw
                case rel => exact ⟨j + 1, by omega, by go_num, hD2⟩
                case measure => simp [intOf]; omega
        · obtain rfl : j = n := by omega
          have hD2 : DI w t j (tT j T S (k + 1) 0 0) wr := hD.to (tT_row j T S k)
          go_wp2
          go_roundw
          case rel => exact ⟨k + 1, by omega, by go_num, hD2⟩
          case measure => simp [intOf]; omega
    · obtain rfl : k = n := by omega
      have hD2 : DI w t k (thR k T S) wr := hD.to (tT_end hf hg)
      go_wp2
      go_ret
      exact ⟨t, rfl, hD2⟩
end Go.Proofs.YtfgbhdcoemkdoaaDoor
