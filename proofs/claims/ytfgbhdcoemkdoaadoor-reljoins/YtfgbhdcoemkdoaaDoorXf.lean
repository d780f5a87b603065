/- The program's Kept. -/
import Derived.Test.YtfgbhdcoemkdoaaDoorVa
import Derived.Test.YtfgbhdcoemkdoaaDoorXc
namespace Go.Proofs.YtfgbhdcoemkdoaaDoor
open Go.RowKit
set_option linter.unusedVariables false
set_option linter.unusedSimpArgs false
set_option maxRecDepth 8000

open Rlw
def KC (w : World) : Nat → World → Prop := fun _ w1 => Below w.heap.size w w1
/-- The pairs kept so far. -/
def kS (l : List (Nat × Nat)) (f g : Nat → Bool) (i : Nat) : Nat → Nat → Bool := fun x y => decide ((x, y) ∈ l.take i) && (f x && g y)
theorem kS_zero (l : List (Nat × Nat)) (f g : Nat → Bool) : (fun _ _ => false) = kS l f g 0 := by funext x y; simp [kS]
theorem kS_yes {l : List (Nat × Nat)} {f g : Nat → Bool} {i a b : Nat} (h : l[i]? = some (a, b)) (ha : f a = true) (hb : g b = true) : addR (kS l f g i) a b = kS l f g (i + 1) := by
  funext x y
  unfold addR kS
  rw [take_snoc h]
  by_cases e : x = a ∧ y = b
  · obtain ⟨rfl, rfl⟩ := e; simp [ha, hb]
  · have : ((x, y) ∈ l.take i ++ [(a, b)]) ↔ (x, y) ∈ l.take i := by
      rw [List.mem_append, List.mem_singleton]
      exact ⟨fun h => h.elim id fun h => absurd (by cases h; exact ⟨rfl, rfl⟩) e, .inl⟩
    rw [decide_eq_decide.2 this]
    have e2 : (decide (x = a) && decide (y = b)) = false := by
      by_cases e1 : x = a
      · have : ¬ y = b := fun h => e ⟨e1, h⟩
        simp [this]
      · simp [e1]
    rw [e2, Bool.or_false]
theorem kS_no {l : List (Nat × Nat)} {f g : Nat → Bool} {i a b : Nat} (h : l[i]? = some (a, b)) (hn : f a = false ∨ g b = false) : kS l f g i = kS l f g (i + 1) := by
  funext x y
  unfold kS
  rw [take_snoc h]
  by_cases e : x = a ∧ y = b
  · obtain ⟨rfl, rfl⟩ := e; rcases hn with hn | hn <;> simp [hn]
  · have : ((x, y) ∈ l.take i ++ [(a, b)]) ↔ (x, y) ∈ l.take i := by
      rw [List.mem_append, List.mem_singleton]
      exact ⟨fun h => h.elim id fun h => absurd (by cases h; exact ⟨rfl, rfl⟩) e, .inl⟩
    rw [decide_eq_decide.2 this]
theorem kS_end {n : Nat} {R : Nat → Nat → Bool} (hf : Fits n R) (f g : Nat → Bool) : kS (prsN n n R) f g (prsN n n R).length = keR f g R := by
  funext x y
  unfold kS keR
  rw [List.take_length]
  have : decide ((x, y) ∈ prsN n n R) = R x y := by
    rw [Bool.eq_iff_iff, decide_eq_true_eq, mem_prs]
    exact ⟨fun h => h.2.2, fun h => ⟨(hf x y h).1, (hf x y h).2, h⟩⟩
  rw [this, Bool.and_assoc]
structure KI (w w1 : World) (n : Nat) (vp : Value) (l : List (Nat × Nat)) (R : Nat → Nat → Bool) (W : World) : Prop where
  rel : RelAt w.heap.size n R W
  row : W.ownsRow w1.heap.size 60 2 vp l.length (flatP l)
  low : Below w.heap.size w W
theorem KI.grow {w w1 W W' : World} {n : Nat} {vp : Value} {l : List (Nat × Nat)} {R : Nat → Nat → Bool} (h : KI w w1 n vp l R W) (hb : Below W.heap.size W W') : KI w w1 n vp l R W' := ⟨h.rel.grow hb, own_grow h.row hb, h.low.trans (hb.mono h.low.size)⟩
theorem KI.to {w w1 W : World} {n : Nat} {vp : Value} {l : List (Nat × Nat)} {R S : Nat → Nat → Bool} (h : KI w w1 n vp l R W) (e : R = S) : KI w w1 n vp l S W := e ▸ h
theorem KI.put {w w1 W : World} {n : Nat} {vp : Value} {l : List (Nat × Nat)} {R : Nat → Nat → Bool} (h : KI w w1 n vp l R W) {a b : Nat} (ha : a < n) (hb : b < n) : KI w w1 n vp l (addR R a b) (W.setCell ⟨w.heap.size, 1 + a, none⟩ (vU ((rwd R a ||| 2 ^ b : Nat) : Int))) := by
  have hle := h.rel.le
  refine ⟨⟨(h.rel.row.put (j := a) (by omega) _).congr (fun c _ => rwd_add (by omega)), h.rel.fit.add ha hb, hle⟩, own_of_block h.row fun k hk => Below.heap_setCell _ _ _ _ (by
    obtain ⟨C, _, hC⟩ := own_kind h.row hk
    exact ne_of_type hC h.rel.row (by decide)), h.low.setCell (p := ⟨w.heap.size, 1 + a, none⟩) (Nat.le_refl _) _⟩
set_option maxHeartbeats 8000000 in
theorem kept_c {r n : Nat} {R : Nat → Nat → Bool} {fv1 fv2 : Value} {f g : Nat → Bool} {w : World} (H : RelAt r n R w) (hT : Tab w) (h1 : ∀ a, a < n → ∀ w1, Below w.heap.size w w1 → Calls Tryd.prog 59 #[fv1, vI a] w1 fun e w' => e = .returned (.bool (f a)) ∧ Below w1.heap.size w1 w') (h2 : ∀ a, a < n → ∀ w1, Below w.heap.size w w1 → Calls Tryd.prog 59 #[fv2, vI a] w1 fun e w' => e = .returned (.bool (g a)) ∧ Below w1.heap.size w1 w') : Calls Tryd.prog 31 #[ptr r 0, fv1, fv2] w fun e w' => e = .returned (ptr w.heap.size 0) ∧ RelAt w.heap.size n (keR f g R) w' ∧ Below w.heap.size w w' := by
  have hle := H.le
  have c0 := H.row.c0
  go_enter Tryd.func31, Tryd.ntmps31
  go_upto_region 2 with (first | (with_reducible refine wpList_new70 rfl _ rfl n rfl ?_; simp only [Act.put, List.setIfInBounds_toArray, List.set_cons_succ, List.set_cons_zero]) | (with_reducible refine wpList_box70 rfl _ rfl n (fun _ => 0) rfl ?_; intro wq hR1 hB1 hsz1; simp only [Act.put, List.setIfInBounds_toArray, List.set_cons_succ, List.set_cons_zero]))
  have HQ0 : RelAt w.heap.size n (kS (prsN n n R) f g 0) wq := by
    rw [← kS_zero]
    exact ⟨hR1.congr fun a _ => (rwd_eq (by decide) (fun b _ => by simp)).symm, fits_no n, hle⟩
  have hpr := pairs_r (H.grow hB1) (hT.grow hB1)
  go_upto_region 3 with (first | (go_at_call 37; (with_reducible refine hpr.mono ?_); rintro e w2 ⟨vp, rfl, hP0, hB2⟩; dsimp only; obtain ⟨po, pc, evp, _, _⟩ := own_len hP0; subst evp))
  clear hpr
  have hK0 : KI w wq n (.slice po (prsN n n R).length pc) (prsN n n R) (kS (prsN n n R) f g 0) w2 := ⟨HQ0.grow hB2, hP0, hB1.trans (hB2.mono hB1.size)⟩
  have hpl : (prsN n n R).length ≤ 4096 := Nat.le_trans (length_prs n R n) (Nat.le_trans (Nat.mul_le_mul hle hle) (by decide))
  have hfit := H.fit
  clear HQ0 hP0 hB2 hR1 c0
  go_wp2
  go_loopw [21] (fun s21 wr => ∃ i : Nat, i ≤ (prsN n n R).length ∧ s21 = vI i ∧ Hid (KI w wq n (.slice po (prsN n n R).length pc) (prsN n n R) (kS (prsN n n R) f g i) wr)) (fun s21 _ => 5000 - (intOf s21).toNat)
  case atStart => exact ⟨0, Nat.zero_le _, rfl, hK0⟩
  case round =>
    clear hK0
    obtain ⟨i, hi, rfl, hH⟩ := hrel
    have hK := hH.out
    clear hH
    by_cases hlt : (i : Int) < (prsN n n R).length
    · have hil : i < (prsN n n R).length := by omega
      obtain ⟨pb, pcap, epv⟩ := own_slice hK.row (by omega)
      obtain rfl : po = some ⟨pb, 0, none⟩ := by cases epv; rfl
      clear epv
      have hgp : (prsN n n R)[i]? = some ((prsN n n R)[i]'hil) := List.getElem?_eq_getElem hil
      generalize (prsN n n R)[i]'hil = pq at hgp
      obtain ⟨a, b⟩ := pq
      have hab := mem_prs.1 (List.mem_iff_getElem?.2 ⟨i, hgp⟩)
      have hqr := own_pair hK.row hgp
      have cp0 : wr.cell? ⟨pb, i * 2, none⟩ = some (vI a) := hqr 0 _ rfl
      have cp1 : wr.cell? ⟨pb, i * 2 + 1, none⟩ = some (vI b) := hqr 1 _ rfl
      have hgp' := show Hid _ from hgp
      have hab' := show Hid _ from hab
      clear hgp hqr
      clear hab
      go_upto_region 5 with fail
      have hab := hab'.out
      have hG : Below wr.heap.size wr (wr.alloc (Obj.cells #[vI a, vI b] 60)) := below_alloc _ _
      have kb0' : (wr.alloc (Obj.cells #[vI a, vI b] 60)).cell? ⟨wr.heap.size, 0, none⟩ = some (vI a) := by rw [cell_of_row _ _ _ _ _ _ (World.alloc_heap_new wr _)]; rfl
      have kb1' : (wr.alloc (Obj.cells #[vI a, vI b] 60)).cell? ⟨wr.heap.size, 1, none⟩ = some (vI b) := by rw [cell_of_row _ _ _ _ _ _ (World.alloc_heap_new wr _)]; rfl
      have hBlt : wr.heap.size < (wr.alloc (Obj.cells #[vI a, vI b] 60)).heap.size := by rw [World.size_alloc]; exact Nat.lt_succ_self _
      have hK3 := hK.grow hG
      generalize (wr.alloc (Obj.cells #[vI a, vI b] 60)) = w3 at *
      generalize hBd : wr.heap.size = B at *
      have hLw := hK3.low
      have kb0 : ∀ w1, Below w3.heap.size w3 w1 → w1.cell? ⟨B, 0, none⟩ = some (vI a) := fun w1 h => by rw [h.cell hBlt]; exact kb0'
      have kb1 : ∀ w1, Below w3.heap.size w3 w1 → w1.cell? ⟨B, 1, none⟩ = some (vI b) := fun w1 h => by rw [h.cell hBlt]; exact kb1'
      clear kb0' kb1' cp0 cp1 hK hG hBd
      replace hab := show Hid _ from hab
      clear hab'
      have hst : (KC w3) 0 { w3 with drawn := w3.drawn + 1 } := Rel.below_draws (n := 1) (Below.refl _ _)
      refine Chn.wp_region_chainL (KC w3) [3, 7] [2, 2, 0, 2, 2, 2, 1, 2, 2, 2] [fv1, ptr B 0, vI a, .bool (f a), fv2, ptr B 1, vI b, .bool (g b), .bool (f a), .bool (g b)] (by kernel_rfl) (by kernel_rfl) (by kernel_rfl) (by kernel_rfl) (by kernel_rfl) hst ?_
      clear hst
      refine ⟨fun j w1 hj hC => by exact Chn.upon_pure hC (fun F hF => by (go_simp <;> exact hF)), ?_⟩
      simp only [Act.put, List.setIfInBounds_toArray, List.set_cons_succ, List.set_cons_zero]
      refine ⟨fun j w1 hj hC => by exact Chn.upon_pure hC (fun F hF => by (go_simp <;> exact hF)), ?_⟩
      simp only [Act.put, List.setIfInBounds_toArray, List.set_cons_succ, List.set_cons_zero]
      refine ⟨fun j w1 hj hC => by
        have z := kb0 w1 hC
        exact Chn.upon_pure hC (fun F hF => by (go_simp <;> exact hF)), ?_⟩
      simp only [Act.put, List.setIfInBounds_toArray, List.set_cons_succ, List.set_cons_zero]
      refine ⟨fun w1 hC => by
        exact Chn.upon_call (C := (KC w3) 1) (h1 a hab.out.1 w1 (hLw.trans (hC.mono hLw.size))) (fun e2 w2 hh => ⟨hh.1, hC.trans (hh.2.mono hC.size)⟩) (fun F hF => by (go_simp <;> exact hF)), ?_⟩
      simp only [Act.put, List.setIfInBounds_toArray, List.set_cons_succ, List.set_cons_zero]
      refine ⟨fun j w1 hj hC => by exact Chn.upon_pure hC (fun F hF => by (go_simp <;> exact hF)), ?_⟩
      simp only [Act.put, List.setIfInBounds_toArray, List.set_cons_succ, List.set_cons_zero]
      refine ⟨fun j w1 hj hC => by exact Chn.upon_pure hC (fun F hF => by (go_simp <;> exact hF)), ?_⟩
      simp only [Act.put, List.setIfInBounds_toArray, List.set_cons_succ, List.set_cons_zero]
      refine ⟨fun j w1 hj hC => by
        have z := kb1 w1 hC
        exact Chn.upon_pure hC (fun F hF => by (go_simp <;> exact hF)), ?_⟩
      simp only [Act.put, List.setIfInBounds_toArray, List.set_cons_succ, List.set_cons_zero]
      refine ⟨fun w1 hC => by
        exact Chn.upon_call (C := (KC w3) 2) (h2 b hab.out.2.1 w1 (hLw.trans (hC.mono hLw.size))) (fun e2 w2 hh => ⟨hh.1, hC.trans (hh.2.mono hC.size)⟩) (fun F hF => by (go_simp <;> exact hF)), ?_⟩
      simp only [Act.put, List.setIfInBounds_toArray, List.set_cons_succ, List.set_cons_zero]
      refine ⟨fun j w1 hj hC => by exact Chn.upon_pure hC (fun F hF => by (go_simp <;> exact hF)), ?_⟩
      simp only [Act.put, List.setIfInBounds_toArray, List.set_cons_succ, List.set_cons_zero]
      refine ⟨fun j w1 hj hC => by exact Chn.upon_pure hC (fun F hF => by (go_simp <;> exact hF)), ?_⟩
      simp only [Act.put, List.setIfInBounds_toArray, List.set_cons_succ, List.set_cons_zero]
      intro w5 hC
      have hB5 : Below w3.heap.size w3 w5 := hC
      clear hC
      have hK5 := hK3.grow hB5
      have kc0 : ∀ w1, Below w5.heap.size w5 w1 → w1.cell? ⟨B, 0, none⟩ = some (vI a) := fun w1 h => kb0 w1 (hB5.trans (h.mono hB5.size))
      have kc1 : ∀ w1, Below w5.heap.size w5 w1 → w1.cell? ⟨B, 1, none⟩ = some (vI b) := fun w1 h => kb1 w1 (hB5.trans (h.mono hB5.size))
      clear kb0 kb1 hK3 hLw hB5
      cases hfa : f a with
      | false =>
        have hK6 := hK5.to (kS_no hgp'.out (.inl hfa))
        replace hfa := show Hid _ from hfa
        clear hK5
        go_wp2
        go_roundw
        case rel => exact ⟨i + 1, by omega, by go_num, hK6⟩
        case measure => simp [intOf]; omega
      | true =>
        cases hgb : g b with
        | false =>
          have hK6 := hK5.to (kS_no hgp'.out (.inr hgb))
          replace hfa := show Hid _ from hfa
          replace hgb := show Hid _ from hgb
          clear hK5
          go_wp2
          go_roundw
          case rel => exact ⟨i + 1, by omega, by go_num, hK6⟩
          case measure => simp [intOf]; omega
        | true =>
          have hyes := show Hid _ from kS_yes hgp'.out hfa hgb
          replace hfa := show Hid _ from hfa
          replace hgb := show Hid _ from hgb
          have HQ5 := hK5.rel
          have hLw5 := hK5.low
          generalize hR2 : kS (prsN n n R) f g i = R2 at *
          have ha64 : a < 64 := by have := hab.out.1; omega
          have hb64 : b < 64 := by have := hab.out.2.1; omega
          have ha64i : (a : Int) < 64 := by omega
          have hb64i : (b : Int) < 64 := by omega
          go_upto_region 7 with fail
          have hst : (StC w5 (fun W1 => KI w wq n (.slice (some ⟨pb, 0, none⟩) (prsN n n R).length pc) (prsN n n R) (addR R2 a b) W1)) 0 { w5 with drawn := w5.drawn + 1 } := Rel.below_draws (n := 1) (Below.refl _ _)
          refine Chn.wp_region_chainL (StC w5 (fun W1 => KI w wq n (.slice (some ⟨pb, 0, none⟩) (prsN n n R).length pc) (prsN n n R) (addR R2 a b) W1)) [16] [1, 1, 0, 1, 1, 0, 1, 1, 1, 0, 1, 0, 1, 1, 1, 1, 1] [ptr w.heap.size 0, ptr B 0, vI a, ptr w.heap.size 0, ptr B 0, vI a, ptr w.heap.size 0, ptr w.heap.size 1, ptr w.heap.size (1 + a), vU (rwd R2 a), ptr B 1, vI b, vU ((rwd R2 a ||| 2 ^ b : Nat) : Int), ptr w.heap.size 0, ptr w.heap.size 1, ptr w.heap.size (1 + a), undef] (by kernel_rfl) (by kernel_rfl) (by kernel_rfl) (by kernel_rfl) (by kernel_rfl) hst ?_
          clear hst
          refine ⟨fun j w1 hj hC => by exact Chn.upon_pure hC (fun F hF => by (go_simp <;> exact hF)), ?_⟩
          simp only [Act.put, List.setIfInBounds_toArray, List.set_cons_succ, List.set_cons_zero]
          refine ⟨fun j w1 hj hC => by exact Chn.upon_pure hC (fun F hF => by (go_simp <;> exact hF)), ?_⟩
          simp only [Act.put, List.setIfInBounds_toArray, List.set_cons_succ, List.set_cons_zero]
          refine ⟨fun j w1 hj hC => by
            have z := kc0 w1 (stC_low hj hC)
            exact Chn.upon_pure hC (fun F hF => by (go_simp <;> exact hF)), ?_⟩
          simp only [Act.put, List.setIfInBounds_toArray, List.set_cons_succ, List.set_cons_zero]
          refine ⟨fun j w1 hj hC => by exact Chn.upon_pure hC (fun F hF => by (go_simp <;> exact hF)), ?_⟩
          simp only [Act.put, List.setIfInBounds_toArray, List.set_cons_succ, List.set_cons_zero]
          refine ⟨fun j w1 hj hC => by exact Chn.upon_pure hC (fun F hF => by (go_simp <;> exact hF)), ?_⟩
          simp only [Act.put, List.setIfInBounds_toArray, List.set_cons_succ, List.set_cons_zero]
          refine ⟨fun j w1 hj hC => by
            have z := kc0 w1 (stC_low hj hC)
            exact Chn.upon_pure hC (fun F hF => by (go_simp <;> exact hF)), ?_⟩
          simp only [Act.put, List.setIfInBounds_toArray, List.set_cons_succ, List.set_cons_zero]
          refine ⟨fun j w1 hj hC => by exact Chn.upon_pure hC (fun F hF => by (go_simp <;> exact hF)), ?_⟩
          simp only [Act.put, List.setIfInBounds_toArray, List.set_cons_succ, List.set_cons_zero]
          refine ⟨fun j w1 hj hC => by exact Chn.upon_pure hC (fun F hF => by (go_simp <;> exact hF)), ?_⟩
          simp only [Act.put, List.setIfInBounds_toArray, List.set_cons_succ, List.set_cons_zero]
          refine ⟨fun j w1 hj hC => by exact Chn.upon_pure hC (fun F hF => by (go_simp <;> exact hF)), ?_⟩
          simp only [Act.put, List.setIfInBounds_toArray, List.set_cons_succ, List.set_cons_zero]
          refine ⟨fun j w1 hj hC => by
            have z := ((HQ5.row.grow (stC_low hj hC)).cell (a := a) (by omega))
            exact Chn.upon_pure hC (fun F hF => by (go_simp <;> exact hF)), ?_⟩
          simp only [Act.put, List.setIfInBounds_toArray, List.set_cons_succ, List.set_cons_zero]
          refine ⟨fun j w1 hj hC => by exact Chn.upon_pure hC (fun F hF => by (go_simp <;> exact hF)), ?_⟩
          simp only [Act.put, List.setIfInBounds_toArray, List.set_cons_succ, List.set_cons_zero]
          refine ⟨fun j w1 hj hC => by
            have z := kc1 w1 (stC_low hj hC)
            exact Chn.upon_pure hC (fun F hF => by (go_simp <;> exact hF)), ?_⟩
          simp only [Act.put, List.setIfInBounds_toArray, List.set_cons_succ, List.set_cons_zero]
          refine ⟨fun j w1 hj hC => by
            exact Chn.upon_call (C := (StC w5 (fun W1 => KI w wq n (.slice (some ⟨pb, 0, none⟩) (prsN n n R).length pc) (prsN n n R) (addR R2 a b) W1)) j) (with_c (rwd R2 a) b (rwd_lt R2 a) (by omega) w1) (fun e2 w2 hh => ⟨hh.1, by rw [hh.2]; exact hC⟩) (fun F hF => by (go_simp <;> exact hF)), ?_⟩
          simp only [Act.put, List.setIfInBounds_toArray, List.set_cons_succ, List.set_cons_zero]
          refine ⟨fun j w1 hj hC => by exact Chn.upon_pure hC (fun F hF => by (go_simp <;> exact hF)), ?_⟩
          simp only [Act.put, List.setIfInBounds_toArray, List.set_cons_succ, List.set_cons_zero]
          refine ⟨fun j w1 hj hC => by exact Chn.upon_pure hC (fun F hF => by (go_simp <;> exact hF)), ?_⟩
          simp only [Act.put, List.setIfInBounds_toArray, List.set_cons_succ, List.set_cons_zero]
          refine ⟨fun j w1 hj hC => by exact Chn.upon_pure hC (fun F hF => by (go_simp <;> exact hF)), ?_⟩
          simp only [Act.put, List.setIfInBounds_toArray, List.set_cons_succ, List.set_cons_zero]
          refine ⟨fun w1 hC => by
            exact chn_store (C := (StC w5 (fun W1 => KI w wq n (.slice (some ⟨pb, 0, none⟩) (prsN n n R).length pc) (prsN n n R) (addR R2 a b) W1)) 1) 67 _ _ rfl w.heap.size (1 + a) rfl (vU ((rwd R2 a ||| 2 ^ b : Nat) : Int)) rfl ((HQ5.row.grow hC).run67 (j := a) (by omega) _) ((hK5.grow hC).put hab.out.1 hab.out.2.1), ?_⟩
          simp only [Act.put, List.setIfInBounds_toArray, List.set_cons_succ, List.set_cons_zero]
          intro w6 hC
          have hK6 : KI w wq n (.slice (some ⟨pb, 0, none⟩) (prsN n n R).length pc) (prsN n n R) (addR R2 a b) w6 := hC
          have hK7 := hK6.to hyes.out
          clear hC hK6 hK5 HQ5
          go_wp2
          go_roundw
          case rel => exact ⟨i + 1, by omega, by go_num, hK7⟩
          case measure => simp [intOf]; omega
    · obtain rfl : i = (prsN n n R).length := by omega
      have hK2 := hK.to (kS_end hfit f g)
      clear hK
      go_wp2
      go_ret
      exact ⟨rfl, hK2.rel, hK2.low⟩
end Go.Proofs.YtfgbhdcoemkdoaaDoor
