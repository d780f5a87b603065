/- Whether a list is an order of a relation. -/
import Derived.Test.YtfgbhdcoemkdoaaDoorUb
namespace Go.Proofs.YtfgbhdcoemkdoaaDoor
open Go.RowKit
set_option linter.unusedVariables false
set_option linter.unusedSimpArgs false
set_option maxRecDepth 8000

open Rlw
/-- Rows of numbers. -/
abbrev flI (m : Nat) (f : Nat → Int) : List Value := (List.range m).map fun b => vI (f b)
def upI (f : Nat → Int) (b : Nat) (z : Int) : Nat → Int := fun x => if x = b then z else f x
theorem flI_get {m : Nat} {f : Nat → Int} {b : Nat} (h : b < m) : (flI m f)[b]? = some (vI (f b)) := by simp [flI, h]
theorem flI_set {m : Nat} {f : Nat → Int} {b : Nat} {z : Int} (h : b < m) : (flI m f).set b (vI z) = flI m (upI f b z) := by
  apply List.ext_getElem?
  intro i
  rw [List.getElem?_set]
  by_cases e : b = i
  · subst e
    rw [if_pos rfl, if_pos (by simp [flI]; exact h), flI_get h]; simp [upI]
  · rw [if_neg e]
    by_cases hi : i < m
    · rw [flI_get hi, flI_get hi, upI, if_neg (fun h => e h.symm)]
    · rw [List.getElem?_eq_none (by simp [flI]; omega), List.getElem?_eq_none (by simp [flI]; omega)]
theorem flI_congr {m : Nat} {f g : Nat → Int} (h : ∀ x, x < m → f x = g x) : flI m f = flI m g := by
  apply List.map_congr_left
  intro x hx
  rw [h x (List.mem_range.1 hx)]
/-- A row of numbers of one's own. -/
structure AtI (w : World) (g m : Nat) (f : Nat → Int) (W : World) : Prop where
  row : W.ownsRow w.heap.size 3 1 (.slice (some ⟨g, 0, none⟩) m m) m (flI m f)
  low : Below w.heap.size w W
section
variable {w W W' : World} {g m : Nat} {f : Nat → Int}
theorem AtI.grow (h : AtI w g m f W) (hb : Below W.heap.size W W') : AtI w g m f W' := ⟨own_grow h.row hb, h.low.trans (hb.mono h.low.size)⟩
theorem AtI.cell (h : AtI w g m f W) {b : Nat} (hb : b < m) : W.cell? ⟨g, b, none⟩ = some (vI (f b)) ∧ W.frozen? ⟨g, b, none⟩ = false :=
  ⟨by rw [h.row.cellAt b (by omega), flI_get hb], h.row.frozenAt _⟩
theorem AtI.put (h : AtI w g m f W) {b : Nat} (hb : b < m) (z : Int) : AtI w g m (upI f b z) (W.setCell ⟨g, b, none⟩ (vI z)) := by
  have hs := (h.row.stored b (vI z)).1
  rw [flI_set hb] at hs
  exact ⟨hs, h.low.setCell (p := ⟨g, b, none⟩) (h.row.lt g rfl).1 _⟩
theorem AtI.congr (h : AtI w g m f W) {f' : Nat → Int} (e : ∀ x, x < m → f x = f' x) : AtI w g m f' W := ⟨by rw [← flI_congr e]; exact h.row, h.low⟩
end
def fill (k : Nat) : Nat → Int := fun x => if x < k then -1 else 0
theorem fill_up {k : Nat} (x : Nat) : upI (fill k) k (-1) x = fill (k + 1) x := by
  unfold upI fill
  by_cases e : x = k
  · subst e; simp
  · rw [if_neg e]
    by_cases h : x < k
    · rw [if_pos h, if_pos (by omega)]
    · rw [if_neg h, if_neg (by omega)]
/-- The places of the first k of a list. -/
def plc (l : List Nat) (k : Nat) : Nat → Int := fun x => if l.idxOf x < k then (l.idxOf x : Int) else -1
theorem idx_at {l : List Nat} (hd : l.Nodup) {k x : Nat} (h : l[k]? = some x) : l.idxOf x = k := by
  obtain ⟨hk, rfl⟩ := List.getElem?_eq_some_iff.1 h
  exact hd.idxOf_getElem k hk
theorem idx_get {l : List Nat} {x : Nat} (h : x ∈ l) : l[l.idxOf x]? = some x := by
  have := List.idxOf_lt_length_of_mem h
  rw [List.getElem?_eq_getElem this, List.getElem_idxOf this]
theorem plc_up {l : List Nat} (hd : l.Nodup) {k x : Nat} (h : l[k]? = some x) (y : Nat) : upI (plc l k) x k y = plc l (k + 1) y := by
  unfold upI plc
  by_cases e : y = x
  · subst e; rw [if_pos rfl, idx_at hd h, if_pos (Nat.lt_succ_self k)]
  · rw [if_neg e]
    by_cases h2 : l.idxOf y < k
    · rw [if_pos h2, if_pos (by omega)]
    · have : l.idxOf y ≠ k := fun e2 => by
        have hk := (List.getElem?_eq_some_iff.1 h).1
        have hy : y ∈ l := List.idxOf_lt_length_iff.1 (by omega)
        have := idx_get hy
        rw [e2, h] at this
        exact e (Option.some.inj this).symm
      rw [if_neg h2, if_neg (by omega)]
theorem plc_none {l : List Nat} (hd : l.Nodup) {k x : Nat} (h : l[k]? = some x) : plc l k x = -1 := by
  unfold plc; rw [idx_at hd h, if_neg (by omega)]
theorem wrap_up {k : Nat} (h : k < 4096) : wrap64 ((k : Int) + 1) = ((k + 1 : Nat) : Int) := by
  rw [wrap_in ⟨by omega, by omega⟩]; omega
theorem ord_pos {m : Nat} {R : Nat → Nat → Bool} {l : List Nat} (hO : Ordd m R l) {a b : Nat} (hb : b ∈ l) (hr : R a b = true) : l.idxOf a < l.idxOf b := by
  obtain ⟨j, h1, h2⟩ := hO.fwd _ b (idx_get hb) a hr
  rw [idx_at hO.one h2]; exact h1
theorem ordered_no {r m b0 : Nat} {R : Nat → Nat → Bool} {v : Value} {l : List Nat} {w : World} (H : RelAt r m R w) (hl : w.ownsRow b0 3 1 v l.length (flN l)) (hn : l.length ≠ m) : Calls Tryd.prog 38 #[ptr r 0, v] w fun e w' => e = .returned (.bool false) ∧ w' = w := by
  have hsz := size_c H.row
  obtain ⟨ao, cap, ev, _, _⟩ := own_len hl
  have hne : ((l.length : Int) != (m : Int)) = true := by simp; omega
  subst ev
  go_enter Tryd.func38, Tryd.ntmps38
  go_wp2_with (first | (go_at_call 44; (with_reducible refine hsz.mono ?_); rintro e w1 ⟨rfl, rfl⟩; dsimp only))
  go_ret
  exact ⟨rfl, rfl⟩
set_option maxHeartbeats 4000000 in
theorem ordered_c {r m b0 : Nat} {R : Nat → Nat → Bool} {v : Value} {l : List Nat} {w : World} (H : RelAt r m R w) (hT : Tab w) (hl : w.ownsRow b0 3 1 v l.length (flN l)) (hn : l.length = m) (hO : Ordd m R l) : Calls Tryd.prog 38 #[ptr r 0, v] w fun e w' => e = .returned (.bool true) ∧ Below w.heap.size w w' := by
  have hsz := size_c H.row
  have hm := H.le
  obtain ⟨ao, cap, ev, _, _⟩ := own_len hl
  have hne : ((m : Int) != (m : Int)) = false := by simp
  have hlc : ∀ k, k < m → ∃ lb, ao = some ⟨lb, 0, none⟩ := fun k hk => by
    obtain ⟨lb, cap', e2⟩ := own_slice hl (by omega)
    rw [ev] at e2
    cases e2
    exact ⟨lb, rfl⟩
  have hcl : ∀ lb, ao = some ⟨lb, 0, none⟩ → ∀ (k x : Nat), l[k]? = some x → lb < w.heap.size ∧ w.cell? ⟨lb, k, none⟩ = some (vI x) := fun lb e k x hx => by
    subst e
    have hc := own_cell hl ev hx
    exact ⟨World.block_lt_of_cell? w _ hc, hc⟩
  have hall : ∀ k, k < m → ∃ x, l[k]? = some x := fun k hk => ⟨l[k]'(by omega), List.getElem?_eq_getElem _⟩
  have hlen : Hid (l.length = m) := hn
  rw [hn] at ev
  subst ev
  clear hl hn
  go_enter Tryd.func38, Tryd.ntmps38
  go_upto_region 3 with (first | (go_at_call 44; (with_reducible refine hsz.mono ?_); rintro e w1 ⟨rfl, rfl⟩; dsimp only))
  go_upto_region 4 with (first | (go_at_call 44; (with_reducible refine hsz.mono ?_); rintro e w1 ⟨rfl, rfl⟩; dsimp only) | (with_reducible refine wpList_mkI rfl _ rfl m hm rfl w1.heap.size (Nat.le_refl _) ?_; intro w2 hRs hB2; simp only [Act.put, List.setIfInBounds_toArray, List.set_cons_succ, List.set_cons_zero]))
  have hA0 : AtI w1 w1.heap.size m (fill 0) w2 := ⟨by rw [flI_congr (g := fun _ => 0) (fun x _ => by simp [fill])]; exact hRs, hB2⟩
  clear hRs hsz
  go_wp2
  go_loopw [6] (fun s6 wr => ∃ k : Nat, k ≤ m ∧ s6 = vI k ∧ Hid (AtI w1 w1.heap.size m (fill k) wr)) (fun s6 _ => 64 - (intOf s6).toNat)
  case atStart => exact ⟨0, Nat.zero_le _, rfl, hA0⟩
  case round =>
    obtain ⟨k, hkm, rfl, hH⟩ := hrel
    have hA := hH.out
    clear hH hA0 hB2
    by_cases hlt : (k : Int) < m
    · have hkl : k < m := by omega
      have hc := (hA.cell hkl).1
      have hfz := (hA.cell hkl).2
      have hA2 := (hA.put hkl (-1)).congr (f' := fill (k + 1)) (fun x _ => fill_up x)
      clear hA
      go_wp2
      go_roundw
      case rel => exact ⟨k + 1, by omega, by go_num, hA2⟩
      case measure => simp [intOf]; omega
    · obtain rfl : k = m := by omega
      have hA1 : AtI w1 w1.heap.size k (plc l 0) wr := hA.congr fun x hx => by unfold fill plc; rw [if_pos hx, if_neg (by omega)]
      clear hA
      go_wp2
      go_loopw [7] (fun s7 wr => ∃ j : Nat, j ≤ k ∧ s7 = vI j ∧ Hid (AtI w1 w1.heap.size k (plc l j) wr)) (fun s7 _ => 64 - (intOf s7).toNat)
      case atStart => exact ⟨0, Nat.zero_le _, rfl, hA1⟩
      case round =>
        obtain ⟨j, hjm, rfl, hH⟩ := hrel
        have hA := hH.out
        clear hH hA1
        by_cases hlt2 : (j : Int) < k
        · have hjl : j < k := by omega
          obtain ⟨lb, rfl⟩ := hlc j hjl
          obtain ⟨x, hx⟩ := hall j hjl
          have hxk : x < k := hO.lt x (List.mem_iff_getElem?.2 ⟨j, hx⟩)
          obtain ⟨hlb, hcx⟩ := hcl lb rfl j x hx
          have hcx' : wr.cell? ⟨lb, j, none⟩ = some (vI x) := by rw [hA.low.cell hlb]; exact hcx
          have hc := (hA.cell hxk).1
          have hfz := (hA.cell hxk).2
          rw [plc_none hO.one hx] at hc
          have hA2 := (hA.put hxk j).congr (f' := plc l (j + 1)) (fun y _ => plc_up hO.one hx y)
          have hx0 : ¬ (x : Int) < 0 := by omega
          have hx1 : ¬ (k : Int) ≤ x := by omega
          have hx2 : (x : Int) < k := by omega
          have hx3 : (0 : Int) ≤ x := by omega
          clear hA hcx hlt
          replace hlc := show Hid _ from hlc
          replace hcl := show Hid _ from hcl
          replace hall := show Hid _ from hall
          replace hx := show Hid _ from hx
          go_wp2
          go_roundw
          case rel => exact ⟨j + 1, by omega, by go_num, hA2⟩
          case measure => simp [intOf]; omega
        · obtain rfl : j = k := by omega
          have hA3 : AtI w1 w1.heap.size j (fun x => if l.idxOf x < j then (l.idxOf x : Int) else -1) wr := hA
          have hpr := pairs_r (H.grow hA.low) (hT.grow hA.low)
          clear hlt hlt2 hA hjm hkm
          go_upto_region 15 with (first | (go_at_call 37; (with_reducible refine hpr.mono ?_); rintro e w4 ⟨vp, rfl, hP, hB4⟩; dsimp only))
          have hA4 := hA3.grow hB4
          obtain ⟨po, pc, evp, _, _⟩ := own_len hP
          clear hA3 hB4 hpr
          subst evp
          go_wp2
          go_loopw [9] (fun s9 wr => ∃ k : Nat, k ≤ (Rlw.prsN j j R).length ∧ s9 = vI k ∧ Hid (Below w4.heap.size w4 wr)) (fun s9 _ => (Rlw.prsN j j R).length - (intOf s9).toNat)
          case atStart => exact ⟨0, Nat.zero_le _, rfl, Below.refl _ _⟩
          case round =>
            obtain ⟨k, hkm, rfl, hH⟩ := hrel
            have hB := hH.out
            clear hH
            by_cases hlt : (k : Int) < (Rlw.prsN j j R).length
            · have hkl : k < (Rlw.prsN j j R).length := by omega
              have hpl : (Rlw.prsN j j R).length ≤ 4096 := Nat.le_trans (Rlw.length_prs j R j) (Nat.le_trans (Nat.mul_le_mul hm hm) (by decide))
              have hk4 : k < 4096 := by omega
              obtain ⟨pb, pcap, epv⟩ := own_slice hP (by omega)
              obtain rfl : po = some ⟨pb, 0, none⟩ := by cases epv; rfl
              clear epv
              have hgp : (Rlw.prsN j j R)[k]? = some ((Rlw.prsN j j R)[k]'hkl) := List.getElem?_eq_getElem hkl
              generalize (Rlw.prsN j j R)[k]'hkl = q at hgp
              obtain ⟨a, b⟩ := q
              have hab := Rlw.mem_prs.1 (List.mem_iff_getElem?.2 ⟨k, hgp⟩)
              have hqr := own_pair hP hgp
              have hb2 : b ∈ l := Rlw.nodup_all hO.lt hO.one hlen.out hab.2.1
              have ha2 : a ∈ l := Rlw.nodup_all hO.lt hO.one hlen.out hab.1
              have hpos := ord_pos hO hb2 hab.2.2
              have hia : l.idxOf a < j := by rw [← hlen.out]; exact List.idxOf_lt_length_of_mem ha2
              have hib : l.idxOf b < j := by rw [← hlen.out]; exact List.idxOf_lt_length_of_mem hb2
              have hpa : ∀ w1, Below wr.heap.size wr w1 → w1.cell? ⟨pb, k * 2, none⟩ = some (vI a) := fun w1 h1 => by
                have hc : w4.cell? ⟨pb, k * 2, none⟩ = some (vI a) := hqr 0 _ rfl
                have hlt4 := World.block_lt_of_cell? w4 _ hc
                rw [h1.cell (Nat.lt_of_lt_of_le hlt4 hB.size), hB.cell hlt4]; exact hc
              have hpb : ∀ w1, Below wr.heap.size wr w1 → w1.cell? ⟨pb, k * 2 + 1, none⟩ = some (vI b) := fun w1 h1 => by
                have hc : w4.cell? ⟨pb, k * 2 + 1, none⟩ = some (vI b) := hqr 1 _ rfl
                have hlt4 := World.block_lt_of_cell? w4 _ hc
                rw [h1.cell (Nat.lt_of_lt_of_le hlt4 hB.size), hB.cell hlt4]; exact hc
              have hca : ∀ w2, Below wr.heap.size wr w2 → w2.cell? ⟨w1.heap.size, a, none⟩ = some (vI (l.idxOf a)) := fun w1 h1 => by
                have hc := (((hA4.grow hB).grow h1).cell hab.1).1
                simp only [if_pos hia] at hc
                exact hc
              have hcb : ∀ w2, Below wr.heap.size wr w2 → w2.cell? ⟨w1.heap.size, b, none⟩ = some (vI (l.idxOf b)) := fun w1 h1 => by
                have hc := (((hA4.grow hB).grow h1).cell hab.2.1).1
                simp only [if_pos hib] at hc
                exact hc
              have ha0 : (a : Int) < j := by have := hab.1; omega
              have hb0 : (b : Int) < j := by have := hab.2.1; omega
              generalize l.idxOf a = ia at *
              generalize l.idxOf b = ib at *
              have hge : ¬ (ib : Int) ≤ ia := by omega
              clear hgp hqr hb2 ha2 hia hib
              replace hab := show Hid _ from hab
              go_upto_region 18 with fail
              have hst : (StC wr (fun _ => False)) 0 { wr with drawn := wr.drawn + 1 } := Rel.below_draws (n := 1) (Below.refl _ _)
              refine Chn.wp_region_chainL (StC wr (fun _ => False)) [] [0, 0, 0, 0, 0, 0, 0, 0, 0, 0, 0, 0, 0, 0, 0, 0, 0] [.slice (some ⟨w1.heap.size, 0, none⟩) j j, .slice (some ⟨pb, 0, none⟩) (Rlw.prsN j j R).length pc, vI k, ptr pb (k * 2), ptr pb (k * 2), vI a, ptr w1.heap.size a, vI ia, .slice (some ⟨w1.heap.size, 0, none⟩) j j, .slice (some ⟨pb, 0, none⟩) (Rlw.prsN j j R).length pc, vI k, ptr pb (k * 2), ptr pb (k * 2 + 1), vI b, ptr w1.heap.size b, vI ib, .bool false] (by kernel_rfl) (by kernel_rfl) (by kernel_rfl) (by kernel_rfl) (by kernel_rfl) hst ?_
              clear hst
              refine ⟨fun j wq hj hC => by exact Chn.upon_pure hC (fun F hF => by (go_simp <;> exact hF)), ?_⟩
              simp only [Act.put, List.setIfInBounds_toArray, List.set_cons_succ, List.set_cons_zero]
              refine ⟨fun j wq hj hC => by exact Chn.upon_pure hC (fun F hF => by (go_simp <;> exact hF)), ?_⟩
              simp only [Act.put, List.setIfInBounds_toArray, List.set_cons_succ, List.set_cons_zero]
              refine ⟨fun j wq hj hC => by exact Chn.upon_pure hC (fun F hF => by (go_simp <;> exact hF)), ?_⟩
              simp only [Act.put, List.setIfInBounds_toArray, List.set_cons_succ, List.set_cons_zero]
              refine ⟨fun j wq hj hC => by exact Chn.upon_pure hC (fun F hF => by (go_simp <;> exact hF)), ?_⟩
              simp only [Act.put, List.setIfInBounds_toArray, List.set_cons_succ, List.set_cons_zero]
              refine ⟨fun j wq hj hC => by exact Chn.upon_pure hC (fun F hF => by (go_simp <;> exact hF)), ?_⟩
              simp only [Act.put, List.setIfInBounds_toArray, List.set_cons_succ, List.set_cons_zero]
              refine ⟨fun j wq hj hC => by
                have z := hpa wq (stC_low hj hC)
                exact Chn.upon_pure hC (fun F hF => by (go_simp <;> exact hF)), ?_⟩
              simp only [Act.put, List.setIfInBounds_toArray, List.set_cons_succ, List.set_cons_zero]
              refine ⟨fun j wq hj hC => by exact Chn.upon_pure hC (fun F hF => by (go_simp <;> exact hF)), ?_⟩
              simp only [Act.put, List.setIfInBounds_toArray, List.set_cons_succ, List.set_cons_zero]
              refine ⟨fun j wq hj hC => by
                have z := hca wq (stC_low hj hC)
                exact Chn.upon_pure hC (fun F hF => by (go_simp <;> exact hF)), ?_⟩
              simp only [Act.put, List.setIfInBounds_toArray, List.set_cons_succ, List.set_cons_zero]
              refine ⟨fun j wq hj hC => by exact Chn.upon_pure hC (fun F hF => by (go_simp <;> exact hF)), ?_⟩
              simp only [Act.put, List.setIfInBounds_toArray, List.set_cons_succ, List.set_cons_zero]
              refine ⟨fun j wq hj hC => by exact Chn.upon_pure hC (fun F hF => by (go_simp <;> exact hF)), ?_⟩
              simp only [Act.put, List.setIfInBounds_toArray, List.set_cons_succ, List.set_cons_zero]
              refine ⟨fun j wq hj hC => by exact Chn.upon_pure hC (fun F hF => by (go_simp <;> exact hF)), ?_⟩
              simp only [Act.put, List.setIfInBounds_toArray, List.set_cons_succ, List.set_cons_zero]
              refine ⟨fun j wq hj hC => by exact Chn.upon_pure hC (fun F hF => by (go_simp <;> exact hF)), ?_⟩
              simp only [Act.put, List.setIfInBounds_toArray, List.set_cons_succ, List.set_cons_zero]
              refine ⟨fun j wq hj hC => by exact Chn.upon_pure hC (fun F hF => by (go_simp <;> exact hF)), ?_⟩
              simp only [Act.put, List.setIfInBounds_toArray, List.set_cons_succ, List.set_cons_zero]
              refine ⟨fun j wq hj hC => by
                have z := hpb wq (stC_low hj hC)
                exact Chn.upon_pure hC (fun F hF => by (go_simp <;> exact hF)), ?_⟩
              simp only [Act.put, List.setIfInBounds_toArray, List.set_cons_succ, List.set_cons_zero]
              refine ⟨fun j wq hj hC => by exact Chn.upon_pure hC (fun F hF => by (go_simp <;> exact hF)), ?_⟩
              simp only [Act.put, List.setIfInBounds_toArray, List.set_cons_succ, List.set_cons_zero]
              refine ⟨fun j wq hj hC => by
                have z := hcb wq (stC_low hj hC)
                exact Chn.upon_pure hC (fun F hF => by (go_simp <;> exact hF)), ?_⟩
              simp only [Act.put, List.setIfInBounds_toArray, List.set_cons_succ, List.set_cons_zero]
              refine ⟨fun j wq hj hC => by exact Chn.upon_pure hC (fun F hF => by (go_simp <;> exact hF)), ?_⟩
              simp only [Act.put, List.setIfInBounds_toArray, List.set_cons_succ, List.set_cons_zero]
              intro w5 hC
              have hB5 : Below wr.heap.size wr w5 := hC
              clear hC
              go_wp2
              go_roundw
              case rel => exact ⟨k + 1, by omega, by go_num, hB.trans (hB5.mono hB.size)⟩
              case measure =>
                clear hk4 hpl
                simp only [intOf]
                omega
            · go_wp2
              go_ret
              exact ⟨rfl, hA4.low.trans (hB.mono hA4.low.size)⟩
end Go.Proofs.YtfgbhdcoemkdoaaDoor
