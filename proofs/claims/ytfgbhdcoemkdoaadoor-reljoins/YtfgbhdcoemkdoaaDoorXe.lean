/- marks. -/
import Derived.Test.YtfgbhdcoemkdoaaDoorUb
namespace Go.Proofs.YtfgbhdcoemkdoaaDoor
open Go.RowKit
set_option linter.unusedVariables false
set_option linter.unusedSimpArgs false
set_option maxRecDepth 8000

open Rlw
/-- A slice of numbers that came in. -/
structure RawI (w0 : World) (v : Value) (zs : List Int) : Prop where
  len : ∃ ao cap, v = .slice ao zs.length cap
  max : zs.length ≤ maxLen
  cell : 0 < zs.length → ∃ (ra : Addr) (cap : Nat), v = .slice (some ra) zs.length cap ∧ ∀ i x, zs[i]? = some x → (ra.add i).block < w0.heap.size ∧ w0.cell? (ra.add i) = some (vI x)
theorem RawI.grow {w w' : World} {v : Value} {zs : List Int} (h : RawI w v zs) (hb : Below w.heap.size w w') : RawI w' v zs :=
  ⟨h.len, h.max, fun h0 => by
    obtain ⟨ra, cap, e, hc⟩ := h.cell h0
    exact ⟨ra, cap, e, fun i x hx => ⟨Nat.lt_of_lt_of_le (hc i x hx).1 hb.size, by rw [hb.cell (hc i x hx).1]; exact (hc i x hx).2⟩⟩⟩
structure BI (w : World) (g m : Nat) (f : Nat → Bool) (W : World) : Prop where
  row : W.ownsRow w.heap.size 4 1 (.slice (some ⟨g, 0, none⟩) m m) m (flB m f)
  low : Below w.heap.size w W
theorem BI.cell {w W : World} {g m : Nat} {f : Nat → Bool} (h : BI w g m f W) {b : Nat} (hb : b < m) : W.cell? ⟨g, b, none⟩ = some (.bool (f b)) ∧ W.frozen? ⟨g, b, none⟩ = false :=
  ⟨by rw [h.row.cellAt b (by omega), flB_get hb], h.row.frozenAt _⟩
theorem BI.put {w W : World} {g m : Nat} {f : Nat → Bool} (h : BI w g m f W) {b : Nat} (hb : b < m) : BI w g m (upB f b) (W.setCell ⟨g, b, none⟩ (.bool true)) := by
  have hs := (h.row.stored b (.bool true)).1
  rw [flB_set hb] at hs
  exact ⟨hs, h.low.setCell (p := ⟨g, b, none⟩) (h.row.lt g rfl).1 _⟩
set_option maxHeartbeats 4000000 in
theorem marks_c {m : Nat} (hm : m ≤ 64) {v : Value} {zs : List Int} {w : World} (hv : RawI w v zs) : Calls Tryd.prog 30 #[vI m, v] w fun e w' => ∃ g f, e = .returned (.slice (some ⟨g, 0, none⟩) m m) ∧ BI w g m f w' := by
  obtain ⟨ao, cap, ev⟩ := hv.len
  have hmax := hv.max
  simp only [maxLen] at hmax
  rw [ev]
  go_enter Tryd.func30, Tryd.ntmps30
  go_upto_region 2 with (first | (with_reducible refine wpList_mkB rfl _ rfl m hm rfl w.heap.size (Nat.le_refl _) ?_; intro w1 hRs hB1; simp only [Act.put, List.setIfInBounds_toArray, List.set_cons_succ, List.set_cons_zero]))
  have hB0 : BI w w.heap.size m (fun _ => false) w1 := ⟨hRs, hB1⟩
  generalize w.heap.size = g at hB0 ⊢
  clear hRs hB1
  go_wp2
  go_loopw [6] (fun s6 wr => ∃ i : Nat, i ≤ zs.length ∧ s6 = vI i ∧ Hid (∃ f, BI w g m f wr)) (fun s6 _ => zs.length - (intOf s6).toNat)
  case atStart => exact ⟨0, Nat.zero_le _, rfl, _, hB0⟩
  case round =>
    clear hB0
    obtain ⟨i, hi, rfl, hH⟩ := hrel
    obtain ⟨f, hB⟩ := hH.out
    clear hH
    by_cases hlt : (i : Int) < zs.length
    · obtain ⟨ra, cap2, ev2, hcell⟩ := hv.cell (by omega)
      rw [ev] at ev2
      cases ev2
      have hzi : zs[i]? = some zs[i] := List.getElem?_eq_getElem (by omega)
      obtain ⟨hb1, hc1⟩ := hcell i _ hzi
      generalize zs[i] = z at hc1
      have cz : wr.cell? (ra.add i) = some (vI z) := by rw [hB.low.cell hb1]; exact hc1
      clear hcell hc1 hzi
      by_cases h0 : 0 ≤ z
      · by_cases h2 : z < m
        · obtain ⟨y, rfl⟩ := Int.eq_ofNat_of_zero_le h0
          have hy : y < m := by omega
          have hcy := (hB.cell hy).1
          have hfy := (hB.cell hy).2
          have hB2 := hB.put hy
          generalize f y = fy at hcy
          clear hB
          go_wp2
          go_roundw
          case rel => exact ⟨i + 1, by omega, by go_num, _, hB2⟩
          case measure => simp [intOf]; omega
        · go_wp2
          go_roundw
          case rel => exact ⟨i + 1, by omega, by go_num, _, hB⟩
          case measure => simp [intOf]; omega
      · go_wp2
        go_roundw
        case rel => exact ⟨i + 1, by omega, by go_num, _, hB⟩
        case measure => simp [intOf]; omega
    · go_wp2
      go_ret
      exact ⟨g, rfl, f, hB⟩
end Go.Proofs.YtfgbhdcoemkdoaaDoor
