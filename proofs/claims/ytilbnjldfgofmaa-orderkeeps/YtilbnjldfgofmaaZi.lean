/- take. -/
import Derived.Test.YtilbnjldfgofmaaZh
namespace Go.Proofs.Ytilbnjldfgofmaa
open Go.RowKit
set_option linter.unusedVariables false
set_option linter.unusedSimpArgs false
set_option maxRecDepth 8000

section
variable {ids : List Nat} {w : World} {p g cap gb x y : Nat} {R : List Value}
/-- While a row is made shorter. -/
structure DlI (w : World) (g gb x k : Nat) (ids : List Nat) (R : List Value) (j : Nat) (W : World) : Prop where
  row : W.heap[g]? = some (.cells (roA (shR ids k j) R) 62)
  box : W.heap[gb]? = some (.cells #[ptr x 0] 62)
  is : ∀ y ∈ ids, Is W y
  goes : Goes (fun b => b = g) w W
theorem DlI.set {k j : Nat} {W : World} (D : DlI w g gb x k ids R j W) (hn : gb ≠ g) (hk : k < j) (hj : j < ids.length) : DlI w g gb x k ids R (j + 1) (W.setCell ⟨g, j - 1, none⟩ (ptr (idAt ids j) 0)) := by
  refine ⟨?_, ?_, fun y hy => ?_, D.goes.trans (goes_setCell (F := fun b => b = g) W rfl _ _) (fun _ _ q => q)⟩
  · rw [heap_setCell_same W g (j - 1) _ 62 _ D.row, roA_set (by rw [shR_len]; omega), shR_step hk hj]
  · rw [Below.heap_setCell _ _ _ _ hn]; exact D.box
  · obtain ⟨d, nd⟩ := D.is y hy
    exact ⟨d, by unfold NdAt; rw [Below.heap_setCell _ _ _ _ (fun e => by have e : y = g := e; subst e; exact ne_of_type nd D.row (by decide) rfl)]; exact nd⟩
theorem DlI.skip {k j : Nat} {W : World} (D : DlI w g gb x k ids R j W) {W' : World} (h : W' = W) : DlI w g gb x k ids R j W' := h ▸ D
theorem clear_roA {xs : List Nat} {R : List Value} {n i : Nat} (hl : xs.length = n) (hi : i + 1 = n) : (roA xs R).toList.take i ++ List.replicate (n - i) (Value.pointer none) ++ (roA xs R).toList.drop (i + (n - i)) = ((xs.take i).map fun i => ptr i 0) ++ (.pointer none :: R) := by
  unfold roA
  show ((xs.map fun i => ptr i 0) ++ R).take i ++ _ ++ ((xs.map fun i => ptr i 0) ++ R).drop _ = _
  rw [List.take_append_of_le_length (by rw [List.length_map]; omega), List.map_take, show n - i = 1 by omega, show i + 1 = (xs.map fun i => ptr i 0).length by rw [List.length_map]; omega, List.drop_left]
  simp
set_option maxHeartbeats 2000000 in
theorem del_c (hr : w.heap[g]? = some (.cells (roA ids R) 62)) (hg : w.heap[gb]? = some (.cells #[ptr x 0] 62)) (hn : gb ≠ g) (hi : ∀ y ∈ ids, Is w y) (hx : x ∈ ids) (hnd : ids.Nodup) (h512 : ids.length ≤ 512) (hcap : ids.length ≤ cap) (hcap2 : cap ≤ 512) :
    Calls Try.prog 69 #[.slice (some ⟨g, 0, none⟩) ids.length cap, .func (.func 70) #[] #[ptr gb 0]] w fun e w' => e = .returned (.slice (some ⟨g, 0, none⟩) (ids.length - 1) cap) ∧ (∃ R', w'.heap[g]? = some (.cells (roA (ids.erase x) R') 62) ∧ R'.length = R.length + 1) ∧ Goes (fun b => b = g) w w' := by
  have ki := index_take_c (cap := cap) hr hg hi hx h512
  have hk : ids.idxOf x < ids.length := List.idxOf_lt_length_of_mem hx
  have hkx : idAt ids (ids.idxOf x) = x := by
    have := idAt_some hk
    rw [at_idx hx] at this
    exact (Option.some.inj this).symm
  have her : ids.erase x = ids.eraseIdx (ids.idxOf x) := List.erase_eq_eraseIdx_of_idxOf rfl
  have hlen1 : (ids.erase x).length = ids.length - 1 := List.length_erase_of_mem hx
  generalize ids.idxOf x = k at *
  have hlen : Hid (0 < ids.length) := by show 0 < ids.length; omega
  have hD : DlI w g gb x k ids R (k + 1) w := ⟨by rw [shR_zero]; exact hr, hg, hi, Goes.refl _ _⟩
  have hk0 : ((k : Int) == -1) = false := by simp
  go_enter Try.func69, Try.ntmps69
  go_upto_region 4 with (first | (go_at_call 83; (with_reducible refine ki.mono ?_); clear ki; rintro e w2 ⟨rfl, rfl⟩; dsimp only))
  clear hr hg hi
  go_upto_region 5 with fail
  go_loopw [5, 6] (fun s5 s6 wr => ∃ i j : Nat, s5 = vI i ∧ s6 = vI j ∧ i + 1 = j ∧ k < j ∧ j ≤ ids.length ∧ DlI w2 g gb x k ids R j wr) (fun _ s6 _ => ((ids.length : Int) - intOf s6).toNat)
  case atStart => exact ⟨k, k + 1, rfl, by first | go_num | rfl, rfl, by omega, by omega, hD⟩
  case round =>
    clear hD
    obtain ⟨i, j, rfl, rfl, hij, hkj, hjn, D⟩ := hrel
    by_cases hlt : (j : Int) < ids.length
    · have hjl : j < ids.length := by omega
      have z : wr.cell? ⟨g, j, none⟩ = some (ptr (idAt ids j) 0) := by
        rw [cell_of_row _ _ _ _ _ _ D.row, roA_get (by rw [shR_len]; exact hjl), shR_at hjl, if_neg (by omega)]
      have hil : i < ids.length := by omega
      have hlt1 : (i : Int) < ids.length := by omega
      have z1 : wr.cell? ⟨g, i, none⟩ = some (ptr (idAt (shR ids k j) i) 0) := by rw [cell_of_row _ _ _ _ _ _ D.row]; exact roA_get (by rw [shR_len]; exact hil)
      have f1 : wr.frozen? ⟨g, i, none⟩ = false := frozen_of_row _ _ _ _ _ D.row
      have kc := clo_take_c (y := idAt ids j) D.box (D.is _ hx) (D.is _ (idAt_mem hjl))
      have hne : idAt ids j ≠ x := fun e => by
        have := idAt_inj hnd hjl hk (e.trans hkx.symm)
        omega
      rw [decide_eq_false hne] at kc
      have D2 := D.set hn hkj hjl
      rw [show j - 1 = i by omega] at D2
      replace hij : Hid (i + 1 = j) := hij
      clear hne hkx her hlen1
      go_wp2_with (first | (go_at_call 70; (with_reducible refine kc.mono ?_); clear kc; rintro e w3 ⟨rfl, rfl⟩; dsimp only))
      go_roundw
      case rel => exact ⟨i + 1, j + 1, by go_num, by go_num, by have := hij.out; omega, by omega, by omega, D2⟩
      case measure => simp [intOf]; omega
    · obtain rfl : j = ids.length := by omega
      have hi1 : (i : Int) ≤ ids.length := by omega
      have hi2 : (i : Int) ≤ cap := by omega
      have hci : ¬ cap = i := by omega
      have hrow : (roA (shR ids k ids.length) R).toList.take i ++ List.replicate (ids.length - i) (Value.pointer none) ++ (roA (shR ids k ids.length) R).toList.drop (i + (ids.length - i)) = ((ids.erase x).map fun i => ptr i 0) ++ (.pointer none :: R) := by
        rw [clear_roA (shR_len ..) hij, her, ← shR_end hk, show ids.length - 1 = i by omega]
      have hcl : ∀ ty, (Builtin.clear_ #[63] ty #[.slice (some ⟨g, i, none⟩) (ids.length - i) (cap - i)]).run Try.prog wr = .ok (.tuple #[]) (wr.setRow g (roA (ids.erase x) (.pointer none :: R))) := fun ty => by
        have q := run_clear_row wr 63 62 ty (.pointer none) Try.underlying63 zeroP rfl rfl g i (ids.length - i) (cap - i) 62 _ D.row (by omega) (by rw [roA_size, shR_len]; omega)
        rw [hrow] at q
        exact q
      replace hij : Hid (i + 1 = ids.length) := hij
      have hr2 := setRow_heap wr g (roA (shR ids k ids.length) R) (roA (ids.erase x) (.pointer none :: R)) 62 (0, 0) D.row
      have hg2 := D.goes.trans (goes_setRow (F := fun b => b = g) wr rfl (roA (ids.erase x) (.pointer none :: R))) (fun _ _ q => q)
      clear D hrow her hkx hlen1
      go_upto_region 12 with (simp only [hcl])
      clear hcl
      go_wp2
      go_ret
      exact ⟨by rw [show ids.length - 1 = i by have := hij.out; omega]; rfl, ⟨_, hr2, rfl⟩, hg2⟩
/-- One item goes out of the list. -/
theorem take_c {l : List Opr} {ids0 : List Nat} (L : Ls w p g cap ids) (hi : ∀ y ∈ ids, Is w y) (hx : x ∈ ids) (hnd : ids.Nodup) :
    Calls Try.prog 45 #[ptr p 0, ptr x 0] w fun e w' => (∃ u, e = .returned u) ∧ Ls w' p g cap (ids.erase x) ∧ Goes (fun b => b = p ∨ b = g) w w' := by
  have hb := below_alloc w (.cells #[ptr x 0] 62)
  have r1 : (w.alloc (.cells #[ptr x 0] 62)).heap[w.heap.size]? = some (.cells #[ptr x 0] 62) := heap_alloc_new _ _
  have L1 := L.grow hb
  have hi1 : ∀ y ∈ ids, Is (w.alloc (.cells #[ptr x 0] 62)) y := fun y hy => (hi y hy).grow hb
  obtain ⟨R, hR, hq⟩ := L1.row
  have hmax := L1.max
  have z := L1.boxc
  have hgl : g < w.heap.size := by
    obtain ⟨R, hR, hq⟩ := L.row
    exact lt_of_some hR
  have hpl : p < w.heap.size := lt_of_some L.box
  have kd := del_c (cap := cap) (gb := w.heap.size) hR r1 (by omega) hi1 hx hnd (by omega) (by omega) (by omega)
  have hlen1 : (ids.erase x).length = ids.length - 1 := List.length_erase_of_mem hx
  have hpos : 0 < ids.length := List.length_pos_of_mem hx
  have hmf : ∀ (fn : Fn) (first cap : Array Value) (w : World), (Instr.makeFunc fn first cap).run Try.prog w = .ok (.func fn first cap) w := fun _ _ _ _ => rfl
  have hpg : p ≠ g := fun e => by subst e; exact ne_of_type L1.box hR (by decide) rfl
  have hbox := L1.box
  go_enter Try.func45, Try.ntmps45
  go_upto_region 1 with fail
  generalize w.alloc (.cells #[ptr x 0] 62) = w1 at *
  clear hlen1 hpos L L1
  go_wp2_with (first | (go_at_call 69; (with_reducible refine kd.mono ?_); clear kd; rintro e w2 ⟨rfl, ⟨R2, h2, h3⟩, G2⟩; dsimp only; have b2 := (G2.block p (lt_of_some hbox) hpg).trans hbox; have zz : w2.cell? ⟨p, 0, none⟩ = some (.slice (some ⟨g, 0, none⟩) ids.length cap) := (by rw [cell_of_row _ _ _ _ _ _ b2]; rfl); have ff : w2.frozen? ⟨p, 0, none⟩ = false := frozen_of_row _ _ _ _ _ b2))
  go_end0
  have hlen1 : (ids.erase x).length = ids.length - 1 := List.length_erase_of_mem hx
  have hpos : 0 < ids.length := List.length_pos_of_mem hx
  refine ⟨⟨_, rfl⟩, ⟨?_, ⟨R2, ?_, by omega⟩, hmax⟩, ((goes_of_below hb).trans (G2.mono (fun _ _ q => .inr q) : Goes (fun b => b = p ∨ b = g) w1 w2) (fun _ _ q => q)).trans (goes_setCell w2 (.inl rfl) 0 _) (fun _ _ q => q)⟩
  · rw [heap_setCell_same w2 p 0 _ 65 _ b2, hlen1]; rfl
  · rw [Below.heap_setCell _ _ _ _ (fun e => hpg e.symm)]; exact h2
end
end Go.Proofs.Ytilbnjldfgofmaa
