/- What InsnOrders gives back, whatever the instruction: true: a contract. -/
import Derived.Test.YtmbefmmnkfoneaaDoorOrdI
import Derived.Test.YtmbefmmnkfoneaaDoorRelG
import Derived.Test.YtmbefmmnkfoneaaDoorEx
import Derived.Test.YtmbefmmnkfoneaaDoorWrites
namespace Go.Proofs.YtmbefmmnkfoneaaDoor
open Go.RowKit Go.Rel

/-- Blocks of the call's own: the instruction's box, the three lists, and the row that holds them. -/
structure Ord (i : Ins) (w0 : World) (g : Nat) (v0 v1 v2 : Value) (w : World) : Prop where
  one : One i w0 w
  row : w.heap[g]? = some (.cells #[v0, v1, v2] 25)
  r : RowI w0.heap.size (rL i) v0 w
  a : RowI w0.heap.size (aL i) v1 w
  x : RowI w0.heap.size (wL i) v2 w
theorem Ord.grow {i : Ins} {w0 : World} {g : Nat} {v0 v1 v2 : Value} {w w' : World} (h : Ord i w0 g v0 v1 v2 w) (hb : Below w.heap.size w w') : Ord i w0 g v0 v1 v2 w' :=
  ⟨h.one.grow hb, by rw [hb.block _ (Array.getElem?_eq_some_iff.1 h.row).1]; exact h.row, own_grow h.r hb, own_grow h.a hb, own_grow h.x hb⟩
theorem Ord.up (i : Ins) (w0 : World) (g : Nat) (v0 v1 v2 : Value) : Up Grows (fun w => Ord i w0 g v0 v1 v2 w) := fun _ _ h hb => h.grow hb
theorem Ord.at {i : Ins} {w0 : World} {g : Nat} {v0 v1 v2 : Value} {w : World} (h : Ord i w0 g v0 v1 v2 w) (k : Nat) : w.cell? ⟨g, k, none⟩ = (#[v0, v1, v2] : Array Value)[k]? := by
  simp [World.cell?, h.row]
theorem below_drawn1 (w : World) : Below w.heap.size w { w with drawn := w.drawn + 1 } := ⟨rfl, rfl, rfl, Nat.le_refl _, fun _ _ => rfl⟩
def Lists (i : Ins) (w0 : World) (v : Value) (w : World) : Prop := ∃ g v0 v1 v2, v = .slice (some ⟨g, 0, none⟩) 3 3 ∧ Ord i w0 g v0 v1 v2 w
theorem lists_up (i : Ins) (w0 : World) (v : Value) : Up Grows (Lists i w0 v) := fun _ _ ⟨g, v0, v1, v2, e, h⟩ hb => ⟨g, v0, v1, v2, e, h.grow hb⟩

set_option maxRecDepth 8000 in
set_option maxHeartbeats 4000000 in
theorem orders_c (i : Ins) (w : World) (T : Tab w) : Calls Tryd.prog 3 #[i.val] w fun e w' => e = .returned (.bool true) ∧ Below w.heap.size w w' := by
  have H := one_start i w
  have T1 := T.grow H.below
  go_enter Tryd.func3, Tryd.ntmps3
  go_upto_region 2 with (go_at_call 5; refine (examples_c _ T1).mono ?_; rintro e w1 ⟨rfl, hb⟩; replace H := H.grow hb; clear hb; dsimp only)
  clear T1
  refine wp_region_rel Grows (fun x => One i w x) [.inl i.val, .inr (RowI w.heap.size (rL i)), .inl i.val, .inr (RowI w.heap.size (aL i)), .inl i.val, .inr (RowI w.heap.size (wL i)), .inr (Lists i w), .inr (Lists i w)] (by kernel_rfl) (by kernel_rfl) (One.up i w) H.drew (by simp only [List.mem_cons, List.not_mem_nil, or_false]; rintro k hk; rcases hk with rfl | rfl | rfl | rfl | rfl | rfl | rfl | rfl <;> first | trivial | exact fun v => rowI_up _ _ v | exact fun v => lists_up _ _ v) ?_
  refine ⟨fun w1 hC _ => rel_load_row 23 _ rfl w.heap.size rfl 23 i.cells (0, 0) _ hC.box Tryd.underlying23 rfl (by kernel_rfl), ?_⟩
  simp only [Act.put, List.setIfInBounds_toArray, List.set_cons_succ, List.set_cons_zero]
  refine ⟨fun w1 hC _ => ?_, fun vr => ?_⟩
  · go_simp
    refine (Reads_c i w1).mono ?_
    rintro e w2 ⟨v, rfl, hown, hb⟩
    exact ⟨v, rfl, hb, own_mono hown hC.below.size⟩
  simp only [Act.put, List.setIfInBounds_toArray, List.set_cons_succ, List.set_cons_zero]
  refine ⟨fun w1 hC _ => rel_load_row 23 _ rfl w.heap.size rfl 23 i.cells (0, 0) _ hC.box Tryd.underlying23 rfl (by kernel_rfl), ?_⟩
  simp only [Act.put, List.setIfInBounds_toArray, List.set_cons_succ, List.set_cons_zero]
  refine ⟨fun w1 hC _ => ?_, fun va => ?_⟩
  · go_simp
    refine (Address_c i w1).mono ?_
    rintro e w2 ⟨v, rfl, hown, hb⟩
    exact ⟨v, rfl, hb, own_mono hown hC.below.size⟩
  simp only [Act.put, List.setIfInBounds_toArray, List.set_cons_succ, List.set_cons_zero]
  refine ⟨fun w1 hC _ => rel_load_row 23 _ rfl w.heap.size rfl 23 i.cells (0, 0) _ hC.box Tryd.underlying23 rfl (by kernel_rfl), ?_⟩
  simp only [Act.put, List.setIfInBounds_toArray, List.set_cons_succ, List.set_cons_zero]
  refine ⟨fun w1 hC _ => ?_, fun vx => ?_⟩
  · go_simp
    refine (Writes_c i w1).mono ?_
    rintro e w2 ⟨v, rfl, hown, hb⟩
    exact ⟨v, rfl, hb, own_mono hown hC.below.size⟩
  simp only [Act.put, List.setIfInBounds_toArray, List.set_cons_succ, List.set_cons_zero]
  refine ⟨fun w1 hC hF => ?_, fun v4 => ?_⟩
  · have h0 := (hF 1 (by kernel_rfl)).2.2.1 rfl
    have h1 := (hF 3 (by kernel_rfl)).2.1 rfl
    have h2 := (hF 5 (by kernel_rfl)).1 rfl
    clear hF
    obtain ⟨p0, c0, rfl⟩ := rowI_len h0
    obtain ⟨p1, c1, rfl⟩ := rowI_len h1
    obtain ⟨p2, c2, rfl⟩ := rowI_len h2
    go_simp
    refine ⟨below_alloc _ _, _, _, _, _, rfl, hC.grow (below_alloc _ _), heap_alloc_new _ _, own_grow h0 (below_alloc _ _), own_grow h1 (below_alloc _ _), own_grow h2 (below_alloc _ _)⟩
  simp only [Act.put, List.setIfInBounds_toArray, List.set_cons_succ, List.set_cons_zero]
  refine ⟨fun w1 hC hF => ?_, fun v5 => ?_⟩
  · have hv := (hF 6 (by kernel_rfl)).1 rfl
    go_simp
    first | exact ⟨Below.refl _ _, hv⟩ | exact Below.refl _ _
  simp only [Act.put, List.setIfInBounds_toArray, List.set_cons_succ, List.set_cons_zero]
  clear H
  intro w1 _ hF
  obtain ⟨g, v0, v1, v2, rfl, H⟩ := (hF 7).1 rfl
  clear hF
  obtain ⟨p0, c0, rfl⟩ := rowI_len H.r
  obtain ⟨p1, c1, rfl⟩ := rowI_len H.a
  obtain ⟨p2, c2, rfl⟩ := rowI_len H.x
  have L0 : (rL i).length ≤ 32 := listL_le _ _
  have L1 : (aL i).length ≤ 32 := listL_le _ _
  have L2 : (wL i).length ≤ 32 := listL_le _ _
  have LW := w_one i
  go_wp2
  go_loopw [5] (fun s5 wr => ∃ k : Nat, k ≤ 3 ∧ s5 = .int .i64 k ∧ Hid (Ord i w g (.slice p0 (rL i).length c0) (.slice p1 (aL i).length c1) (.slice p2 (wL i).length c2) wr)) (fun s5 _ => 3 - (intOf s5).toNat)
  case atStart => exact ⟨0, by omega, rfl, H⟩
  case round =>
    clear H
    obtain ⟨k, hk, rfl, H⟩ := hrel
    rcases (by omega : k = 0 ∨ k = 1 ∨ k = 2 ∨ k = 3) with rfl | rfl | rfl | rfl
    · have hcell := H.out.at 0
      go_wp2
      clear hcell
      go_loopw [7] (fun s7 wq => ∃ j : Nat, j ≤ (rL i).length ∧ s7 = .int .i64 j ∧ Hid (Ord i w g (.slice p0 (rL i).length c0) (.slice p1 (aL i).length c1) (.slice p2 (wL i).length c2) wq)) (fun s7 _ => (rL i).length - (intOf s7).toNat)
      case atStart => exact ⟨0, by omega, rfl, H⟩
      case round =>
        clear H
        obtain ⟨j, hj, rfl, H⟩ := hrel
        by_cases hlt : j < (rL i).length
        · have hl2 : (j : Int) < ((rL i).length : Int) := by omega
          obtain ⟨gl, cl, hsl⟩ := rowI_some H.out.r hlt
          cases hsl
          have hsm : (rL i)[j] < 32 := list_small hlt
          go_upto_region 10 with fail
          rcases Nat.eq_zero_or_pos j with rfl | hpos
          · refine RelG.wp_region_rel RelG.Grows (fun x => Ord i w g (.slice (some ⟨gl, 0, none⟩) (rL i).length c0) (.slice p1 (aL i).length c1) (.slice p2 (wL i).length c2) x) [.inl (.slice (some ⟨gl, 0, none⟩) (rL i).length c0), .inl (vI 0), .inl (.pointer (some ⟨gl, 0, none⟩)), .inl (vI ((rL i)[0]'hlt : Int)), .inl (.bool false), .inl (.bool false), .inl (.slice (some ⟨gl, 0, none⟩) (rL i).length c0), .inl (vI 0), .inl (.pointer (some ⟨gl, 0, none⟩)), .inl (vI ((rL i)[0]'hlt : Int)), .inl (.bool false), .inl (.bool false), .inl (.bool false), .inl (vI 0), .inl (.bool false), .inl (.bool false), .inl undef, .inl undef, .inl undef, .inl undef, .inl undef, .inl undef, .inl undef, .inl undef, .inl undef, .inl undef, .inl (.bool false), .inl (.bool false), .inl (.bool false), .inl (vI 0), .inl (.bool false), .inl (.bool false), .inl undef, .inl undef, .inl undef, .inl undef, .inl undef, .inl undef, .inl undef, .inl undef, .inl undef, .inl (.bool false), .inl (.bool false)] (by kernel_rfl) (by kernel_rfl) RelG.grows_refl (fun _ _ h hb => h.grow hb) (H.out.grow (below_drawn1 _)) (by simp [RelG.upK]) ?_
            refine ⟨fun w3 hC _ => RelG.uponG_yes rfl (by go_simp; first | exact RelG.grows_refl _ | exact ⟨RelG.grows_refl _, rfl⟩ | (refine ⟨RelG.grows_refl _, ?_⟩; first | omega | go_num | (rw [IntKind.wrap_i64]; omega) | (congr 1; rw [IntKind.wrap_i64]; omega) | (simp; done) | (simp; omega))), ?_⟩
            simp only [Act.put, List.setIfInBounds_toArray, List.set_cons_succ, List.set_cons_zero]
            refine ⟨fun w3 hC _ => RelG.uponG_yes rfl (by go_simp; first | exact RelG.grows_refl _ | exact ⟨RelG.grows_refl _, rfl⟩ | (refine ⟨RelG.grows_refl _, ?_⟩; first | omega | go_num | (rw [IntKind.wrap_i64]; omega) | (congr 1; rw [IntKind.wrap_i64]; omega) | (simp; done) | (simp; omega))), ?_⟩
            simp only [Act.put, List.setIfInBounds_toArray, List.set_cons_succ, List.set_cons_zero]
            refine ⟨fun w3 hC _ => RelG.uponG_yes rfl (by go_simp; first | exact RelG.grows_refl _ | exact ⟨RelG.grows_refl _, rfl⟩ | (refine ⟨RelG.grows_refl _, ?_⟩; first | omega | go_num | (rw [IntKind.wrap_i64]; omega) | (congr 1; rw [IntKind.wrap_i64]; omega) | (simp; done) | (simp; omega))), ?_⟩
            simp only [Act.put, List.setIfInBounds_toArray, List.set_cons_succ, List.set_cons_zero]
            refine ⟨fun w3 hC _ => RelG.uponG_yes rfl (by have hq := rowI_cell hC.r hlt; go_simp; first | exact RelG.grows_refl _ | exact ⟨RelG.grows_refl _, rfl⟩ | (refine ⟨RelG.grows_refl _, ?_⟩; first | omega | go_num | (rw [IntKind.wrap_i64]; omega) | (congr 1; rw [IntKind.wrap_i64]; omega) | (simp; done) | (simp; omega))), ?_⟩
            simp only [Act.put, List.setIfInBounds_toArray, List.set_cons_succ, List.set_cons_zero]
            refine ⟨fun w3 hC _ => RelG.uponG_yes rfl (by go_simp; first | exact RelG.grows_refl _ | exact ⟨RelG.grows_refl _, rfl⟩ | (refine ⟨RelG.grows_refl _, ?_⟩; first | omega | go_num | (rw [IntKind.wrap_i64]; omega) | (congr 1; rw [IntKind.wrap_i64]; omega) | (simp; done) | (simp; omega))), ?_⟩
            simp only [Act.put, List.setIfInBounds_toArray, List.set_cons_succ, List.set_cons_zero]
            refine ⟨fun w3 hC _ => RelG.uponG_yes rfl (by go_simp; first | exact RelG.grows_refl _ | exact ⟨RelG.grows_refl _, rfl⟩ | (refine ⟨RelG.grows_refl _, ?_⟩; first | omega | go_num | (rw [IntKind.wrap_i64]; omega) | (congr 1; rw [IntKind.wrap_i64]; omega) | (simp; done) | (simp; omega))), ?_⟩
            simp only [Act.put, List.setIfInBounds_toArray, List.set_cons_succ, List.set_cons_zero]
            refine ⟨fun w3 hC _ => RelG.uponG_yes rfl (by go_simp; first | exact RelG.grows_refl _ | exact ⟨RelG.grows_refl _, rfl⟩ | (refine ⟨RelG.grows_refl _, ?_⟩; first | omega | go_num | (rw [IntKind.wrap_i64]; omega) | (congr 1; rw [IntKind.wrap_i64]; omega) | (simp; done) | (simp; omega))), ?_⟩
            simp only [Act.put, List.setIfInBounds_toArray, List.set_cons_succ, List.set_cons_zero]
            refine ⟨fun w3 hC _ => RelG.uponG_yes rfl (by go_simp; first | exact RelG.grows_refl _ | exact ⟨RelG.grows_refl _, rfl⟩ | (refine ⟨RelG.grows_refl _, ?_⟩; first | omega | go_num | (rw [IntKind.wrap_i64]; omega) | (congr 1; rw [IntKind.wrap_i64]; omega) | (simp; done) | (simp; omega))), ?_⟩
            simp only [Act.put, List.setIfInBounds_toArray, List.set_cons_succ, List.set_cons_zero]
            refine ⟨fun w3 hC _ => RelG.uponG_yes rfl (by go_simp; first | exact RelG.grows_refl _ | exact ⟨RelG.grows_refl _, rfl⟩ | (refine ⟨RelG.grows_refl _, ?_⟩; first | omega | go_num | (rw [IntKind.wrap_i64]; omega) | (congr 1; rw [IntKind.wrap_i64]; omega) | (simp; done) | (simp; omega))), ?_⟩
            simp only [Act.put, List.setIfInBounds_toArray, List.set_cons_succ, List.set_cons_zero]
            refine ⟨fun w3 hC _ => RelG.uponG_yes rfl (by have hq := rowI_cell hC.r hlt; go_simp; first | exact RelG.grows_refl _ | exact ⟨RelG.grows_refl _, rfl⟩ | (refine ⟨RelG.grows_refl _, ?_⟩; first | omega | go_num | (rw [IntKind.wrap_i64]; omega) | (congr 1; rw [IntKind.wrap_i64]; omega) | (simp; done) | (simp; omega))), ?_⟩
            simp only [Act.put, List.setIfInBounds_toArray, List.set_cons_succ, List.set_cons_zero]
            refine ⟨fun w3 hC _ => RelG.uponG_yes rfl (by go_simp; first | exact RelG.grows_refl _ | exact ⟨RelG.grows_refl _, rfl⟩ | (refine ⟨RelG.grows_refl _, ?_⟩; first | omega | go_num | (rw [IntKind.wrap_i64]; omega) | (congr 1; rw [IntKind.wrap_i64]; omega) | (simp; done) | (simp; omega))), ?_⟩
            simp only [Act.put, List.setIfInBounds_toArray, List.set_cons_succ, List.set_cons_zero]
            refine ⟨fun w3 hC _ => RelG.uponG_yes rfl (by go_simp; first | exact RelG.grows_refl _ | exact ⟨RelG.grows_refl _, rfl⟩ | (refine ⟨RelG.grows_refl _, ?_⟩; first | omega | go_num | (rw [IntKind.wrap_i64]; omega) | (congr 1; rw [IntKind.wrap_i64]; omega) | (simp; done) | (simp; omega))), ?_⟩
            simp only [Act.put, List.setIfInBounds_toArray, List.set_cons_succ, List.set_cons_zero]
            refine ⟨fun w3 hC _ => RelG.uponG_yes rfl (by go_simp; first | exact RelG.grows_refl _ | exact ⟨RelG.grows_refl _, rfl⟩ | (refine ⟨RelG.grows_refl _, ?_⟩; first | omega | go_num | (rw [IntKind.wrap_i64]; omega) | (congr 1; rw [IntKind.wrap_i64]; omega) | (simp; done) | (simp; omega))), ?_⟩
            simp only [Act.put, List.setIfInBounds_toArray, List.set_cons_succ, List.set_cons_zero]
            refine ⟨fun w3 hC _ => RelG.uponG_yes rfl (by go_simp; first | exact RelG.grows_refl _ | exact ⟨RelG.grows_refl _, rfl⟩ | (refine ⟨RelG.grows_refl _, ?_⟩; first | omega | go_num | (rw [IntKind.wrap_i64]; omega) | (congr 1; rw [IntKind.wrap_i64]; omega) | (simp; done) | (simp; omega))), ?_⟩
            simp only [Act.put, List.setIfInBounds_toArray, List.set_cons_succ, List.set_cons_zero]
            refine ⟨fun w3 hC _ => RelG.uponG_yes rfl (by go_simp; first | exact RelG.grows_refl _ | exact ⟨RelG.grows_refl _, rfl⟩ | (refine ⟨RelG.grows_refl _, ?_⟩; first | omega | go_num | (rw [IntKind.wrap_i64]; omega) | (congr 1; rw [IntKind.wrap_i64]; omega) | (simp; done) | (simp; omega))), ?_⟩
            simp only [Act.put, List.setIfInBounds_toArray, List.set_cons_succ, List.set_cons_zero]
            refine ⟨fun w3 hC _ => RelG.uponG_yes rfl (by go_simp; first | exact RelG.grows_refl _ | exact ⟨RelG.grows_refl _, rfl⟩ | (refine ⟨RelG.grows_refl _, ?_⟩; first | omega | go_num | (rw [IntKind.wrap_i64]; omega) | (congr 1; rw [IntKind.wrap_i64]; omega) | (simp; done) | (simp; omega))), ?_⟩
            simp only [Act.put, List.setIfInBounds_toArray, List.set_cons_succ, List.set_cons_zero]
            refine ⟨fun w3 hC _ => RelG.uponG_no rfl rfl, ?_⟩
            simp only [Act.put, List.setIfInBounds_toArray, List.set_cons_succ, List.set_cons_zero]
            refine ⟨fun w3 hC _ => RelG.uponG_no rfl rfl, ?_⟩
            simp only [Act.put, List.setIfInBounds_toArray, List.set_cons_succ, List.set_cons_zero]
            refine ⟨fun w3 hC _ => RelG.uponG_no rfl rfl, ?_⟩
            simp only [Act.put, List.setIfInBounds_toArray, List.set_cons_succ, List.set_cons_zero]
            refine ⟨fun w3 hC _ => RelG.uponG_no rfl rfl, ?_⟩
            simp only [Act.put, List.setIfInBounds_toArray, List.set_cons_succ, List.set_cons_zero]
            refine ⟨fun w3 hC _ => RelG.uponG_no rfl rfl, ?_⟩
            simp only [Act.put, List.setIfInBounds_toArray, List.set_cons_succ, List.set_cons_zero]
            refine ⟨fun w3 hC _ => RelG.uponG_no rfl rfl, ?_⟩
            simp only [Act.put, List.setIfInBounds_toArray, List.set_cons_succ, List.set_cons_zero]
            refine ⟨fun w3 hC _ => RelG.uponG_no rfl rfl, ?_⟩
            simp only [Act.put, List.setIfInBounds_toArray, List.set_cons_succ, List.set_cons_zero]
            refine ⟨fun w3 hC _ => RelG.uponG_no rfl rfl, ?_⟩
            simp only [Act.put, List.setIfInBounds_toArray, List.set_cons_succ, List.set_cons_zero]
            refine ⟨fun w3 hC _ => RelG.uponG_no rfl rfl, ?_⟩
            simp only [Act.put, List.setIfInBounds_toArray, List.set_cons_succ, List.set_cons_zero]
            refine ⟨fun w3 hC _ => RelG.uponG_no rfl rfl, ?_⟩
            simp only [Act.put, List.setIfInBounds_toArray, List.set_cons_succ, List.set_cons_zero]
            refine ⟨fun w3 hC _ => RelG.uponG_yes rfl (by go_simp; first | exact RelG.grows_refl _ | exact ⟨RelG.grows_refl _, rfl⟩ | (refine ⟨RelG.grows_refl _, ?_⟩; first | omega | go_num | (rw [IntKind.wrap_i64]; omega) | (congr 1; rw [IntKind.wrap_i64]; omega) | (simp; done) | (simp; omega))), ?_⟩
            simp only [Act.put, List.setIfInBounds_toArray, List.set_cons_succ, List.set_cons_zero]
            refine ⟨fun w3 hC _ => RelG.uponG_yes rfl (by go_simp; first | exact RelG.grows_refl _ | exact ⟨RelG.grows_refl _, rfl⟩ | (refine ⟨RelG.grows_refl _, ?_⟩; first | omega | go_num | (rw [IntKind.wrap_i64]; omega) | (congr 1; rw [IntKind.wrap_i64]; omega) | (simp; done) | (simp; omega))), ?_⟩
            simp only [Act.put, List.setIfInBounds_toArray, List.set_cons_succ, List.set_cons_zero]
            refine ⟨fun w3 hC _ => RelG.uponG_yes rfl (by go_simp; first | exact RelG.grows_refl _ | exact ⟨RelG.grows_refl _, rfl⟩ | (refine ⟨RelG.grows_refl _, ?_⟩; first | omega | go_num | (rw [IntKind.wrap_i64]; omega) | (congr 1; rw [IntKind.wrap_i64]; omega) | (simp; done) | (simp; omega))), ?_⟩
            simp only [Act.put, List.setIfInBounds_toArray, List.set_cons_succ, List.set_cons_zero]
            refine ⟨fun w3 hC _ => RelG.uponG_yes rfl (by go_simp; first | exact RelG.grows_refl _ | exact ⟨RelG.grows_refl _, rfl⟩ | (refine ⟨RelG.grows_refl _, ?_⟩; first | omega | go_num | (rw [IntKind.wrap_i64]; omega) | (congr 1; rw [IntKind.wrap_i64]; omega) | (simp; done) | (simp; omega))), ?_⟩
            simp only [Act.put, List.setIfInBounds_toArray, List.set_cons_succ, List.set_cons_zero]
            refine ⟨fun w3 hC _ => RelG.uponG_yes rfl (by go_simp; first | exact RelG.grows_refl _ | exact ⟨RelG.grows_refl _, rfl⟩ | (refine ⟨RelG.grows_refl _, ?_⟩; first | omega | go_num | (rw [IntKind.wrap_i64]; omega) | (congr 1; rw [IntKind.wrap_i64]; omega) | (simp; done) | (simp; omega))), ?_⟩
            simp only [Act.put, List.setIfInBounds_toArray, List.set_cons_succ, List.set_cons_zero]
            refine ⟨fun w3 hC _ => RelG.uponG_yes rfl (by go_simp; first | exact RelG.grows_refl _ | exact ⟨RelG.grows_refl _, rfl⟩ | (refine ⟨RelG.grows_refl _, ?_⟩; first | omega | go_num | (rw [IntKind.wrap_i64]; omega) | (congr 1; rw [IntKind.wrap_i64]; omega) | (simp; done) | (simp; omega))), ?_⟩
            simp only [Act.put, List.setIfInBounds_toArray, List.set_cons_succ, List.set_cons_zero]
            refine ⟨fun w3 hC _ => RelG.uponG_no rfl rfl, ?_⟩
            simp only [Act.put, List.setIfInBounds_toArray, List.set_cons_succ, List.set_cons_zero]
            refine ⟨fun w3 hC _ => RelG.uponG_no rfl rfl, ?_⟩
            simp only [Act.put, List.setIfInBounds_toArray, List.set_cons_succ, List.set_cons_zero]
            refine ⟨fun w3 hC _ => RelG.uponG_no rfl rfl, ?_⟩
            simp only [Act.put, List.setIfInBounds_toArray, List.set_cons_succ, List.set_cons_zero]
            refine ⟨fun w3 hC _ => RelG.uponG_no rfl rfl, ?_⟩
            simp only [Act.put, List.setIfInBounds_toArray, List.set_cons_succ, List.set_cons_zero]
            refine ⟨fun w3 hC _ => RelG.uponG_no rfl rfl, ?_⟩
            simp only [Act.put, List.setIfInBounds_toArray, List.set_cons_succ, List.set_cons_zero]
            refine ⟨fun w3 hC _ => RelG.uponG_no rfl rfl, ?_⟩
            simp only [Act.put, List.setIfInBounds_toArray, List.set_cons_succ, List.set_cons_zero]
            refine ⟨fun w3 hC _ => RelG.uponG_no rfl rfl, ?_⟩
            simp only [Act.put, List.setIfInBounds_toArray, List.set_cons_succ, List.set_cons_zero]
            refine ⟨fun w3 hC _ => RelG.uponG_no rfl rfl, ?_⟩
            simp only [Act.put, List.setIfInBounds_toArray, List.set_cons_succ, List.set_cons_zero]
            refine ⟨fun w3 hC _ => RelG.uponG_no rfl rfl, ?_⟩
            simp only [Act.put, List.setIfInBounds_toArray, List.set_cons_succ, List.set_cons_zero]
            refine ⟨fun w3 hC _ => RelG.uponG_yes rfl (by go_simp; first | exact RelG.grows_refl _ | exact ⟨RelG.grows_refl _, rfl⟩ | (refine ⟨RelG.grows_refl _, ?_⟩; first | omega | go_num | (rw [IntKind.wrap_i64]; omega) | (congr 1; rw [IntKind.wrap_i64]; omega) | (simp; done) | (simp; omega))), ?_⟩
            simp only [Act.put, List.setIfInBounds_toArray, List.set_cons_succ, List.set_cons_zero]
            refine ⟨fun w3 hC _ => RelG.uponG_yes rfl (by go_simp; first | exact RelG.grows_refl _ | exact ⟨RelG.grows_refl _, rfl⟩ | (refine ⟨RelG.grows_refl _, ?_⟩; first | omega | go_num | (rw [IntKind.wrap_i64]; omega) | (congr 1; rw [IntKind.wrap_i64]; omega) | (simp; done) | (simp; omega))), ?_⟩
            intro w3 hC _
            simp only [Act.put, List.setIfInBounds_toArray, List.set_cons_succ, List.set_cons_zero]
            go_wp2
            go_roundw
            case rel => exact ⟨1, by omega, by go_num, hC⟩
            case measure => simp [intOf]; omega
          · have hp1 : (1 : Int) ≤ (j : Int) := by omega
            have hp3 : (j : Int) - 1 < ((rL i).length : Int) := by omega
            have hlm : j - 1 < (rL i).length := by omega
            have hri : (rL i)[j - 1] < (rL i)[j] := by
              have := list_rise (s := setOf i (readsV i)) (j := j - 1) (by show _ < (rL i).length; omega)
              simpa [rL, show j - 1 + 1 = j by omega] using this
            refine RelG.wp_region_rel RelG.Grows (fun x => Ord i w g (.slice (some ⟨gl, 0, none⟩) (rL i).length c0) (.slice p1 (aL i).length c1) (.slice p2 (wL i).length c2) x) [.inl (.slice (some ⟨gl, 0, none⟩) (rL i).length c0), .inl (vI (j : Int)), .inl (.pointer (some ⟨gl, j, none⟩)), .inl (vI ((rL i)[j]'hlt : Int)), .inl (.bool false), .inl (.bool false), .inl (.slice (some ⟨gl, 0, none⟩) (rL i).length c0), .inl (vI (j : Int)), .inl (.pointer (some ⟨gl, j, none⟩)), .inl (vI ((rL i)[j]'hlt : Int)), .inl (.bool false), .inl (.bool false), .inl (.bool false), .inl (vI (j : Int)), .inl (.bool true), .inl (.bool true), .inl (.slice (some ⟨gl, 0, none⟩) (rL i).length c0), .inl (vI (j : Int)), .inl (.pointer (some ⟨gl, j, none⟩)), .inl (vI ((rL i)[j]'hlt : Int)), .inl (.slice (some ⟨gl, 0, none⟩) (rL i).length c0), .inl (vI (j : Int)), .inl (vI ((j : Int) - 1)), .inl (.pointer (some ⟨gl, j - 1, none⟩)), .inl (vI ((rL i)[j - 1]'hlm : Int)), .inl (.bool false), .inl (.bool false), .inl (.bool false), .inl (.bool false), .inl (vI 0), .inl (.bool false), .inl (.bool false), .inl undef, .inl undef, .inl undef, .inl undef, .inl undef, .inl undef, .inl undef, .inl undef, .inl undef, .inl (.bool false), .inl (.bool false)] (by kernel_rfl) (by kernel_rfl) RelG.grows_refl (fun _ _ h hb => h.grow hb) (H.out.grow (below_drawn1 _)) (by simp [RelG.upK]) ?_
            refine ⟨fun w3 hC _ => RelG.uponG_yes rfl (by go_simp; first | exact RelG.grows_refl _ | exact ⟨RelG.grows_refl _, rfl⟩ | (refine ⟨RelG.grows_refl _, ?_⟩; first | omega | go_num | (rw [IntKind.wrap_i64]; omega) | (congr 1; rw [IntKind.wrap_i64]; omega) | (simp; done) | (simp; omega))), ?_⟩
            simp only [Act.put, List.setIfInBounds_toArray, List.set_cons_succ, List.set_cons_zero]
            refine ⟨fun w3 hC _ => RelG.uponG_yes rfl (by go_simp; first | exact RelG.grows_refl _ | exact ⟨RelG.grows_refl _, rfl⟩ | (refine ⟨RelG.grows_refl _, ?_⟩; first | omega | go_num | (rw [IntKind.wrap_i64]; omega) | (congr 1; rw [IntKind.wrap_i64]; omega) | (simp; done) | (simp; omega))), ?_⟩
            simp only [Act.put, List.setIfInBounds_toArray, List.set_cons_succ, List.set_cons_zero]
            refine ⟨fun w3 hC _ => RelG.uponG_yes rfl (by go_simp; first | exact RelG.grows_refl _ | exact ⟨RelG.grows_refl _, rfl⟩ | (refine ⟨RelG.grows_refl _, ?_⟩; first | omega | go_num | (rw [IntKind.wrap_i64]; omega) | (congr 1; rw [IntKind.wrap_i64]; omega) | (simp; done) | (simp; omega))), ?_⟩
            simp only [Act.put, List.setIfInBounds_toArray, List.set_cons_succ, List.set_cons_zero]
            refine ⟨fun w3 hC _ => RelG.uponG_yes rfl (by have hq := rowI_cell hC.r hlt; go_simp; first | exact RelG.grows_refl _ | exact ⟨RelG.grows_refl _, rfl⟩ | (refine ⟨RelG.grows_refl _, ?_⟩; first | omega | go_num | (rw [IntKind.wrap_i64]; omega) | (congr 1; rw [IntKind.wrap_i64]; omega) | (simp; done) | (simp; omega))), ?_⟩
            simp only [Act.put, List.setIfInBounds_toArray, List.set_cons_succ, List.set_cons_zero]
            refine ⟨fun w3 hC _ => RelG.uponG_yes rfl (by go_simp; first | exact RelG.grows_refl _ | exact ⟨RelG.grows_refl _, rfl⟩ | (refine ⟨RelG.grows_refl _, ?_⟩; first | omega | go_num | (rw [IntKind.wrap_i64]; omega) | (congr 1; rw [IntKind.wrap_i64]; omega) | (simp; done) | (simp; omega))), ?_⟩
            simp only [Act.put, List.setIfInBounds_toArray, List.set_cons_succ, List.set_cons_zero]
            refine ⟨fun w3 hC _ => RelG.uponG_yes rfl (by go_simp; first | exact RelG.grows_refl _ | exact ⟨RelG.grows_refl _, rfl⟩ | (refine ⟨RelG.grows_refl _, ?_⟩; first | omega | go_num | (rw [IntKind.wrap_i64]; omega) | (congr 1; rw [IntKind.wrap_i64]; omega) | (simp; done) | (simp; omega))), ?_⟩
            simp only [Act.put, List.setIfInBounds_toArray, List.set_cons_succ, List.set_cons_zero]
            refine ⟨fun w3 hC _ => RelG.uponG_yes rfl (by go_simp; first | exact RelG.grows_refl _ | exact ⟨RelG.grows_refl _, rfl⟩ | (refine ⟨RelG.grows_refl _, ?_⟩; first | omega | go_num | (rw [IntKind.wrap_i64]; omega) | (congr 1; rw [IntKind.wrap_i64]; omega) | (simp; done) | (simp; omega))), ?_⟩
            simp only [Act.put, List.setIfInBounds_toArray, List.set_cons_succ, List.set_cons_zero]
            refine ⟨fun w3 hC _ => RelG.uponG_yes rfl (by go_simp; first | exact RelG.grows_refl _ | exact ⟨RelG.grows_refl _, rfl⟩ | (refine ⟨RelG.grows_refl _, ?_⟩; first | omega | go_num | (rw [IntKind.wrap_i64]; omega) | (congr 1; rw [IntKind.wrap_i64]; omega) | (simp; done) | (simp; omega))), ?_⟩
            simp only [Act.put, List.setIfInBounds_toArray, List.set_cons_succ, List.set_cons_zero]
            refine ⟨fun w3 hC _ => RelG.uponG_yes rfl (by go_simp; first | exact RelG.grows_refl _ | exact ⟨RelG.grows_refl _, rfl⟩ | (refine ⟨RelG.grows_refl _, ?_⟩; first | omega | go_num | (rw [IntKind.wrap_i64]; omega) | (congr 1; rw [IntKind.wrap_i64]; omega) | (simp; done) | (simp; omega))), ?_⟩
            simp only [Act.put, List.setIfInBounds_toArray, List.set_cons_succ, List.set_cons_zero]
            refine ⟨fun w3 hC _ => RelG.uponG_yes rfl (by have hq := rowI_cell hC.r hlt; go_simp; first | exact RelG.grows_refl _ | exact ⟨RelG.grows_refl _, rfl⟩ | (refine ⟨RelG.grows_refl _, ?_⟩; first | omega | go_num | (rw [IntKind.wrap_i64]; omega) | (congr 1; rw [IntKind.wrap_i64]; omega) | (simp; done) | (simp; omega))), ?_⟩
            simp only [Act.put, List.setIfInBounds_toArray, List.set_cons_succ, List.set_cons_zero]
            refine ⟨fun w3 hC _ => RelG.uponG_yes rfl (by go_simp; first | exact RelG.grows_refl _ | exact ⟨RelG.grows_refl _, rfl⟩ | (refine ⟨RelG.grows_refl _, ?_⟩; first | omega | go_num | (rw [IntKind.wrap_i64]; omega) | (congr 1; rw [IntKind.wrap_i64]; omega) | (simp; done) | (simp; omega))), ?_⟩
            simp only [Act.put, List.setIfInBounds_toArray, List.set_cons_succ, List.set_cons_zero]
            refine ⟨fun w3 hC _ => RelG.uponG_yes rfl (by go_simp; first | exact RelG.grows_refl _ | exact ⟨RelG.grows_refl _, rfl⟩ | (refine ⟨RelG.grows_refl _, ?_⟩; first | omega | go_num | (rw [IntKind.wrap_i64]; omega) | (congr 1; rw [IntKind.wrap_i64]; omega) | (simp; done) | (simp; omega))), ?_⟩
            simp only [Act.put, List.setIfInBounds_toArray, List.set_cons_succ, List.set_cons_zero]
            refine ⟨fun w3 hC _ => RelG.uponG_yes rfl (by go_simp; first | exact RelG.grows_refl _ | exact ⟨RelG.grows_refl _, rfl⟩ | (refine ⟨RelG.grows_refl _, ?_⟩; first | omega | go_num | (rw [IntKind.wrap_i64]; omega) | (congr 1; rw [IntKind.wrap_i64]; omega) | (simp; done) | (simp; omega))), ?_⟩
            simp only [Act.put, List.setIfInBounds_toArray, List.set_cons_succ, List.set_cons_zero]
            refine ⟨fun w3 hC _ => RelG.uponG_yes rfl (by go_simp; first | exact RelG.grows_refl _ | exact ⟨RelG.grows_refl _, rfl⟩ | (refine ⟨RelG.grows_refl _, ?_⟩; first | omega | go_num | (rw [IntKind.wrap_i64]; omega) | (congr 1; rw [IntKind.wrap_i64]; omega) | (simp; done) | (simp; omega))), ?_⟩
            simp only [Act.put, List.setIfInBounds_toArray, List.set_cons_succ, List.set_cons_zero]
            refine ⟨fun w3 hC _ => RelG.uponG_yes rfl (by go_simp; first | exact RelG.grows_refl _ | exact ⟨RelG.grows_refl _, rfl⟩ | (refine ⟨RelG.grows_refl _, ?_⟩; first | omega | go_num | (rw [IntKind.wrap_i64]; omega) | (congr 1; rw [IntKind.wrap_i64]; omega) | (simp; done) | (simp; omega))), ?_⟩
            simp only [Act.put, List.setIfInBounds_toArray, List.set_cons_succ, List.set_cons_zero]
            refine ⟨fun w3 hC _ => RelG.uponG_yes rfl (by go_simp; first | exact RelG.grows_refl _ | exact ⟨RelG.grows_refl _, rfl⟩ | (refine ⟨RelG.grows_refl _, ?_⟩; first | omega | go_num | (rw [IntKind.wrap_i64]; omega) | (congr 1; rw [IntKind.wrap_i64]; omega) | (simp; done) | (simp; omega))), ?_⟩
            simp only [Act.put, List.setIfInBounds_toArray, List.set_cons_succ, List.set_cons_zero]
            refine ⟨fun w3 hC _ => RelG.uponG_yes rfl (by go_simp; first | exact RelG.grows_refl _ | exact ⟨RelG.grows_refl _, rfl⟩ | (refine ⟨RelG.grows_refl _, ?_⟩; first | omega | go_num | (rw [IntKind.wrap_i64]; omega) | (congr 1; rw [IntKind.wrap_i64]; omega) | (simp; done) | (simp; omega))), ?_⟩
            simp only [Act.put, List.setIfInBounds_toArray, List.set_cons_succ, List.set_cons_zero]
            refine ⟨fun w3 hC _ => RelG.uponG_yes rfl (by go_simp; first | exact RelG.grows_refl _ | exact ⟨RelG.grows_refl _, rfl⟩ | (refine ⟨RelG.grows_refl _, ?_⟩; first | omega | go_num | (rw [IntKind.wrap_i64]; omega) | (congr 1; rw [IntKind.wrap_i64]; omega) | (simp; done) | (simp; omega))), ?_⟩
            simp only [Act.put, List.setIfInBounds_toArray, List.set_cons_succ, List.set_cons_zero]
            refine ⟨fun w3 hC _ => RelG.uponG_yes rfl (by go_simp; first | exact RelG.grows_refl _ | exact ⟨RelG.grows_refl _, rfl⟩ | (refine ⟨RelG.grows_refl _, ?_⟩; first | omega | go_num | (rw [IntKind.wrap_i64]; omega) | (congr 1; rw [IntKind.wrap_i64]; omega) | (simp; done) | (simp; omega))), ?_⟩
            simp only [Act.put, List.setIfInBounds_toArray, List.set_cons_succ, List.set_cons_zero]
            refine ⟨fun w3 hC _ => RelG.uponG_yes rfl (by have hq := rowI_cell hC.r hlt; go_simp; first | exact RelG.grows_refl _ | exact ⟨RelG.grows_refl _, rfl⟩ | (refine ⟨RelG.grows_refl _, ?_⟩; first | omega | go_num | (rw [IntKind.wrap_i64]; omega) | (congr 1; rw [IntKind.wrap_i64]; omega) | (simp; done) | (simp; omega))), ?_⟩
            simp only [Act.put, List.setIfInBounds_toArray, List.set_cons_succ, List.set_cons_zero]
            refine ⟨fun w3 hC _ => RelG.uponG_yes rfl (by go_simp; first | exact RelG.grows_refl _ | exact ⟨RelG.grows_refl _, rfl⟩ | (refine ⟨RelG.grows_refl _, ?_⟩; first | omega | go_num | (rw [IntKind.wrap_i64]; omega) | (congr 1; rw [IntKind.wrap_i64]; omega) | (simp; done) | (simp; omega))), ?_⟩
            simp only [Act.put, List.setIfInBounds_toArray, List.set_cons_succ, List.set_cons_zero]
            refine ⟨fun w3 hC _ => RelG.uponG_yes rfl (by go_simp; first | exact RelG.grows_refl _ | exact ⟨RelG.grows_refl _, rfl⟩ | (refine ⟨RelG.grows_refl _, ?_⟩; first | omega | go_num | (rw [IntKind.wrap_i64]; omega) | (congr 1; rw [IntKind.wrap_i64]; omega) | (simp; done) | (simp; omega))), ?_⟩
            simp only [Act.put, List.setIfInBounds_toArray, List.set_cons_succ, List.set_cons_zero]
            refine ⟨fun w3 hC _ => RelG.uponG_yes rfl (by go_simp; first | exact RelG.grows_refl _ | exact ⟨RelG.grows_refl _, rfl⟩ | (refine ⟨RelG.grows_refl _, ?_⟩; first | omega | go_num | (rw [IntKind.wrap_i64]; omega) | (congr 1; rw [IntKind.wrap_i64]; omega) | (simp; done) | (simp; omega))), ?_⟩
            simp only [Act.put, List.setIfInBounds_toArray, List.set_cons_succ, List.set_cons_zero]
            refine ⟨fun w3 hC _ => RelG.uponG_yes rfl (by go_simp; first | exact RelG.grows_refl _ | exact ⟨RelG.grows_refl _, rfl⟩ | (refine ⟨RelG.grows_refl _, ?_⟩; first | omega | go_num | (rw [IntKind.wrap_i64]; omega) | (congr 1; rw [IntKind.wrap_i64]; omega) | (simp; done) | (simp; omega))), ?_⟩
            simp only [Act.put, List.setIfInBounds_toArray, List.set_cons_succ, List.set_cons_zero]
            refine ⟨fun w3 hC _ => RelG.uponG_yes rfl (by have hq := rowI_cell hC.r hlm; go_simp; first | exact RelG.grows_refl _ | exact ⟨RelG.grows_refl _, rfl⟩ | (refine ⟨RelG.grows_refl _, ?_⟩; first | omega | go_num | (rw [IntKind.wrap_i64]; omega) | (congr 1; rw [IntKind.wrap_i64]; omega) | (simp; done) | (simp; omega))), ?_⟩
            simp only [Act.put, List.setIfInBounds_toArray, List.set_cons_succ, List.set_cons_zero]
            refine ⟨fun w3 hC _ => RelG.uponG_yes rfl (by go_simp; first | exact RelG.grows_refl _ | exact ⟨RelG.grows_refl _, rfl⟩ | (refine ⟨RelG.grows_refl _, ?_⟩; first | omega | go_num | (rw [IntKind.wrap_i64]; omega) | (congr 1; rw [IntKind.wrap_i64]; omega) | (simp; done) | (simp; omega))), ?_⟩
            simp only [Act.put, List.setIfInBounds_toArray, List.set_cons_succ, List.set_cons_zero]
            refine ⟨fun w3 hC _ => RelG.uponG_yes rfl (by go_simp; first | exact RelG.grows_refl _ | exact ⟨RelG.grows_refl _, rfl⟩ | (refine ⟨RelG.grows_refl _, ?_⟩; first | omega | go_num | (rw [IntKind.wrap_i64]; omega) | (congr 1; rw [IntKind.wrap_i64]; omega) | (simp; done) | (simp; omega))), ?_⟩
            simp only [Act.put, List.setIfInBounds_toArray, List.set_cons_succ, List.set_cons_zero]
            refine ⟨fun w3 hC _ => RelG.uponG_yes rfl (by go_simp; first | exact RelG.grows_refl _ | exact ⟨RelG.grows_refl _, rfl⟩ | (refine ⟨RelG.grows_refl _, ?_⟩; first | omega | go_num | (rw [IntKind.wrap_i64]; omega) | (congr 1; rw [IntKind.wrap_i64]; omega) | (simp; done) | (simp; omega))), ?_⟩
            simp only [Act.put, List.setIfInBounds_toArray, List.set_cons_succ, List.set_cons_zero]
            refine ⟨fun w3 hC _ => RelG.uponG_yes rfl (by go_simp; first | exact RelG.grows_refl _ | exact ⟨RelG.grows_refl _, rfl⟩ | (refine ⟨RelG.grows_refl _, ?_⟩; first | omega | go_num | (rw [IntKind.wrap_i64]; omega) | (congr 1; rw [IntKind.wrap_i64]; omega) | (simp; done) | (simp; omega))), ?_⟩
            simp only [Act.put, List.setIfInBounds_toArray, List.set_cons_succ, List.set_cons_zero]
            refine ⟨fun w3 hC _ => RelG.uponG_yes rfl (by go_simp; first | exact RelG.grows_refl _ | exact ⟨RelG.grows_refl _, rfl⟩ | (refine ⟨RelG.grows_refl _, ?_⟩; first | omega | go_num | (rw [IntKind.wrap_i64]; omega) | (congr 1; rw [IntKind.wrap_i64]; omega) | (simp; done) | (simp; omega))), ?_⟩
            simp only [Act.put, List.setIfInBounds_toArray, List.set_cons_succ, List.set_cons_zero]
            refine ⟨fun w3 hC _ => RelG.uponG_yes rfl (by go_simp; first | exact RelG.grows_refl _ | exact ⟨RelG.grows_refl _, rfl⟩ | (refine ⟨RelG.grows_refl _, ?_⟩; first | omega | go_num | (rw [IntKind.wrap_i64]; omega) | (congr 1; rw [IntKind.wrap_i64]; omega) | (simp; done) | (simp; omega))), ?_⟩
            simp only [Act.put, List.setIfInBounds_toArray, List.set_cons_succ, List.set_cons_zero]
            refine ⟨fun w3 hC _ => RelG.uponG_yes rfl (by go_simp; first | exact RelG.grows_refl _ | exact ⟨RelG.grows_refl _, rfl⟩ | (refine ⟨RelG.grows_refl _, ?_⟩; first | omega | go_num | (rw [IntKind.wrap_i64]; omega) | (congr 1; rw [IntKind.wrap_i64]; omega) | (simp; done) | (simp; omega))), ?_⟩
            simp only [Act.put, List.setIfInBounds_toArray, List.set_cons_succ, List.set_cons_zero]
            refine ⟨fun w3 hC _ => RelG.uponG_no rfl rfl, ?_⟩
            simp only [Act.put, List.setIfInBounds_toArray, List.set_cons_succ, List.set_cons_zero]
            refine ⟨fun w3 hC _ => RelG.uponG_no rfl rfl, ?_⟩
            simp only [Act.put, List.setIfInBounds_toArray, List.set_cons_succ, List.set_cons_zero]
            refine ⟨fun w3 hC _ => RelG.uponG_no rfl rfl, ?_⟩
            simp only [Act.put, List.setIfInBounds_toArray, List.set_cons_succ, List.set_cons_zero]
            refine ⟨fun w3 hC _ => RelG.uponG_no rfl rfl, ?_⟩
            simp only [Act.put, List.setIfInBounds_toArray, List.set_cons_succ, List.set_cons_zero]
            refine ⟨fun w3 hC _ => RelG.uponG_no rfl rfl, ?_⟩
            simp only [Act.put, List.setIfInBounds_toArray, List.set_cons_succ, List.set_cons_zero]
            refine ⟨fun w3 hC _ => RelG.uponG_no rfl rfl, ?_⟩
            simp only [Act.put, List.setIfInBounds_toArray, List.set_cons_succ, List.set_cons_zero]
            refine ⟨fun w3 hC _ => RelG.uponG_no rfl rfl, ?_⟩
            simp only [Act.put, List.setIfInBounds_toArray, List.set_cons_succ, List.set_cons_zero]
            refine ⟨fun w3 hC _ => RelG.uponG_no rfl rfl, ?_⟩
            simp only [Act.put, List.setIfInBounds_toArray, List.set_cons_succ, List.set_cons_zero]
            refine ⟨fun w3 hC _ => RelG.uponG_no rfl rfl, ?_⟩
            simp only [Act.put, List.setIfInBounds_toArray, List.set_cons_succ, List.set_cons_zero]
            refine ⟨fun w3 hC _ => RelG.uponG_yes rfl (by go_simp; first | exact RelG.grows_refl _ | exact ⟨RelG.grows_refl _, rfl⟩ | (refine ⟨RelG.grows_refl _, ?_⟩; first | omega | go_num | (rw [IntKind.wrap_i64]; omega) | (congr 1; rw [IntKind.wrap_i64]; omega) | (simp; done) | (simp; omega))), ?_⟩
            simp only [Act.put, List.setIfInBounds_toArray, List.set_cons_succ, List.set_cons_zero]
            refine ⟨fun w3 hC _ => RelG.uponG_yes rfl (by go_simp; first | exact RelG.grows_refl _ | exact ⟨RelG.grows_refl _, rfl⟩ | (refine ⟨RelG.grows_refl _, ?_⟩; first | omega | go_num | (rw [IntKind.wrap_i64]; omega) | (congr 1; rw [IntKind.wrap_i64]; omega) | (simp; done) | (simp; omega))), ?_⟩
            intro w3 hC _
            simp only [Act.put, List.setIfInBounds_toArray, List.set_cons_succ, List.set_cons_zero]
            go_wp2
            go_roundw
            case rel => exact ⟨j + 1, by omega, by go_num, hC⟩
            case measure => simp [intOf]; omega
        · obtain rfl : j = (rL i).length := by omega
          by_cases hp : 0 < (rL i).length
          · have hR : rightB i = true := by
              cases hR : rightB i with
              | true => rfl
              | false =>
                have := list_nil hR
                simp [rL, this] at hp
            have hp2 : (0 : Int) < ((rL i).length : Int) := by omega
            replace H := H.out
            go_wp2_with (first | (with_reducible refine wpList_load_if rfl 23 _ rfl w.heap.size rfl 23 _ (0, 0) _ H.one.box Tryd.underlying23 rfl (by kernel_rfl) ?_; simp only [Act.put, List.setIfInBounds_toArray, List.set_cons_succ, List.set_cons_zero]) | (go_at_call 10; refine (right_c i _).mono ?_; rw [hR]; rintro e w3 ⟨rfl, hb⟩; replace H := H.grow hb; clear hb; dsimp only))
            go_roundw
            case rel => exact ⟨1, by omega, by go_num, H⟩
            case measure => simp [intOf]
          · have hp2 : ¬ (0 : Int) < ((rL i).length : Int) := by omega
            clear hp
            go_wp2
            go_roundw
            case rel => exact ⟨1, by omega, by go_num, H⟩
            case measure => simp [intOf]
    · have hcell := H.out.at 1
      go_wp2
      clear hcell
      go_loopw [7] (fun s7 wq => ∃ j : Nat, j ≤ (aL i).length ∧ s7 = .int .i64 j ∧ Hid (Ord i w g (.slice p0 (rL i).length c0) (.slice p1 (aL i).length c1) (.slice p2 (wL i).length c2) wq)) (fun s7 _ => (aL i).length - (intOf s7).toNat)
      case atStart => exact ⟨0, by omega, rfl, H⟩
      case round =>
        clear H
        obtain ⟨j, hj, rfl, H⟩ := hrel
        by_cases hlt : j < (aL i).length
        · have hl2 : (j : Int) < ((aL i).length : Int) := by omega
          obtain ⟨gl, cl, hsl⟩ := rowI_some H.out.a hlt
          cases hsl
          have hsm : (aL i)[j] < 32 := list_small hlt
          have hm : (aL i)[j] ∈ rL i := a_in_r (List.getElem_mem hlt)
          obtain ⟨x0, hx0, hx1⟩ := List.mem_iff_getElem.1 hm
          clear hm
          go_upto_region 10 with fail
          rcases Nat.eq_zero_or_pos j with rfl | hpos
          · refine RelG.wp_region_rel RelG.Grows (fun x => Ord i w g (.slice p0 (rL i).length c0) (.slice (some ⟨gl, 0, none⟩) (aL i).length c1) (.slice p2 (wL i).length c2) x) [.inl (.slice (some ⟨gl, 0, none⟩) (aL i).length c1), .inl (vI 0), .inl (.pointer (some ⟨gl, 0, none⟩)), .inl (vI ((aL i)[0]'hlt : Int)), .inl (.bool false), .inl (.bool false), .inl (.slice (some ⟨gl, 0, none⟩) (aL i).length c1), .inl (vI 0), .inl (.pointer (some ⟨gl, 0, none⟩)), .inl (vI ((aL i)[0]'hlt : Int)), .inl (.bool false), .inl (.bool false), .inl (.bool false), .inl (vI 0), .inl (.bool false), .inl (.bool false), .inl undef, .inl undef, .inl undef, .inl undef, .inl undef, .inl undef, .inl undef, .inl undef, .inl undef, .inl undef, .inl (.bool false), .inl (.bool false), .inl (.bool false), .inl (vI 1), .inl (.bool true), .inl (.bool true), .inl (.slice (some ⟨g, 0, none⟩) 3 3), .inl (.pointer (some ⟨g, 0, none⟩)), .inl (.slice p0 (rL i).length c0), .inl (.slice (some ⟨gl, 0, none⟩) (aL i).length c1), .inl (vI 0), .inl (.pointer (some ⟨gl, 0, none⟩)), .inl (vI ((aL i)[0]'hlt : Int)), .inl (.bool true), .inl (.bool false), .inl (.bool false), .inl (.bool false)] (by kernel_rfl) (by kernel_rfl) RelG.grows_refl (fun _ _ h hb => h.grow hb) (H.out.grow (below_drawn1 _)) (by simp [RelG.upK]) ?_
            refine ⟨fun w3 hC _ => RelG.uponG_yes rfl (by go_simp; first | exact RelG.grows_refl _ | exact ⟨RelG.grows_refl _, rfl⟩ | (refine ⟨RelG.grows_refl _, ?_⟩; first | omega | go_num | (rw [IntKind.wrap_i64]; omega) | (congr 1; rw [IntKind.wrap_i64]; omega) | (simp; done) | (simp; omega))), ?_⟩
            simp only [Act.put, List.setIfInBounds_toArray, List.set_cons_succ, List.set_cons_zero]
            refine ⟨fun w3 hC _ => RelG.uponG_yes rfl (by go_simp; first | exact RelG.grows_refl _ | exact ⟨RelG.grows_refl _, rfl⟩ | (refine ⟨RelG.grows_refl _, ?_⟩; first | omega | go_num | (rw [IntKind.wrap_i64]; omega) | (congr 1; rw [IntKind.wrap_i64]; omega) | (simp; done) | (simp; omega))), ?_⟩
            simp only [Act.put, List.setIfInBounds_toArray, List.set_cons_succ, List.set_cons_zero]
            refine ⟨fun w3 hC _ => RelG.uponG_yes rfl (by go_simp; first | exact RelG.grows_refl _ | exact ⟨RelG.grows_refl _, rfl⟩ | (refine ⟨RelG.grows_refl _, ?_⟩; first | omega | go_num | (rw [IntKind.wrap_i64]; omega) | (congr 1; rw [IntKind.wrap_i64]; omega) | (simp; done) | (simp; omega))), ?_⟩
            simp only [Act.put, List.setIfInBounds_toArray, List.set_cons_succ, List.set_cons_zero]
            refine ⟨fun w3 hC _ => RelG.uponG_yes rfl (by have hq := rowI_cell hC.a hlt; go_simp; first | exact RelG.grows_refl _ | exact ⟨RelG.grows_refl _, rfl⟩ | (refine ⟨RelG.grows_refl _, ?_⟩; first | omega | go_num | (rw [IntKind.wrap_i64]; omega) | (congr 1; rw [IntKind.wrap_i64]; omega) | (simp; done) | (simp; omega))), ?_⟩
            simp only [Act.put, List.setIfInBounds_toArray, List.set_cons_succ, List.set_cons_zero]
            refine ⟨fun w3 hC _ => RelG.uponG_yes rfl (by go_simp; first | exact RelG.grows_refl _ | exact ⟨RelG.grows_refl _, rfl⟩ | (refine ⟨RelG.grows_refl _, ?_⟩; first | omega | go_num | (rw [IntKind.wrap_i64]; omega) | (congr 1; rw [IntKind.wrap_i64]; omega) | (simp; done) | (simp; omega))), ?_⟩
            simp only [Act.put, List.setIfInBounds_toArray, List.set_cons_succ, List.set_cons_zero]
            refine ⟨fun w3 hC _ => RelG.uponG_yes rfl (by go_simp; first | exact RelG.grows_refl _ | exact ⟨RelG.grows_refl _, rfl⟩ | (refine ⟨RelG.grows_refl _, ?_⟩; first | omega | go_num | (rw [IntKind.wrap_i64]; omega) | (congr 1; rw [IntKind.wrap_i64]; omega) | (simp; done) | (simp; omega))), ?_⟩
            simp only [Act.put, List.setIfInBounds_toArray, List.set_cons_succ, List.set_cons_zero]
            refine ⟨fun w3 hC _ => RelG.uponG_yes rfl (by go_simp; first | exact RelG.grows_refl _ | exact ⟨RelG.grows_refl _, rfl⟩ | (refine ⟨RelG.grows_refl _, ?_⟩; first | omega | go_num | (rw [IntKind.wrap_i64]; omega) | (congr 1; rw [IntKind.wrap_i64]; omega) | (simp; done) | (simp; omega))), ?_⟩
            simp only [Act.put, List.setIfInBounds_toArray, List.set_cons_succ, List.set_cons_zero]
            refine ⟨fun w3 hC _ => RelG.uponG_yes rfl (by go_simp; first | exact RelG.grows_refl _ | exact ⟨RelG.grows_refl _, rfl⟩ | (refine ⟨RelG.grows_refl _, ?_⟩; first | omega | go_num | (rw [IntKind.wrap_i64]; omega) | (congr 1; rw [IntKind.wrap_i64]; omega) | (simp; done) | (simp; omega))), ?_⟩
            simp only [Act.put, List.setIfInBounds_toArray, List.set_cons_succ, List.set_cons_zero]
            refine ⟨fun w3 hC _ => RelG.uponG_yes rfl (by go_simp; first | exact RelG.grows_refl _ | exact ⟨RelG.grows_refl _, rfl⟩ | (refine ⟨RelG.grows_refl _, ?_⟩; first | omega | go_num | (rw [IntKind.wrap_i64]; omega) | (congr 1; rw [IntKind.wrap_i64]; omega) | (simp; done) | (simp; omega))), ?_⟩
            simp only [Act.put, List.setIfInBounds_toArray, List.set_cons_succ, List.set_cons_zero]
            refine ⟨fun w3 hC _ => RelG.uponG_yes rfl (by have hq := rowI_cell hC.a hlt; go_simp; first | exact RelG.grows_refl _ | exact ⟨RelG.grows_refl _, rfl⟩ | (refine ⟨RelG.grows_refl _, ?_⟩; first | omega | go_num | (rw [IntKind.wrap_i64]; omega) | (congr 1; rw [IntKind.wrap_i64]; omega) | (simp; done) | (simp; omega))), ?_⟩
            simp only [Act.put, List.setIfInBounds_toArray, List.set_cons_succ, List.set_cons_zero]
            refine ⟨fun w3 hC _ => RelG.uponG_yes rfl (by go_simp; first | exact RelG.grows_refl _ | exact ⟨RelG.grows_refl _, rfl⟩ | (refine ⟨RelG.grows_refl _, ?_⟩; first | omega | go_num | (rw [IntKind.wrap_i64]; omega) | (congr 1; rw [IntKind.wrap_i64]; omega) | (simp; done) | (simp; omega))), ?_⟩
            simp only [Act.put, List.setIfInBounds_toArray, List.set_cons_succ, List.set_cons_zero]
            refine ⟨fun w3 hC _ => RelG.uponG_yes rfl (by go_simp; first | exact RelG.grows_refl _ | exact ⟨RelG.grows_refl _, rfl⟩ | (refine ⟨RelG.grows_refl _, ?_⟩; first | omega | go_num | (rw [IntKind.wrap_i64]; omega) | (congr 1; rw [IntKind.wrap_i64]; omega) | (simp; done) | (simp; omega))), ?_⟩
            simp only [Act.put, List.setIfInBounds_toArray, List.set_cons_succ, List.set_cons_zero]
            refine ⟨fun w3 hC _ => RelG.uponG_yes rfl (by go_simp; first | exact RelG.grows_refl _ | exact ⟨RelG.grows_refl _, rfl⟩ | (refine ⟨RelG.grows_refl _, ?_⟩; first | omega | go_num | (rw [IntKind.wrap_i64]; omega) | (congr 1; rw [IntKind.wrap_i64]; omega) | (simp; done) | (simp; omega))), ?_⟩
            simp only [Act.put, List.setIfInBounds_toArray, List.set_cons_succ, List.set_cons_zero]
            refine ⟨fun w3 hC _ => RelG.uponG_yes rfl (by go_simp; first | exact RelG.grows_refl _ | exact ⟨RelG.grows_refl _, rfl⟩ | (refine ⟨RelG.grows_refl _, ?_⟩; first | omega | go_num | (rw [IntKind.wrap_i64]; omega) | (congr 1; rw [IntKind.wrap_i64]; omega) | (simp; done) | (simp; omega))), ?_⟩
            simp only [Act.put, List.setIfInBounds_toArray, List.set_cons_succ, List.set_cons_zero]
            refine ⟨fun w3 hC _ => RelG.uponG_yes rfl (by go_simp; first | exact RelG.grows_refl _ | exact ⟨RelG.grows_refl _, rfl⟩ | (refine ⟨RelG.grows_refl _, ?_⟩; first | omega | go_num | (rw [IntKind.wrap_i64]; omega) | (congr 1; rw [IntKind.wrap_i64]; omega) | (simp; done) | (simp; omega))), ?_⟩
            simp only [Act.put, List.setIfInBounds_toArray, List.set_cons_succ, List.set_cons_zero]
            refine ⟨fun w3 hC _ => RelG.uponG_yes rfl (by go_simp; first | exact RelG.grows_refl _ | exact ⟨RelG.grows_refl _, rfl⟩ | (refine ⟨RelG.grows_refl _, ?_⟩; first | omega | go_num | (rw [IntKind.wrap_i64]; omega) | (congr 1; rw [IntKind.wrap_i64]; omega) | (simp; done) | (simp; omega))), ?_⟩
            simp only [Act.put, List.setIfInBounds_toArray, List.set_cons_succ, List.set_cons_zero]
            refine ⟨fun w3 hC _ => RelG.uponG_no rfl rfl, ?_⟩
            simp only [Act.put, List.setIfInBounds_toArray, List.set_cons_succ, List.set_cons_zero]
            refine ⟨fun w3 hC _ => RelG.uponG_no rfl rfl, ?_⟩
            simp only [Act.put, List.setIfInBounds_toArray, List.set_cons_succ, List.set_cons_zero]
            refine ⟨fun w3 hC _ => RelG.uponG_no rfl rfl, ?_⟩
            simp only [Act.put, List.setIfInBounds_toArray, List.set_cons_succ, List.set_cons_zero]
            refine ⟨fun w3 hC _ => RelG.uponG_no rfl rfl, ?_⟩
            simp only [Act.put, List.setIfInBounds_toArray, List.set_cons_succ, List.set_cons_zero]
            refine ⟨fun w3 hC _ => RelG.uponG_no rfl rfl, ?_⟩
            simp only [Act.put, List.setIfInBounds_toArray, List.set_cons_succ, List.set_cons_zero]
            refine ⟨fun w3 hC _ => RelG.uponG_no rfl rfl, ?_⟩
            simp only [Act.put, List.setIfInBounds_toArray, List.set_cons_succ, List.set_cons_zero]
            refine ⟨fun w3 hC _ => RelG.uponG_no rfl rfl, ?_⟩
            simp only [Act.put, List.setIfInBounds_toArray, List.set_cons_succ, List.set_cons_zero]
            refine ⟨fun w3 hC _ => RelG.uponG_no rfl rfl, ?_⟩
            simp only [Act.put, List.setIfInBounds_toArray, List.set_cons_succ, List.set_cons_zero]
            refine ⟨fun w3 hC _ => RelG.uponG_no rfl rfl, ?_⟩
            simp only [Act.put, List.setIfInBounds_toArray, List.set_cons_succ, List.set_cons_zero]
            refine ⟨fun w3 hC _ => RelG.uponG_no rfl rfl, ?_⟩
            simp only [Act.put, List.setIfInBounds_toArray, List.set_cons_succ, List.set_cons_zero]
            refine ⟨fun w3 hC _ => RelG.uponG_yes rfl (by go_simp; first | exact RelG.grows_refl _ | exact ⟨RelG.grows_refl _, rfl⟩ | (refine ⟨RelG.grows_refl _, ?_⟩; first | omega | go_num | (rw [IntKind.wrap_i64]; omega) | (congr 1; rw [IntKind.wrap_i64]; omega) | (simp; done) | (simp; omega))), ?_⟩
            simp only [Act.put, List.setIfInBounds_toArray, List.set_cons_succ, List.set_cons_zero]
            refine ⟨fun w3 hC _ => RelG.uponG_yes rfl (by go_simp; first | exact RelG.grows_refl _ | exact ⟨RelG.grows_refl _, rfl⟩ | (refine ⟨RelG.grows_refl _, ?_⟩; first | omega | go_num | (rw [IntKind.wrap_i64]; omega) | (congr 1; rw [IntKind.wrap_i64]; omega) | (simp; done) | (simp; omega))), ?_⟩
            simp only [Act.put, List.setIfInBounds_toArray, List.set_cons_succ, List.set_cons_zero]
            refine ⟨fun w3 hC _ => RelG.uponG_yes rfl (by go_simp; first | exact RelG.grows_refl _ | exact ⟨RelG.grows_refl _, rfl⟩ | (refine ⟨RelG.grows_refl _, ?_⟩; first | omega | go_num | (rw [IntKind.wrap_i64]; omega) | (congr 1; rw [IntKind.wrap_i64]; omega) | (simp; done) | (simp; omega))), ?_⟩
            simp only [Act.put, List.setIfInBounds_toArray, List.set_cons_succ, List.set_cons_zero]
            refine ⟨fun w3 hC _ => RelG.uponG_yes rfl (by go_simp; first | exact RelG.grows_refl _ | exact ⟨RelG.grows_refl _, rfl⟩ | (refine ⟨RelG.grows_refl _, ?_⟩; first | omega | go_num | (rw [IntKind.wrap_i64]; omega) | (congr 1; rw [IntKind.wrap_i64]; omega) | (simp; done) | (simp; omega))), ?_⟩
            simp only [Act.put, List.setIfInBounds_toArray, List.set_cons_succ, List.set_cons_zero]
            refine ⟨fun w3 hC _ => RelG.uponG_yes rfl (by go_simp; first | exact RelG.grows_refl _ | exact ⟨RelG.grows_refl _, rfl⟩ | (refine ⟨RelG.grows_refl _, ?_⟩; first | omega | go_num | (rw [IntKind.wrap_i64]; omega) | (congr 1; rw [IntKind.wrap_i64]; omega) | (simp; done) | (simp; omega))), ?_⟩
            simp only [Act.put, List.setIfInBounds_toArray, List.set_cons_succ, List.set_cons_zero]
            refine ⟨fun w3 hC _ => RelG.uponG_yes rfl (by go_simp; first | exact RelG.grows_refl _ | exact ⟨RelG.grows_refl _, rfl⟩ | (refine ⟨RelG.grows_refl _, ?_⟩; first | omega | go_num | (rw [IntKind.wrap_i64]; omega) | (congr 1; rw [IntKind.wrap_i64]; omega) | (simp; done) | (simp; omega))), ?_⟩
            simp only [Act.put, List.setIfInBounds_toArray, List.set_cons_succ, List.set_cons_zero]
            refine ⟨fun w3 hC _ => RelG.uponG_yes rfl (by go_simp; first | exact RelG.grows_refl _ | exact ⟨RelG.grows_refl _, rfl⟩ | (refine ⟨RelG.grows_refl _, ?_⟩; first | omega | go_num | (rw [IntKind.wrap_i64]; omega) | (congr 1; rw [IntKind.wrap_i64]; omega) | (simp; done) | (simp; omega))), ?_⟩
            simp only [Act.put, List.setIfInBounds_toArray, List.set_cons_succ, List.set_cons_zero]
            refine ⟨fun w3 hC _ => RelG.uponG_yes rfl (by go_simp; first | exact RelG.grows_refl _ | exact ⟨RelG.grows_refl _, rfl⟩ | (refine ⟨RelG.grows_refl _, ?_⟩; first | omega | go_num | (rw [IntKind.wrap_i64]; omega) | (congr 1; rw [IntKind.wrap_i64]; omega) | (simp; done) | (simp; omega))), ?_⟩
            simp only [Act.put, List.setIfInBounds_toArray, List.set_cons_succ, List.set_cons_zero]
            refine ⟨fun w3 hC _ => RelG.uponG_yes rfl (by have hq := hC.at 0; go_simp; first | exact RelG.grows_refl _ | exact ⟨RelG.grows_refl _, rfl⟩ | (refine ⟨RelG.grows_refl _, ?_⟩; first | omega | go_num | (rw [IntKind.wrap_i64]; omega) | (congr 1; rw [IntKind.wrap_i64]; omega) | (simp; done) | (simp; omega))), ?_⟩
            simp only [Act.put, List.setIfInBounds_toArray, List.set_cons_succ, List.set_cons_zero]
            refine ⟨fun w3 hC _ => RelG.uponG_yes rfl (by go_simp; first | exact RelG.grows_refl _ | exact ⟨RelG.grows_refl _, rfl⟩ | (refine ⟨RelG.grows_refl _, ?_⟩; first | omega | go_num | (rw [IntKind.wrap_i64]; omega) | (congr 1; rw [IntKind.wrap_i64]; omega) | (simp; done) | (simp; omega))), ?_⟩
            simp only [Act.put, List.setIfInBounds_toArray, List.set_cons_succ, List.set_cons_zero]
            refine ⟨fun w3 hC _ => RelG.uponG_yes rfl (by go_simp; first | exact RelG.grows_refl _ | exact ⟨RelG.grows_refl _, rfl⟩ | (refine ⟨RelG.grows_refl _, ?_⟩; first | omega | go_num | (rw [IntKind.wrap_i64]; omega) | (congr 1; rw [IntKind.wrap_i64]; omega) | (simp; done) | (simp; omega))), ?_⟩
            simp only [Act.put, List.setIfInBounds_toArray, List.set_cons_succ, List.set_cons_zero]
            refine ⟨fun w3 hC _ => RelG.uponG_yes rfl (by go_simp; first | exact RelG.grows_refl _ | exact ⟨RelG.grows_refl _, rfl⟩ | (refine ⟨RelG.grows_refl _, ?_⟩; first | omega | go_num | (rw [IntKind.wrap_i64]; omega) | (congr 1; rw [IntKind.wrap_i64]; omega) | (simp; done) | (simp; omega))), ?_⟩
            simp only [Act.put, List.setIfInBounds_toArray, List.set_cons_succ, List.set_cons_zero]
            refine ⟨fun w3 hC _ => RelG.uponG_yes rfl (by have hq := rowI_cell hC.a hlt; go_simp; first | exact RelG.grows_refl _ | exact ⟨RelG.grows_refl _, rfl⟩ | (refine ⟨RelG.grows_refl _, ?_⟩; first | omega | go_num | (rw [IntKind.wrap_i64]; omega) | (congr 1; rw [IntKind.wrap_i64]; omega) | (simp; done) | (simp; omega))), ?_⟩
            simp only [Act.put, List.setIfInBounds_toArray, List.set_cons_succ, List.set_cons_zero]
            refine ⟨fun w3 hC _ => RelG.uponG_yes rfl ?_, ?_⟩
            · go_simp
              refine (in_c w.heap.size (rL i) _ _ x0 w3 hC.r L0 hx0 hx1).mono ?_
              rintro e w4 ⟨rfl, rfl⟩
              exact ⟨rfl, RelG.grows_refl _⟩
            simp only [Act.put, List.setIfInBounds_toArray, List.set_cons_succ, List.set_cons_zero]
            refine ⟨fun w3 hC _ => RelG.uponG_yes rfl (by go_simp; first | exact RelG.grows_refl _ | exact ⟨RelG.grows_refl _, rfl⟩ | (refine ⟨RelG.grows_refl _, ?_⟩; first | omega | go_num | (rw [IntKind.wrap_i64]; omega) | (congr 1; rw [IntKind.wrap_i64]; omega) | (simp; done) | (simp; omega))), ?_⟩
            simp only [Act.put, List.setIfInBounds_toArray, List.set_cons_succ, List.set_cons_zero]
            refine ⟨fun w3 hC _ => RelG.uponG_yes rfl (by go_simp; first | exact RelG.grows_refl _ | exact ⟨RelG.grows_refl _, rfl⟩ | (refine ⟨RelG.grows_refl _, ?_⟩; first | omega | go_num | (rw [IntKind.wrap_i64]; omega) | (congr 1; rw [IntKind.wrap_i64]; omega) | (simp; done) | (simp; omega))), ?_⟩
            simp only [Act.put, List.setIfInBounds_toArray, List.set_cons_succ, List.set_cons_zero]
            refine ⟨fun w3 hC _ => RelG.uponG_yes rfl (by go_simp; first | exact RelG.grows_refl _ | exact ⟨RelG.grows_refl _, rfl⟩ | (refine ⟨RelG.grows_refl _, ?_⟩; first | omega | go_num | (rw [IntKind.wrap_i64]; omega) | (congr 1; rw [IntKind.wrap_i64]; omega) | (simp; done) | (simp; omega))), ?_⟩
            intro w3 hC _
            simp only [Act.put, List.setIfInBounds_toArray, List.set_cons_succ, List.set_cons_zero]
            go_wp2
            go_roundw
            case rel => exact ⟨1, by omega, by go_num, hC⟩
            case measure => simp [intOf]; omega
          · have hp1 : (1 : Int) ≤ (j : Int) := by omega
            have hp3 : (j : Int) - 1 < ((aL i).length : Int) := by omega
            have hlm : j - 1 < (aL i).length := by omega
            have hri : (aL i)[j - 1] < (aL i)[j] := by
              have := list_rise (s := setOf i (addressV i)) (j := j - 1) (by show _ < (aL i).length; omega)
              simpa [aL, show j - 1 + 1 = j by omega] using this
            refine RelG.wp_region_rel RelG.Grows (fun x => Ord i w g (.slice p0 (rL i).length c0) (.slice (some ⟨gl, 0, none⟩) (aL i).length c1) (.slice p2 (wL i).length c2) x) [.inl (.slice (some ⟨gl, 0, none⟩) (aL i).length c1), .inl (vI (j : Int)), .inl (.pointer (some ⟨gl, j, none⟩)), .inl (vI ((aL i)[j]'hlt : Int)), .inl (.bool false), .inl (.bool false), .inl (.slice (some ⟨gl, 0, none⟩) (aL i).length c1), .inl (vI (j : Int)), .inl (.pointer (some ⟨gl, j, none⟩)), .inl (vI ((aL i)[j]'hlt : Int)), .inl (.bool false), .inl (.bool false), .inl (.bool false), .inl (vI (j : Int)), .inl (.bool true), .inl (.bool true), .inl (.slice (some ⟨gl, 0, none⟩) (aL i).length c1), .inl (vI (j : Int)), .inl (.pointer (some ⟨gl, j, none⟩)), .inl (vI ((aL i)[j]'hlt : Int)), .inl (.slice (some ⟨gl, 0, none⟩) (aL i).length c1), .inl (vI (j : Int)), .inl (vI ((j : Int) - 1)), .inl (.pointer (some ⟨gl, j - 1, none⟩)), .inl (vI ((aL i)[j - 1]'hlm : Int)), .inl (.bool false), .inl (.bool false), .inl (.bool false), .inl (.bool false), .inl (vI 1), .inl (.bool true), .inl (.bool true), .inl (.slice (some ⟨g, 0, none⟩) 3 3), .inl (.pointer (some ⟨g, 0, none⟩)), .inl (.slice p0 (rL i).length c0), .inl (.slice (some ⟨gl, 0, none⟩) (aL i).length c1), .inl (vI (j : Int)), .inl (.pointer (some ⟨gl, j, none⟩)), .inl (vI ((aL i)[j]'hlt : Int)), .inl (.bool true), .inl (.bool false), .inl (.bool false), .inl (.bool false)] (by kernel_rfl) (by kernel_rfl) RelG.grows_refl (fun _ _ h hb => h.grow hb) (H.out.grow (below_drawn1 _)) (by simp [RelG.upK]) ?_
            refine ⟨fun w3 hC _ => RelG.uponG_yes rfl (by go_simp; first | exact RelG.grows_refl _ | exact ⟨RelG.grows_refl _, rfl⟩ | (refine ⟨RelG.grows_refl _, ?_⟩; first | omega | go_num | (rw [IntKind.wrap_i64]; omega) | (congr 1; rw [IntKind.wrap_i64]; omega) | (simp; done) | (simp; omega))), ?_⟩
            simp only [Act.put, List.setIfInBounds_toArray, List.set_cons_succ, List.set_cons_zero]
            refine ⟨fun w3 hC _ => RelG.uponG_yes rfl (by go_simp; first | exact RelG.grows_refl _ | exact ⟨RelG.grows_refl _, rfl⟩ | (refine ⟨RelG.grows_refl _, ?_⟩; first | omega | go_num | (rw [IntKind.wrap_i64]; omega) | (congr 1; rw [IntKind.wrap_i64]; omega) | (simp; done) | (simp; omega))), ?_⟩
            simp only [Act.put, List.setIfInBounds_toArray, List.set_cons_succ, List.set_cons_zero]
            refine ⟨fun w3 hC _ => RelG.uponG_yes rfl (by go_simp; first | exact RelG.grows_refl _ | exact ⟨RelG.grows_refl _, rfl⟩ | (refine ⟨RelG.grows_refl _, ?_⟩; first | omega | go_num | (rw [IntKind.wrap_i64]; omega) | (congr 1; rw [IntKind.wrap_i64]; omega) | (simp; done) | (simp; omega))), ?_⟩
            simp only [Act.put, List.setIfInBounds_toArray, List.set_cons_succ, List.set_cons_zero]
            refine ⟨fun w3 hC _ => RelG.uponG_yes rfl (by have hq := rowI_cell hC.a hlt; go_simp; first | exact RelG.grows_refl _ | exact ⟨RelG.grows_refl _, rfl⟩ | (refine ⟨RelG.grows_refl _, ?_⟩; first | omega | go_num | (rw [IntKind.wrap_i64]; omega) | (congr 1; rw [IntKind.wrap_i64]; omega) | (simp; done) | (simp; omega))), ?_⟩
            simp only [Act.put, List.setIfInBounds_toArray, List.set_cons_succ, List.set_cons_zero]
            refine ⟨fun w3 hC _ => RelG.uponG_yes rfl (by go_simp; first | exact RelG.grows_refl _ | exact ⟨RelG.grows_refl _, rfl⟩ | (refine ⟨RelG.grows_refl _, ?_⟩; first | omega | go_num | (rw [IntKind.wrap_i64]; omega) | (congr 1; rw [IntKind.wrap_i64]; omega) | (simp; done) | (simp; omega))), ?_⟩
            simp only [Act.put, List.setIfInBounds_toArray, List.set_cons_succ, List.set_cons_zero]
            refine ⟨fun w3 hC _ => RelG.uponG_yes rfl (by go_simp; first | exact RelG.grows_refl _ | exact ⟨RelG.grows_refl _, rfl⟩ | (refine ⟨RelG.grows_refl _, ?_⟩; first | omega | go_num | (rw [IntKind.wrap_i64]; omega) | (congr 1; rw [IntKind.wrap_i64]; omega) | (simp; done) | (simp; omega))), ?_⟩
            simp only [Act.put, List.setIfInBounds_toArray, List.set_cons_succ, List.set_cons_zero]
            refine ⟨fun w3 hC _ => RelG.uponG_yes rfl (by go_simp; first | exact RelG.grows_refl _ | exact ⟨RelG.grows_refl _, rfl⟩ | (refine ⟨RelG.grows_refl _, ?_⟩; first | omega | go_num | (rw [IntKind.wrap_i64]; omega) | (congr 1; rw [IntKind.wrap_i64]; omega) | (simp; done) | (simp; omega))), ?_⟩
            simp only [Act.put, List.setIfInBounds_toArray, List.set_cons_succ, List.set_cons_zero]
            refine ⟨fun w3 hC _ => RelG.uponG_yes rfl (by go_simp; first | exact RelG.grows_refl _ | exact ⟨RelG.grows_refl _, rfl⟩ | (refine ⟨RelG.grows_refl _, ?_⟩; first | omega | go_num | (rw [IntKind.wrap_i64]; omega) | (congr 1; rw [IntKind.wrap_i64]; omega) | (simp; done) | (simp; omega))), ?_⟩
            simp only [Act.put, List.setIfInBounds_toArray, List.set_cons_succ, List.set_cons_zero]
            refine ⟨fun w3 hC _ => RelG.uponG_yes rfl (by go_simp; first | exact RelG.grows_refl _ | exact ⟨RelG.grows_refl _, rfl⟩ | (refine ⟨RelG.grows_refl _, ?_⟩; first | omega | go_num | (rw [IntKind.wrap_i64]; omega) | (congr 1; rw [IntKind.wrap_i64]; omega) | (simp; done) | (simp; omega))), ?_⟩
            simp only [Act.put, List.setIfInBounds_toArray, List.set_cons_succ, List.set_cons_zero]
            refine ⟨fun w3 hC _ => RelG.uponG_yes rfl (by have hq := rowI_cell hC.a hlt; go_simp; first | exact RelG.grows_refl _ | exact ⟨RelG.grows_refl _, rfl⟩ | (refine ⟨RelG.grows_refl _, ?_⟩; first | omega | go_num | (rw [IntKind.wrap_i64]; omega) | (congr 1; rw [IntKind.wrap_i64]; omega) | (simp; done) | (simp; omega))), ?_⟩
            simp only [Act.put, List.setIfInBounds_toArray, List.set_cons_succ, List.set_cons_zero]
            refine ⟨fun w3 hC _ => RelG.uponG_yes rfl (by go_simp; first | exact RelG.grows_refl _ | exact ⟨RelG.grows_refl _, rfl⟩ | (refine ⟨RelG.grows_refl _, ?_⟩; first | omega | go_num | (rw [IntKind.wrap_i64]; omega) | (congr 1; rw [IntKind.wrap_i64]; omega) | (simp; done) | (simp; omega))), ?_⟩
            simp only [Act.put, List.setIfInBounds_toArray, List.set_cons_succ, List.set_cons_zero]
            refine ⟨fun w3 hC _ => RelG.uponG_yes rfl (by go_simp; first | exact RelG.grows_refl _ | exact ⟨RelG.grows_refl _, rfl⟩ | (refine ⟨RelG.grows_refl _, ?_⟩; first | omega | go_num | (rw [IntKind.wrap_i64]; omega) | (congr 1; rw [IntKind.wrap_i64]; omega) | (simp; done) | (simp; omega))), ?_⟩
            simp only [Act.put, List.setIfInBounds_toArray, List.set_cons_succ, List.set_cons_zero]
            refine ⟨fun w3 hC _ => RelG.uponG_yes rfl (by go_simp; first | exact RelG.grows_refl _ | exact ⟨RelG.grows_refl _, rfl⟩ | (refine ⟨RelG.grows_refl _, ?_⟩; first | omega | go_num | (rw [IntKind.wrap_i64]; omega) | (congr 1; rw [IntKind.wrap_i64]; omega) | (simp; done) | (simp; omega))), ?_⟩
            simp only [Act.put, List.setIfInBounds_toArray, List.set_cons_succ, List.set_cons_zero]
            refine ⟨fun w3 hC _ => RelG.uponG_yes rfl (by go_simp; first | exact RelG.grows_refl _ | exact ⟨RelG.grows_refl _, rfl⟩ | (refine ⟨RelG.grows_refl _, ?_⟩; first | omega | go_num | (rw [IntKind.wrap_i64]; omega) | (congr 1; rw [IntKind.wrap_i64]; omega) | (simp; done) | (simp; omega))), ?_⟩
            simp only [Act.put, List.setIfInBounds_toArray, List.set_cons_succ, List.set_cons_zero]
            refine ⟨fun w3 hC _ => RelG.uponG_yes rfl (by go_simp; first | exact RelG.grows_refl _ | exact ⟨RelG.grows_refl _, rfl⟩ | (refine ⟨RelG.grows_refl _, ?_⟩; first | omega | go_num | (rw [IntKind.wrap_i64]; omega) | (congr 1; rw [IntKind.wrap_i64]; omega) | (simp; done) | (simp; omega))), ?_⟩
            simp only [Act.put, List.setIfInBounds_toArray, List.set_cons_succ, List.set_cons_zero]
            refine ⟨fun w3 hC _ => RelG.uponG_yes rfl (by go_simp; first | exact RelG.grows_refl _ | exact ⟨RelG.grows_refl _, rfl⟩ | (refine ⟨RelG.grows_refl _, ?_⟩; first | omega | go_num | (rw [IntKind.wrap_i64]; omega) | (congr 1; rw [IntKind.wrap_i64]; omega) | (simp; done) | (simp; omega))), ?_⟩
            simp only [Act.put, List.setIfInBounds_toArray, List.set_cons_succ, List.set_cons_zero]
            refine ⟨fun w3 hC _ => RelG.uponG_yes rfl (by go_simp; first | exact RelG.grows_refl _ | exact ⟨RelG.grows_refl _, rfl⟩ | (refine ⟨RelG.grows_refl _, ?_⟩; first | omega | go_num | (rw [IntKind.wrap_i64]; omega) | (congr 1; rw [IntKind.wrap_i64]; omega) | (simp; done) | (simp; omega))), ?_⟩
            simp only [Act.put, List.setIfInBounds_toArray, List.set_cons_succ, List.set_cons_zero]
            refine ⟨fun w3 hC _ => RelG.uponG_yes rfl (by go_simp; first | exact RelG.grows_refl _ | exact ⟨RelG.grows_refl _, rfl⟩ | (refine ⟨RelG.grows_refl _, ?_⟩; first | omega | go_num | (rw [IntKind.wrap_i64]; omega) | (congr 1; rw [IntKind.wrap_i64]; omega) | (simp; done) | (simp; omega))), ?_⟩
            simp only [Act.put, List.setIfInBounds_toArray, List.set_cons_succ, List.set_cons_zero]
            refine ⟨fun w3 hC _ => RelG.uponG_yes rfl (by go_simp; first | exact RelG.grows_refl _ | exact ⟨RelG.grows_refl _, rfl⟩ | (refine ⟨RelG.grows_refl _, ?_⟩; first | omega | go_num | (rw [IntKind.wrap_i64]; omega) | (congr 1; rw [IntKind.wrap_i64]; omega) | (simp; done) | (simp; omega))), ?_⟩
            simp only [Act.put, List.setIfInBounds_toArray, List.set_cons_succ, List.set_cons_zero]
            refine ⟨fun w3 hC _ => RelG.uponG_yes rfl (by have hq := rowI_cell hC.a hlt; go_simp; first | exact RelG.grows_refl _ | exact ⟨RelG.grows_refl _, rfl⟩ | (refine ⟨RelG.grows_refl _, ?_⟩; first | omega | go_num | (rw [IntKind.wrap_i64]; omega) | (congr 1; rw [IntKind.wrap_i64]; omega) | (simp; done) | (simp; omega))), ?_⟩
            simp only [Act.put, List.setIfInBounds_toArray, List.set_cons_succ, List.set_cons_zero]
            refine ⟨fun w3 hC _ => RelG.uponG_yes rfl (by go_simp; first | exact RelG.grows_refl _ | exact ⟨RelG.grows_refl _, rfl⟩ | (refine ⟨RelG.grows_refl _, ?_⟩; first | omega | go_num | (rw [IntKind.wrap_i64]; omega) | (congr 1; rw [IntKind.wrap_i64]; omega) | (simp; done) | (simp; omega))), ?_⟩
            simp only [Act.put, List.setIfInBounds_toArray, List.set_cons_succ, List.set_cons_zero]
            refine ⟨fun w3 hC _ => RelG.uponG_yes rfl (by go_simp; first | exact RelG.grows_refl _ | exact ⟨RelG.grows_refl _, rfl⟩ | (refine ⟨RelG.grows_refl _, ?_⟩; first | omega | go_num | (rw [IntKind.wrap_i64]; omega) | (congr 1; rw [IntKind.wrap_i64]; omega) | (simp; done) | (simp; omega))), ?_⟩
            simp only [Act.put, List.setIfInBounds_toArray, List.set_cons_succ, List.set_cons_zero]
            refine ⟨fun w3 hC _ => RelG.uponG_yes rfl (by go_simp; first | exact RelG.grows_refl _ | exact ⟨RelG.grows_refl _, rfl⟩ | (refine ⟨RelG.grows_refl _, ?_⟩; first | omega | go_num | (rw [IntKind.wrap_i64]; omega) | (congr 1; rw [IntKind.wrap_i64]; omega) | (simp; done) | (simp; omega))), ?_⟩
            simp only [Act.put, List.setIfInBounds_toArray, List.set_cons_succ, List.set_cons_zero]
            refine ⟨fun w3 hC _ => RelG.uponG_yes rfl (by go_simp; first | exact RelG.grows_refl _ | exact ⟨RelG.grows_refl _, rfl⟩ | (refine ⟨RelG.grows_refl _, ?_⟩; first | omega | go_num | (rw [IntKind.wrap_i64]; omega) | (congr 1; rw [IntKind.wrap_i64]; omega) | (simp; done) | (simp; omega))), ?_⟩
            simp only [Act.put, List.setIfInBounds_toArray, List.set_cons_succ, List.set_cons_zero]
            refine ⟨fun w3 hC _ => RelG.uponG_yes rfl (by have hq := rowI_cell hC.a hlm; go_simp; first | exact RelG.grows_refl _ | exact ⟨RelG.grows_refl _, rfl⟩ | (refine ⟨RelG.grows_refl _, ?_⟩; first | omega | go_num | (rw [IntKind.wrap_i64]; omega) | (congr 1; rw [IntKind.wrap_i64]; omega) | (simp; done) | (simp; omega))), ?_⟩
            simp only [Act.put, List.setIfInBounds_toArray, List.set_cons_succ, List.set_cons_zero]
            refine ⟨fun w3 hC _ => RelG.uponG_yes rfl (by go_simp; first | exact RelG.grows_refl _ | exact ⟨RelG.grows_refl _, rfl⟩ | (refine ⟨RelG.grows_refl _, ?_⟩; first | omega | go_num | (rw [IntKind.wrap_i64]; omega) | (congr 1; rw [IntKind.wrap_i64]; omega) | (simp; done) | (simp; omega))), ?_⟩
            simp only [Act.put, List.setIfInBounds_toArray, List.set_cons_succ, List.set_cons_zero]
            refine ⟨fun w3 hC _ => RelG.uponG_yes rfl (by go_simp; first | exact RelG.grows_refl _ | exact ⟨RelG.grows_refl _, rfl⟩ | (refine ⟨RelG.grows_refl _, ?_⟩; first | omega | go_num | (rw [IntKind.wrap_i64]; omega) | (congr 1; rw [IntKind.wrap_i64]; omega) | (simp; done) | (simp; omega))), ?_⟩
            simp only [Act.put, List.setIfInBounds_toArray, List.set_cons_succ, List.set_cons_zero]
            refine ⟨fun w3 hC _ => RelG.uponG_yes rfl (by go_simp; first | exact RelG.grows_refl _ | exact ⟨RelG.grows_refl _, rfl⟩ | (refine ⟨RelG.grows_refl _, ?_⟩; first | omega | go_num | (rw [IntKind.wrap_i64]; omega) | (congr 1; rw [IntKind.wrap_i64]; omega) | (simp; done) | (simp; omega))), ?_⟩
            simp only [Act.put, List.setIfInBounds_toArray, List.set_cons_succ, List.set_cons_zero]
            refine ⟨fun w3 hC _ => RelG.uponG_yes rfl (by go_simp; first | exact RelG.grows_refl _ | exact ⟨RelG.grows_refl _, rfl⟩ | (refine ⟨RelG.grows_refl _, ?_⟩; first | omega | go_num | (rw [IntKind.wrap_i64]; omega) | (congr 1; rw [IntKind.wrap_i64]; omega) | (simp; done) | (simp; omega))), ?_⟩
            simp only [Act.put, List.setIfInBounds_toArray, List.set_cons_succ, List.set_cons_zero]
            refine ⟨fun w3 hC _ => RelG.uponG_yes rfl (by go_simp; first | exact RelG.grows_refl _ | exact ⟨RelG.grows_refl _, rfl⟩ | (refine ⟨RelG.grows_refl _, ?_⟩; first | omega | go_num | (rw [IntKind.wrap_i64]; omega) | (congr 1; rw [IntKind.wrap_i64]; omega) | (simp; done) | (simp; omega))), ?_⟩
            simp only [Act.put, List.setIfInBounds_toArray, List.set_cons_succ, List.set_cons_zero]
            refine ⟨fun w3 hC _ => RelG.uponG_yes rfl (by go_simp; first | exact RelG.grows_refl _ | exact ⟨RelG.grows_refl _, rfl⟩ | (refine ⟨RelG.grows_refl _, ?_⟩; first | omega | go_num | (rw [IntKind.wrap_i64]; omega) | (congr 1; rw [IntKind.wrap_i64]; omega) | (simp; done) | (simp; omega))), ?_⟩
            simp only [Act.put, List.setIfInBounds_toArray, List.set_cons_succ, List.set_cons_zero]
            refine ⟨fun w3 hC _ => RelG.uponG_yes rfl (by go_simp; first | exact RelG.grows_refl _ | exact ⟨RelG.grows_refl _, rfl⟩ | (refine ⟨RelG.grows_refl _, ?_⟩; first | omega | go_num | (rw [IntKind.wrap_i64]; omega) | (congr 1; rw [IntKind.wrap_i64]; omega) | (simp; done) | (simp; omega))), ?_⟩
            simp only [Act.put, List.setIfInBounds_toArray, List.set_cons_succ, List.set_cons_zero]
            refine ⟨fun w3 hC _ => RelG.uponG_yes rfl (by go_simp; first | exact RelG.grows_refl _ | exact ⟨RelG.grows_refl _, rfl⟩ | (refine ⟨RelG.grows_refl _, ?_⟩; first | omega | go_num | (rw [IntKind.wrap_i64]; omega) | (congr 1; rw [IntKind.wrap_i64]; omega) | (simp; done) | (simp; omega))), ?_⟩
            simp only [Act.put, List.setIfInBounds_toArray, List.set_cons_succ, List.set_cons_zero]
            refine ⟨fun w3 hC _ => RelG.uponG_yes rfl (by go_simp; first | exact RelG.grows_refl _ | exact ⟨RelG.grows_refl _, rfl⟩ | (refine ⟨RelG.grows_refl _, ?_⟩; first | omega | go_num | (rw [IntKind.wrap_i64]; omega) | (congr 1; rw [IntKind.wrap_i64]; omega) | (simp; done) | (simp; omega))), ?_⟩
            simp only [Act.put, List.setIfInBounds_toArray, List.set_cons_succ, List.set_cons_zero]
            refine ⟨fun w3 hC _ => RelG.uponG_yes rfl (by have hq := hC.at 0; go_simp; first | exact RelG.grows_refl _ | exact ⟨RelG.grows_refl _, rfl⟩ | (refine ⟨RelG.grows_refl _, ?_⟩; first | omega | go_num | (rw [IntKind.wrap_i64]; omega) | (congr 1; rw [IntKind.wrap_i64]; omega) | (simp; done) | (simp; omega))), ?_⟩
            simp only [Act.put, List.setIfInBounds_toArray, List.set_cons_succ, List.set_cons_zero]
            refine ⟨fun w3 hC _ => RelG.uponG_yes rfl (by go_simp; first | exact RelG.grows_refl _ | exact ⟨RelG.grows_refl _, rfl⟩ | (refine ⟨RelG.grows_refl _, ?_⟩; first | omega | go_num | (rw [IntKind.wrap_i64]; omega) | (congr 1; rw [IntKind.wrap_i64]; omega) | (simp; done) | (simp; omega))), ?_⟩
            simp only [Act.put, List.setIfInBounds_toArray, List.set_cons_succ, List.set_cons_zero]
            refine ⟨fun w3 hC _ => RelG.uponG_yes rfl (by go_simp; first | exact RelG.grows_refl _ | exact ⟨RelG.grows_refl _, rfl⟩ | (refine ⟨RelG.grows_refl _, ?_⟩; first | omega | go_num | (rw [IntKind.wrap_i64]; omega) | (congr 1; rw [IntKind.wrap_i64]; omega) | (simp; done) | (simp; omega))), ?_⟩
            simp only [Act.put, List.setIfInBounds_toArray, List.set_cons_succ, List.set_cons_zero]
            refine ⟨fun w3 hC _ => RelG.uponG_yes rfl (by go_simp; first | exact RelG.grows_refl _ | exact ⟨RelG.grows_refl _, rfl⟩ | (refine ⟨RelG.grows_refl _, ?_⟩; first | omega | go_num | (rw [IntKind.wrap_i64]; omega) | (congr 1; rw [IntKind.wrap_i64]; omega) | (simp; done) | (simp; omega))), ?_⟩
            simp only [Act.put, List.setIfInBounds_toArray, List.set_cons_succ, List.set_cons_zero]
            refine ⟨fun w3 hC _ => RelG.uponG_yes rfl (by have hq := rowI_cell hC.a hlt; go_simp; first | exact RelG.grows_refl _ | exact ⟨RelG.grows_refl _, rfl⟩ | (refine ⟨RelG.grows_refl _, ?_⟩; first | omega | go_num | (rw [IntKind.wrap_i64]; omega) | (congr 1; rw [IntKind.wrap_i64]; omega) | (simp; done) | (simp; omega))), ?_⟩
            simp only [Act.put, List.setIfInBounds_toArray, List.set_cons_succ, List.set_cons_zero]
            refine ⟨fun w3 hC _ => RelG.uponG_yes rfl ?_, ?_⟩
            · go_simp
              refine (in_c w.heap.size (rL i) _ _ x0 w3 hC.r L0 hx0 hx1).mono ?_
              rintro e w4 ⟨rfl, rfl⟩
              exact ⟨rfl, RelG.grows_refl _⟩
            simp only [Act.put, List.setIfInBounds_toArray, List.set_cons_succ, List.set_cons_zero]
            refine ⟨fun w3 hC _ => RelG.uponG_yes rfl (by go_simp; first | exact RelG.grows_refl _ | exact ⟨RelG.grows_refl _, rfl⟩ | (refine ⟨RelG.grows_refl _, ?_⟩; first | omega | go_num | (rw [IntKind.wrap_i64]; omega) | (congr 1; rw [IntKind.wrap_i64]; omega) | (simp; done) | (simp; omega))), ?_⟩
            simp only [Act.put, List.setIfInBounds_toArray, List.set_cons_succ, List.set_cons_zero]
            refine ⟨fun w3 hC _ => RelG.uponG_yes rfl (by go_simp; first | exact RelG.grows_refl _ | exact ⟨RelG.grows_refl _, rfl⟩ | (refine ⟨RelG.grows_refl _, ?_⟩; first | omega | go_num | (rw [IntKind.wrap_i64]; omega) | (congr 1; rw [IntKind.wrap_i64]; omega) | (simp; done) | (simp; omega))), ?_⟩
            simp only [Act.put, List.setIfInBounds_toArray, List.set_cons_succ, List.set_cons_zero]
            refine ⟨fun w3 hC _ => RelG.uponG_yes rfl (by go_simp; first | exact RelG.grows_refl _ | exact ⟨RelG.grows_refl _, rfl⟩ | (refine ⟨RelG.grows_refl _, ?_⟩; first | omega | go_num | (rw [IntKind.wrap_i64]; omega) | (congr 1; rw [IntKind.wrap_i64]; omega) | (simp; done) | (simp; omega))), ?_⟩
            intro w3 hC _
            simp only [Act.put, List.setIfInBounds_toArray, List.set_cons_succ, List.set_cons_zero]
            go_wp2
            go_roundw
            case rel => exact ⟨j + 1, by omega, by go_num, hC⟩
            case measure => simp [intOf]; omega
        · obtain rfl : j = (aL i).length := by omega
          by_cases hp : 0 < (aL i).length
          · have hR : rightB i = true := by
              cases hR : rightB i with
              | true => rfl
              | false =>
                have := list_nil hR
                simp [aL, this] at hp
            have hp2 : (0 : Int) < ((aL i).length : Int) := by omega
            replace H := H.out
            go_wp2_with (first | (with_reducible refine wpList_load_if rfl 23 _ rfl w.heap.size rfl 23 _ (0, 0) _ H.one.box Tryd.underlying23 rfl (by kernel_rfl) ?_; simp only [Act.put, List.setIfInBounds_toArray, List.set_cons_succ, List.set_cons_zero]) | (go_at_call 10; refine (right_c i _).mono ?_; rw [hR]; rintro e w3 ⟨rfl, hb⟩; replace H := H.grow hb; clear hb; dsimp only))
            go_roundw
            case rel => exact ⟨2, by omega, by go_num, H⟩
            case measure => simp [intOf]
          · have hp2 : ¬ (0 : Int) < ((aL i).length : Int) := by omega
            clear hp
            go_wp2
            go_roundw
            case rel => exact ⟨2, by omega, by go_num, H⟩
            case measure => simp [intOf]
    · have hcell := H.out.at 2
      go_wp2
      clear hcell
      go_loopw [7] (fun s7 wq => ∃ j : Nat, j ≤ (wL i).length ∧ s7 = .int .i64 j ∧ Hid (Ord i w g (.slice p0 (rL i).length c0) (.slice p1 (aL i).length c1) (.slice p2 (wL i).length c2) wq)) (fun s7 _ => (wL i).length - (intOf s7).toNat)
      case atStart => exact ⟨0, by omega, rfl, H⟩
      case round =>
        clear H
        obtain ⟨j, hj, rfl, H⟩ := hrel
        by_cases hlt : j < (wL i).length
        · have hl2 : (j : Int) < ((wL i).length : Int) := by omega
          obtain ⟨gl, cl, hsl⟩ := rowI_some H.out.x hlt
          cases hsl
          have hsm : (wL i)[j] < 32 := list_small hlt
          go_upto_region 10 with fail
          rcases Nat.eq_zero_or_pos j with rfl | hpos
          · refine RelG.wp_region_rel RelG.Grows (fun x => Ord i w g (.slice p0 (rL i).length c0) (.slice p1 (aL i).length c1) (.slice (some ⟨gl, 0, none⟩) (wL i).length c2) x) [.inl (.slice (some ⟨gl, 0, none⟩) (wL i).length c2), .inl (vI 0), .inl (.pointer (some ⟨gl, 0, none⟩)), .inl (vI ((wL i)[0]'hlt : Int)), .inl (.bool false), .inl (.bool false), .inl (.slice (some ⟨gl, 0, none⟩) (wL i).length c2), .inl (vI 0), .inl (.pointer (some ⟨gl, 0, none⟩)), .inl (vI ((wL i)[0]'hlt : Int)), .inl (.bool false), .inl (.bool false), .inl (.bool false), .inl (vI 0), .inl (.bool false), .inl (.bool false), .inl undef, .inl undef, .inl undef, .inl undef, .inl undef, .inl undef, .inl undef, .inl undef, .inl undef, .inl undef, .inl (.bool false), .inl (.bool false), .inl (.bool false), .inl (vI 2), .inl (.bool false), .inl (.bool false), .inl undef, .inl undef, .inl undef, .inl undef, .inl undef, .inl undef, .inl undef, .inl undef, .inl undef, .inl (.bool false), .inl (.bool false)] (by kernel_rfl) (by kernel_rfl) RelG.grows_refl (fun _ _ h hb => h.grow hb) (H.out.grow (below_drawn1 _)) (by simp [RelG.upK]) ?_
            refine ⟨fun w3 hC _ => RelG.uponG_yes rfl (by go_simp; first | exact RelG.grows_refl _ | exact ⟨RelG.grows_refl _, rfl⟩ | (refine ⟨RelG.grows_refl _, ?_⟩; first | omega | go_num | (rw [IntKind.wrap_i64]; omega) | (congr 1; rw [IntKind.wrap_i64]; omega) | (simp; done) | (simp; omega))), ?_⟩
            simp only [Act.put, List.setIfInBounds_toArray, List.set_cons_succ, List.set_cons_zero]
            refine ⟨fun w3 hC _ => RelG.uponG_yes rfl (by go_simp; first | exact RelG.grows_refl _ | exact ⟨RelG.grows_refl _, rfl⟩ | (refine ⟨RelG.grows_refl _, ?_⟩; first | omega | go_num | (rw [IntKind.wrap_i64]; omega) | (congr 1; rw [IntKind.wrap_i64]; omega) | (simp; done) | (simp; omega))), ?_⟩
            simp only [Act.put, List.setIfInBounds_toArray, List.set_cons_succ, List.set_cons_zero]
            refine ⟨fun w3 hC _ => RelG.uponG_yes rfl (by go_simp; first | exact RelG.grows_refl _ | exact ⟨RelG.grows_refl _, rfl⟩ | (refine ⟨RelG.grows_refl _, ?_⟩; first | omega | go_num | (rw [IntKind.wrap_i64]; omega) | (congr 1; rw [IntKind.wrap_i64]; omega) | (simp; done) | (simp; omega))), ?_⟩
            simp only [Act.put, List.setIfInBounds_toArray, List.set_cons_succ, List.set_cons_zero]
            refine ⟨fun w3 hC _ => RelG.uponG_yes rfl (by have hq := rowI_cell hC.x hlt; go_simp; first | exact RelG.grows_refl _ | exact ⟨RelG.grows_refl _, rfl⟩ | (refine ⟨RelG.grows_refl _, ?_⟩; first | omega | go_num | (rw [IntKind.wrap_i64]; omega) | (congr 1; rw [IntKind.wrap_i64]; omega) | (simp; done) | (simp; omega))), ?_⟩
            simp only [Act.put, List.setIfInBounds_toArray, List.set_cons_succ, List.set_cons_zero]
            refine ⟨fun w3 hC _ => RelG.uponG_yes rfl (by go_simp; first | exact RelG.grows_refl _ | exact ⟨RelG.grows_refl _, rfl⟩ | (refine ⟨RelG.grows_refl _, ?_⟩; first | omega | go_num | (rw [IntKind.wrap_i64]; omega) | (congr 1; rw [IntKind.wrap_i64]; omega) | (simp; done) | (simp; omega))), ?_⟩
            simp only [Act.put, List.setIfInBounds_toArray, List.set_cons_succ, List.set_cons_zero]
            refine ⟨fun w3 hC _ => RelG.uponG_yes rfl (by go_simp; first | exact RelG.grows_refl _ | exact ⟨RelG.grows_refl _, rfl⟩ | (refine ⟨RelG.grows_refl _, ?_⟩; first | omega | go_num | (rw [IntKind.wrap_i64]; omega) | (congr 1; rw [IntKind.wrap_i64]; omega) | (simp; done) | (simp; omega))), ?_⟩
            simp only [Act.put, List.setIfInBounds_toArray, List.set_cons_succ, List.set_cons_zero]
            refine ⟨fun w3 hC _ => RelG.uponG_yes rfl (by go_simp; first | exact RelG.grows_refl _ | exact ⟨RelG.grows_refl _, rfl⟩ | (refine ⟨RelG.grows_refl _, ?_⟩; first | omega | go_num | (rw [IntKind.wrap_i64]; omega) | (congr 1; rw [IntKind.wrap_i64]; omega) | (simp; done) | (simp; omega))), ?_⟩
            simp only [Act.put, List.setIfInBounds_toArray, List.set_cons_succ, List.set_cons_zero]
            refine ⟨fun w3 hC _ => RelG.uponG_yes rfl (by go_simp; first | exact RelG.grows_refl _ | exact ⟨RelG.grows_refl _, rfl⟩ | (refine ⟨RelG.grows_refl _, ?_⟩; first | omega | go_num | (rw [IntKind.wrap_i64]; omega) | (congr 1; rw [IntKind.wrap_i64]; omega) | (simp; done) | (simp; omega))), ?_⟩
            simp only [Act.put, List.setIfInBounds_toArray, List.set_cons_succ, List.set_cons_zero]
            refine ⟨fun w3 hC _ => RelG.uponG_yes rfl (by go_simp; first | exact RelG.grows_refl _ | exact ⟨RelG.grows_refl _, rfl⟩ | (refine ⟨RelG.grows_refl _, ?_⟩; first | omega | go_num | (rw [IntKind.wrap_i64]; omega) | (congr 1; rw [IntKind.wrap_i64]; omega) | (simp; done) | (simp; omega))), ?_⟩
            simp only [Act.put, List.setIfInBounds_toArray, List.set_cons_succ, List.set_cons_zero]
            refine ⟨fun w3 hC _ => RelG.uponG_yes rfl (by have hq := rowI_cell hC.x hlt; go_simp; first | exact RelG.grows_refl _ | exact ⟨RelG.grows_refl _, rfl⟩ | (refine ⟨RelG.grows_refl _, ?_⟩; first | omega | go_num | (rw [IntKind.wrap_i64]; omega) | (congr 1; rw [IntKind.wrap_i64]; omega) | (simp; done) | (simp; omega))), ?_⟩
            simp only [Act.put, List.setIfInBounds_toArray, List.set_cons_succ, List.set_cons_zero]
            refine ⟨fun w3 hC _ => RelG.uponG_yes rfl (by go_simp; first | exact RelG.grows_refl _ | exact ⟨RelG.grows_refl _, rfl⟩ | (refine ⟨RelG.grows_refl _, ?_⟩; first | omega | go_num | (rw [IntKind.wrap_i64]; omega) | (congr 1; rw [IntKind.wrap_i64]; omega) | (simp; done) | (simp; omega))), ?_⟩
            simp only [Act.put, List.setIfInBounds_toArray, List.set_cons_succ, List.set_cons_zero]
            refine ⟨fun w3 hC _ => RelG.uponG_yes rfl (by go_simp; first | exact RelG.grows_refl _ | exact ⟨RelG.grows_refl _, rfl⟩ | (refine ⟨RelG.grows_refl _, ?_⟩; first | omega | go_num | (rw [IntKind.wrap_i64]; omega) | (congr 1; rw [IntKind.wrap_i64]; omega) | (simp; done) | (simp; omega))), ?_⟩
            simp only [Act.put, List.setIfInBounds_toArray, List.set_cons_succ, List.set_cons_zero]
            refine ⟨fun w3 hC _ => RelG.uponG_yes rfl (by go_simp; first | exact RelG.grows_refl _ | exact ⟨RelG.grows_refl _, rfl⟩ | (refine ⟨RelG.grows_refl _, ?_⟩; first | omega | go_num | (rw [IntKind.wrap_i64]; omega) | (congr 1; rw [IntKind.wrap_i64]; omega) | (simp; done) | (simp; omega))), ?_⟩
            simp only [Act.put, List.setIfInBounds_toArray, List.set_cons_succ, List.set_cons_zero]
            refine ⟨fun w3 hC _ => RelG.uponG_yes rfl (by go_simp; first | exact RelG.grows_refl _ | exact ⟨RelG.grows_refl _, rfl⟩ | (refine ⟨RelG.grows_refl _, ?_⟩; first | omega | go_num | (rw [IntKind.wrap_i64]; omega) | (congr 1; rw [IntKind.wrap_i64]; omega) | (simp; done) | (simp; omega))), ?_⟩
            simp only [Act.put, List.setIfInBounds_toArray, List.set_cons_succ, List.set_cons_zero]
            refine ⟨fun w3 hC _ => RelG.uponG_yes rfl (by go_simp; first | exact RelG.grows_refl _ | exact ⟨RelG.grows_refl _, rfl⟩ | (refine ⟨RelG.grows_refl _, ?_⟩; first | omega | go_num | (rw [IntKind.wrap_i64]; omega) | (congr 1; rw [IntKind.wrap_i64]; omega) | (simp; done) | (simp; omega))), ?_⟩
            simp only [Act.put, List.setIfInBounds_toArray, List.set_cons_succ, List.set_cons_zero]
            refine ⟨fun w3 hC _ => RelG.uponG_yes rfl (by go_simp; first | exact RelG.grows_refl _ | exact ⟨RelG.grows_refl _, rfl⟩ | (refine ⟨RelG.grows_refl _, ?_⟩; first | omega | go_num | (rw [IntKind.wrap_i64]; omega) | (congr 1; rw [IntKind.wrap_i64]; omega) | (simp; done) | (simp; omega))), ?_⟩
            simp only [Act.put, List.setIfInBounds_toArray, List.set_cons_succ, List.set_cons_zero]
            refine ⟨fun w3 hC _ => RelG.uponG_no rfl rfl, ?_⟩
            simp only [Act.put, List.setIfInBounds_toArray, List.set_cons_succ, List.set_cons_zero]
            refine ⟨fun w3 hC _ => RelG.uponG_no rfl rfl, ?_⟩
            simp only [Act.put, List.setIfInBounds_toArray, List.set_cons_succ, List.set_cons_zero]
            refine ⟨fun w3 hC _ => RelG.uponG_no rfl rfl, ?_⟩
            simp only [Act.put, List.setIfInBounds_toArray, List.set_cons_succ, List.set_cons_zero]
            refine ⟨fun w3 hC _ => RelG.uponG_no rfl rfl, ?_⟩
            simp only [Act.put, List.setIfInBounds_toArray, List.set_cons_succ, List.set_cons_zero]
            refine ⟨fun w3 hC _ => RelG.uponG_no rfl rfl, ?_⟩
            simp only [Act.put, List.setIfInBounds_toArray, List.set_cons_succ, List.set_cons_zero]
            refine ⟨fun w3 hC _ => RelG.uponG_no rfl rfl, ?_⟩
            simp only [Act.put, List.setIfInBounds_toArray, List.set_cons_succ, List.set_cons_zero]
            refine ⟨fun w3 hC _ => RelG.uponG_no rfl rfl, ?_⟩
            simp only [Act.put, List.setIfInBounds_toArray, List.set_cons_succ, List.set_cons_zero]
            refine ⟨fun w3 hC _ => RelG.uponG_no rfl rfl, ?_⟩
            simp only [Act.put, List.setIfInBounds_toArray, List.set_cons_succ, List.set_cons_zero]
            refine ⟨fun w3 hC _ => RelG.uponG_no rfl rfl, ?_⟩
            simp only [Act.put, List.setIfInBounds_toArray, List.set_cons_succ, List.set_cons_zero]
            refine ⟨fun w3 hC _ => RelG.uponG_no rfl rfl, ?_⟩
            simp only [Act.put, List.setIfInBounds_toArray, List.set_cons_succ, List.set_cons_zero]
            refine ⟨fun w3 hC _ => RelG.uponG_yes rfl (by go_simp; first | exact RelG.grows_refl _ | exact ⟨RelG.grows_refl _, rfl⟩ | (refine ⟨RelG.grows_refl _, ?_⟩; first | omega | go_num | (rw [IntKind.wrap_i64]; omega) | (congr 1; rw [IntKind.wrap_i64]; omega) | (simp; done) | (simp; omega))), ?_⟩
            simp only [Act.put, List.setIfInBounds_toArray, List.set_cons_succ, List.set_cons_zero]
            refine ⟨fun w3 hC _ => RelG.uponG_yes rfl (by go_simp; first | exact RelG.grows_refl _ | exact ⟨RelG.grows_refl _, rfl⟩ | (refine ⟨RelG.grows_refl _, ?_⟩; first | omega | go_num | (rw [IntKind.wrap_i64]; omega) | (congr 1; rw [IntKind.wrap_i64]; omega) | (simp; done) | (simp; omega))), ?_⟩
            simp only [Act.put, List.setIfInBounds_toArray, List.set_cons_succ, List.set_cons_zero]
            refine ⟨fun w3 hC _ => RelG.uponG_yes rfl (by go_simp; first | exact RelG.grows_refl _ | exact ⟨RelG.grows_refl _, rfl⟩ | (refine ⟨RelG.grows_refl _, ?_⟩; first | omega | go_num | (rw [IntKind.wrap_i64]; omega) | (congr 1; rw [IntKind.wrap_i64]; omega) | (simp; done) | (simp; omega))), ?_⟩
            simp only [Act.put, List.setIfInBounds_toArray, List.set_cons_succ, List.set_cons_zero]
            refine ⟨fun w3 hC _ => RelG.uponG_yes rfl (by go_simp; first | exact RelG.grows_refl _ | exact ⟨RelG.grows_refl _, rfl⟩ | (refine ⟨RelG.grows_refl _, ?_⟩; first | omega | go_num | (rw [IntKind.wrap_i64]; omega) | (congr 1; rw [IntKind.wrap_i64]; omega) | (simp; done) | (simp; omega))), ?_⟩
            simp only [Act.put, List.setIfInBounds_toArray, List.set_cons_succ, List.set_cons_zero]
            refine ⟨fun w3 hC _ => RelG.uponG_yes rfl (by go_simp; first | exact RelG.grows_refl _ | exact ⟨RelG.grows_refl _, rfl⟩ | (refine ⟨RelG.grows_refl _, ?_⟩; first | omega | go_num | (rw [IntKind.wrap_i64]; omega) | (congr 1; rw [IntKind.wrap_i64]; omega) | (simp; done) | (simp; omega))), ?_⟩
            simp only [Act.put, List.setIfInBounds_toArray, List.set_cons_succ, List.set_cons_zero]
            refine ⟨fun w3 hC _ => RelG.uponG_yes rfl (by go_simp; first | exact RelG.grows_refl _ | exact ⟨RelG.grows_refl _, rfl⟩ | (refine ⟨RelG.grows_refl _, ?_⟩; first | omega | go_num | (rw [IntKind.wrap_i64]; omega) | (congr 1; rw [IntKind.wrap_i64]; omega) | (simp; done) | (simp; omega))), ?_⟩
            simp only [Act.put, List.setIfInBounds_toArray, List.set_cons_succ, List.set_cons_zero]
            refine ⟨fun w3 hC _ => RelG.uponG_no rfl rfl, ?_⟩
            simp only [Act.put, List.setIfInBounds_toArray, List.set_cons_succ, List.set_cons_zero]
            refine ⟨fun w3 hC _ => RelG.uponG_no rfl rfl, ?_⟩
            simp only [Act.put, List.setIfInBounds_toArray, List.set_cons_succ, List.set_cons_zero]
            refine ⟨fun w3 hC _ => RelG.uponG_no rfl rfl, ?_⟩
            simp only [Act.put, List.setIfInBounds_toArray, List.set_cons_succ, List.set_cons_zero]
            refine ⟨fun w3 hC _ => RelG.uponG_no rfl rfl, ?_⟩
            simp only [Act.put, List.setIfInBounds_toArray, List.set_cons_succ, List.set_cons_zero]
            refine ⟨fun w3 hC _ => RelG.uponG_no rfl rfl, ?_⟩
            simp only [Act.put, List.setIfInBounds_toArray, List.set_cons_succ, List.set_cons_zero]
            refine ⟨fun w3 hC _ => RelG.uponG_no rfl rfl, ?_⟩
            simp only [Act.put, List.setIfInBounds_toArray, List.set_cons_succ, List.set_cons_zero]
            refine ⟨fun w3 hC _ => RelG.uponG_no rfl rfl, ?_⟩
            simp only [Act.put, List.setIfInBounds_toArray, List.set_cons_succ, List.set_cons_zero]
            refine ⟨fun w3 hC _ => RelG.uponG_no rfl rfl, ?_⟩
            simp only [Act.put, List.setIfInBounds_toArray, List.set_cons_succ, List.set_cons_zero]
            refine ⟨fun w3 hC _ => RelG.uponG_no rfl rfl, ?_⟩
            simp only [Act.put, List.setIfInBounds_toArray, List.set_cons_succ, List.set_cons_zero]
            refine ⟨fun w3 hC _ => RelG.uponG_yes rfl (by go_simp; first | exact RelG.grows_refl _ | exact ⟨RelG.grows_refl _, rfl⟩ | (refine ⟨RelG.grows_refl _, ?_⟩; first | omega | go_num | (rw [IntKind.wrap_i64]; omega) | (congr 1; rw [IntKind.wrap_i64]; omega) | (simp; done) | (simp; omega))), ?_⟩
            simp only [Act.put, List.setIfInBounds_toArray, List.set_cons_succ, List.set_cons_zero]
            refine ⟨fun w3 hC _ => RelG.uponG_yes rfl (by go_simp; first | exact RelG.grows_refl _ | exact ⟨RelG.grows_refl _, rfl⟩ | (refine ⟨RelG.grows_refl _, ?_⟩; first | omega | go_num | (rw [IntKind.wrap_i64]; omega) | (congr 1; rw [IntKind.wrap_i64]; omega) | (simp; done) | (simp; omega))), ?_⟩
            intro w3 hC _
            simp only [Act.put, List.setIfInBounds_toArray, List.set_cons_succ, List.set_cons_zero]
            go_wp2
            go_roundw
            case rel => exact ⟨1, by omega, by go_num, hC⟩
            case measure => simp [intOf]; omega
          · have hp1 : (1 : Int) ≤ (j : Int) := by omega
            have hp3 : (j : Int) - 1 < ((wL i).length : Int) := by omega
            have hlm : j - 1 < (wL i).length := by omega
            have hri : (wL i)[j - 1] < (wL i)[j] := by
              have := list_rise (s := setOf i (writesV i)) (j := j - 1) (by show _ < (wL i).length; omega)
              simpa [wL, show j - 1 + 1 = j by omega] using this
            refine RelG.wp_region_rel RelG.Grows (fun x => Ord i w g (.slice p0 (rL i).length c0) (.slice p1 (aL i).length c1) (.slice (some ⟨gl, 0, none⟩) (wL i).length c2) x) [.inl (.slice (some ⟨gl, 0, none⟩) (wL i).length c2), .inl (vI (j : Int)), .inl (.pointer (some ⟨gl, j, none⟩)), .inl (vI ((wL i)[j]'hlt : Int)), .inl (.bool false), .inl (.bool false), .inl (.slice (some ⟨gl, 0, none⟩) (wL i).length c2), .inl (vI (j : Int)), .inl (.pointer (some ⟨gl, j, none⟩)), .inl (vI ((wL i)[j]'hlt : Int)), .inl (.bool false), .inl (.bool false), .inl (.bool false), .inl (vI (j : Int)), .inl (.bool true), .inl (.bool true), .inl (.slice (some ⟨gl, 0, none⟩) (wL i).length c2), .inl (vI (j : Int)), .inl (.pointer (some ⟨gl, j, none⟩)), .inl (vI ((wL i)[j]'hlt : Int)), .inl (.slice (some ⟨gl, 0, none⟩) (wL i).length c2), .inl (vI (j : Int)), .inl (vI ((j : Int) - 1)), .inl (.pointer (some ⟨gl, j - 1, none⟩)), .inl (vI ((wL i)[j - 1]'hlm : Int)), .inl (.bool false), .inl (.bool false), .inl (.bool false), .inl (.bool false), .inl (vI 2), .inl (.bool false), .inl (.bool false), .inl undef, .inl undef, .inl undef, .inl undef, .inl undef, .inl undef, .inl undef, .inl undef, .inl undef, .inl (.bool false), .inl (.bool false)] (by kernel_rfl) (by kernel_rfl) RelG.grows_refl (fun _ _ h hb => h.grow hb) (H.out.grow (below_drawn1 _)) (by simp [RelG.upK]) ?_
            refine ⟨fun w3 hC _ => RelG.uponG_yes rfl (by go_simp; first | exact RelG.grows_refl _ | exact ⟨RelG.grows_refl _, rfl⟩ | (refine ⟨RelG.grows_refl _, ?_⟩; first | omega | go_num | (rw [IntKind.wrap_i64]; omega) | (congr 1; rw [IntKind.wrap_i64]; omega) | (simp; done) | (simp; omega))), ?_⟩
            simp only [Act.put, List.setIfInBounds_toArray, List.set_cons_succ, List.set_cons_zero]
            refine ⟨fun w3 hC _ => RelG.uponG_yes rfl (by go_simp; first | exact RelG.grows_refl _ | exact ⟨RelG.grows_refl _, rfl⟩ | (refine ⟨RelG.grows_refl _, ?_⟩; first | omega | go_num | (rw [IntKind.wrap_i64]; omega) | (congr 1; rw [IntKind.wrap_i64]; omega) | (simp; done) | (simp; omega))), ?_⟩
            simp only [Act.put, List.setIfInBounds_toArray, List.set_cons_succ, List.set_cons_zero]
            refine ⟨fun w3 hC _ => RelG.uponG_yes rfl (by go_simp; first | exact RelG.grows_refl _ | exact ⟨RelG.grows_refl _, rfl⟩ | (refine ⟨RelG.grows_refl _, ?_⟩; first | omega | go_num | (rw [IntKind.wrap_i64]; omega) | (congr 1; rw [IntKind.wrap_i64]; omega) | (simp; done) | (simp; omega))), ?_⟩
            simp only [Act.put, List.setIfInBounds_toArray, List.set_cons_succ, List.set_cons_zero]
            refine ⟨fun w3 hC _ => RelG.uponG_yes rfl (by have hq := rowI_cell hC.x hlt; go_simp; first | exact RelG.grows_refl _ | exact ⟨RelG.grows_refl _, rfl⟩ | (refine ⟨RelG.grows_refl _, ?_⟩; first | omega | go_num | (rw [IntKind.wrap_i64]; omega) | (congr 1; rw [IntKind.wrap_i64]; omega) | (simp; done) | (simp; omega))), ?_⟩
            simp only [Act.put, List.setIfInBounds_toArray, List.set_cons_succ, List.set_cons_zero]
            refine ⟨fun w3 hC _ => RelG.uponG_yes rfl (by go_simp; first | exact RelG.grows_refl _ | exact ⟨RelG.grows_refl _, rfl⟩ | (refine ⟨RelG.grows_refl _, ?_⟩; first | omega | go_num | (rw [IntKind.wrap_i64]; omega) | (congr 1; rw [IntKind.wrap_i64]; omega) | (simp; done) | (simp; omega))), ?_⟩
            simp only [Act.put, List.setIfInBounds_toArray, List.set_cons_succ, List.set_cons_zero]
            refine ⟨fun w3 hC _ => RelG.uponG_yes rfl (by go_simp; first | exact RelG.grows_refl _ | exact ⟨RelG.grows_refl _, rfl⟩ | (refine ⟨RelG.grows_refl _, ?_⟩; first | omega | go_num | (rw [IntKind.wrap_i64]; omega) | (congr 1; rw [IntKind.wrap_i64]; omega) | (simp; done) | (simp; omega))), ?_⟩
            simp only [Act.put, List.setIfInBounds_toArray, List.set_cons_succ, List.set_cons_zero]
            refine ⟨fun w3 hC _ => RelG.uponG_yes rfl (by go_simp; first | exact RelG.grows_refl _ | exact ⟨RelG.grows_refl _, rfl⟩ | (refine ⟨RelG.grows_refl _, ?_⟩; first | omega | go_num | (rw [IntKind.wrap_i64]; omega) | (congr 1; rw [IntKind.wrap_i64]; omega) | (simp; done) | (simp; omega))), ?_⟩
            simp only [Act.put, List.setIfInBounds_toArray, List.set_cons_succ, List.set_cons_zero]
            refine ⟨fun w3 hC _ => RelG.uponG_yes rfl (by go_simp; first | exact RelG.grows_refl _ | exact ⟨RelG.grows_refl _, rfl⟩ | (refine ⟨RelG.grows_refl _, ?_⟩; first | omega | go_num | (rw [IntKind.wrap_i64]; omega) | (congr 1; rw [IntKind.wrap_i64]; omega) | (simp; done) | (simp; omega))), ?_⟩
            simp only [Act.put, List.setIfInBounds_toArray, List.set_cons_succ, List.set_cons_zero]
            refine ⟨fun w3 hC _ => RelG.uponG_yes rfl (by go_simp; first | exact RelG.grows_refl _ | exact ⟨RelG.grows_refl _, rfl⟩ | (refine ⟨RelG.grows_refl _, ?_⟩; first | omega | go_num | (rw [IntKind.wrap_i64]; omega) | (congr 1; rw [IntKind.wrap_i64]; omega) | (simp; done) | (simp; omega))), ?_⟩
            simp only [Act.put, List.setIfInBounds_toArray, List.set_cons_succ, List.set_cons_zero]
            refine ⟨fun w3 hC _ => RelG.uponG_yes rfl (by have hq := rowI_cell hC.x hlt; go_simp; first | exact RelG.grows_refl _ | exact ⟨RelG.grows_refl _, rfl⟩ | (refine ⟨RelG.grows_refl _, ?_⟩; first | omega | go_num | (rw [IntKind.wrap_i64]; omega) | (congr 1; rw [IntKind.wrap_i64]; omega) | (simp; done) | (simp; omega))), ?_⟩
            simp only [Act.put, List.setIfInBounds_toArray, List.set_cons_succ, List.set_cons_zero]
            refine ⟨fun w3 hC _ => RelG.uponG_yes rfl (by go_simp; first | exact RelG.grows_refl _ | exact ⟨RelG.grows_refl _, rfl⟩ | (refine ⟨RelG.grows_refl _, ?_⟩; first | omega | go_num | (rw [IntKind.wrap_i64]; omega) | (congr 1; rw [IntKind.wrap_i64]; omega) | (simp; done) | (simp; omega))), ?_⟩
            simp only [Act.put, List.setIfInBounds_toArray, List.set_cons_succ, List.set_cons_zero]
            refine ⟨fun w3 hC _ => RelG.uponG_yes rfl (by go_simp; first | exact RelG.grows_refl _ | exact ⟨RelG.grows_refl _, rfl⟩ | (refine ⟨RelG.grows_refl _, ?_⟩; first | omega | go_num | (rw [IntKind.wrap_i64]; omega) | (congr 1; rw [IntKind.wrap_i64]; omega) | (simp; done) | (simp; omega))), ?_⟩
            simp only [Act.put, List.setIfInBounds_toArray, List.set_cons_succ, List.set_cons_zero]
            refine ⟨fun w3 hC _ => RelG.uponG_yes rfl (by go_simp; first | exact RelG.grows_refl _ | exact ⟨RelG.grows_refl _, rfl⟩ | (refine ⟨RelG.grows_refl _, ?_⟩; first | omega | go_num | (rw [IntKind.wrap_i64]; omega) | (congr 1; rw [IntKind.wrap_i64]; omega) | (simp; done) | (simp; omega))), ?_⟩
            simp only [Act.put, List.setIfInBounds_toArray, List.set_cons_succ, List.set_cons_zero]
            refine ⟨fun w3 hC _ => RelG.uponG_yes rfl (by go_simp; first | exact RelG.grows_refl _ | exact ⟨RelG.grows_refl _, rfl⟩ | (refine ⟨RelG.grows_refl _, ?_⟩; first | omega | go_num | (rw [IntKind.wrap_i64]; omega) | (congr 1; rw [IntKind.wrap_i64]; omega) | (simp; done) | (simp; omega))), ?_⟩
            simp only [Act.put, List.setIfInBounds_toArray, List.set_cons_succ, List.set_cons_zero]
            refine ⟨fun w3 hC _ => RelG.uponG_yes rfl (by go_simp; first | exact RelG.grows_refl _ | exact ⟨RelG.grows_refl _, rfl⟩ | (refine ⟨RelG.grows_refl _, ?_⟩; first | omega | go_num | (rw [IntKind.wrap_i64]; omega) | (congr 1; rw [IntKind.wrap_i64]; omega) | (simp; done) | (simp; omega))), ?_⟩
            simp only [Act.put, List.setIfInBounds_toArray, List.set_cons_succ, List.set_cons_zero]
            refine ⟨fun w3 hC _ => RelG.uponG_yes rfl (by go_simp; first | exact RelG.grows_refl _ | exact ⟨RelG.grows_refl _, rfl⟩ | (refine ⟨RelG.grows_refl _, ?_⟩; first | omega | go_num | (rw [IntKind.wrap_i64]; omega) | (congr 1; rw [IntKind.wrap_i64]; omega) | (simp; done) | (simp; omega))), ?_⟩
            simp only [Act.put, List.setIfInBounds_toArray, List.set_cons_succ, List.set_cons_zero]
            refine ⟨fun w3 hC _ => RelG.uponG_yes rfl (by go_simp; first | exact RelG.grows_refl _ | exact ⟨RelG.grows_refl _, rfl⟩ | (refine ⟨RelG.grows_refl _, ?_⟩; first | omega | go_num | (rw [IntKind.wrap_i64]; omega) | (congr 1; rw [IntKind.wrap_i64]; omega) | (simp; done) | (simp; omega))), ?_⟩
            simp only [Act.put, List.setIfInBounds_toArray, List.set_cons_succ, List.set_cons_zero]
            refine ⟨fun w3 hC _ => RelG.uponG_yes rfl (by go_simp; first | exact RelG.grows_refl _ | exact ⟨RelG.grows_refl _, rfl⟩ | (refine ⟨RelG.grows_refl _, ?_⟩; first | omega | go_num | (rw [IntKind.wrap_i64]; omega) | (congr 1; rw [IntKind.wrap_i64]; omega) | (simp; done) | (simp; omega))), ?_⟩
            simp only [Act.put, List.setIfInBounds_toArray, List.set_cons_succ, List.set_cons_zero]
            refine ⟨fun w3 hC _ => RelG.uponG_yes rfl (by go_simp; first | exact RelG.grows_refl _ | exact ⟨RelG.grows_refl _, rfl⟩ | (refine ⟨RelG.grows_refl _, ?_⟩; first | omega | go_num | (rw [IntKind.wrap_i64]; omega) | (congr 1; rw [IntKind.wrap_i64]; omega) | (simp; done) | (simp; omega))), ?_⟩
            simp only [Act.put, List.setIfInBounds_toArray, List.set_cons_succ, List.set_cons_zero]
            refine ⟨fun w3 hC _ => RelG.uponG_yes rfl (by have hq := rowI_cell hC.x hlt; go_simp; first | exact RelG.grows_refl _ | exact ⟨RelG.grows_refl _, rfl⟩ | (refine ⟨RelG.grows_refl _, ?_⟩; first | omega | go_num | (rw [IntKind.wrap_i64]; omega) | (congr 1; rw [IntKind.wrap_i64]; omega) | (simp; done) | (simp; omega))), ?_⟩
            simp only [Act.put, List.setIfInBounds_toArray, List.set_cons_succ, List.set_cons_zero]
            refine ⟨fun w3 hC _ => RelG.uponG_yes rfl (by go_simp; first | exact RelG.grows_refl _ | exact ⟨RelG.grows_refl _, rfl⟩ | (refine ⟨RelG.grows_refl _, ?_⟩; first | omega | go_num | (rw [IntKind.wrap_i64]; omega) | (congr 1; rw [IntKind.wrap_i64]; omega) | (simp; done) | (simp; omega))), ?_⟩
            simp only [Act.put, List.setIfInBounds_toArray, List.set_cons_succ, List.set_cons_zero]
            refine ⟨fun w3 hC _ => RelG.uponG_yes rfl (by go_simp; first | exact RelG.grows_refl _ | exact ⟨RelG.grows_refl _, rfl⟩ | (refine ⟨RelG.grows_refl _, ?_⟩; first | omega | go_num | (rw [IntKind.wrap_i64]; omega) | (congr 1; rw [IntKind.wrap_i64]; omega) | (simp; done) | (simp; omega))), ?_⟩
            simp only [Act.put, List.setIfInBounds_toArray, List.set_cons_succ, List.set_cons_zero]
            refine ⟨fun w3 hC _ => RelG.uponG_yes rfl (by go_simp; first | exact RelG.grows_refl _ | exact ⟨RelG.grows_refl _, rfl⟩ | (refine ⟨RelG.grows_refl _, ?_⟩; first | omega | go_num | (rw [IntKind.wrap_i64]; omega) | (congr 1; rw [IntKind.wrap_i64]; omega) | (simp; done) | (simp; omega))), ?_⟩
            simp only [Act.put, List.setIfInBounds_toArray, List.set_cons_succ, List.set_cons_zero]
            refine ⟨fun w3 hC _ => RelG.uponG_yes rfl (by go_simp; first | exact RelG.grows_refl _ | exact ⟨RelG.grows_refl _, rfl⟩ | (refine ⟨RelG.grows_refl _, ?_⟩; first | omega | go_num | (rw [IntKind.wrap_i64]; omega) | (congr 1; rw [IntKind.wrap_i64]; omega) | (simp; done) | (simp; omega))), ?_⟩
            simp only [Act.put, List.setIfInBounds_toArray, List.set_cons_succ, List.set_cons_zero]
            refine ⟨fun w3 hC _ => RelG.uponG_yes rfl (by have hq := rowI_cell hC.x hlm; go_simp; first | exact RelG.grows_refl _ | exact ⟨RelG.grows_refl _, rfl⟩ | (refine ⟨RelG.grows_refl _, ?_⟩; first | omega | go_num | (rw [IntKind.wrap_i64]; omega) | (congr 1; rw [IntKind.wrap_i64]; omega) | (simp; done) | (simp; omega))), ?_⟩
            simp only [Act.put, List.setIfInBounds_toArray, List.set_cons_succ, List.set_cons_zero]
            refine ⟨fun w3 hC _ => RelG.uponG_yes rfl (by go_simp; first | exact RelG.grows_refl _ | exact ⟨RelG.grows_refl _, rfl⟩ | (refine ⟨RelG.grows_refl _, ?_⟩; first | omega | go_num | (rw [IntKind.wrap_i64]; omega) | (congr 1; rw [IntKind.wrap_i64]; omega) | (simp; done) | (simp; omega))), ?_⟩
            simp only [Act.put, List.setIfInBounds_toArray, List.set_cons_succ, List.set_cons_zero]
            refine ⟨fun w3 hC _ => RelG.uponG_yes rfl (by go_simp; first | exact RelG.grows_refl _ | exact ⟨RelG.grows_refl _, rfl⟩ | (refine ⟨RelG.grows_refl _, ?_⟩; first | omega | go_num | (rw [IntKind.wrap_i64]; omega) | (congr 1; rw [IntKind.wrap_i64]; omega) | (simp; done) | (simp; omega))), ?_⟩
            simp only [Act.put, List.setIfInBounds_toArray, List.set_cons_succ, List.set_cons_zero]
            refine ⟨fun w3 hC _ => RelG.uponG_yes rfl (by go_simp; first | exact RelG.grows_refl _ | exact ⟨RelG.grows_refl _, rfl⟩ | (refine ⟨RelG.grows_refl _, ?_⟩; first | omega | go_num | (rw [IntKind.wrap_i64]; omega) | (congr 1; rw [IntKind.wrap_i64]; omega) | (simp; done) | (simp; omega))), ?_⟩
            simp only [Act.put, List.setIfInBounds_toArray, List.set_cons_succ, List.set_cons_zero]
            refine ⟨fun w3 hC _ => RelG.uponG_yes rfl (by go_simp; first | exact RelG.grows_refl _ | exact ⟨RelG.grows_refl _, rfl⟩ | (refine ⟨RelG.grows_refl _, ?_⟩; first | omega | go_num | (rw [IntKind.wrap_i64]; omega) | (congr 1; rw [IntKind.wrap_i64]; omega) | (simp; done) | (simp; omega))), ?_⟩
            simp only [Act.put, List.setIfInBounds_toArray, List.set_cons_succ, List.set_cons_zero]
            refine ⟨fun w3 hC _ => RelG.uponG_yes rfl (by go_simp; first | exact RelG.grows_refl _ | exact ⟨RelG.grows_refl _, rfl⟩ | (refine ⟨RelG.grows_refl _, ?_⟩; first | omega | go_num | (rw [IntKind.wrap_i64]; omega) | (congr 1; rw [IntKind.wrap_i64]; omega) | (simp; done) | (simp; omega))), ?_⟩
            simp only [Act.put, List.setIfInBounds_toArray, List.set_cons_succ, List.set_cons_zero]
            refine ⟨fun w3 hC _ => RelG.uponG_yes rfl (by go_simp; first | exact RelG.grows_refl _ | exact ⟨RelG.grows_refl _, rfl⟩ | (refine ⟨RelG.grows_refl _, ?_⟩; first | omega | go_num | (rw [IntKind.wrap_i64]; omega) | (congr 1; rw [IntKind.wrap_i64]; omega) | (simp; done) | (simp; omega))), ?_⟩
            simp only [Act.put, List.setIfInBounds_toArray, List.set_cons_succ, List.set_cons_zero]
            refine ⟨fun w3 hC _ => RelG.uponG_yes rfl (by go_simp; first | exact RelG.grows_refl _ | exact ⟨RelG.grows_refl _, rfl⟩ | (refine ⟨RelG.grows_refl _, ?_⟩; first | omega | go_num | (rw [IntKind.wrap_i64]; omega) | (congr 1; rw [IntKind.wrap_i64]; omega) | (simp; done) | (simp; omega))), ?_⟩
            simp only [Act.put, List.setIfInBounds_toArray, List.set_cons_succ, List.set_cons_zero]
            refine ⟨fun w3 hC _ => RelG.uponG_no rfl rfl, ?_⟩
            simp only [Act.put, List.setIfInBounds_toArray, List.set_cons_succ, List.set_cons_zero]
            refine ⟨fun w3 hC _ => RelG.uponG_no rfl rfl, ?_⟩
            simp only [Act.put, List.setIfInBounds_toArray, List.set_cons_succ, List.set_cons_zero]
            refine ⟨fun w3 hC _ => RelG.uponG_no rfl rfl, ?_⟩
            simp only [Act.put, List.setIfInBounds_toArray, List.set_cons_succ, List.set_cons_zero]
            refine ⟨fun w3 hC _ => RelG.uponG_no rfl rfl, ?_⟩
            simp only [Act.put, List.setIfInBounds_toArray, List.set_cons_succ, List.set_cons_zero]
            refine ⟨fun w3 hC _ => RelG.uponG_no rfl rfl, ?_⟩
            simp only [Act.put, List.setIfInBounds_toArray, List.set_cons_succ, List.set_cons_zero]
            refine ⟨fun w3 hC _ => RelG.uponG_no rfl rfl, ?_⟩
            simp only [Act.put, List.setIfInBounds_toArray, List.set_cons_succ, List.set_cons_zero]
            refine ⟨fun w3 hC _ => RelG.uponG_no rfl rfl, ?_⟩
            simp only [Act.put, List.setIfInBounds_toArray, List.set_cons_succ, List.set_cons_zero]
            refine ⟨fun w3 hC _ => RelG.uponG_no rfl rfl, ?_⟩
            simp only [Act.put, List.setIfInBounds_toArray, List.set_cons_succ, List.set_cons_zero]
            refine ⟨fun w3 hC _ => RelG.uponG_no rfl rfl, ?_⟩
            simp only [Act.put, List.setIfInBounds_toArray, List.set_cons_succ, List.set_cons_zero]
            refine ⟨fun w3 hC _ => RelG.uponG_yes rfl (by go_simp; first | exact RelG.grows_refl _ | exact ⟨RelG.grows_refl _, rfl⟩ | (refine ⟨RelG.grows_refl _, ?_⟩; first | omega | go_num | (rw [IntKind.wrap_i64]; omega) | (congr 1; rw [IntKind.wrap_i64]; omega) | (simp; done) | (simp; omega))), ?_⟩
            simp only [Act.put, List.setIfInBounds_toArray, List.set_cons_succ, List.set_cons_zero]
            refine ⟨fun w3 hC _ => RelG.uponG_yes rfl (by go_simp; first | exact RelG.grows_refl _ | exact ⟨RelG.grows_refl _, rfl⟩ | (refine ⟨RelG.grows_refl _, ?_⟩; first | omega | go_num | (rw [IntKind.wrap_i64]; omega) | (congr 1; rw [IntKind.wrap_i64]; omega) | (simp; done) | (simp; omega))), ?_⟩
            intro w3 hC _
            simp only [Act.put, List.setIfInBounds_toArray, List.set_cons_succ, List.set_cons_zero]
            go_wp2
            go_roundw
            case rel => exact ⟨j + 1, by omega, by go_num, hC⟩
            case measure => simp [intOf]; omega
        · obtain rfl : j = (wL i).length := by omega
          by_cases hp : 0 < (wL i).length
          · have hR : rightB i = true := by
              cases hR : rightB i with
              | true => rfl
              | false =>
                have := list_nil hR
                simp [wL, this] at hp
            have hp2 : (0 : Int) < ((wL i).length : Int) := by omega
            replace H := H.out
            go_wp2_with (first | (with_reducible refine wpList_load_if rfl 23 _ rfl w.heap.size rfl 23 _ (0, 0) _ H.one.box Tryd.underlying23 rfl (by kernel_rfl) ?_; simp only [Act.put, List.setIfInBounds_toArray, List.set_cons_succ, List.set_cons_zero]) | (go_at_call 10; refine (right_c i _).mono ?_; rw [hR]; rintro e w3 ⟨rfl, hb⟩; replace H := H.grow hb; clear hb; dsimp only))
            go_roundw
            case rel => exact ⟨3, by omega, by go_num, H⟩
            case measure => simp [intOf]
          · have hp2 : ¬ (0 : Int) < ((wL i).length : Int) := by omega
            clear hp
            go_wp2
            go_roundw
            case rel => exact ⟨3, by omega, by go_num, H⟩
            case measure => simp [intOf]
    · have hcell := H.out.at 2
      have hw1 : ((wL i).length : Int) ≤ 1 := by omega
      go_wp2
      go_ret
      exact ⟨rfl, H.out.one.below⟩
end Go.Proofs.YtmbefmmnkfoneaaDoor
