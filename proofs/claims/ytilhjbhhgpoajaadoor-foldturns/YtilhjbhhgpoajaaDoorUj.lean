/- An operation laid down. -/
import Derived.Test.YtilhjbhhgpoajaaDoorUi
namespace Go.Proofs.YtilhjbhhgpoajaaDoor
open Go.RowKit
set_option linter.unusedVariables false
set_option linter.unusedSimpArgs false
set_option maxRecDepth 8000

section
variable {G : Fh} {c : Nat} {S : Fo} {u : Value} {w : World}
set_option maxHeartbeats 2000000 in
theorem lay_2 (h : FoAt G c S u w) (o : Opr) (hr : SmallI o.r) (hc : c < 100000) (hl : S.laid.length ≤ 100000) (hk : o.kind = 2) : Calls Tryd.prog 28 #[ptr G.p 0, opV o] w fun e w' => e = .returned (vI (S.get o).2) ∧ FT G (c + 1) (S.get o).1 u w w' := by
  have hb := below_alloc w (.cells (opA o) 37)
  have L : LocO w.heap.size o (w.alloc (.cells (opA o) 37)) := LocO.new w o
  have apO : Apart G u w.heap.size := h.apart (Nat.le_refl _)
  have R := FM.from hb (h.grow hb).here
  have hsz : w.heap.size < (w.alloc (.cells (opA o) 37)).heap.size := by simp
  have y0 := L.c0
  have y1 := L.c1
  rw [hk] at y0
  clear apO
  have A := L.at_
  have kc := get_c (h.grow hb) o (by rw [hk]; exact ⟨by decide, by decide⟩) hr hc hl
  clear h
  go_enter Tryd.func28, Tryd.ntmps28
  go_upto_region 1 with fail
  generalize w.alloc (.cells (opA o) 37) = w1 at *
  generalize w.heap.size = t1 at *
  go_wp2_with (first | ((with_reducible refine wpList_load42 rfl _ rfl _ rfl _ A ?_); simp only [Act.put, List.setIfInBounds_toArray, List.set_cons_succ, List.set_cons_zero]) | ((with_reducible refine wpList_built rfl 75 _ rfl (rgA 0 o.r) (by kernel_rfl) ?_); simp only [Act.put, List.setIfInBounds_toArray, List.set_cons_succ, List.set_cons_zero]) | (go_at_call 34; (with_reducible refine kc.mono ?_); clear kc; rintro e w9 ⟨rfl, u9, R9⟩; dsimp only))
  go_ret
  exact ⟨rfl, _, R.then R9⟩
set_option maxHeartbeats 2000000 in
theorem lay_4 (h : FoAt G c S u w) (o : Opr) (hr : SmallI o.r) (hc : c < 100000) (hl : S.laid.length ≤ 100000) (hk : o.kind = 4) : Calls Tryd.prog 28 #[ptr G.p 0, opV o] w fun e w' => e = .returned (vI (S.get o).2) ∧ FT G (c + 1) (S.get o).1 u w w' := by
  have hb := below_alloc w (.cells (opA o) 37)
  have L : LocO w.heap.size o (w.alloc (.cells (opA o) 37)) := LocO.new w o
  have apO : Apart G u w.heap.size := h.apart (Nat.le_refl _)
  have R := FM.from hb (h.grow hb).here
  have hsz : w.heap.size < (w.alloc (.cells (opA o) 37)).heap.size := by simp
  have y0 := L.c0
  have y1 := L.c1
  rw [hk] at y0
  clear apO
  have A := L.at_
  have kc := get_c (h.grow hb) o (by rw [hk]; exact ⟨by decide, by decide⟩) hr hc hl
  clear h
  go_enter Tryd.func28, Tryd.ntmps28
  go_upto_region 1 with fail
  generalize w.alloc (.cells (opA o) 37) = w1 at *
  generalize w.heap.size = t1 at *
  go_wp2_with (first | ((with_reducible refine wpList_load42 rfl _ rfl _ rfl _ A ?_); simp only [Act.put, List.setIfInBounds_toArray, List.set_cons_succ, List.set_cons_zero]) | ((with_reducible refine wpList_built rfl 75 _ rfl (rgA 0 o.r) (by kernel_rfl) ?_); simp only [Act.put, List.setIfInBounds_toArray, List.set_cons_succ, List.set_cons_zero]) | (go_at_call 34; (with_reducible refine kc.mono ?_); clear kc; rintro e w9 ⟨rfl, u9, R9⟩; dsimp only))
  go_ret
  exact ⟨rfl, _, R.then R9⟩
set_option maxHeartbeats 2000000 in
theorem lay_6 (h : FoAt G c S u w) (o : Opr) (hr : SmallI o.r) (hc : c < 100000) (hl : S.laid.length ≤ 100000) (hk : o.kind = 6) : Calls Tryd.prog 28 #[ptr G.p 0, opV o] w fun e w' => e = .returned (vI (S.get o).2) ∧ FT G (c + 1) (S.get o).1 u w w' := by
  have hb := below_alloc w (.cells (opA o) 37)
  have L : LocO w.heap.size o (w.alloc (.cells (opA o) 37)) := LocO.new w o
  have apO : Apart G u w.heap.size := h.apart (Nat.le_refl _)
  have R := FM.from hb (h.grow hb).here
  have hsz : w.heap.size < (w.alloc (.cells (opA o) 37)).heap.size := by simp
  have y0 := L.c0
  have y1 := L.c1
  rw [hk] at y0
  clear apO
  have A := L.at_
  have kc := get_c (h.grow hb) o (by rw [hk]; exact ⟨by decide, by decide⟩) hr hc hl
  clear h
  go_enter Tryd.func28, Tryd.ntmps28
  go_upto_region 1 with fail
  generalize w.alloc (.cells (opA o) 37) = w1 at *
  generalize w.heap.size = t1 at *
  go_wp2_with (first | ((with_reducible refine wpList_load42 rfl _ rfl _ rfl _ A ?_); simp only [Act.put, List.setIfInBounds_toArray, List.set_cons_succ, List.set_cons_zero]) | ((with_reducible refine wpList_built rfl 75 _ rfl (rgA 0 o.r) (by kernel_rfl) ?_); simp only [Act.put, List.setIfInBounds_toArray, List.set_cons_succ, List.set_cons_zero]) | (go_at_call 34; (with_reducible refine kc.mono ?_); clear kc; rintro e w9 ⟨rfl, u9, R9⟩; dsimp only))
  go_ret
  exact ⟨rfl, _, R.then R9⟩
set_option maxHeartbeats 2000000 in
theorem lay_3 (h : FoAt G c S u w) (o : Opr) (hr : SmallI o.r) (hc : c < 100000) (hl : S.laid.length ≤ 100000) (h0 : 0 ≤ o.a) (hk : o.kind = 3) : Calls Tryd.prog 28 #[ptr G.p 0, opV o] w fun e w' => e = .returned (vI (S.set 2 o.r o).2) ∧ FT G (c + 1) (S.set 2 o.r o).1 u w w' := by
  have hb := below_alloc w (.cells (opA o) 37)
  have L : LocO w.heap.size o (w.alloc (.cells (opA o) 37)) := LocO.new w o
  have apO : Apart G u w.heap.size := h.apart (Nat.le_refl _)
  have R := FM.from hb (h.grow hb).here
  have hsz : w.heap.size < (w.alloc (.cells (opA o) 37)).heap.size := by simp
  have y0 := L.c0
  have y1 := L.c1
  rw [hk] at y0
  clear apO
  have A := L.at_
  have kc := set_c (h.grow hb) o (a := 2) (r := o.r) ⟨by decide, by decide⟩ hr hc h0 hl
  clear h
  go_enter Tryd.func28, Tryd.ntmps28
  go_upto_region 1 with fail
  generalize w.alloc (.cells (opA o) 37) = w1 at *
  generalize w.heap.size = t1 at *
  go_wp2_with (first | ((with_reducible refine wpList_load42 rfl _ rfl _ rfl _ A ?_); simp only [Act.put, List.setIfInBounds_toArray, List.set_cons_succ, List.set_cons_zero]) | ((with_reducible refine wpList_built rfl 75 _ rfl (rgA 2 o.r) (by kernel_rfl) ?_); simp only [Act.put, List.setIfInBounds_toArray, List.set_cons_succ, List.set_cons_zero]) | (go_at_call 35; (with_reducible refine kc.mono ?_); clear kc; rintro e w9 ⟨rfl, u9, R9⟩; dsimp only))
  go_ret
  exact ⟨rfl, _, R.then R9⟩
set_option maxHeartbeats 2000000 in
theorem lay_5 (h : FoAt G c S u w) (o : Opr) (hr : SmallI o.r) (hc : c < 100000) (hl : S.laid.length ≤ 100000) (h0 : 0 ≤ o.a) (hk : o.kind = 5) : Calls Tryd.prog 28 #[ptr G.p 0, opV o] w fun e w' => e = .returned (vI (S.set 4 o.r o).2) ∧ FT G (c + 1) (S.set 4 o.r o).1 u w w' := by
  have hb := below_alloc w (.cells (opA o) 37)
  have L : LocO w.heap.size o (w.alloc (.cells (opA o) 37)) := LocO.new w o
  have apO : Apart G u w.heap.size := h.apart (Nat.le_refl _)
  have R := FM.from hb (h.grow hb).here
  have hsz : w.heap.size < (w.alloc (.cells (opA o) 37)).heap.size := by simp
  have y0 := L.c0
  have y1 := L.c1
  rw [hk] at y0
  clear apO
  have A := L.at_
  have kc := set_c (h.grow hb) o (a := 4) (r := o.r) ⟨by decide, by decide⟩ hr hc h0 hl
  clear h
  go_enter Tryd.func28, Tryd.ntmps28
  go_upto_region 1 with fail
  generalize w.alloc (.cells (opA o) 37) = w1 at *
  generalize w.heap.size = t1 at *
  go_wp2_with (first | ((with_reducible refine wpList_load42 rfl _ rfl _ rfl _ A ?_); simp only [Act.put, List.setIfInBounds_toArray, List.set_cons_succ, List.set_cons_zero]) | ((with_reducible refine wpList_built rfl 75 _ rfl (rgA 4 o.r) (by kernel_rfl) ?_); simp only [Act.put, List.setIfInBounds_toArray, List.set_cons_succ, List.set_cons_zero]) | (go_at_call 35; (with_reducible refine kc.mono ?_); clear kc; rintro e w9 ⟨rfl, u9, R9⟩; dsimp only))
  go_ret
  exact ⟨rfl, _, R.then R9⟩
set_option maxHeartbeats 2000000 in
theorem lay_7 (h : FoAt G c S u w) (o : Opr) (hr : SmallI o.r) (hc : c < 100000) (hl : S.laid.length ≤ 100000) (h0 : 0 ≤ o.a) (hA : o.a.toNat < S.laid.length) (hk : o.kind = 7) : Calls Tryd.prog 28 #[ptr G.p 0, opV o] w fun e w' => e = .returned (vI (S.setFlag o).2) ∧ FT G (c + 1) (S.setFlag o).1 u w w' := by
  have hb := below_alloc w (.cells (opA o) 37)
  have L : LocO w.heap.size o (w.alloc (.cells (opA o) 37)) := LocO.new w o
  have apO : Apart G u w.heap.size := h.apart (Nat.le_refl _)
  have R := FM.from hb (h.grow hb).here
  have hsz : w.heap.size < (w.alloc (.cells (opA o) 37)).heap.size := by simp
  have y0 := L.c0
  have y1 := L.c1
  rw [hk] at y0
  clear apO
  have A := L.at_
  have kc := setFlag_c (h.grow hb) o hr hc hl h0 hA
  clear h
  go_enter Tryd.func28, Tryd.ntmps28
  go_upto_region 1 with fail
  generalize w.alloc (.cells (opA o) 37) = w1 at *
  generalize w.heap.size = t1 at *
  go_wp2_with (first | ((with_reducible refine wpList_load42 rfl _ rfl _ rfl _ A ?_); simp only [Act.put, List.setIfInBounds_toArray, List.set_cons_succ, List.set_cons_zero]) | ((with_reducible refine wpList_built rfl 75 _ rfl (rgA 0 o.r) (by kernel_rfl) ?_); simp only [Act.put, List.setIfInBounds_toArray, List.set_cons_succ, List.set_cons_zero]) | (go_at_call 36; (with_reducible refine kc.mono ?_); clear kc; rintro e w9 ⟨rfl, u9, R9⟩; dsimp only))
  go_ret
  exact ⟨rfl, _, R.then R9⟩
set_option maxHeartbeats 2000000 in
theorem lay_8 (h : FoAt G c S u w) (o : Opr) (hl : S.laid.length ≤ 100000) (h0 : 0 ≤ o.a) (hA : o.a.toNat < S.laid.length) (h1 : 0 ≤ o.b) (hB : o.b.toNat < S.laid.length) (hU : ∀ k, U64 (opAt S.laid k).imm) (hk : o.kind = 8) : Calls Tryd.prog 28 #[ptr G.p 0, opV o] w fun e w' => e = .returned (vI (S.reckon o).2) ∧ FT G (c + 1) (S.reckon o).1 u w w' := by
  have hb := below_alloc w (.cells (opA o) 37)
  have L : LocO w.heap.size o (w.alloc (.cells (opA o) 37)) := LocO.new w o
  have apO : Apart G u w.heap.size := h.apart (Nat.le_refl _)
  have R := FM.from hb (h.grow hb).here
  have hsz : w.heap.size < (w.alloc (.cells (opA o) 37)).heap.size := by simp
  have y0 := L.c0
  have y1 := L.c1
  rw [hk] at y0
  clear apO
  have A := L.at_
  have kc := reckon_c (h.grow hb) o hl h0 hA h1 hB hU
  clear h
  go_enter Tryd.func28, Tryd.ntmps28
  go_upto_region 1 with fail
  generalize w.alloc (.cells (opA o) 37) = w1 at *
  generalize w.heap.size = t1 at *
  go_wp2_with (first | ((with_reducible refine wpList_load42 rfl _ rfl _ rfl _ A ?_); simp only [Act.put, List.setIfInBounds_toArray, List.set_cons_succ, List.set_cons_zero]) | ((with_reducible refine wpList_built rfl 75 _ rfl (rgA 0 o.r) (by kernel_rfl) ?_); simp only [Act.put, List.setIfInBounds_toArray, List.set_cons_succ, List.set_cons_zero]) | (go_at_call 37; (with_reducible refine kc.mono ?_); clear kc; rintro e w9 ⟨rfl, u9, R9⟩; dsimp only))
  go_ret
  exact ⟨rfl, _, (R.then R9).mono (Nat.le_succ _)⟩
set_option maxHeartbeats 2000000 in
theorem lay_15 (h : FoAt G c S u w) (o : Opr) (hl : S.laid.length ≤ 100000) (h0 : 0 ≤ o.a) (hA : o.a.toNat < S.laid.length) (hk : o.kind = 15) : Calls Tryd.prog 28 #[ptr G.p 0, opV o] w fun e w' => e = .returned (vI (S.exitIf o).2) ∧ FT G (c + 1) (S.exitIf o).1 u w w' := by
  have hb := below_alloc w (.cells (opA o) 37)
  have L : LocO w.heap.size o (w.alloc (.cells (opA o) 37)) := LocO.new w o
  have apO : Apart G u w.heap.size := h.apart (Nat.le_refl _)
  have R := FM.from hb (h.grow hb).here
  have hsz : w.heap.size < (w.alloc (.cells (opA o) 37)).heap.size := by simp
  have y0 := L.c0
  have y1 := L.c1
  rw [hk] at y0
  clear apO
  have A := L.at_
  have kc := exitIf_c (h.grow hb) o hl h0 hA
  clear h
  go_enter Tryd.func28, Tryd.ntmps28
  go_upto_region 1 with fail
  generalize w.alloc (.cells (opA o) 37) = w1 at *
  generalize w.heap.size = t1 at *
  go_wp2_with (first | ((with_reducible refine wpList_load42 rfl _ rfl _ rfl _ A ?_); simp only [Act.put, List.setIfInBounds_toArray, List.set_cons_succ, List.set_cons_zero]) | ((with_reducible refine wpList_built rfl 75 _ rfl (rgA 0 o.r) (by kernel_rfl) ?_); simp only [Act.put, List.setIfInBounds_toArray, List.set_cons_succ, List.set_cons_zero]) | (go_at_call 38; (with_reducible refine kc.mono ?_); clear kc; rintro e w9 ⟨rfl, u9, R9⟩; dsimp only))
  go_ret
  exact ⟨rfl, _, (R.then R9).mono (Nat.le_succ _)⟩
set_option maxHeartbeats 4000000 in
theorem lay_put (h : FoAt G c S u w) (o : Opr) (hl : S.laid.length ≤ 100000) (hk : o.kind ≠ 2 ∧ o.kind ≠ 4 ∧ o.kind ≠ 6 ∧ o.kind ≠ 3 ∧ o.kind ≠ 5 ∧ o.kind ≠ 7 ∧ o.kind ≠ 8 ∧ o.kind ≠ 15) : Calls Tryd.prog 28 #[ptr G.p 0, opV o] w fun e w' => e = .returned (vI S.laid.length) ∧ FT G (c + 1) (S.put o) u w w' := by
  have hb := below_alloc w (.cells (opA o) 37)
  have L : LocO w.heap.size o (w.alloc (.cells (opA o) 37)) := LocO.new w o
  have apO : Apart G u w.heap.size := h.apart (Nat.le_refl _)
  have R := FM.from hb (h.grow hb).here
  have hsz : w.heap.size < (w.alloc (.cells (opA o) 37)).heap.size := by simp
  clear hb
  have y0 := L.c0
  clear apO h
  obtain ⟨k2, k4, k6, k3, k5, k7, k8, k15⟩ := hk
  have b2 : (o.kind == 2) = false := by simpa using k2
  have b4 : (o.kind == 4) = false := by simpa using k4
  have b6 : (o.kind == 6) = false := by simpa using k6
  have b3 : (o.kind == 3) = false := by simpa using k3
  have b5 : (o.kind == 5) = false := by simpa using k5
  have b7 : (o.kind == 7) = false := by simpa using k7
  have b8 : (o.kind == 8) = false := by simpa using k8
  have b15 : (o.kind == 15) = false := by simpa using k15
  clear k2 k3 k4 k5 k6 k7 k8 k15
  go_enter Tryd.func28, Tryd.ntmps28
  go_upto_region 1 with fail
  generalize w.alloc (.cells (opA o) 37) = w1 at *
  generalize w.heap.size = t1 at *
  go_upto_region 16 with fail
  clear b2 b3 b4 b5 b6 b7 b8 b15 y0
  refine wp_region_still_tail 5 (by kernel_rfl) (by kernel_rfl) ?_
  replace R := R.grow (below_dr w1)
  replace L := L.grow (below_dr w1)
  generalize ({ w1 with drawn := w1.drawn + 1 } : World) = w2 at *
  have z1 := R.at_.c1
  have A3 := run_load42 L.at_
  simp only [List.take_succ_cons, List.take_zero, List.drop_succ_cons, List.drop_zero]
  repeat (first | still_step | ((with_reducible refine still_row rfl _ _ rfl rfl (run_reg K) ?_); simp only [Act.put, List.setIfInBounds_toArray, List.set_cons_succ, List.set_cons_zero]) | ((with_reducible refine still_row rfl _ _ rfl rfl A3 ?_); simp only [Act.put, List.setIfInBounds_toArray, List.set_cons_succ, List.set_cons_zero]))
  refine wpStill_nil ?_
  have kp := put_c R.at_ o (by first | exact hl | simpa using hl)
  clear z1 A3
  go_wp2_with (go_at_call 26; (with_reducible refine kp.mono ?_); clear kp; rintro e w9 ⟨rfl, u9, R9⟩; dsimp only)
  go_ret
  exact ⟨rfl, _, (R.then R9).mono (Nat.le_succ _)⟩
/-- What a right block's operation has, told anew. -/
structure LayOk (S : Fo) (o : Opr) : Prop where
  kind : isK o.kind = true
  r : o.kind = 2 ∨ o.kind = 3 ∨ o.kind = 4 ∨ o.kind = 5 ∨ o.kind = 6 ∨ o.kind = 7 → SmallI o.r
  a : o.kind = 3 ∨ o.kind = 5 ∨ o.kind = 7 ∨ o.kind = 8 ∨ o.kind = 15 → 0 ≤ o.a ∧ o.a.toNat < S.laid.length
  b : o.kind = 8 → 0 ≤ o.b ∧ o.b.toNat < S.laid.length
  u : ∀ k, U64 (opAt S.laid k).imm
theorem lay_c (h : FoAt G c S u w) (o : Opr) (k : LayOk S o) (hc : c < 100000) (hl : S.laid.length ≤ 100000) : Calls Tryd.prog 28 #[ptr G.p 0, opV o] w fun e w' => e = .returned (vI (S.lay o).2) ∧ FT G (c + 1) (S.lay o).1 u w w' := by
  have hk := k.kind
  have kr := k.r; have ka := k.a; have kb := k.b; have ku := k.u
  have P := fun hq => lay_put h o hl hq
  obtain ⟨kind, r, a, b, order, imm⟩ := o
  dsimp only at hk kr ka kb P
  rcases isK_cases hk with rfl | rfl | rfl | rfl | rfl | rfl | rfl | rfl | rfl | rfl | rfl | rfl | rfl | rfl | rfl | rfl | rfl | rfl
  · exact P (by decide)
  · exact lay_2 h _ (kr (by decide)) hc hl rfl
  · exact lay_3 h _ (kr (by decide)) hc hl (ka (by decide)).1 rfl
  · exact lay_4 h _ (kr (by decide)) hc hl rfl
  · exact lay_5 h _ (kr (by decide)) hc hl (ka (by decide)).1 rfl
  · exact lay_6 h _ (kr (by decide)) hc hl rfl
  · exact lay_7 h _ (kr (by decide)) hc hl (ka (by decide)).1 (ka (by decide)).2 rfl
  · exact lay_8 h _ hl (ka (by decide)).1 (ka (by decide)).2 (kb rfl).1 (kb rfl).2 ku rfl
  · exact P (by decide)
  · exact P (by decide)
  · exact P (by decide)
  · exact P (by decide)
  · exact P (by decide)
  · exact P (by decide)
  · exact lay_15 h _ hl (ka (by decide)).1 (ka (by decide)).2 rfl
  · exact P (by decide)
  · exact P (by decide)
  · exact P (by decide)
end
end Go.Proofs.YtilhjbhhgpoajaaDoor
