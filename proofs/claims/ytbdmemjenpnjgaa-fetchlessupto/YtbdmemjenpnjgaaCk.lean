/- refused: what is asked of each note of a trace. -/
import Derived.Test.YtbdmemjenpnjgaaMz
import Derived.Test.YtbdmemjenpnjgaaChg
namespace Go.Proofs.Ytbdmemjenpnjgaa
open Go.RowKit
set_option linter.unusedVariables false
set_option linter.unusedSimpArgs false
set_option maxRecDepth 8000

open Go.Shelf Go.Maps
/-- What stood at the addresses at first. -/
structure First (w0 : World) (ff : Nat) (ffr : Array Value) (g : Nat → Nat) : Prop where
  eh : ∀ args w, (callFunc ff args).run Try.prog w = .ok (.enter ff args) w
  call : ∀ W, Below w0.heap.size w0 W → ∀ a : Nat, a < 18446744073709551616 → Calls Try.prog ff (#[vU a] ++ ffr) W fun e W' => e = .returned (v32 (g a)) ∧ Below W.heap.size W W'
  lt : ∀ a, g a < 4294967296
structure CkJ (tr : List Nt) (w0 w : World) (pb fb ff : Nat) (ffr : Array Value) (Pb : Nat → Prop) (k : Nat) (W : World) : Prop where
  past : ∃ G, PastAt G (pst (tr.take k)) (2 * k) W ∧ Boxed W pb 54 (ptr G.p 0) ∧ G.bw < w.heap.size ∧ G.bl < w.heap.size ∧ G.bn < w.heap.size ∧ (∀ i, Foot G i → ¬ Pb i) ∧ ∀ i, Foot G i → w0.heap.size ≤ i
  y : Boxed W fb 36 (clo ff ffr)
  low : Below w0.heap.size w0 W
  pb : ∀ i, Pb i → i < W.heap.size
section
variable {tr : List Nt} {w0 w : World} {pb fb ff : Nat} {ffr : Array Value} {Pb : Nat → Prop} {k : Nat} {W W' : World}
theorem CkJ.grow (h : CkJ tr w0 w pb fb ff ffr Pb k W) (t : Below W.heap.size W W') : CkJ tr w0 w pb fb ff ffr Pb k W' := by
  obtain ⟨G, h1, h2, h3⟩ := h.past
  exact ⟨⟨G, h1.grow t, boxed_grow h2 t, h3⟩, boxed_grow h.y t, h.low.trans (t.mono h.low.size), fun i hi => Nat.lt_of_lt_of_le (h.pb i hi) t.size⟩
theorem CkJ.turn (h : CkJ tr w0 w pb fb ff ffr Pb k W) {B : Nat} (hB : w.heap.size ≤ B) (h0 : w0.heap.size ≤ w.heap.size) (t : Rg.Turn B W W') : CkJ tr w0 w pb fb ff ffr Pb k W' := by
  obtain ⟨G, h1, h2, h3, h4, h5, h6⟩ := h.past
  exact ⟨⟨G, h1.turn (by omega) (by omega) (by omega) t, boxed_turn h2 t, h3, h4, h5, h6⟩, boxed_turn h.y t, h.low.trans (t.below (by omega) h.low.size), fun i hi => Nat.lt_of_lt_of_le (h.pb i hi) t.size⟩
end
theorem mayS_add {S : Pst} {n : Nt} (h5 : n.kind = 5) (c a x f : Nat) : mayS (S.add n) c a x f = mayS S c a x f := by
  rw [eq_no (by omega) (by omega) (by omega) (by omega)]
  rfl
set_option maxHeartbeats 1000000 in
theorem refused1_c {tr : List Nt} {w0 w : World} {pb fb ff : Nat} {ffr : Array Value} {g : Nat → Nat} (FI : First w0 ff ffr g) (h0 : w0.heap.size ≤ w.heap.size) {Pb : Nat → Prop} {k q : Nat} {n : Nt} {W : World} (hn : tr[k]? = some n) (okn : NtOk n) (hw : wrongB n = false) (hmax : tr.length ≤ 4398046511104) (J : CkJ tr w0 w pb fb ff ffr Pb k W) (L : LocN q n W) :
    Calls Try.prog 43 #[ntV n, ptr pb 0, ptr fb 0] W fun e W' => e = .returned (.bool (badAt tr g k)) ∧ CkJ tr w0 w pb fb ff ffr Pb (k + 1) W' ∧ LocN q n W' ∧ KeepsFrom w.heap.size W W' ∧ Goes (fun i => ¬ Pb i) W W' := by
  obtain ⟨R, hR⟩ : ∃ R, badAt tr g k = R := ⟨_, rfl⟩
  rw [hR]
  have hkl := (List.getElem?_eq_some_iff.1 hn).1
  have htk : tr.take (k + 1) = tr.take k ++ [n] := by rw [List.take_add_one, hn]; rfl
  obtain ⟨G, P, x, e1, e2, e3, f1, f2⟩ := J.past
  have y := J.y
  have B1 := below_alloc W (.cells (ntA n) 34)
  have P1 := P.grow B1
  have L1 := LocN.new W n
  have x1 := boxed_grow x B1
  have y1 := boxed_grow y B1
  have M1 := L.grow B1
  have hsz1 : (W.alloc (.cells (ntA n) 34)).heap.size = W.heap.size + 1 := World.size_alloc _ _
  obtain ⟨t, ht⟩ : ∃ t, t = W.heap.size := ⟨_, rfl⟩
  rw [← ht] at L1
  go_enter Try.func43, Try.ntmps43
  go_upto_region 1 with fail
  rw [← ht]
  generalize W.alloc (.cells (ntA n) 34) = W1 at *
  have ka := add_c P1 okn (by omega) (by rw [pst_now, List.length_take]; omega) (fun h4 => by
    have : coreB n.core = true := by
      unfold wrongB at hw
      simp [h4] at hw
      exact hw.1.1
    simp [coreB] at this
    omega)
  have d0 := L1.c0
  have d1 := L1.c1
  have d2 := L1.c2
  have d3 := L1.c3
  have dp := x1.cell
  have hq : Hid (t = W.heap.size) := ht
  clear ht
  go_upto_region 2 with (first | (go_at_call 29; (with_reducible refine ka.mono ?_); clear ka d0 d1 d2 d3 dp; rintro e W3 r; obtain ⟨rfl, G', e4, e5, e6, e7, P3, go, hf⟩ := r; dsimp only))
  have hs3 := go.size
  have L3 := L1.goes go (foot_loc P1 L1)
  have x3 : Boxed W3 pb 54 (ptr G'.p 0) := by rw [e4]; exact boxed_goes x1 go (foot_cells P1 x1 (by decide) (by decide))
  have y3 := boxed_goes y1 go (foot_cells P1 y1 (by decide) (by decide))
  have M3 := M1.goes go (foot_loc P1 M1)
  have hlow1 : Below w0.heap.size w0 W1 := J.low.trans (B1.mono J.low.size)
  have hlow2 : Below w0.heap.size w0 W3 := hlow1.trans (go.below hlow1.size f2)
  have hg13 : Goes (fun i => ¬ Pb i) W W3 := (goes_of_below B1).trans go (fun i hi hF hP => f1 i hF hP)
  have hk13 : KeepsFrom w.heap.size W W3 := (keeps_below B1).trans (keeps_foot P1 e1 e2 e3 go)
  have hJ3 : CkJ tr w0 w pb fb ff ffr Pb (k + 1) W3 := ⟨⟨G', by rw [htk, pst_snoc]; exact P3, x3, by omega, by omega, by omega, fun i hi hP => ?_, fun i hi => ?_⟩, y3, hlow2, fun i hi => Nat.lt_of_lt_of_le (J.pb i hi) (by omega)⟩
  rotate_left
  · rcases hf i hi with e | e
    · exact f1 i e hP
    · have := J.pb i hP; omega
  · rcases hf i hi with e | e
    · exact f2 i e
    · exact Nat.le_trans hlow1.size e
  clear P P1 L1 x1 y1 M1 B1 x y J L go hf f1 f2 e4 e5 e6 e7
  rw [← pst_snoc] at P3
  have eff := FI.eh
  have hfirst := FI.call
  by_cases h5 : n.kind = 5
  · have hcB : coreB n.core = true := by
      unfold wrongB at hw
      simp [h5] at hw
      exact hw.1
    obtain ⟨c, hcore⟩ : ∃ c : Nat, n.core = c := ⟨n.core.toNat, by simp [coreB] at hcB; omega⟩
    have hc8 : c < 8 := by simp [coreB] at hcB; omega
    replace h5 : Hid (n.kind = 5) := h5
    replace hcore : Hid (n.core = c) := hcore
    have hst : (fun (_ : Nat) (w2 : World) => PastAt G' (pst (tr.take k ++ [n])) (2 * (k + 1)) w2 ∧ LocN t n w2 ∧ Boxed w2 pb 54 (ptr G'.p 0) ∧ Boxed w2 fb 36 (clo ff ffr) ∧ Below W3.heap.size W3 w2) 0 _ := ⟨P3.grow (Rel.below_draws (n := 1) (Below.refl _ _)), L3.grow (Rel.below_draws (n := 1) (Below.refl _ _)), boxed_grow x3 (Rel.below_draws (n := 1) (Below.refl _ _)), boxed_grow y3 (Rel.below_draws (n := 1) (Below.refl _ _)), Rel.below_draws (n := 1) (Below.refl _ _)⟩
    refine Chg.wp_region_chainG (fun (_ : Nat) (w2 : World) => PastAt G' (pst (tr.take k ++ [n])) (2 * (k + 1)) w2 ∧ LocN t n w2 ∧ Boxed w2 pb 54 (ptr G'.p 0) ∧ Boxed w2 fb 36 (clo ff ffr) ∧ Below W3.heap.size W3 w2) [] [0, 0, 0, 0, 0, 0, 0, 0, 0, 0, 0, 0, 0, 0] [ptr t 0, vI 5, .bool true, .bool true, ptr G'.p 0, ntV n, clo ff ffr, ptr t 2, vU n.addr, v32 (g n.addr), .bool (mayS (pst (tr.take k ++ [n])) c n.addr n.word (g n.addr)), .bool (!mayS (pst (tr.take k ++ [n])) c n.addr n.word (g n.addr)), .bool (!mayS (pst (tr.take k ++ [n])) c n.addr n.word (g n.addr)), .bool (!mayS (pst (tr.take k ++ [n])) c n.addr n.word (g n.addr))] (by kernel_rfl) (by kernel_rfl) (by kernel_rfl) (by kernel_rfl) (by kernel_rfl) hst ?_
    clear hst
    refine ⟨fun j w1 hj hC => Chg.uponW_yes (by rfl) (by exact Chn.upon_pure hC (fun F hF => by (go_simp <;> exact hF))), ?_⟩
    simp only [Act.put, List.setIfInBounds_toArray, List.set_cons_succ, List.set_cons_zero]
    refine ⟨fun j w1 hj hC => Chg.uponW_yes (by rfl) (by
      have z := h5.out ▸ hC.2.1.c0
      exact Chn.upon_pure hC (fun F hF => by (go_simp <;> exact hF))), ?_⟩
    simp only [Act.put, List.setIfInBounds_toArray, List.set_cons_succ, List.set_cons_zero]
    refine ⟨fun j w1 hj hC => Chg.uponW_yes (by rfl) (by exact Chn.upon_pure hC (fun F hF => by (go_simp <;> exact hF))), ?_⟩
    simp only [Act.put, List.setIfInBounds_toArray, List.set_cons_succ, List.set_cons_zero]
    refine ⟨fun j w1 hj hC => Chg.uponW_yes (by rfl) (by exact Chn.upon_pure hC (fun F hF => by (go_simp <;> exact hF))), ?_⟩
    simp only [Act.put, List.setIfInBounds_toArray, List.set_cons_succ, List.set_cons_zero]
    refine ⟨fun j w1 hj hC => Chg.uponW_yes (by rfl) (by
      have z := hC.2.2.1.cell
      exact Chn.upon_pure hC (fun F hF => by (go_simp <;> exact hF))), ?_⟩
    simp only [Act.put, List.setIfInBounds_toArray, List.set_cons_succ, List.set_cons_zero]
    refine ⟨fun j w1 hj hC => Chg.uponW_yes (by rfl) (by
      have z := hC.2.1.c0
      have z1 := hC.2.1.c1
      have z2 := hC.2.1.c2
      have z3 := hC.2.1.c3
      exact Chn.upon_pure hC (fun F hF => by (go_simp <;> exact hF))), ?_⟩
    simp only [Act.put, List.setIfInBounds_toArray, List.set_cons_succ, List.set_cons_zero]
    refine ⟨fun j w1 hj hC => Chg.uponW_yes (by rfl) (by
      have z := hC.2.2.2.1.cell
      exact Chn.upon_pure hC (fun F hF => by (go_simp <;> exact hF))), ?_⟩
    simp only [Act.put, List.setIfInBounds_toArray, List.set_cons_succ, List.set_cons_zero]
    refine ⟨fun j w1 hj hC => Chg.uponW_yes (by rfl) (by exact Chn.upon_pure hC (fun F hF => by (go_simp <;> exact hF))), ?_⟩
    simp only [Act.put, List.setIfInBounds_toArray, List.set_cons_succ, List.set_cons_zero]
    refine ⟨fun j w1 hj hC => Chg.uponW_yes (by rfl) (by
      have z := hC.2.1.c2
      exact Chn.upon_pure hC (fun F hF => by (go_simp <;> exact hF))), ?_⟩
    simp only [Act.put, List.setIfInBounds_toArray, List.set_cons_succ, List.set_cons_zero]
    refine ⟨fun j w1 hj hC => Chg.uponW_yes (by rfl) (by
      exact Chn.upon_call (C := (fun (_ : Nat) (w2 : World) => PastAt G' (pst (tr.take k ++ [n])) (2 * (k + 1)) w2 ∧ LocN t n w2 ∧ Boxed w2 pb 54 (ptr G'.p 0) ∧ Boxed w2 fb 36 (clo ff ffr) ∧ Below W3.heap.size W3 w2) j) (hfirst w1 (hlow2.trans (hC.2.2.2.2.mono hlow2.size)) n.addr okn.addr) (fun e2 w2 hh => ⟨hh.1, hC.1.grow hh.2, hC.2.1.grow hh.2, boxed_grow hC.2.2.1 hh.2, boxed_grow hC.2.2.2.1 hh.2, hC.2.2.2.2.trans (hh.2.mono hC.2.2.2.2.size)⟩) (fun F hF => by (have eh := eff; go_simp <;> exact hF))), ?_⟩
    simp only [Act.put, List.setIfInBounds_toArray, List.set_cons_succ, List.set_cons_zero]
    refine ⟨fun j w1 hj hC => Chg.uponW_yes (by rfl) (by
      exact Chn.upon_call (C := (fun (_ : Nat) (w2 : World) => PastAt G' (pst (tr.take k ++ [n])) (2 * (k + 1)) w2 ∧ LocN t n w2 ∧ Boxed w2 pb 54 (ptr G'.p 0) ∧ Boxed w2 fb 36 (clo ff ffr) ∧ Below W3.heap.size W3 w2) j) (may_c hC.1 (pst_ris _) okn hcore.out hc8) (fun e2 w2 hh => ⟨hh.1, hC.1.grow hh.2, hC.2.1.grow hh.2, boxed_grow hC.2.2.1 hh.2, boxed_grow hC.2.2.2.1 hh.2, hC.2.2.2.2.trans (hh.2.mono hC.2.2.2.2.size)⟩) (fun F hF => by (go_simp <;> exact hF))), ?_⟩
    simp only [Act.put, List.setIfInBounds_toArray, List.set_cons_succ, List.set_cons_zero]
    refine ⟨fun j w1 hj hC => Chg.uponW_yes (by rfl) (by exact Chn.upon_pure hC (fun F hF => by (go_simp <;> exact hF))), ?_⟩
    simp only [Act.put, List.setIfInBounds_toArray, List.set_cons_succ, List.set_cons_zero]
    refine ⟨fun j w1 hj hC => Chg.uponW_yes (by rfl) (by exact Chn.upon_pure hC (fun F hF => by (go_simp <;> exact hF))), ?_⟩
    simp only [Act.put, List.setIfInBounds_toArray, List.set_cons_succ, List.set_cons_zero]
    refine ⟨fun j w1 hj hC => Chg.uponW_yes (by rfl) (by exact Chn.upon_pure hC (fun F hF => by (go_simp <;> exact hF))), ?_⟩
    simp only [Act.put, List.setIfInBounds_toArray, List.set_cons_succ, List.set_cons_zero]
    intro w5 hC

    go_wp2
    go_ret
    have B5 := hC.2.2.2.2
    refine ⟨?_, hJ3.grow B5, M3.grow B5, hk13.trans (keeps_below B5), hg13.trans (goes_of_below (F := fun _ => False) B5) (fun _ _ h => h.elim)⟩
    rw [← hR]
    unfold badAt
    rw [hn, pst_snoc, mayS_add h5.out]
    simp only [h5.out, hcore.out, ← mayB_iff]
    rfl
  · have h5 : (n.kind == 5) = false := beq_eq_false_iff_ne.2 h5
    have hst : (fun (_ : Nat) (w2 : World) => PastAt G' (pst (tr.take k ++ [n])) (2 * (k + 1)) w2 ∧ LocN t n w2 ∧ Boxed w2 pb 54 (ptr G'.p 0) ∧ Boxed w2 fb 36 (clo ff ffr) ∧ Below W3.heap.size W3 w2) 0 _ := ⟨P3.grow (Rel.below_draws (n := 1) (Below.refl _ _)), L3.grow (Rel.below_draws (n := 1) (Below.refl _ _)), boxed_grow x3 (Rel.below_draws (n := 1) (Below.refl _ _)), boxed_grow y3 (Rel.below_draws (n := 1) (Below.refl _ _)), Rel.below_draws (n := 1) (Below.refl _ _)⟩
    refine Chg.wp_region_chainG (fun (_ : Nat) (w2 : World) => PastAt G' (pst (tr.take k ++ [n])) (2 * (k + 1)) w2 ∧ LocN t n w2 ∧ Boxed w2 pb 54 (ptr G'.p 0) ∧ Boxed w2 fb 36 (clo ff ffr) ∧ Below W3.heap.size W3 w2) [] [0, 0, 0, 0, 0, 0, 0, 0, 0, 0, 0, 0, 0, 0] [ptr t 0, vI n.kind, .bool false, .bool false, undef, undef, undef, undef, undef, undef, undef, undef, .bool false, .bool false] (by kernel_rfl) (by kernel_rfl) (by kernel_rfl) (by kernel_rfl) (by kernel_rfl) hst ?_
    clear hst
    refine ⟨fun j w1 hj hC => Chg.uponW_yes (by rfl) (by exact Chn.upon_pure hC (fun F hF => by (go_simp <;> exact hF))), ?_⟩
    simp only [Act.put, List.setIfInBounds_toArray, List.set_cons_succ, List.set_cons_zero]
    refine ⟨fun j w1 hj hC => Chg.uponW_yes (by rfl) (by
      have z := hC.2.1.c0
      exact Chn.upon_pure hC (fun F hF => by (go_simp <;> exact hF))), ?_⟩
    simp only [Act.put, List.setIfInBounds_toArray, List.set_cons_succ, List.set_cons_zero]
    refine ⟨fun j w1 hj hC => Chg.uponW_yes (by rfl) (by
      have z := h5
      exact Chn.upon_pure hC (fun F hF => by (go_simp <;> exact hF))), ?_⟩
    simp only [Act.put, List.setIfInBounds_toArray, List.set_cons_succ, List.set_cons_zero]
    refine ⟨fun j w1 hj hC => Chg.uponW_yes (by rfl) (by exact Chn.upon_pure hC (fun F hF => by (go_simp <;> exact hF))), ?_⟩
    simp only [Act.put, List.setIfInBounds_toArray, List.set_cons_succ, List.set_cons_zero]
    refine ⟨fun j w1 hj hC => Chg.uponW_no (by rfl) ⟨rfl, hC⟩, ?_⟩
    simp only [Act.put, List.setIfInBounds_toArray, List.set_cons_succ, List.set_cons_zero]
    refine ⟨fun j w1 hj hC => Chg.uponW_no (by rfl) ⟨rfl, hC⟩, ?_⟩
    simp only [Act.put, List.setIfInBounds_toArray, List.set_cons_succ, List.set_cons_zero]
    refine ⟨fun j w1 hj hC => Chg.uponW_no (by rfl) ⟨rfl, hC⟩, ?_⟩
    simp only [Act.put, List.setIfInBounds_toArray, List.set_cons_succ, List.set_cons_zero]
    refine ⟨fun j w1 hj hC => Chg.uponW_no (by rfl) ⟨rfl, hC⟩, ?_⟩
    simp only [Act.put, List.setIfInBounds_toArray, List.set_cons_succ, List.set_cons_zero]
    refine ⟨fun j w1 hj hC => Chg.uponW_no (by rfl) ⟨rfl, hC⟩, ?_⟩
    simp only [Act.put, List.setIfInBounds_toArray, List.set_cons_succ, List.set_cons_zero]
    refine ⟨fun j w1 hj hC => Chg.uponW_no (by rfl) ⟨rfl, hC⟩, ?_⟩
    simp only [Act.put, List.setIfInBounds_toArray, List.set_cons_succ, List.set_cons_zero]
    refine ⟨fun j w1 hj hC => Chg.uponW_no (by rfl) ⟨rfl, hC⟩, ?_⟩
    simp only [Act.put, List.setIfInBounds_toArray, List.set_cons_succ, List.set_cons_zero]
    refine ⟨fun j w1 hj hC => Chg.uponW_no (by rfl) ⟨rfl, hC⟩, ?_⟩
    simp only [Act.put, List.setIfInBounds_toArray, List.set_cons_succ, List.set_cons_zero]
    refine ⟨fun j w1 hj hC => Chg.uponW_yes (by rfl) (by exact Chn.upon_pure hC (fun F hF => by (go_simp <;> exact hF))), ?_⟩
    simp only [Act.put, List.setIfInBounds_toArray, List.set_cons_succ, List.set_cons_zero]
    refine ⟨fun j w1 hj hC => Chg.uponW_yes (by rfl) (by exact Chn.upon_pure hC (fun F hF => by (go_simp <;> exact hF))), ?_⟩
    simp only [Act.put, List.setIfInBounds_toArray, List.set_cons_succ, List.set_cons_zero]
    intro w5 hC

    go_wp2
    go_ret
    have B5 := hC.2.2.2.2
    refine ⟨?_, hJ3.grow B5, M3.grow B5, hk13.trans (keeps_below B5), hg13.trans (goes_of_below (F := fun _ => False) B5) (fun _ _ h => h.elim)⟩
    rw [← hR]
    unfold badAt
    rw [hn]
    simp only [h5]
    rfl
end Go.Proofs.Ytbdmemjenpnjgaa
