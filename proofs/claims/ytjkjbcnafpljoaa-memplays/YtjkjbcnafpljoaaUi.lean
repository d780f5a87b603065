/- The document's own Drain. -/
import Derived.Test.YtjkjbcnafpljoaaUh
import Derived.Test.YtjkjbcnafpljoaaRe
namespace Go.Proofs.Ytjkjbcnafpljoaa
open Go.RowKit
set_option linter.unusedVariables false
set_option linter.unusedSimpArgs false

theorem DP.drew {h : Nat} {X : Doc} {L : DocLay} {hv : Value} {l : List Int} {w w' : World} (H : DP h X L hv l w w') : DP h X L hv l w { w' with drawn := w'.drawn + 1 } := ⟨H.doc.keep fun _ _ => rfl, own_of_block H.row fun _ _ => rfl, ⟨H.goes.os, H.goes.tape, H.goes.output, H.goes.size, H.goes.block⟩, H.old⟩
theorem DP.run {h : Nat} {X : Doc} {L : DocLay} {hv : Value} {l : List Int} {w w' : World} (H : DP h X L hv l w w') {b cap k : Nat} {s : R4} (ea : L.av = .slice (some ⟨b, 0, none⟩) X.all.length cap) (hs : X.all[k]? = some s) (x : Int) : (storeVar 3 ⟨b, k * 4 + 3, none⟩ (vI x)).run Try.prog w' = .ok () (w'.setCell ⟨b, k * 4 + 3, none⟩ (vI x)) := by
  have hk : k < X.all.length := (List.getElem?_eq_some_iff.1 hs).1
  obtain ⟨q', cap', e, _, _, _, hc, hf⟩ := own_addr H.doc.all (by omega)
  rw [ea] at e; cases e
  have hcell := hc (k * 4 + 3) (by omega)
  rw [(flatR_get hs).2.2.2] at hcell
  exact run_cell w' 3 b (k * 4 + 3) (vI x) _ info3 rfl rfl hcell (hf _)
def drainDT (X : Doc) (c : Int) : Int := (heldD X c).headD 0
def drainDS (X : Doc) (c : Int) : Doc := match heldD X c with
  | [] => X
  | t :: _ => { X with stamps := X.stamps + 1, all := X.all.set (t - 1).toNat { X.all.getD (t - 1).toNat ⟨0, 0, 0, 0⟩ with s := X.stamps + 1 } }
def drainDE (X : Doc) (c : Int) : Int := if (heldD X c).length = 0 then 31 else 0
set_option maxRecDepth 4000 in
theorem drainD_c (h : Nat) (X : Doc) (L : DocLay) (core : Int) (w : World) (H : DocAt h X L w) (hn : X.all.length < 1000000) (hs0 : 0 ≤ X.stamps) (hs1 : X.stamps < 1000000) : Calls Try.prog 40 #[ptr h 0, vI core] w fun e w' => e = .returned (.tuple #[vI (drainDT X core), vI (drainDE X core)]) ∧ DocTurn h L (drainDS X core) w w' := by
  rw [drainDT, drainDE, drainDS]
  cases hh : heldD X core with
  | nil =>
    simp only [List.length_nil, if_true, List.headD_nil]
    go_enter Try.func40, Try.ntmps40
    go_upto_region 2 with (go_at_call 47; refine (heldD_c h X L core _ H hn).mono ?_; rintro e w1 ⟨ha, hc, rfl, T⟩; dsimp only; rw [hh] at T ⊢)
    go_wp2
    go_ret2
    exact ⟨rfl, docTurn_of_below H T.below⟩
  | cons t tl =>
    obtain ⟨k, s, et, hk, -, -⟩ := heldF_mem (c := core) (l := X.all) (i := 0) (t := t) (by show t ∈ heldD X core; rw [hh]; exact List.mem_cons_self)
    rw [Nat.zero_add] at et
    subst et
    have hkl : k < X.all.length := (List.getElem?_eq_some_iff.1 hk).1
    have hg : X.all.getD (((k : Int) + 1) - 1).toNat ⟨0, 0, 0, 0⟩ = s := by rw [show (((k : Int) + 1) - 1).toNat = k by omega]; simp [List.getD, hk]
    have hx : (((k : Int) + 1) - 1).toNat = k := by omega
    dsimp only
    rw [hg, hx, if_neg (by simp), List.headD_cons]
    have hl0 : (((tl.length : Int) + 1) == 0) = false := by simp; omega
    go_enter Try.func40, Try.ntmps40
    go_upto_region 2 with (go_at_call 47; refine (heldD_c h X L core _ H hn).mono ?_; rintro e w1 ⟨ha, hc, rfl, T⟩; dsimp only; rw [hh] at T ⊢)
    have hP : DP h X L (.slice ha ((k + 1 : Int) :: tl).length hc) ((k + 1 : Int) :: tl) w w1 := ⟨H.grow T.below, T.row, goes_of_below T.below, fun j hj => H.lt hj⟩
    have c4 := hP.doc.c4
    have fz := frozen_of_row w1 h 4 _ _ hP.doc.top
    have wst : IntKind.i64.wrap (X.stamps + 1) = X.stamps + 1 := by rw [IntKind.wrap_i64]; omega
    clear T
    go_upto_region 5 with fail
    have P2 := hP.setS (X.stamps + 1)
    generalize World.setCell w1 _ _ = w2 at P2 ⊢
    clear c4 fz wst hP
    obtain ⟨b, cap, ea, _, _, _, _, _⟩ := own_addr P2.doc.all (by show 0 < X.all.length; omega)
    obtain ⟨qb, qc, eq, _, _, _, _, _⟩ := own_addr P2.row (by simp)
    simp only [Value.slice.injEq] at eq
    obtain ⟨rfl, -, rfl⟩ := eq
    replace ea : L.av = .slice (some ⟨b, 0, none⟩) X.all.length cap := ea
    obtain ⟨X1, hX1⟩ : ∃ X1 : Doc, X1 = { X with stamps := X.stamps + 1 } := ⟨_, rfl⟩
    obtain ⟨r, hr⟩ : ∃ r, r = X.stamps + 1 := ⟨_, rfl⟩
    have e1 : X1.all = X.all := by rw [hX1]
    have e2 : X1.stamps = r := by rw [hX1, hr]
    have e3 : Hid (({ X with stamps := X.stamps + 1, all := X.all.set k { s with s := X.stamps + 1 } } : Doc) = { X1 with all := X1.all.set k { s with s := r } }) := by show _ = _; rw [hX1, hr]
    rw [← hX1] at P2
    rw [← e1] at ea hk hkl hn
    clear hX1 hg hh
    have hz3 : ∀ (n : Nat) (w' : World), DP h (if n = 0 then X1 else { X1 with all := X1.all.set k { s with s := r } }) L (.slice (some ⟨qb, 0, none⟩) ((k + 1 : Int) :: tl).length hc) ((k + 1 : Int) :: tl) w w' → w'.cell? ⟨h, 3, none⟩ = some (.slice (some ⟨b, 0, none⟩) X1.all.length cap) := fun n w' h => by rw [← ea]; exact h.doc.c3
    have hz4 : ∀ (n : Nat) (w' : World), DP h (if n = 0 then X1 else { X1 with all := X1.all.set k { s with s := r } }) L (.slice (some ⟨qb, 0, none⟩) ((k + 1 : Int) :: tl).length hc) ((k + 1 : Int) :: tl) w w' → w'.cell? ⟨h, 4, none⟩ = some (vI r) := fun n w' h => by
      have := h.doc.c4
      split at this <;> rw [← e2] <;> exact this
    have hzq : ∀ (n : Nat) (w' : World), DP h (if n = 0 then X1 else { X1 with all := X1.all.set k { s with s := r } }) L (.slice (some ⟨qb, 0, none⟩) ((k + 1 : Int) :: tl).length hc) ((k + 1 : Int) :: tl) w w' → w'.cell? ⟨qb, 0, none⟩ = some (vI ((k : Int) + 1)) := fun n w' h => by
      have := h.row.cellAt 0 (by simp)
      exact this
    have wk : IntKind.i64.wrap ((k : Int) + 1 - 1) = k := by rw [IntKind.wrap_i64]; omega
    have wk2 : IntKind.i64.wrap (k : Int) = k := by rw [IntKind.wrap_i64]; omega
    have hk0 : (0 : Int) ≤ k := by omega
    have hk1 : (k : Int) < X1.all.length := by omega
    clear hr hs0 hs1 e2 e1
    refine Chn.wp_region_chain (fun n w' => DP h (if n = 0 then X1 else { X1 with all := X1.all.set k { s with s := r } }) L (.slice (some ⟨qb, 0, none⟩) ((k + 1 : Int) :: tl).length hc) ((k + 1 : Int) :: tl) w w') [14] [ptr h 0, ptr h 0, ptr h 3, .slice (some ⟨b, 0, none⟩) X1.all.length cap, .slice (some ⟨qb, 0, none⟩) ((k + 1 : Int) :: tl).length hc, ptr qb 0, vI ((k : Int) + 1), vI k, ptr h 0, ptr h 0, ptr h 4, vI r, ptr b (k * 4), ptr b (k * 4 + 3), undef] (by kernel_rfl) (by kernel_rfl) (by kernel_rfl) (by kernel_rfl) P2.drew ?_
    iterate 3 (refine ⟨fun j w1 hC => by exact Chn.upon_pure hC (fun F hF => by (go_simp <;> exact hF)), ?_⟩; simp only [Act.put, List.setIfInBounds_toArray, List.set_cons_succ, List.set_cons_zero])
    refine ⟨fun j w1 hC => by have z := hz3 j w1 hC; exact Chn.upon_pure hC (fun F hF => by (go_simp <;> exact hF)), ?_⟩
    simp only [Act.put, List.setIfInBounds_toArray, List.set_cons_succ, List.set_cons_zero]
    iterate 2 (refine ⟨fun j w1 hC => by exact Chn.upon_pure hC (fun F hF => by (go_simp <;> exact hF)), ?_⟩; simp only [Act.put, List.setIfInBounds_toArray, List.set_cons_succ, List.set_cons_zero])
    refine ⟨fun j w1 hC => by have z := hzq j w1 hC; exact Chn.upon_pure hC (fun F hF => by (go_simp <;> exact hF)), ?_⟩
    simp only [Act.put, List.setIfInBounds_toArray, List.set_cons_succ, List.set_cons_zero]
    iterate 4 (refine ⟨fun j w1 hC => by exact Chn.upon_pure hC (fun F hF => by (go_simp <;> exact hF)), ?_⟩; simp only [Act.put, List.setIfInBounds_toArray, List.set_cons_succ, List.set_cons_zero])
    refine ⟨fun j w1 hC => by have z := hz4 j w1 hC; exact Chn.upon_pure hC (fun F hF => by (go_simp <;> exact hF)), ?_⟩
    simp only [Act.put, List.setIfInBounds_toArray, List.set_cons_succ, List.set_cons_zero]
    iterate 2 (refine ⟨fun j w1 hC => by exact Chn.upon_pure hC (fun F hF => by (go_simp <;> exact hF)), ?_⟩; simp only [Act.put, List.setIfInBounds_toArray, List.set_cons_succ, List.set_cons_zero])
    refine ⟨fun w1 hC => by exact chn_store 3 _ _ rfl b (k * 4 + 3) rfl _ rfl (DP.run hC ea hk r) (DP.setA hC ea hk r), ?_⟩
    simp only [Act.put]
    intro w5 hC
    have z := hzq 1 w5 hC
    go_wp2
    go_ret2
    refine ⟨rfl, L, ?_, hC.goes, fun _ h => .inl h⟩
    rw [e3.out]
    exact hC.doc
end Go.Proofs.Ytjkjbcnafpljoaa
