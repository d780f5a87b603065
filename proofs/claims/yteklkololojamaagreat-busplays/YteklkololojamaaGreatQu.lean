/- Eoi. -/
import Derived.Test.YteklkololojamaaGreatQt
namespace Go.Proofs.YteklkololojamaaGreat
open Go.RowKit
set_option linter.unusedVariables false
set_option linter.unusedSimpArgs false
set_option maxRecDepth 8000

def eoiB (n : Nat) (P : Pg) (core id : Int) : Bool := !badB n core id && (idxF (P.wk core.toNat) id).isSome
def geoiE (n : Nat) (core id : Int) : Int := if badB n core id then 1 else 0
def geoiP (n : Nat) (P : Pg) (core id : Int) : Pg := if badB n core id then P else match idxF (P.wk core.toNat) id with | none => P | some k => (P.setWk core.toNat ((P.wk core.toNat).eraseIdx k)).put (pr n core id) (pk id) { P.src (pr n core id) (pk id) with a := false }
section
variable {g n : Nat} {P : Pg} {L : GLay} {w : World}
set_option maxHeartbeats 1000000 in
theorem geoi_c (H : GicAt g n P L w) (core id : Int) : Calls Tryz.prog 124 #[ptr g 0, vI core, vI id] w fun e w' => e = .returned (.tuple #[.bool (eoiB n P core id), vI (geoiE n core id)]) ∧ GTL g n L (geoiP n P core id) w w' := by
  have B : Below w.heap.size w (w.alloc (.cells #[vI id] 3)) := below_alloc _ _
  have hd : (w.alloc (.cells #[vI id] 3)).heap[w.heap.size]? = some (.cells #[vI id] 3) := heap_alloc_new _ _
  have H1 := H.grow B
  have hdF : ¬ GFoot g n L w.heap.size := fun h => by have := H.lt h; omega
  cases hb : badB n core id with
  | true =>
    have e1 : eoiB n P core id = false := by rw [eoiB, hb]; rfl
    have e2 : geoiE n core id = 1 := by rw [geoiE, hb]; rfl
    have e3 : geoiP n P core id = P := by rw [geoiP, hb]; rfl
    rw [e1, e2, e3]
    go_enter Tryz.func124, Tryz.ntmps124
    go_upto_region 1 with fail
    generalize w.alloc (.cells #[vI id] 3) = w1 at B hd H1 ⊢
    have z : w1.cell? ⟨w.heap.size, 0, none⟩ = some (vI id) := by rw [cell_of_row _ _ _ _ _ _ hd]; rfl
    go_wp2_with (first | (go_at_call 80; refine (find_no H1 core id hb).mono ?_; rintro e w' ⟨rfl, rfl⟩; dsimp only))
    go_ret2
    exact ⟨rfl, ((gt_refl H).grow B).gtl⟩
  | false =>
    obtain ⟨h4, h5⟩ := has_of (bad_of hb).1
    obtain ⟨c, rfl⟩ : ∃ c : Nat, core = (c : Int) := ⟨core.toNat, by omega⟩
    have hc : c < n := by omega
    have e2 : geoiE n c id = 0 := by rw [geoiE, hb]; rfl
    rw [e2]
    have hc8 : (c : Int) < n := by omega
    have hl := H.lenk c hc
    cases hx : idxF (P.wk c) id with
    | none =>
      have e1 : eoiB n P c id = false := by rw [eoiB, hb, Int.toNat_natCast, hx]; rfl
      have e3 : geoiP n P c id = P := by rw [geoiP, hb, Int.toNat_natCast, hx]; rfl
      have e4 : idxV (P.wk c) id = -1 := by rw [idxV, hx]
      rw [e1, e3]
      clear e1 e3 e2
      go_enter Tryz.func124, Tryz.ntmps124
      go_upto_region 1 with fail
      generalize w.alloc (.cells #[vI id] 3) = w1 at B hd H1 ⊢
      have z : w1.cell? ⟨w.heap.size, 0, none⟩ = some (vI id) := by rw [cell_of_row _ _ _ _ _ _ hd]; rfl
      have c0 := H1.c0
      have cw := H1.cWv hc
      have hI := index_c (H1.wks c hc) z hl
      rw [e4] at hI
      clear e4
      go_wp2_with (first | (go_at_call 80; refine (find_c H1 c id hb).mono ?_; rintro e w' ⟨rfl, rfl⟩; dsimp only) | (go_at_call 135; refine hI.mono ?_; rintro e w2 ⟨rfl, hB2⟩; dsimp only))
      go_ret2
      exact ⟨rfl, ((gt_refl H).grow (below_then B (Nat.le_refl _) hB2)).gtl⟩
    | some k =>
      have e1 : eoiB n P c id = true := by rw [eoiB, hb, Int.toNat_natCast, hx]; rfl
      have e3 : geoiP n P c id = (P.setWk c ((P.wk c).eraseIdx k)).put (pr n c id) (pk id) { P.src (pr n c id) (pk id) with a := false } := by rw [geoiP, hb, Int.toNat_natCast, hx]; rfl
      have e4 : idxV (P.wk c) id = k := by rw [idxV, hx]
      obtain ⟨t, ht, _⟩ := idx_in hx
      have hk : k < (P.wk c).length := (List.getElem?_eq_some_iff.1 ht).1
      rw [e1, e3]
      clear e1 e3 e2
      go_enter Tryz.func124, Tryz.ntmps124
      go_upto_region 1 with fail
      generalize w.alloc (.cells #[vI id] 3) = w1 at B hd H1 ⊢
      have z : w1.cell? ⟨w.heap.size, 0, none⟩ = some (vI id) := by rw [cell_of_row _ _ _ _ _ _ hd]; rfl
      have c0 := H1.c0
      have cw := H1.cWv hc
      have hI := index_c (H1.wks c hc) z hl
      rw [e4] at hI
      clear e4 hx
      go_upto_region 7 with (first | (go_at_call 80; refine (find_c H1 c id hb).mono ?_; rintro e w' ⟨rfl, rfl⟩; dsimp only) | (go_at_call 135; refine hI.mono ?_; rintro e w2 ⟨rfl, hB2⟩; dsimp only))
      have H2 := H1.grow hB2
      have hd2 : w2.heap[w.heap.size]? = some (.cells #[vI id] 3) := by rw [hB2.block _ (lt_of_some hd)]; exact hd
      have cw2 := H2.cWv hc
      have hD := del_c (H2.wks c hc) hk hl
      clear hI z c0 cw
      go_upto_region 8 with (first | (go_at_call 137; refine hD.mono ?_; rintro e w3 ⟨v', rfl, hv', R3, G3⟩; dsimp only; obtain ⟨ao3, cap3, rfl, _, _⟩ := own_len R3; have cw3 : w3.cell? ⟨L.cb, c * 194 + 193, none⟩ = some (L.wv c) := (by rw [World.cell?_of_block (w := w2) (a := ⟨L.cb, c * 194 + 193, none⟩) (G3.block L.cb (H2.lt (.inr (.inl rfl))) (H2.neW hc).2)]; exact H2.cWv hc); have fz3 : w3.frozen? ⟨L.cb, c * 194 + 193, none⟩ = false := (by rw [World.frozen?_of_block (w := w2) (a := ⟨L.cb, c * 194 + 193, none⟩) (G3.block L.cb (H2.lt (.inr (.inl rfl))) (H2.neW hc).2)]; exact H2.frz (.inr rfl) _)))
      have hle : ((P.wk c).eraseIdx k).length < 1000000 := by rw [List.length_eraseIdx]; split <;> omega
      obtain ⟨H4, G4, F4⟩ := H2.wkSet hc hle G3 R3 (fun b' hb' => .inl (by rw [← hv']; exact hb'))
      clear cw3 fz3 cw2 hD R3 G3 hv'
      generalize World.setCell _ _ _ = w4 at H4 G4 ⊢
      generalize ({ L with wv := fun i => if i = c then _ else L.wv i } : GLay) = L' at H4 F4
      have hd4 : w4.heap[w.heap.size]? = some (.cells #[vI id] 3) := by rw [G4.block _ (lt_of_some hd2) hdF]; exact hd2
      have z4 : w4.cell? ⟨w.heap.size, 0, none⟩ = some (vI id) := by rw [cell_of_row _ _ _ _ _ _ hd4]; rfl
      have hC := chg_eoi2 H4 c id hb
      go_wp2_with (first | (go_at_call 105; refine hC.mono ?_; rintro e w5 ⟨rfl, hT⟩; dsimp only))
      go_ret2
      have B2 : Below w.heap.size w w2 := below_then B (Nat.le_refl _) hB2
      refine ⟨rfl, L', hT.1, ?_, fun q hq => (F4 q hq).imp (fun h => h) fun h => Nat.le_trans B2.size h⟩
      exact ((goes_of_below B2).trans G4 fun _ _ e => e).trans hT.2 fun q hq hf => (F4 q hf).elim (fun h => h) fun h => by have := B2.size; omega
end
end Go.Proofs.YteklkololojamaaGreat
