/- Mask, and what Ack and Eoi set. -/
import Derived.Test.YteklkololojamaaGreatQo
namespace Go.Proofs.YteklkololojamaaGreat
open Go.RowKit
set_option linter.unusedVariables false
set_option linter.unusedSimpArgs false
set_option maxRecDepth 8000

def gmaskE (n : Nat) (core v : Int) : Bool := !hasB n core || !(decide (0 ≤ v) && decide (v ≤ 255))
def gmaskP (n : Nat) (P : Pg) (core v : Int) : Pg := if gmaskE n core v then P else P.setLim core.toNat v
section
variable {g n : Nat} {P : Pg} {L : GLay} {w : World}
theorem gmask_c (H : GicAt g n P L w) (core v : Int) : Calls Tryz.prog 123 #[ptr g 0, vI core, vI v] w fun e w' => e = .returned (vI (if gmaskE n core v then 1 else 0)) ∧ GT g n L (gmaskP n P core v) w w' := by
  unfold gmaskP gmaskE
  cases h1 : hasB n core with
  | false =>
    rw [if_pos (by rfl), if_pos (by rfl)]
    go_enter Tryz.func123, Tryz.ntmps123
    go_wp2_with (first | (go_at_call 67; refine (has_c H core).mono ?_; rintro e w' ⟨rfl, rfl⟩; dsimp only; rw [h1]))
    go_ret
    exact ⟨rfl, gt_refl H⟩
  | true =>
    cases h2 : (decide (0 ≤ v) && decide (v ≤ 255)) with
    | false =>
      rw [if_pos (by rfl), if_pos (by rfl)]
      go_enter Tryz.func123, Tryz.ntmps123
      go_wp2_with (first | (go_at_call 67; refine (has_c H core).mono ?_; rintro e w' ⟨rfl, rfl⟩; dsimp only; rw [h1]) | (go_at_call 129; refine (isRank_c v _).mono ?_; rintro e w' ⟨rfl, rfl⟩; dsimp only; rw [h2]))
      go_ret
      exact ⟨rfl, gt_refl H⟩
    | true =>
      rw [if_neg (by decide), if_neg (by decide)]
      obtain ⟨h4, h5⟩ := has_of h1
      obtain ⟨c, rfl⟩ : ∃ c : Nat, core = (c : Int) := ⟨core.toNat, by omega⟩
      rw [Int.toNat_natCast]
      have hc : c < n := by omega
      have c0 := H.c0
      have z := H.cLim hc
      have fz := H.frz (.inr rfl) (c * 194)
      have hT := H.limSet hc v
      go_enter Tryz.func123, Tryz.ntmps123
      go_upto_region 4 with (first | (go_at_call 67; refine (has_c H c).mono ?_; rintro e w' ⟨rfl, rfl⟩; dsimp only; rw [h1]) | (go_at_call 129; refine (isRank_c v _).mono ?_; rintro e w' ⟨rfl, rfl⟩; dsimp only; rw [h2]))
      generalize World.setCell _ _ _ = w2 at hT ⊢
      clear z fz c0
      go_wp2
      go_ret
      exact ⟨rfl, hT⟩
theorem ack1_c {b o : Nat} {x y : Bool} {w : World} (h1 : w.cell? ⟨b, o + 1, none⟩ = some (.bool x)) (f1 : w.frozen? ⟨b, o + 1, none⟩ = false) (h3 : ∀ w', (w.setCell ⟨b, o + 1, none⟩ (.bool false)) = w' → w'.cell? ⟨b, o + 3, none⟩ = some (.bool y) ∧ w'.frozen? ⟨b, o + 3, none⟩ = false) : Calls Tryz.prog 134 #[ptr b o] w fun e w' => e = .returned (.tuple #[]) ∧ w' = (w.setCell ⟨b, o + 1, none⟩ (.bool false)).setCell ⟨b, o + 3, none⟩ (.bool true) := by
  obtain ⟨z, fz⟩ := h3 _ rfl
  clear h3
  go_enter Tryz.func134, Tryz.ntmps134
  go_wp2
  refine bodyPost_end (results_none rfl _ _ _) rfl ⟨rfl, rfl⟩
theorem eoi2_c {b o : Nat} {y : Bool} {w : World} (h3 : w.cell? ⟨b, o + 3, none⟩ = some (.bool y)) (f3 : w.frozen? ⟨b, o + 3, none⟩ = false) : Calls Tryz.prog 138 #[ptr b o] w fun e w' => e = .returned (.tuple #[]) ∧ w' = w.setCell ⟨b, o + 3, none⟩ (.bool false) := by
  go_enter Tryz.func138, Tryz.ntmps138
  go_wp2
  refine bodyPost_end (results_none rfl _ _ _) rfl ⟨rfl, rfl⟩
theorem put_put (P : Pg) (r k : Nat) (s t : Src) : (P.put r k s).put r k t = P.put r k t := by
  simp only [Pg.put, Pg.mk.injEq, and_true]
  funext i j
  by_cases e : i = r ∧ j = k
  · rw [if_pos e, if_pos e]
  · rw [if_neg e, if_neg e, if_neg e]
theorem put_src (P : Pg) (r k : Nat) (s : Src) : (P.put r k s).src r k = s := by simp [Pg.put]
theorem chg_ack1 (H : GicAt g n P L w) (core id : Int) (hb : badB n core id = false) : Calls Tryz.prog 105 #[ptr g 0, vI core, vI id, .func (.func 134) #[] #[]] w fun e w' => e = .returned (vI 0) ∧ GT g n L (P.put (pr n core id) (pk id) { P.src (pr n core id) (pk id) with l := false, a := true }) w w' := by
  have hr := pr_le hb
  have hk := pk_lt hb
  have z : w.cell? ⟨sb g n L (pr n core id), so n (pr n core id) (pk id) + 1, none⟩ = some (.bool (P.src (pr n core id) (pk id)).l) := H.at hr hk 1 (by decide)
  have fz := H.frz (sb_or (n := n) (pr n core id)) (so n (pr n core id) (pk id) + 1)
  have hT := H.set hr hk (s' := { P.src (pr n core id) (pk id) with l := false }) 1 (by decide) (v := .bool false) rfl
  have h3 : ∀ w', (w.setCell ⟨sb g n L (pr n core id), so n (pr n core id) (pk id) + 1, none⟩ (.bool false)) = w' → w'.cell? ⟨sb g n L (pr n core id), so n (pr n core id) (pk id) + 3, none⟩ = some (.bool (P.src (pr n core id) (pk id)).a) ∧ w'.frozen? ⟨sb g n L (pr n core id), so n (pr n core id) (pk id) + 3, none⟩ = false := by
    rintro w' rfl
    have := hT.1.at hr hk 3 (by decide)
    rw [put_src] at this
    exact ⟨this, hT.1.frz (sb_or (n := n) (pr n core id)) _⟩
  have hT2 := hT.1.set hr hk (s' := { P.src (pr n core id) (pk id) with l := false, a := true }) 3 (by decide) (v := .bool true) (by rw [put_src]; rfl)
  rw [put_put] at hT2
  have hc := ack1_c z fz h3
  have hE : GT g n L (P.put (pr n core id) (pk id) { P.src (pr n core id) (pk id) with l := false, a := true }) w ((w.setCell ⟨sb g n L (pr n core id), so n (pr n core id) (pk id) + 1, none⟩ (.bool false)).setCell ⟨sb g n L (pr n core id), so n (pr n core id) (pk id) + 3, none⟩ (.bool true)) := ⟨hT2.1, hT.2.trans hT2.2 fun _ _ e => e⟩
  clear hT hT2 h3 z fz
  go_enter Tryz.func105, Tryz.ntmps105
  go_wp2_with (first | (go_at_call 80; refine (find_c H core id hb).mono ?_; rintro e w' ⟨rfl, rfl⟩; dsimp only) | (go_at_call 134; refine hc.mono ?_; rintro e w' ⟨rfl, rfl⟩; dsimp only; clear hc; generalize World.setCell (World.setCell _ _ _) _ _ = w2 at hE ⊢))
  go_ret
  exact ⟨rfl, hE⟩
theorem chg_eoi2 (H : GicAt g n P L w) (core id : Int) (hb : badB n core id = false) : Calls Tryz.prog 105 #[ptr g 0, vI core, vI id, .func (.func 138) #[] #[]] w fun e w' => e = .returned (vI 0) ∧ GT g n L (P.put (pr n core id) (pk id) { P.src (pr n core id) (pk id) with a := false }) w w' := by
  have hr := pr_le hb
  have hk := pk_lt hb
  have z : w.cell? ⟨sb g n L (pr n core id), so n (pr n core id) (pk id) + 3, none⟩ = some (.bool (P.src (pr n core id) (pk id)).a) := H.at hr hk 3 (by decide)
  have fz := H.frz (sb_or (n := n) (pr n core id)) (so n (pr n core id) (pk id) + 3)
  have hT := H.set hr hk (s' := { P.src (pr n core id) (pk id) with a := false }) 3 (by decide) (v := .bool false) rfl
  go_enter Tryz.func105, Tryz.ntmps105
  go_wp2_with (first | (go_at_call 80; refine (find_c H core id hb).mono ?_; rintro e w' ⟨rfl, rfl⟩; dsimp only) | (go_at_call 138; refine (eoi2_c z fz).mono ?_; rintro e w' ⟨rfl, rfl⟩; dsimp only; generalize World.setCell _ _ _ = w2 at hT ⊢))
  go_ret
  exact ⟨rfl, hT⟩
end
end Go.Proofs.YteklkololojamaaGreat
