/- The document's own controller turned: Mask, Route, Set. -/
import Derived.Test.YtpmlehfnlodmbaaGb
namespace Go.Proofs.Ytpmlehfnlodmbaa.Doc
open Go.RowKit
set_option linter.unusedVariables false
set_option linter.unusedSimpArgs false

/-- What a call does to the document's controller. -/
def RTurn (h n : Nat) (L : RLay) (X : Ref) (w w' : World) : Prop := RefAt h n X L w' ∧ Goes (RFoot h n L) w w'
theorem rturn_refl {h n : Nat} {L : RLay} {X : Ref} {w : World} (H : RefAt h n X L w) : RTurn h n L X w w := ⟨H, Goes.refl _ _⟩
theorem RefAt.limAt {h n : Nat} {X : Ref} {L : RLay} {w : World} (H : RefAt h n X L w) {c : Nat} (hc : c < n) : ∃ b cap v0, L.lv = .slice (some ⟨b, 0, none⟩) n cap ∧ X.lims[c]? = some v0 ∧ w.cell? ⟨b, c, none⟩ = some (vI v0) ∧ w.frozen? ⟨b, c, none⟩ = false ∧ ∀ v, RTurn h n L { X with lims := X.lims.set c v } w (w.setCell ⟨b, c, none⟩ (vI v)) := by
  obtain ⟨b, cap, eo, _, _, _, hcell, hfz⟩ := own_addr H.lim (by omega)
  have hc' : c < X.lims.length := by rw [H.limn]; exact hc
  have hv : X.lims[c]? = some X.lims[c] := List.getElem?_eq_getElem hc'
  have hbk : L.lv.ownBlock = some b := by rw [eo]; rfl
  obtain ⟨C, _, hC⟩ := own_kind H.lim hbk
  refine ⟨b, cap, _, eo, hv, by rw [hcell c (by omega), List.getElem?_map, hv]; rfl, hfz c, fun v => ?_⟩
  have keep : ∀ i, i ≠ b → (w.setCell ⟨b, c, none⟩ (vI v)).heap[i]? = w.heap[i]? := fun i hi => Below.heap_setCell _ _ _ _ hi
  refine ⟨⟨?_, own_of_block H.own fun i hi => keep i ?_, fun q hq => own_of_block (H.row q hq) fun i hi => keep i ?_, H.len, ?_, by simp [H.limn], H.inj⟩, goes_setCell w (.inr (.inr (.inr hbk))) _ _⟩
  · rw [keep h (Ne.symm (ne_of_type hC H.top (by decide)))]; exact H.top
  · rintro rfl; exact own_ne hC H.own (by decide) hi
  · rintro rfl; exact own_ne hC (H.row q hq) (by decide) hi
  · have hl := H.lim
    rw [eo] at hl ⊢
    have := (hl.stored c (vI v)).1
    rw [← List.map_set] at this
    exact this
def maskE (n : Nat) (core v : Int) : Int := if rbadB n core 0 = true ∨ v < 0 ∨ 255 < v then 1 else 0
def maskR (X : Ref) (n : Nat) (core v : Int) : Ref := if maskE n core v = 0 then { X with lims := X.lims.set core.toNat v } else X
set_option maxRecDepth 4000 in
theorem mask_c {h n : Nat} {X : Ref} {L : RLay} {w : World} (H : RefAt h n X L w) (core v : Int) : Calls Try.prog 36 #[ptr h 0, vI core, vI v] w fun e w' => e = .returned (vI (maskE n core v)) ∧ RTurn h n L (maskR X n core v) w w' := by
  cases hb : rbadB n core 0 with
  | true =>
    have e0 : maskE n core v = 1 := if_pos (.inl hb)
    rw [maskR, e0, if_neg (by decide)]
    go_enter Try.func36, Try.ntmps36
    go_wp2_with (go_at_call 41; refine (rbad_c H core 0).mono ?_; rintro e w' ⟨rfl, rfl⟩; dsimp only; rw [hb])
    go_ret
    exact ⟨rfl, rturn_refl H⟩
  | false =>
    by_cases h1 : v < 0
    · have e0 : maskE n core v = 1 := if_pos (.inr (.inl h1))
      rw [maskR, e0, if_neg (by decide)]
      go_enter Try.func36, Try.ntmps36
      go_wp2_with (go_at_call 41; refine (rbad_c H core 0).mono ?_; rintro e w' ⟨rfl, rfl⟩; dsimp only; rw [hb])
      go_ret
      exact ⟨rfl, rturn_refl H⟩
    · by_cases h2 : 255 < v
      · have e0 : maskE n core v = 1 := if_pos (.inr (.inr h2))
        rw [maskR, e0, if_neg (by decide)]
        go_enter Try.func36, Try.ntmps36
        go_wp2_with (go_at_call 41; refine (rbad_c H core 0).mono ?_; rintro e w' ⟨rfl, rfl⟩; dsimp only; rw [hb])
        go_ret
        exact ⟨rfl, rturn_refl H⟩
      · have e0 : maskE n core v = 0 := if_neg (by rw [hb]; rintro (h | h | h) <;> first | cases h | omega)
        rw [maskR, e0, if_pos rfl]
        obtain ⟨g1, g2, _, _⟩ := rbad_of hb
        obtain ⟨c, rfl⟩ : ∃ c : Nat, core = (c : Int) := ⟨core.toNat, by omega⟩
        rw [Int.toNat_natCast]
        obtain ⟨b, cap, v0, el, _, z, fz, hT⟩ := H.limAt (c := c) (by omega)
        have c3 := H.c3
        rw [el] at c3
        replace hT := hT v
        clear el
        go_enter Try.func36, Try.ntmps36
        go_wp2_with (go_at_call 41; refine (rbad_c H c 0).mono ?_; rintro e w' ⟨rfl, rfl⟩; dsimp only; rw [hb])
        go_ret
        exact ⟨rfl, hT⟩
theorem RefAt.in8 {h n : Nat} {X : Ref} {L : RLay} {w : World} (H : RefAt h n X L w) {r k : Nat} (hr : r ≤ n) (hk : k < 32) : ∃ s, (X.rows r)[k]? = some s := ⟨_, List.getElem?_eq_getElem (by rw [H.len r hr]; exact hk)⟩
end Go.Proofs.Ytpmlehfnlodmbaa.Doc
