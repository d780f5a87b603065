/- The document's own controller: Best for every core; Ack. -/
import Derived.Test.YtpmlehfnlodmbaaGg
namespace Go.Proofs.Ytpmlehfnlodmbaa.Doc
open Go.RowKit
set_option linter.unusedVariables false
set_option linter.unusedSimpArgs false

set_option maxRecDepth 4000 in
theorem best_c {h n : Nat} {X : Ref} {L : RLay} {w : World} (H : RefAt h n X L w) (core : Int) : Calls Try.prog 42 #[ptr h 0, vI core] w fun e w' => e = .returned (.tuple (if bestV X n core < 0 then #[vI 0, .bool false] else #[vI (bestV X n core), .bool true])) ∧ Alike w w' := by
  cases hb : rbadB n core 0 with
  | false => exact best_walk H core hb
  | true =>
    have e0 : bestV X n core = -1 := if_pos hb
    rw [e0, if_pos (by decide)]
    go_enter Try.func42, Try.ntmps42
    go_wp2_with (go_at_call 41; refine (rbad_c H core 0).mono ?_; rintro e w' ⟨rfl, rfl⟩; dsimp only; rw [hb])
    go_ret2
    exact ⟨rfl, ⟨rfl, rfl, rfl, rfl⟩⟩
theorem bestV_in {X : Ref} {n : Nat} {core : Int} (h : ¬ bestV X n core < 0) : rbadB n core (bestV X n core) = false := by
  unfold bestV at h ⊢
  split at h
  · exact absurd (by decide) h
  · rename_i hb
    rw [if_neg hb]
    have := rbad_of (by simpa using hb : rbadB n core 0 = false)
    have := best_in X n core (runF X n core 64) (limOf X core) 64
    simp only [rbadB, Bool.or_eq_false_iff, decide_eq_false_iff_not]
    omega
def ackV (X : Ref) (n : Nat) (core : Int) : Int := if bestV X n core < 0 then 1023 else bestV X n core
def ackR (X : Ref) (n : Nat) (core : Int) : Ref := if bestV X n core < 0 then X else X.put (posR n core (bestV X n core)) (posK (bestV X n core)) { X.of n core (bestV X n core) with l := false, a := true, own := core, was := (X.of n core (bestV X n core)).rank }
theorem Alike.goes {y w : World} (h : Alike y w) (F : Nat → Prop) : Goes F y w := goes_of_below h.below
set_option maxRecDepth 4000 in
theorem ack_c {h n : Nat} {X : Ref} {L : RLay} {w : World} (H : RefAt h n X L w) (core : Int) : Calls Try.prog 39 #[ptr h 0, vI core] w fun e w' => e = .returned (vI (ackV X n core)) ∧ RTurn h n L (ackR X n core) w w' := by
  unfold ackV ackR
  by_cases hv : bestV X n core < 0
  · rw [if_pos hv, if_pos hv]
    go_enter Try.func39, Try.ntmps39
    go_wp2_with (go_at_call 42; refine (best_c H core).mono ?_; rintro e w1 ⟨rfl, A⟩; dsimp only; rw [if_pos hv])
    go_ret
    exact ⟨rfl, H.alike A, A.goes _⟩
  · rw [if_neg hv, if_neg hv]
    have hb := bestV_in hv
    obtain ⟨hr, hk⟩ := pos_in hb
    have hs := H.in8g hr hk
    unfold Ref.of
    generalize hV : bestV X n core = v at hb hr hk hs hv ⊢
    generalize X.get (posR n core v) (posK v) = s at hs ⊢
    generalize hR : posR n core v = r at hr hs ⊢
    generalize hK : posK v = k at hk hs ⊢
    replace hV := show Hid _ from hV
    replace hR := show Hid _ from hR
    replace hK := show Hid _ from hK
    go_enter Try.func39, Try.ntmps39
    go_upto_region 5 with (first | (go_at_call 42; refine (best_c H core).mono ?_; rintro e w1 ⟨rfl, A⟩; dsimp only; rw [hV.out, if_neg hv]; have H1 := H.alike A) | (go_at_call 44; refine (of_c H1 core v hb).mono ?_; rintro e w' ⟨rfl, rfl⟩; dsimp only; rw [hR.out, hK.out]))
    have G1 := A.goes (RFoot h n L)
    have z1 : World.cell? _ ⟨L.rb r, k * 8 + 1, none⟩ = some (.bool s.l) := H1.at hr hs 1 (by decide)
    have f1 := H1.fz hr (k * 8 + 1)
    obtain ⟨H2, G2⟩ := H1.set hr hs (s' := { s with l := false }) 1 (by decide) (v := .bool false) rfl
    go_upto_region 6 with fail
    generalize World.setCell _ _ _ = w2 at H2 G2 ⊢
    clear z1 f1
    replace G2 := G1.trans G2 fun _ _ e => e
    have hs2 := put_at H hr hk { s with l := false }
    have z2 : World.cell? w2 ⟨L.rb r, k * 8 + 3, none⟩ = some (.bool s.a) := H2.at hr hs2 3 (by decide)
    have f2 := H2.fz hr (k * 8 + 3)
    obtain ⟨H3, G3⟩ := H2.set hr hs2 (s' := { s with l := false, a := true }) 3 (by decide) (v := .bool true) rfl
    rw [put_put] at H3
    go_upto_region 7 with fail
    generalize World.setCell _ _ _ = w3 at H3 G3 ⊢
    clear z2 f2
    replace G3 := G2.trans G3 fun _ _ e => e
    have hs3 := put_at H hr hk { s with l := false, a := true }
    have z3 : World.cell? w3 ⟨L.rb r, k * 8 + 6, none⟩ = some (vI s.own) := H3.at hr hs3 6 (by decide)
    have f3 := H3.fz hr (k * 8 + 6)
    obtain ⟨H4, G4⟩ := H3.set hr hs3 (s' := { s with l := false, a := true, own := core }) 6 (by decide) (v := vI core) rfl
    rw [put_put] at H4
    go_upto_region 8 with fail
    generalize World.setCell _ _ _ = w4 at H4 G4 ⊢
    clear z3 f3
    replace G4 := G3.trans G4 fun _ _ e => e
    have hs4 := put_at H hr hk { s with l := false, a := true, own := core }
    have z4 : World.cell? w4 ⟨L.rb r, k * 8 + 4, none⟩ = some (vI s.rank) := H4.at hr hs4 4 (by decide)
    have z7 : World.cell? w4 ⟨L.rb r, k * 8 + 7, none⟩ = some (vI s.was) := H4.at hr hs4 7 (by decide)
    have f4 := H4.fz hr (k * 8 + 7)
    obtain ⟨H5, G5⟩ := H4.set hr hs4 (s' := { s with l := false, a := true, own := core, was := s.rank }) 7 (by decide) (v := vI s.rank) rfl
    rw [put_put] at H5
    replace G5 := G4.trans G5 fun _ _ e => e
    clear hs hs2 hs3 hs4
    go_wp2
    go_ret
    exact ⟨rfl, H5, G5⟩
end Go.Proofs.Ytpmlehfnlodmbaa.Doc
