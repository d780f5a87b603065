/- The chapter's example, walked. -/
import Derived.Test.YtebkpmplhpebbaaQy
namespace Go.Proofs.Ytebkpmplhpebbaa
open Go.RowKit
open Tim
set_option linter.unusedVariables false
set_option linter.unusedSimpArgs false
set_option maxRecDepth 8000

/-- A timer that lies beyond B. -/
structure KW (B : Nat) (w0 : World) (g cb n : Nat) (T : Tm) (w : World) : Prop where
  at_ : TimAt g cb n T w
  foot : ∀ k, TFoot g cb k → B ≤ k
  below : Below B w0 w
  le : B ≤ w0.heap.size
theorem KW.grow {B : Nat} {w0 : World} {g cb n : Nat} {T : Tm} {w w' : World} (H : KW B w0 g cb n T w) (hb : Below w.heap.size w w') : KW B w0 g cb n T w' := ⟨H.at_.grow hb, H.foot, H.below.trans (hb.mono (Nat.le_trans H.le H.below.size)), H.le⟩
theorem KW.tt {B : Nat} {w0 : World} {g cb n : Nat} {T U : Tm} {w w' : World} (H : KW B w0 g cb n T w) (h : TT g cb n U w w') : KW B w0 g cb n U w' := ⟨h.1, H.foot, H.below.trans (h.2.below (Nat.le_trans H.le H.below.size) H.foot), H.le⟩
theorem newKW {g cb n : Nat} {T : Tm} {w w' : World} (h : TimAt g cb n T w') (hb : Below w.heap.size w w') (h1 : w.heap.size ≤ g) (h2 : w.heap.size ≤ cb) : KW w.heap.size w g cb n T w' :=
  ⟨h, fun k hk => by rcases hk with rfl | rfl <;> assumption, hb, Nat.le_refl _⟩
def k1 : Tm := writeT 2 zeroT 1 24346 10
def k2 : Tm := writeT 2 k1 1 24345 1
def k3 : Tm := k2.tick 10
theorem kn1 : writeE 2 1 24346 = 0 := by kernel_rfl
theorem kn2 : writeE 2 1 24345 = 0 := by kernel_rfl
theorem kn3 : highV 2 k2 1 = false := by kernel_rfl
theorem kn4 : nxC 2 k2 = 1 := by kernel_rfl
theorem kn5 : nxN 2 k2 = 10 := by kernel_rfl
theorem kn6 : nxB 2 k2 = true := by kernel_rfl
theorem kn7 : readV 2 k3 1 24345 = 5 := by kernel_rfl
theorem kn8 : readE 2 1 24345 = 0 := by kernel_rfl
theorem kn9 : highV 2 k3 1 = true := by kernel_rfl
theorem kn10 : k3.cnt = 10 := by kernel_rfl
theorem known_c (w : World) : Calls Try.prog 7 #[] w fun e w' => e = .returned (.bool true) ∧ Below w.heap.size w w' := by
  have hnew := new_c 2 (by decide) (by decide) w
  go_enter Try.func7, Try.ntmps7
  go_upto_region 4 with (first | (go_at_call 8; refine hnew.mono ?_; rintro e w1 ⟨g, rfl, cb, hG, hB, hg, hcb⟩; dsimp only))
  have K := newKW hG hB hg hcb
  clear hnew hG hB hg hcb
  have h := write_c K.at_ 1 24346 (v := 10) (by unfold U64; decide)
  rw [kn1] at h
  replace h : Calls Try.prog 14 #[ptr g 0, vI 1, vI 24346, vU 10] w1 fun e w' => e = .returned (vI 0) ∧ TT g cb 2 k1 w1 w' := h
  go_upto_region 5 with (first | (go_at_call 14; refine h.mono ?_; rintro e w2 ⟨rfl, hT⟩; dsimp only))
  clear h
  replace K := K.tt hT
  clear hT
  have h := write_c K.at_ 1 24345 (v := 1) (by unfold U64; decide)
  rw [kn2] at h
  replace h : Calls Try.prog 14 #[ptr g 0, vI 1, vI 24345, vU 1] w2 fun e w' => e = .returned (vI 0) ∧ TT g cb 2 k2 w2 w' := h
  go_upto_region 6 with (first | (go_at_call 14; refine h.mono ?_; rintro e w3 ⟨rfl, hT⟩; dsimp only))
  clear h
  replace K := K.tt hT
  clear hT
  have h := thigh_c K.at_ 1
  rw [kn3] at h
  go_upto_region 7 with (first | (go_at_call 17; refine h.mono ?_; rintro e w4 ⟨rfl, hT⟩; dsimp only))
  clear h
  replace K := K.grow hT
  clear hT
  have h := next_c K.at_
  rw [kn4, kn5, kn6] at h
  go_upto_region 8 with (first | (go_at_call 18; refine h.mono ?_; rintro e w5 ⟨rfl, hT⟩; dsimp only))
  clear h
  replace K := K.grow hT
  clear hT
  have h := tick_c K.at_ 10
  replace h : Calls Try.prog 15 #[ptr g 0, vU 10] w5 fun e w' => e = .returned (.tuple #[]) ∧ TT g cb 2 k3 w5 w' := h
  go_upto_region 9 with (first | (go_at_call 15; refine h.mono ?_; rintro e w6 ⟨rfl, hT⟩; dsimp only))
  clear h
  replace K := K.tt hT
  clear hT
  have h := read_c K.at_ 1 24345
  rw [kn7, kn8] at h
  go_upto_region 10 with (first | (go_at_call 11; refine h.mono ?_; rintro e w7 ⟨rfl, hT⟩; dsimp only))
  clear h
  replace K := K.grow hT
  clear hT
  have h := thigh_c K.at_ 1
  rw [kn9] at h
  go_wp2_with (first | (go_at_call 17; refine h.mono ?_; rintro e w8 ⟨rfl, hT⟩; dsimp only; replace K := K.grow hT; clear hT h; have h := count_c K.at_; rw [kn10] at h) | (go_at_call 20; refine h.mono ?_; rintro e w9 ⟨rfl, rfl⟩; dsimp only))
  go_ret
  exact ⟨rfl, K.below⟩
end Go.Proofs.Ytebkpmplhpebbaa
