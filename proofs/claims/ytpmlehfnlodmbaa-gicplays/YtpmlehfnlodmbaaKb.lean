/- The chapter's example, walked. -/
import Derived.Test.YtpmlehfnlodmbaaKa
namespace Go.Proofs.Ytpmlehfnlodmbaa
open Go.RowKit
set_option linter.unusedVariables false
set_option linter.unusedSimpArgs false
set_option maxRecDepth 8000

/-- A controller that lies beyond B. -/
structure KW (B : Nat) (w0 : World) (g n : Nat) (P : Pg) (L : GLay) (w : World) : Prop where
  at_ : GicAt g n P L w
  foot : ∀ k, GFoot g n L k → B ≤ k
  below : Below B w0 w
  le : B ≤ w0.heap.size
theorem KW.grow {B : Nat} {w0 : World} {g n : Nat} {P : Pg} {L : GLay} {w w' : World} (H : KW B w0 g n P L w) (hb : Below w.heap.size w w') : KW B w0 g n P L w' := ⟨H.at_.grow hb, H.foot, H.below.trans (hb.mono (Nat.le_trans H.le H.below.size)), H.le⟩
theorem KW.gt {B : Nat} {w0 : World} {g n : Nat} {P Q : Pg} {L : GLay} {w w' : World} (H : KW B w0 g n P L w) (h : GT g n L Q w w') : KW B w0 g n Q L w' := ⟨h.1, H.foot, H.below.trans (h.2.below (Nat.le_trans H.le H.below.size) H.foot), H.le⟩
theorem KW.gtl {B : Nat} {w0 : World} {g n : Nat} {P Q : Pg} {L : GLay} {w w' : World} (H : KW B w0 g n P L w) (h : GTL g n L Q w w') : ∃ L', KW B w0 g n Q L' w' := by
  obtain ⟨L', h1, h2, h3⟩ := h
  exact ⟨L', h1, fun k hk => (h3 k hk).elim (H.foot k) fun h => Nat.le_trans (Nat.le_trans H.le H.below.size) h, H.below.trans (h2.below (Nat.le_trans H.le H.below.size) H.foot), H.le⟩
theorem newKW {g n : Nat} {w w' : World} (h : Gi g n newP (fun k => w.heap.size ≤ k) w') (hb : Below w.heap.size w w') : ∃ L, KW w.heap.size w g n newP L w' := by
  obtain ⟨L, h1, h2⟩ := h
  exact ⟨L, h1, h2, hb, Nat.le_refl _⟩
theorem known_c (w : World) : Calls Try.prog 9 #[] w fun e w' => e = .returned (.bool true) ∧ Below w.heap.size w w' := by
  have hnew := new_c 2 (by decide) (by decide) w
  go_enter Try.func9, Try.ntmps9
  go_upto_region 4 with (first | (go_at_call 10; refine hnew.mono ?_; rintro e w1 ⟨g, rfl, hG, hB, hg⟩; dsimp only))
  obtain ⟨L, K⟩ := newKW hG hB
  clear hnew hG hB hg
  have h := gsend_c K.at_ 2 3
  rw [kn1] at h
  replace h : Calls Try.prog 29 #[ptr g 0, vI 2, vI 3] w1 fun e w' => e = .returned (vI 0) ∧ GT g 2 L k1 w1 w' := h
  go_upto_region 5 with (first | (go_at_call 29; refine h.mono ?_; rintro e w2 ⟨rfl, hT⟩; dsimp only))
  clear h
  replace K := K.gt hT
  clear hT
  have h := gbest_c K.at_ 1
  rw [kn2] at h
  go_upto_region 6 with (first | (go_at_call 23; refine h.mono ?_; rintro e w3 ⟨rfl, hT⟩; dsimp only))
  clear h
  replace K := K.grow hT
  clear hT
  have h := genable_c K.at_ 1 3 true
  rw [kn3] at h
  replace h : Calls Try.prog 26 #[ptr g 0, vI 1, vI 3, .bool true] w3 fun e w' => e = .returned (vI 0) ∧ GT g 2 L k2 w3 w' := h
  go_upto_region 7 with (first | (go_at_call 26; refine h.mono ?_; rintro e w4 ⟨rfl, hT⟩; dsimp only))
  clear h
  replace K := K.gt hT
  clear hT
  have h := gbest_c K.at_ 1
  rw [kn4, kn5] at h
  go_upto_region 8 with (first | (go_at_call 23; refine h.mono ?_; rintro e w5 ⟨rfl, hT⟩; dsimp only))
  clear h
  replace K := K.grow hT
  clear hT
  have h := gbest_c K.at_ 0
  rw [kn6] at h
  go_upto_region 9 with (first | (go_at_call 23; refine h.mono ?_; rintro e w6 ⟨rfl, hT⟩; dsimp only))
  clear h
  replace K := K.grow hT
  clear hT
  have h := gack_c K.at_ 1 kl2
  rw [kn7] at h
  go_upto_region 10 with (first | (go_at_call 24; refine h.mono ?_; rintro e w7 ⟨rfl, hT⟩; dsimp only))
  clear h
  obtain ⟨L2, K2⟩ := K.gtl hT
  replace K2 : KW w.heap.size w g 2 k3 L2 w7 := K2
  clear hT K
  have h := active_c K2.at_ 1 3
  rw [kn8] at h
  go_upto_region 11 with (first | (go_at_call 21; refine h.mono ?_; rintro e w8 ⟨rfl, hT⟩; dsimp only))
  clear h
  replace K2 := K2.grow hT
  clear hT
  have h := grun_c K2.at_ 1
  rw [kn9] at h
  go_upto_region 12 with (first | (go_at_call 17; refine h.mono ?_; rintro e w9 ⟨rfl, hT⟩; dsimp only))
  clear h
  replace K2 := K2.grow hT
  clear hT
  have h := gack_c K2.at_ 1 kl3
  rw [kn10] at h
  go_upto_region 13 with (first | (go_at_call 24; refine h.mono ?_; rintro e w10 ⟨rfl, hT⟩; dsimp only))
  clear h
  obtain ⟨L3, K3⟩ := K2.gtl hT
  replace K3 : KW w.heap.size w g 2 k4 L3 w10 := K3
  clear hT K2
  have h := geoi_c K3.at_ 1 3
  rw [kn11, kn12] at h
  go_upto_region 14 with (first | (go_at_call 28; refine h.mono ?_; rintro e w11 ⟨rfl, hT⟩; dsimp only))
  clear h
  obtain ⟨L4, K4⟩ := K3.gtl hT
  replace K4 : KW w.heap.size w g 2 k5 L4 w11 := K4
  clear hT K3
  have h := grun_c K4.at_ 1
  rw [kn13] at h
  go_wp2_with (first | (go_at_call 17; refine h.mono ?_; rintro e w12 ⟨rfl, hT⟩; dsimp only))
  go_ret
  exact ⟨rfl, (K4.grow hT).below⟩
end Go.Proofs.Ytpmlehfnlodmbaa
