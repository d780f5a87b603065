/- The document's own controller: Eoi. -/
import Derived.Test.YtpmlehfnlodmbaaGe
namespace Go.Proofs.Ytpmlehfnlodmbaa.Doc
open Go.RowKit
set_option linter.unusedVariables false
set_option linter.unusedSimpArgs false

theorem put_put (X : Ref) (r k : Nat) (s s' : In8) : (X.put r k s).put r k s' = X.put r k s' := by
  unfold Ref.put
  congr 1
  funext i
  by_cases e : i = r
  · simp [e, List.set_set]
  · simp [e]
theorem put_at {h n : Nat} {X : Ref} {L : RLay} {w : World} (H : RefAt h n X L w) {r k : Nat} (hr : r ≤ n) (hk : k < 32) (s : In8) : ((X.put r k s).rows r)[k]? = some s := by
  have := H.len r hr
  simp only [Ref.put, if_true]
  rw [List.getElem?_set_self (by omega)]
def eoiB (X : Ref) (n : Nat) (core id : Int) : Bool := !(rbadB n core id) && (X.get (posR n core id) (posK id)).a && decide ((X.get (posR n core id) (posK id)).own = core)
def eoiE (n : Nat) (core id : Int) : Int := if rbadB n core id = true then 1 else 0
def eoiR (X : Ref) (n : Nat) (core id : Int) : Ref := if eoiB X n core id = true then X.put (posR n core id) (posK id) { X.get (posR n core id) (posK id) with a := false, own := -1 } else X
set_option maxRecDepth 4000 in
theorem eoi_c {h n : Nat} {X : Ref} {L : RLay} {w : World} (H : RefAt h n X L w) (core id : Int) : Calls Try.prog 40 #[ptr h 0, vI core, vI id] w fun e w' => e = .returned (.tuple #[.bool (eoiB X n core id), vI (eoiE n core id)]) ∧ RTurn h n L (eoiR X n core id) w w' := by
  cases hb : rbadB n core id with
  | true =>
    have e0 : eoiB X n core id = false := by rw [eoiB, hb]; rfl
    have e1 : eoiE n core id = 1 := if_pos hb
    rw [eoiR, e0, e1, if_neg (by decide)]
    go_enter Try.func40, Try.ntmps40
    go_wp2_with (go_at_call 41; refine (rbad_c H core id).mono ?_; rintro e w' ⟨rfl, rfl⟩; dsimp only; rw [hb])
    go_ret2
    exact ⟨rfl, rturn_refl H⟩
  | false =>
    have e1 : eoiE n core id = 0 := if_neg (by rw [hb]; decide)
    have e0 : eoiB X n core id = ((X.get (posR n core id) (posK id)).a && decide ((X.get (posR n core id) (posK id)).own = core)) := by rw [eoiB, hb]; rfl
    rw [eoiR, e0, e1]
    clear e0 e1
    obtain ⟨hr, hk⟩ := pos_in hb
    have hs := H.in8g hr hk
    have z3 := H.at hr hs 3 (by decide)
    have z6 := H.at hr hs 6 (by decide)
    generalize X.get (posR n core id) (posK id) = s at hs z3 z6 ⊢
    generalize hR : posR n core id = r at z3 z6 hr hs ⊢
    generalize hK : posK id = k at z3 z6 hk hs ⊢
    replace hR := show Hid _ from hR
    replace hK := show Hid _ from hK
    replace z3 : w.cell? ⟨L.rb r, k * 8 + 3, none⟩ = some (.bool s.a) := z3
    replace z6 : w.cell? ⟨L.rb r, k * 8 + 6, none⟩ = some (vI s.own) := z6
    by_cases ha : s.a = true
    · rw [ha] at z3 ⊢
      by_cases ho : s.own = core
      · rw [decide_eq_true ho, Bool.and_true, if_pos rfl]
        rw [ho] at z6
        have fz3 := H.fz hr (k * 8 + 3)
        have hT := H.set hr hs (s' := { s with a := false }) 3 (by decide) (v := .bool false) rfl
        replace ho := show Hid _ from ho
        go_enter Try.func40, Try.ntmps40
        go_upto_region 8 with (first | (go_at_call 41; refine (rbad_c H core id).mono ?_; rintro e w' ⟨rfl, rfl⟩; dsimp only; rw [hb]) | (go_at_call 44; refine (of_c H core id hb).mono ?_; rintro e w' ⟨rfl, rfl⟩; dsimp only; rw [hR.out, hK.out]))
        generalize World.setCell _ _ _ = w1 at hT ⊢
        obtain ⟨H1, G1⟩ := hT
        have hs1 := put_at H hr hk { s with a := false }
        have y6 := H1.at hr hs1 6 (by decide)
        replace y6 : w1.cell? ⟨L.rb r, k * 8 + 6, none⟩ = some (vI s.own) := y6
        have fz6 := H1.fz hr (k * 8 + 6)
        have hT2 := H1.set hr hs1 (s' := { s with a := false, own := -1 }) 6 (by decide) (v := vI (-1)) rfl
        rw [put_put] at hT2
        clear z3 z6 fz3 hs hs1
        go_wp2
        go_ret2
        exact ⟨rfl, hT2.1, G1.trans hT2.2 fun _ _ e => e⟩
      · rw [decide_eq_false ho, Bool.and_false, if_neg (by decide)]
        go_enter Try.func40, Try.ntmps40
        go_wp2_with (first | (go_at_call 41; refine (rbad_c H core id).mono ?_; rintro e w' ⟨rfl, rfl⟩; dsimp only; rw [hb]) | (go_at_call 44; refine (of_c H core id hb).mono ?_; rintro e w' ⟨rfl, rfl⟩; dsimp only; rw [hR.out, hK.out]))
        go_ret2
        exact ⟨rfl, rturn_refl H⟩
    · replace ha : s.a = false := by simpa using ha
      rw [ha] at z3 ⊢
      rw [Bool.false_and, if_neg (by decide)]
      go_enter Try.func40, Try.ntmps40
      go_wp2_with (first | (go_at_call 41; refine (rbad_c H core id).mono ?_; rintro e w' ⟨rfl, rfl⟩; dsimp only; rw [hb]) | (go_at_call 44; refine (of_c H core id hb).mono ?_; rintro e w' ⟨rfl, rfl⟩; dsimp only; rw [hR.out, hK.out]))
      go_ret2
      exact ⟨rfl, rturn_refl H⟩
end Go.Proofs.Ytpmlehfnlodmbaa.Doc
