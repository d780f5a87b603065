/- The document's own controller turned: Route, Set. -/
import Derived.Test.YtpmlehfnlodmbaaGc
namespace Go.Proofs.Ytpmlehfnlodmbaa.Doc
open Go.RowKit
set_option linter.unusedVariables false
set_option linter.unusedSimpArgs false

def routeE (n : Nat) (id core : Int) : Int := if rbadB n core id = true ∨ id < 32 then 1 else 0
def Ref.get (X : Ref) (r k : Nat) : In8 := ((X.rows r)[k]?).getD ⟨false, false, false, false, 0, 0, 0, 0⟩
def routeR (X : Ref) (n : Nat) (id core : Int) : Ref := if routeE n id core = 0 then X.put n (posK id) { X.get n (posK id) with core := core } else X
theorem RefAt.in8g {h n : Nat} {X : Ref} {L : RLay} {w : World} (H : RefAt h n X L w) {r k : Nat} (hr : r ≤ n) (hk : k < 32) : (X.rows r)[k]? = some (X.get r k) := by
  obtain ⟨s, hs⟩ := H.in8 hr hk
  rw [Ref.get, hs]; rfl
set_option maxRecDepth 4000 in
theorem route_c {h n : Nat} {X : Ref} {L : RLay} {w : World} (H : RefAt h n X L w) (id core : Int) : Calls Try.prog 34 #[ptr h 0, vI id, vI core] w fun e w' => e = .returned (vI (routeE n id core)) ∧ RTurn h n L (routeR X n id core) w w' := by
  cases hb : rbadB n core id with
  | true =>
    have e0 : routeE n id core = 1 := if_pos (.inl hb)
    rw [routeR, e0, if_neg (by decide)]
    go_enter Try.func34, Try.ntmps34
    go_wp2_with (go_at_call 41; refine (rbad_c H core id).mono ?_; rintro e w' ⟨rfl, rfl⟩; dsimp only; rw [hb])
    go_ret
    exact ⟨rfl, rturn_refl H⟩
  | false =>
    by_cases h1 : id < 32
    · have e0 : routeE n id core = 1 := if_pos (.inr h1)
      rw [routeR, e0, if_neg (by decide)]
      go_enter Try.func34, Try.ntmps34
      go_wp2_with (go_at_call 41; refine (rbad_c H core id).mono ?_; rintro e w' ⟨rfl, rfl⟩; dsimp only; rw [hb])
      go_ret
      exact ⟨rfl, rturn_refl H⟩
    · have e0 : routeE n id core = 0 := if_neg (by rw [hb]; rintro (h | h) <;> first | cases h | omega)
      rw [routeR, e0, if_pos rfl]
      obtain ⟨g1, g2, g3, g4⟩ := rbad_of hb
      obtain ⟨k, hk⟩ : ∃ k : Nat, id = 32 + (k : Int) := ⟨(id - 32).toNat, by omega⟩
      have ek : posK id = k := by rw [posK, if_pos (by omega)]; omega
      rw [ek]
      have w1 : IntKind.i64.wrap (id - 32) = k := by rw [IntKind.wrap_i64]; omega
      have k1 : (0 : Int) ≤ k := by omega
      have k2 : (k : Int) < 32 := by omega
      have hs := H.in8g (r := n) (k := k) (Nat.le_refl n) (by omega)
      generalize X.get n k = s at hs
      have z := H.at (Nat.le_refl n) hs 5 (by decide)
      replace z : w.cell? ⟨L.rb n, k * 8 + 5, none⟩ = some (vI s.core) := z
      have fz := H.fz (Nat.le_refl n) (k * 8 + 5)
      have hT := H.set (Nat.le_refl n) hs (s' := { s with core := core }) 5 (by decide) (v := vI core) rfl
      have c2 := H.c2
      replace hk := show Hid _ from hk
      clear hs ek
      go_enter Try.func34, Try.ntmps34
      go_wp2_with (go_at_call 41; refine (rbad_c H core id).mono ?_; rintro e w' ⟨rfl, rfl⟩; dsimp only; rw [hb])
      go_ret
      exact ⟨rfl, hT⟩
def In8.setW (s : In8) (what : Int) (on : Bool) (v : Int) : In8 := if what = 0 then { s with e := on } else if what = 1 then { s with l := on } else if what = 2 then { s with h := on } else { s with rank := v }
def setE (n : Nat) (what core id v : Int) : Int := if rbadB n core id = true ∨ what = 2 ∧ id < 16 ∨ what = 3 ∧ (v < 0 ∨ 255 < v) then 1 else 0
def setR (X : Ref) (n : Nat) (what core id : Int) (on : Bool) (v : Int) : Ref := if setE n what core id v = 0 then X.put (posR n core id) (posK id) ((X.get (posR n core id) (posK id)).setW what on v) else X
set_option maxRecDepth 4000 in
theorem set_0 {h n : Nat} {X : Ref} {L : RLay} {w : World} (H : RefAt h n X L w) (core id v : Int) (on : Bool) : Calls Try.prog 32 #[ptr h 0, vI 0, vI core, vI id, .bool on, vI v] w fun e w' => e = .returned (vI (setE n 0 core id v)) ∧ RTurn h n L (setR X n 0 core id on v) w w' := by
  cases hb : rbadB n core id with
  | true =>
    have e0 : setE n 0 core id v = 1 := if_pos (.inl hb)
    rw [setR, e0, if_neg (by decide)]
    go_enter Try.func32, Try.ntmps32
    go_wp2_with (go_at_call 41; refine (rbad_c H core id).mono ?_; rintro e w' ⟨rfl, rfl⟩; dsimp only; rw [hb])
    go_ret
    exact ⟨rfl, rturn_refl H⟩
  | false =>
    have e0 : setE n 0 core id v = 0 := if_neg (by rw [hb]; rintro (h | ⟨h, h'⟩ | ⟨h, h'⟩) <;> first | (cases h; done) | omega)
    rw [setR, e0, if_pos rfl]
    obtain ⟨hr, hk⟩ := pos_in hb
    have hs := H.in8g hr hk
    have hT := H.set hr hs (s' := (X.get (posR n core id) (posK id)).setW 0 on v) 0 (by decide) (v := .bool on) rfl
    have z := H.at hr hs 0 (by decide)
    generalize X.get (posR n core id) (posK id) = s at hs z hT ⊢
    replace z : w.cell? ⟨L.rb (posR n core id), posK id * 8 + 0, none⟩ = some (.bool s.e) := z
    have fz := H.fz hr (posK id * 8 + 0)
    clear hs
    rw [Nat.add_zero] at z fz hT
    generalize hR : posR n core id = r at z fz hT hr ⊢
    generalize hK : posK id = k at z fz hT hk ⊢
    replace hR := show Hid _ from hR
    replace hK := show Hid _ from hK
    go_enter Try.func32, Try.ntmps32
    go_wp2_with (first | (go_at_call 41; refine (rbad_c H core id).mono ?_; rintro e w' ⟨rfl, rfl⟩; dsimp only; rw [hb]) | (go_at_call 44; refine (of_c H core id hb).mono ?_; rintro e w' ⟨rfl, rfl⟩; dsimp only; rw [hR.out, hK.out]))
    go_ret
    exact ⟨rfl, hT⟩
set_option maxRecDepth 4000 in
theorem set_1 {h n : Nat} {X : Ref} {L : RLay} {w : World} (H : RefAt h n X L w) (core id v : Int) (on : Bool) : Calls Try.prog 32 #[ptr h 0, vI 1, vI core, vI id, .bool on, vI v] w fun e w' => e = .returned (vI (setE n 1 core id v)) ∧ RTurn h n L (setR X n 1 core id on v) w w' := by
  cases hb : rbadB n core id with
  | true =>
    have e0 : setE n 1 core id v = 1 := if_pos (.inl hb)
    rw [setR, e0, if_neg (by decide)]
    go_enter Try.func32, Try.ntmps32
    go_wp2_with (go_at_call 41; refine (rbad_c H core id).mono ?_; rintro e w' ⟨rfl, rfl⟩; dsimp only; rw [hb])
    go_ret
    exact ⟨rfl, rturn_refl H⟩
  | false =>
    have e0 : setE n 1 core id v = 0 := if_neg (by rw [hb]; rintro (h | ⟨h, h'⟩ | ⟨h, h'⟩) <;> first | (cases h; done) | omega)
    rw [setR, e0, if_pos rfl]
    obtain ⟨hr, hk⟩ := pos_in hb
    have hs := H.in8g hr hk
    have hT := H.set hr hs (s' := (X.get (posR n core id) (posK id)).setW 1 on v) 1 (by decide) (v := .bool on) rfl
    have z := H.at hr hs 1 (by decide)
    generalize X.get (posR n core id) (posK id) = s at hs z hT ⊢
    replace z : w.cell? ⟨L.rb (posR n core id), posK id * 8 + 1, none⟩ = some (.bool s.l) := z
    have fz := H.fz hr (posK id * 8 + 1)
    clear hs
    generalize hR : posR n core id = r at z fz hT hr ⊢
    generalize hK : posK id = k at z fz hT hk ⊢
    replace hR := show Hid _ from hR
    replace hK := show Hid _ from hK
    go_enter Try.func32, Try.ntmps32
    go_wp2_with (first | (go_at_call 41; refine (rbad_c H core id).mono ?_; rintro e w' ⟨rfl, rfl⟩; dsimp only; rw [hb]) | (go_at_call 44; refine (of_c H core id hb).mono ?_; rintro e w' ⟨rfl, rfl⟩; dsimp only; rw [hR.out, hK.out]))
    go_ret
    exact ⟨rfl, hT⟩
set_option maxRecDepth 4000 in
theorem set_2 {h n : Nat} {X : Ref} {L : RLay} {w : World} (H : RefAt h n X L w) (core id v : Int) (on : Bool) : Calls Try.prog 32 #[ptr h 0, vI 2, vI core, vI id, .bool on, vI v] w fun e w' => e = .returned (vI (setE n 2 core id v)) ∧ RTurn h n L (setR X n 2 core id on v) w w' := by
  cases hb : rbadB n core id with
  | true =>
    have e0 : setE n 2 core id v = 1 := if_pos (.inl hb)
    rw [setR, e0, if_neg (by decide)]
    go_enter Try.func32, Try.ntmps32
    go_wp2_with (go_at_call 41; refine (rbad_c H core id).mono ?_; rintro e w' ⟨rfl, rfl⟩; dsimp only; rw [hb])
    go_ret
    exact ⟨rfl, rturn_refl H⟩
  | false =>
    by_cases h1 : id < 16
    · have e0 : setE n 2 core id v = 1 := if_pos (.inr (.inl ⟨rfl, h1⟩))
      rw [setR, e0, if_neg (by decide)]
      go_enter Try.func32, Try.ntmps32
      go_wp2_with (go_at_call 41; refine (rbad_c H core id).mono ?_; rintro e w' ⟨rfl, rfl⟩; dsimp only; rw [hb])
      go_ret
      exact ⟨rfl, rturn_refl H⟩
    · have e0 : setE n 2 core id v = 0 := if_neg (by rw [hb]; rintro (h | ⟨h, h'⟩ | ⟨h, h'⟩) <;> first | (cases h; done) | omega)
      rw [setR, e0, if_pos rfl]
      obtain ⟨hr, hk⟩ := pos_in hb
      have hs := H.in8g hr hk
      have hT := H.set hr hs (s' := (X.get (posR n core id) (posK id)).setW 2 on v) 2 (by decide) (v := .bool on) rfl
      have z := H.at hr hs 2 (by decide)
      generalize X.get (posR n core id) (posK id) = s at hs z hT ⊢
      replace z : w.cell? ⟨L.rb (posR n core id), posK id * 8 + 2, none⟩ = some (.bool s.h) := z
      have fz := H.fz hr (posK id * 8 + 2)
      clear hs
      generalize hR : posR n core id = r at z fz hT hr ⊢
      generalize hK : posK id = k at z fz hT hk ⊢
      replace hR := show Hid _ from hR
      replace hK := show Hid _ from hK
      go_enter Try.func32, Try.ntmps32
      go_wp2_with (first | (go_at_call 41; refine (rbad_c H core id).mono ?_; rintro e w' ⟨rfl, rfl⟩; dsimp only; rw [hb]) | (go_at_call 44; refine (of_c H core id hb).mono ?_; rintro e w' ⟨rfl, rfl⟩; dsimp only; rw [hR.out, hK.out]))
      go_ret
      exact ⟨rfl, hT⟩
set_option maxRecDepth 4000 in
theorem set_3 {h n : Nat} {X : Ref} {L : RLay} {w : World} (H : RefAt h n X L w) (core id v : Int) (on : Bool) : Calls Try.prog 32 #[ptr h 0, vI 3, vI core, vI id, .bool on, vI v] w fun e w' => e = .returned (vI (setE n 3 core id v)) ∧ RTurn h n L (setR X n 3 core id on v) w w' := by
  cases hb : rbadB n core id with
  | true =>
    have e0 : setE n 3 core id v = 1 := if_pos (.inl hb)
    rw [setR, e0, if_neg (by decide)]
    go_enter Try.func32, Try.ntmps32
    go_wp2_with (go_at_call 41; refine (rbad_c H core id).mono ?_; rintro e w' ⟨rfl, rfl⟩; dsimp only; rw [hb])
    go_ret
    exact ⟨rfl, rturn_refl H⟩
  | false =>
    by_cases h1 : v < 0
    · have e0 : setE n 3 core id v = 1 := if_pos (.inr (.inr ⟨rfl, .inl h1⟩))
      rw [setR, e0, if_neg (by decide)]
      go_enter Try.func32, Try.ntmps32
      go_wp2_with (go_at_call 41; refine (rbad_c H core id).mono ?_; rintro e w' ⟨rfl, rfl⟩; dsimp only; rw [hb])
      go_ret
      exact ⟨rfl, rturn_refl H⟩
    · by_cases h2 : 255 < v
      · have e0 : setE n 3 core id v = 1 := if_pos (.inr (.inr ⟨rfl, .inr h2⟩))
        rw [setR, e0, if_neg (by decide)]
        go_enter Try.func32, Try.ntmps32
        go_wp2_with (go_at_call 41; refine (rbad_c H core id).mono ?_; rintro e w' ⟨rfl, rfl⟩; dsimp only; rw [hb])
        go_ret
        exact ⟨rfl, rturn_refl H⟩
      · have e0 : setE n 3 core id v = 0 := if_neg (by rw [hb]; rintro (h | ⟨h, h'⟩ | ⟨h, h'⟩) <;> first | (cases h; done) | omega)
        rw [setR, e0, if_pos rfl]
        obtain ⟨hr, hk⟩ := pos_in hb
        have hs := H.in8g hr hk
        have hT := H.set hr hs (s' := (X.get (posR n core id) (posK id)).setW 3 on v) 4 (by decide) (v := vI v) rfl
        have z := H.at hr hs 4 (by decide)
        generalize X.get (posR n core id) (posK id) = s at hs z hT ⊢
        replace z : w.cell? ⟨L.rb (posR n core id), posK id * 8 + 4, none⟩ = some (vI s.rank) := z
        have fz := H.fz hr (posK id * 8 + 4)
        clear hs
        generalize hR : posR n core id = r at z fz hT hr ⊢
        generalize hK : posK id = k at z fz hT hk ⊢
        replace hR := show Hid _ from hR
        replace hK := show Hid _ from hK
        go_enter Try.func32, Try.ntmps32
        go_wp2_with (first | (go_at_call 41; refine (rbad_c H core id).mono ?_; rintro e w' ⟨rfl, rfl⟩; dsimp only; rw [hb]) | (go_at_call 44; refine (of_c H core id hb).mono ?_; rintro e w' ⟨rfl, rfl⟩; dsimp only; rw [hR.out, hK.out]))
        go_ret
        exact ⟨rfl, hT⟩
end Go.Proofs.Ytpmlehfnlodmbaa.Doc
