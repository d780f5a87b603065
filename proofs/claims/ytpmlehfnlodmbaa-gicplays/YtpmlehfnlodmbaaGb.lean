/- The document's own controller: Bad, Of, Pending. -/
import Derived.Test.YtpmlehfnlodmbaaGa
namespace Go.Proofs.Ytpmlehfnlodmbaa.Doc
open Go.RowKit
set_option linter.unusedVariables false
set_option linter.unusedSimpArgs false

def rbadB (n : Nat) (core id : Int) : Bool := decide (core < 0) || decide ((n : Int) ≤ core) || decide (id < 0) || decide (63 < id)
theorem rbad_of {n : Nat} {core id : Int} (h : rbadB n core id = false) : 0 ≤ core ∧ core < n ∧ 0 ≤ id ∧ id ≤ 63 := by
  simp only [rbadB, Bool.or_eq_false_iff, decide_eq_false_iff_not] at h
  omega
theorem rbad_c {h n : Nat} {X : Ref} {L : RLay} {w : World} (H : RefAt h n X L w) (core id : Int) : Calls Try.prog 41 #[ptr h 0, vI core, vI id] w fun e w' => e = .returned (.bool (rbadB n core id)) ∧ w' = w := by
  have c0 := H.c0
  clear H
  unfold rbadB
  by_cases h1 : core < 0
  · rw [decide_eq_true h1]
    go_enter Try.func41, Try.ntmps41
    go_wp2
    go_ret
    exact ⟨rfl, rfl⟩
  · rw [decide_eq_false h1]
    by_cases h2 : (n : Int) ≤ core
    · rw [decide_eq_true h2]
      go_enter Try.func41, Try.ntmps41
      go_wp2
      go_ret
      exact ⟨rfl, rfl⟩
    · rw [decide_eq_false h2]
      by_cases h3 : id < 0
      · rw [decide_eq_true h3]
        go_enter Try.func41, Try.ntmps41
        go_wp2
        go_ret
        exact ⟨rfl, rfl⟩
      · rw [decide_eq_false h3]
        by_cases h4 : 63 < id
        · rw [decide_eq_true h4]
          go_enter Try.func41, Try.ntmps41
          go_wp2
          go_ret
          exact ⟨rfl, rfl⟩
        · rw [decide_eq_false h4]
          go_enter Try.func41, Try.ntmps41
          go_wp2
          go_ret
          exact ⟨rfl, rfl⟩
/-- Where an interrupt stands. -/
def posR (n : Nat) (core id : Int) : Nat := if 32 ≤ id then n else core.toNat
def posK (id : Int) : Nat := if 32 ≤ id then (id - 32).toNat else id.toNat
theorem pos_in {n : Nat} {core id : Int} (h : rbadB n core id = false) : posR n core id ≤ n ∧ posK id < 32 := by
  obtain ⟨h1, h2, h3, h4⟩ := rbad_of h
  unfold posR posK
  split <;> omega
set_option maxRecDepth 4000 in
theorem of_c {h n : Nat} {X : Ref} {L : RLay} {w : World} (H : RefAt h n X L w) (core id : Int) (hb : rbadB n core id = false) : Calls Try.prog 44 #[ptr h 0, vI core, vI id] w fun e w' => e = .returned (ptr (L.rb (posR n core id)) (posK id * 8)) ∧ w' = w := by
  obtain ⟨h1, h2, h3, h4⟩ := rbad_of hb
  unfold posR posK
  by_cases h5 : 32 ≤ id
  · rw [if_pos h5, if_pos h5]
    obtain ⟨k, rfl⟩ : ∃ k : Nat, id = 32 + (k : Int) := ⟨(id - 32).toNat, by omega⟩
    have e1 : (32 + (k : Int) - 32).toNat = k := by omega
    have w1 : IntKind.i64.wrap (32 + (k : Int) - 32) = k := by rw [IntKind.wrap_i64]; omega
    have k1 : (0 : Int) ≤ k := by omega
    have k2 : (k : Int) < 32 := by omega
    have c2 := H.c2
    rw [e1]
    clear H
    go_enter Try.func44, Try.ntmps44
    go_wp2
    go_ret
    exact ⟨rfl, rfl⟩
  · rw [if_neg h5, if_neg h5]
    obtain ⟨k, rfl⟩ : ∃ k : Nat, id = (k : Int) := ⟨id.toNat, by omega⟩
    obtain ⟨c, rfl⟩ : ∃ c : Nat, core = (c : Int) := ⟨core.toNat, by omega⟩
    rw [Int.toNat_natCast, Int.toNat_natCast]
    have k2 : (k : Int) < 32 := by omega
    obtain ⟨b, cap, eo, _, _, _, hcell, _⟩ := own_addr H.own (by omega)
    have z := hcell c (by omega)
    rw [List.getElem?_map, List.getElem?_range (by omega)] at z
    replace z : w.cell? ⟨b, c, none⟩ = some (.slice (some ⟨L.rb c, 0, none⟩) 32 (L.rc c)) := z
    have c1 := H.c1
    rw [eo] at c1
    clear H hcell eo
    go_enter Try.func44, Try.ntmps44
    go_wp2
    go_ret
    exact ⟨rfl, rfl⟩
theorem pend_c {b o : Nat} {l hi : Bool} {w : World} (hl : w.cell? ⟨b, o + 1, none⟩ = some (.bool l)) (hh : w.cell? ⟨b, o + 2, none⟩ = some (.bool hi)) : Calls Try.prog 45 #[ptr b o] w fun e w' => e = .returned (.bool (l || hi)) ∧ w' = w := by
  cases l
  · go_enter Try.func45, Try.ntmps45
    go_wp2
    go_ret
    exact ⟨rfl, rfl⟩
  · go_enter Try.func45, Try.ntmps45
    go_wp2
    go_ret
    exact ⟨rfl, rfl⟩
end Go.Proofs.Ytpmlehfnlodmbaa.Doc
