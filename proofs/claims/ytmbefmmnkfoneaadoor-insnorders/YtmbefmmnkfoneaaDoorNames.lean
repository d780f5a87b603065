/- Registers, numbers, masks and shifts, as package insn writes them: contracts. -/
import Derived.Test.YtmbefmmnkfoneaaDoorLeafs
namespace Go.Proofs.YtmbefmmnkfoneaaDoor
open Go.RowKit Go.Rel

theorem itoa_le {n : Int} (h0 : -9223372036854775808 ≤ n) (h1 : n ≤ 9223372036854775807) : (Lib.itoa n).length ≤ 21 := Lib.itoa_length_le n h0 h1

set_option maxRecDepth 4000 in
set_option maxHeartbeats 400000 in
theorem number_c (n : Int) (h0 : -9223372036854775808 ≤ n) (h1 : n ≤ 9223372036854775807) (w : World) (T : Tab w) :
    Calls Tryd.prog 40 #[vI n] w fun e w' => e = .returned (strV (numT n)) ∧ Below w.heap.size w w' := by
  have hl := itoa_le h0 h1
  have H0 : Hid (-9223372036854775808 ≤ n) := h0
  have H1 : Hid (n ≤ 9223372036854775807) := h1
  clear h0 h1
  go_enter Tryd.func40, Tryd.ntmps40
  go_wp2_with (go_at_call 57; refine (itoa_c n H0.out H1.out _ T).mono ?_; rintro e w' ⟨rfl, hb⟩)
  go_ret
  exact ⟨congrArg Ending.returned (congrArg Value.string (str_app [35] _)), hb⟩

set_option maxRecDepth 4000 in
set_option maxHeartbeats 400000 in
theorem name_c (n : Int) (sp : Bool) (h0 : 0 ≤ n) (h1 : n ≤ 31) (w : World) (T : Tab w) :
    Calls Tryd.prog 37 #[vI n, .bool sp] w fun e w' => e = .returned (strV (regT n sp)) ∧ Below w.heap.size w w' := by
  have hl := itoa_le (n := n) (by omega) (by omega)
  have H0 : Hid (-9223372036854775808 ≤ n) := by show _ ≤ _; omega
  have H1 : Hid (n ≤ 9223372036854775807) := by show _ ≤ _; omega
  clear h0 h1
  cases h31 : n == 31
  · have hR : Hid (regT n sp = 120 :: Lib.itoa n) := by show _ = _; unfold regT; rw [h31]; rfl
    go_enter Tryd.func37, Tryd.ntmps37
    go_wp2_with (go_at_call 57; refine (itoa_c n H0.out H1.out _ T).mono ?_; rintro e w' ⟨rfl, hb⟩)
    go_ret
    rw [hR.out]
    exact ⟨congrArg Ending.returned (congrArg Value.string (str_app [120] _)), hb⟩
  · obtain rfl := eq_of_beq h31
    clear hl H0 H1 h31
    cases sp
    all_goals
      go_enter Tryd.func37, Tryd.ntmps37
      go_wp2
      go_ret
      exact ⟨rfl, Below.refl _ _⟩
end Go.Proofs.YtmbefmmnkfoneaaDoor
