/- A list of registers that the call owns, and whether a number is in it: the contract of 'in'. -/
import Derived.Test.YtmbefmmnkfoneaaDoorOrdP
import Derived.Test.YtmbefmmnkfoneaaDoorStrs
import Derived.Laws.OwnMore
namespace Go.Proofs.YtmbefmmnkfoneaaDoor
open Go.RowKit Go.Rel

abbrev RowI (base : Nat) (L : List Nat) (v : Value) (w : World) : Prop := w.ownsRow base 3 1 v L.length (L.map fun (j : Nat) => vI (j : Int))
theorem rowI_up (base : Nat) (L : List Nat) (v : Value) : Up Grows (RowI base L v) := fun _ _ h hb => own_grow h hb
theorem rowI_some {base : Nat} {L : List Nat} {v : Value} {w : World} (h : RowI base L v w) {j : Nat} (hj : j < L.length) : ∃ g cap, v = .slice (some ⟨g, 0, none⟩) L.length cap := by
  rcases h.2 with ⟨-, h0⟩ | ⟨g, cap, cur, hv, -⟩
  · omega
  · exact ⟨g, cap, hv⟩
theorem rowI_cell {base : Nat} {L : List Nat} {g cap : Nat} {w : World} (h : RowI base L (.slice (some ⟨g, 0, none⟩) L.length cap) w) {j : Nat} (hj : j < L.length) : w.cell? ⟨g, j, none⟩ = some (vI (L[j] : Int)) := by
  rw [World.ownsRow.cellAt h j (by omega)]
  simp [hj]
theorem rowI_len {base : Nat} {L : List Nat} {v : Value} {w : World} (h : RowI base L v w) : ∃ a cap, v = .slice a L.length cap := by
  rcases h.2 with ⟨hv, h0⟩ | ⟨g, cap, cur, hv, -⟩
  · exact ⟨none, 0, by rw [h0]; exact hv⟩
  · exact ⟨_, cap, hv⟩

set_option maxHeartbeats 1000000 in
theorem in_c (base : Nat) (L : List Nat) (v : Value) (n x : Nat) (w : World) (h : RowI base L v w) (hL : L.length ≤ 32) (hx : x < L.length) (hn : L[x] = n) :
    Calls Tryd.prog 9 #[v, vI (n : Int)] w fun e w' => e = .returned (.bool true) ∧ w' = w := by
  obtain ⟨g, cap, rfl⟩ := rowI_some h hx
  have hc : Hid (∀ j (hj : j < L.length), w.cell? ⟨g, j, none⟩ = some (vI (L[j] : Int))) := fun j hj => rowI_cell h hj
  have hX : Hid (L[x] = n) := hn
  clear h hn
  go_enter Tryd.func9, Tryd.ntmps9
  go_wp2
  go_loop [5] (fun s5 => ∃ k : Nat, k ≤ x ∧ s5 = .int .i64 k) (fun s5 => L.length - (intOf s5).toNat)
  case atStart => exact ⟨0, by omega, rfl⟩
  case round =>
    obtain ⟨k, hk, rfl⟩ := hrel
    have hkl : k < L.length := by omega
    have hlt : (k : Int) < (L.length : Int) := by omega
    have hcell := hc.out k hkl
    by_cases he : L[k] = n
    · have d1 : ((L[k] : Int) == (n : Int)) = true := by simp [he]
      clear he
      go_wp2
      go_ret
      exact ⟨rfl, rfl⟩
    · have hne : k ≠ x := fun e => he (by subst e; exact hX.out)
      have d1 : ((L[k] : Int) == (n : Int)) = false := by simpa using fun e : (L[k] : Int) = n => he (by omega)
      clear he
      go_wp2
      go_round
      case rel => exact ⟨k + 1, by omega, by go_num⟩
      case measure => simp [intOf]; omega
end Go.Proofs.YtmbefmmnkfoneaaDoor
