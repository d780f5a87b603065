/- pick, made, play. -/
import Derived.Test.YtjkjbcnafpljoabKn
namespace Go.Proofs.Ytjkjbcnafpljoab
open Go.RowKit
set_option linter.unusedVariables false
set_option linter.unusedSimpArgs false

def pickV (c n : Int) : Int := (if c < 0 then -(c + 1) else c) % n
def I64 (n : Int) : Prop := -9223372036854775808 ≤ n ∧ n ≤ 9223372036854775807
theorem pick_in (c : Int) {n : Int} (hn : 0 < n) : 0 ≤ pickV c n ∧ pickV c n < n := ⟨Int.emod_nonneg _ (by omega), Int.emod_lt_of_pos _ hn⟩
theorem pick_c (c n : Int) (w : World) (hc : I64 c) (hn : 0 < n) (hn2 : n < 1000000) : Calls Try.prog 11 #[vI c, vI n] w fun e w' => e = .returned (vI (pickV c n)) ∧ w' = w := by
  have h1 := hc.1
  have h2 := hc.2
  have hn0 : ¬ n = 0 := by omega
  unfold pickV
  by_cases h : c < 0
  · rw [if_pos h]
    have e1 : IntKind.i64.wrap (c + 1) = c + 1 := by rw [IntKind.wrap_i64]; omega
    have e2 : IntKind.i64.wrap (-(c + 1)) = -(c + 1) := by rw [IntKind.wrap_i64]; omega
    have hm : (-(c + 1)).tmod n = (-(c + 1)) % n := Int.tmod_eq_emod_of_nonneg (by omega)
    have e3 : IntKind.i64.wrap ((-(c + 1)) % n) = (-(c + 1)) % n := by
      have := Int.emod_nonneg (-(c + 1)) hn0
      have := Int.emod_lt_of_pos (-(c + 1)) hn
      rw [IntKind.wrap_i64]; omega
    have key : -((c + 1).tmod n) = (-(c + 1)) % n := by rw [← Int.neg_tmod]; exact hm
    clear hm e3
    go_enter Try.func11, Try.ntmps11
    go_wp2
    go_ret
    exact ⟨rfl, rfl⟩
  · rw [if_neg h]
    have hm : c.tmod n = c % n := Int.tmod_eq_emod_of_nonneg (by omega)
    have e3 : IntKind.i64.wrap (c % n) = c % n := by
      have := Int.emod_nonneg c hn0
      have := Int.emod_lt_of_pos c hn
      rw [IntKind.wrap_i64]; omega
    go_enter Try.func11, Try.ntmps11
    go_wp2
    go_ret
    exact ⟨rfl, rfl⟩
theorem made_c (d : Int) (w : World) (h1 : 1 ≤ d) (h2 : d ≤ 32) : Calls Try.prog 12 #[vI d] w fun e w' => ∃ g, e = .returned (ptr g 0) ∧ LR w g (newS 4 3 d) [] w' := by
  have hB : newB ((4 : Nat) : Int) ((3 : Nat) : Int) d = true := by simp only [newB, Bool.and_eq_true, decide_eq_true_eq]; omega
  go_enter Try.func12, Try.ntmps12
  go_wp2_with (go_at_call 6; refine (new_l 4 3 d _ hB).mono ?_; rintro e w1 ⟨g, rfl, H⟩; dsimp only)
  go_ret
  exact ⟨g, rfl, H⟩
/-- A slice of numbers that came in. -/
structure Raw (w0 : World) (v : Value) (zs : List Int) : Prop where
  len : ∃ ao cap, v = .slice ao zs.length cap
  max : zs.length ≤ maxLen
  cell : 0 < zs.length → ∃ (ra : Addr) (cap : Nat), v = .slice (some ra) zs.length cap ∧ ∀ i x, zs[i]? = some x → (ra.add i).block < w0.heap.size ∧ w0.cell? (ra.add i) = some (vI x)
  wf : ∀ x ∈ zs, I64 x
def plStep (S : Sta) (i : Nat) (x : Int) : Sta := if pickV x 36 / 3 % 4 = 3 then drainS S (pickV x 36 % 3) else storeS S (pickV x 36 % 3) (8 * (pickV x 36 / 12)) (i + 1)
def plS (S : Sta) (zs : List Int) : Nat → Sta
  | 0 => S
  | i + 1 => plStep (plS S zs i) i (zs.getD i 0)
/-- What is kept of the sizes. -/
structure Szs (S T : Sta) : Prop where
  b : T.bufs.length = S.bufs.length
  w : T.words.length = S.words.length
  d : T.depth = S.depth
theorem store_szs (S : Sta) (core addr value : Int) : Szs S (storeS S core addr value) ∧ (storeS S core addr value).stamps.length ≤ S.stamps.length + 1 := by
  unfold storeS
  split
  · exact ⟨⟨by simp, rfl, rfl⟩, by simp⟩
  · exact ⟨⟨rfl, rfl, rfl⟩, by omega⟩
theorem drain_szs (S : Sta) (core : Int) : Szs S (drainS S core) ∧ (drainS S core).stamps.length = S.stamps.length := by
  have := drain_len S core
  refine ⟨⟨this.1, this.2.2, ?_⟩, this.2.1⟩
  unfold drainS
  split <;> rfl
theorem Szs.trans {S T U : Sta} (h : Szs S T) (k : Szs T U) : Szs S U := ⟨k.b.trans h.b, k.w.trans h.w, k.d.trans h.d⟩
theorem pl_ok {S : Sta} (O : S.Ok) (zs : List Int) (i : Nat) : (plS S zs i).Ok ∧ Szs S (plS S zs i) ∧ (plS S zs i).stamps.length ≤ S.stamps.length + i := by
  induction i with
  | zero => exact ⟨O, ⟨rfl, rfl, rfl⟩, Nat.le_refl _⟩
  | succ i ih =>
    obtain ⟨h1, h2, h3⟩ := ih
    rw [plS, plStep]
    have hp := pick_in (zs.getD i 0) (n := 36) (by decide)
    split
    · obtain ⟨k1, k2⟩ := drain_szs (plS S zs i) (pickV (zs.getD i 0) 36 % 3)
      exact ⟨h1.drain _, h2.trans k1, by omega⟩
    · obtain ⟨k1, k2⟩ := store_szs (plS S zs i) (pickV (zs.getD i 0) 36 % 3) (8 * (pickV (zs.getD i 0) 36 / 12)) (i + 1)
      exact ⟨h1.store _ _ _ (by omega), h2.trans k1, by omega⟩
theorem LR.nil {w0 w : World} {g : Nat} {S : Sta} {R : List (Value × List Lt)} (h : LR w0 g S R w) : LR w0 g S [] w := h.less fun _ h => by cases h
end Go.Proofs.Ytjkjbcnafpljoab
