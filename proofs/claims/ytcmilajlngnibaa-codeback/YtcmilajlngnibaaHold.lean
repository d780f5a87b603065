/- What a span holds, and whether the numbers and signs of an instruction are in its room: contracts. -/
import Derived.Test.YtcmilajlngnibaaRoom
namespace Go.Proofs.Ytcmilajlngnibaa
open Go.RowKit Go.Rel


set_option maxHeartbeats 400000 in
theorem holds_c (lo hi st n : Int) (hs : Hid (st ≠ 0 ∨ (lo = 0 ∧ hi = 0))) (w : World) :
    Calls Try.prog 78 #[.agg #[vI lo, vI hi, vI st], vI n] w fun e w' => e = .returned (.bool (holdsB ⟨lo, hi, st⟩ n)) ∧ w' = w.alloc (.cells #[vI lo, vI hi, vI st] 54) := by
  by_cases h1 : lo ≤ n
  · by_cases h2 : n ≤ hi
    · by_cases h3 : (n == 0) = true
      · have hR : Hid (holdsB ⟨lo, hi, st⟩ n = true) := by show _ = _; simp [holdsB, h1, h2, h3]
        go_enter Try.func78, Try.ntmps78
        go_wp2
        go_ret
        exact ⟨ret_bool hR.out.symm, rfl⟩
      · have h3 : (n == 0) = false := by simpa using h3
        have h4 : ¬ st = 0 := by
          rcases hs.out with h | ⟨rfl, rfl⟩
          · exact h
          · have : n ≠ 0 := by simpa using h3
            omega
        have hR : Hid (holdsB ⟨lo, hi, st⟩ n = (n.tmod st == 0)) := by show _ = _; simp only [holdsB, h1, h2, h3]; simp
        go_enter Try.func78, Try.ntmps78
        go_wp2
        go_ret
        exact ⟨ret_bool hR.out.symm, rfl⟩
    · have hR : Hid (holdsB ⟨lo, hi, st⟩ n = false) := by show _ = _; simp [holdsB, h2]
      have h2 : hi < n := by omega
      go_enter Try.func78, Try.ntmps78
      go_wp2
      go_ret
      exact ⟨ret_bool hR.out.symm, rfl⟩
  · have hR : Hid (holdsB ⟨lo, hi, st⟩ n = false) := by show _ = _; simp [holdsB, h1]
    have h1 : n < lo := by omega
    go_enter Try.func78, Try.ntmps78
    go_wp2
    go_ret
    exact ⟨ret_bool hR.out.symm, rfl⟩

set_option maxRecDepth 4000 in
set_option maxHeartbeats 4000000 in
theorem numbers_c (a0 a1 a2 b0 b1 b2 c0 c1 c2 d0 d1 d2 e0 e1 e2 f0 f1 f2 g0 g1 g2 h0 h1' h2 k0 k1 k2 l0 l1 l2 : Int) (q1 q2 q3 q4 : Bool) (i : Ins)
    (ha : Hid (a2 ≠ 0 ∨ (a0 = 0 ∧ a1 = 0))) (hb : Hid (b2 ≠ 0 ∨ (b0 = 0 ∧ b1 = 0))) (hc : Hid (c2 ≠ 0 ∨ (c0 = 0 ∧ c1 = 0))) (hd : Hid (d2 ≠ 0 ∨ (d0 = 0 ∧ d1 = 0))) (he : Hid (e2 ≠ 0 ∨ (e0 = 0 ∧ e1 = 0))) (hf : Hid (f2 ≠ 0 ∨ (f0 = 0 ∧ f1 = 0))) (hg : Hid (g2 ≠ 0 ∨ (g0 = 0 ∧ g1 = 0))) (hh : Hid (h2 ≠ 0 ∨ (h0 = 0 ∧ h1' = 0))) (hk : Hid (k2 ≠ 0 ∨ (k0 = 0 ∧ k1 = 0))) (hl : Hid (l2 ≠ 0 ∨ (l0 = 0 ∧ l1 = 0))) (w : World) :
    Calls Try.prog 53 #[.agg #[vI a0, vI a1, vI a2, vI b0, vI b1, vI b2, vI c0, vI c1, vI c2, vI d0, vI d1, vI d2, vI e0, vI e1, vI e2, vI f0, vI f1, vI f2, vI g0, vI g1, vI g2, vI h0, vI h1', vI h2, vI k0, vI k1, vI k2, vI l0, vI l1, vI l2, .bool q1, .bool q2, .bool q3, .bool q4], i.val] w fun e w' =>
      e = .returned (.bool (holdsB ⟨a0, a1, a2⟩ i.rd && holdsB ⟨b0, b1, b2⟩ i.rn && holdsB ⟨c0, c1, c2⟩ i.rm && holdsB ⟨d0, d1, d2⟩ i.ra && holdsB ⟨e0, e1, e2⟩ i.sub && holdsB ⟨f0, f1, f2⟩ i.imm && holdsB ⟨g0, g1, g2⟩ i.imm2 && holdsB ⟨h0, h1', h2⟩ i.amount && holdsB ⟨k0, k1, k2⟩ i.shift && holdsB ⟨l0, l1, l2⟩ i.cond)) ∧ Below w.heap.size w w' := by
  obtain ⟨op, sub, rd, rn, rm, ra, imm, imm2, amount, shift, cond, sys, flags, minus, not, link⟩ := i
  go_enter Try.func53, Try.ntmps53
  go_wp2_with (go_at_call 78; refine (holds_c _ _ _ _ (by assumption) _).mono ?_; rintro e w' ⟨rfl, rfl⟩)
  all_goals (go_ret; refine ⟨ret_bool ?_, by repeat (first | exact Below.refl _ _ | apply below_more)⟩; simp [*])

set_option maxRecDepth 4000 in
set_option maxHeartbeats 4000000 in
theorem signs_c (a0 a1 a2 b0 b1 b2 c0 c1 c2 d0 d1 d2 e0 e1 e2 f0 f1 f2 g0 g1 g2 h0 h1' h2 k0 k1 k2 l0 l1 l2 : Int) (q1 q2 q3 q4 : Bool) (i : Ins) (w : World) :
    Calls Try.prog 54 #[.agg #[vI a0, vI a1, vI a2, vI b0, vI b1, vI b2, vI c0, vI c1, vI c2, vI d0, vI d1, vI d2, vI e0, vI e1, vI e2, vI f0, vI f1, vI f2, vI g0, vI g1, vI g2, vI h0, vI h1', vI h2, vI k0, vI k1, vI k2, vI l0, vI l1, vI l2, .bool q1, .bool q2, .bool q3, .bool q4], i.val] w fun e w' =>
      e = .returned (.bool ((q1 || !i.flags) && (q2 || !i.minus) && (q3 || !i.not) && (q4 || !i.link))) ∧ Below w.heap.size w w' := by
  obtain ⟨op, sub, rd, rn, rm, ra, imm, imm2, amount, shift, cond, sys, flags, minus, not, link⟩ := i
  go_enter Try.func54, Try.ntmps54
  go_wp2
  all_goals (go_ret; refine ⟨ret_bool ?_, by repeat (first | exact Below.refl _ _ | apply below_more)⟩; simp [*])
end Go.Proofs.Ytcmilajlngnibaa
