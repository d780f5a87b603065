/- Next. -/
import Derived.Test.YtebkpmplhpebbaaQn
import Derived.OwnWalk
namespace Go.Proofs.Ytebkpmplhpebbaa
open Go.RowKit
open Tim
set_option linter.unusedVariables false
set_option linter.unusedSimpArgs false
set_option maxRecDepth 8000

def nxC (n : Nat) (T : Tm) : Int := if T.nextF n < 0 then 0 else T.nextF n
def nxN (n : Nat) (T : Tm) : Int := if T.nextF n < 0 then 0 else T.cval (T.nextF n).toNat - T.cnt
def nxB (n : Nat) (T : Tm) : Bool := !decide (T.nextF n < 0)
theorem run_ta (t : Trn) (w : World) : Sem.run Try.prog (Instr.typeAssert (.iface 67 t.val) 20 67 false) w = .ok t.val w := by kernel_rfl
section
variable {g cb n : Nat} {T : Tm} {w : World}
set_option maxHeartbeats 1000000 in
theorem next_c (H : TimAt g cb n T w) : Calls Try.prog 18 #[ptr g 0] w fun e w' => e = .returned (.tuple #[vI (nxC n T), vU (nxN n T), .bool (nxB n T)]) ∧ Below w.heap.size w w' := by
  have hn8 := H.le8
  go_enter Try.func18, Try.ntmps18
  go_upto_region 2 with (first | (go_at_call 27; refine (waiting_c H).mono ?_; rintro e w2 ⟨q, rfl, v, m, hQ⟩; dsimp only))
  have c0 := hQ.at_.c0
  have hlen := hQ.len
  obtain ⟨ao, cap, ev, _, _⟩ := own_len hQ.at_.row
  have hF : ∀ k, QF q v k → w.heap.size ≤ k := by
    rintro k (e | e)
    · rw [e]; exact hQ.at_.hq
    · exact (hQ.at_.row.lt k e).1
  have hQB := hQ.below
  rcases hQ.first with ⟨em, eb⟩ | ⟨k, em, eb⟩
  · rw [ev, em] at c0
    clear ev
    replace eb := show Hid _ from eb
    go_wp2_with (first | (go_at_call 28; refine (len_c _ _ _ _).mono ?_; rintro e w' ⟨rfl, rfl⟩; dsimp only))
    exact bodyPost_ret (results_tmp3 rfl _ _ _) rfl ⟨by unfold nxC nxN nxB; rw [eb.out]; rfl, hQB⟩
  · have hpos : 0 < m.length := (List.getElem?_eq_some_iff.1 em).1
    have hk : ¬ ((m.length : Int) = 0) := by omega
    have hpop := pop_c hQ.at_ (n := m.length - 1) (by omega) (by omega) em
    have hlt : T.cnt < T.cval k ∧ T.cval k < 18446744073709551616 ∧ 0 ≤ T.cnt := by
      rcases next_spec T n with ⟨h1, _⟩ | ⟨p, h1, h2, h3, _⟩
      · rw [h1] at eb; omega
      · obtain rfl : p = k := by rw [h1] at eb; omega
        exact ⟨((due_iff p).1 h3).2, H.ok.v1 p, H.ok.c0⟩
    rw [ev] at c0
    have e1 : IntKind.u64.wrap (T.cval k - T.cnt) = T.cval k - T.cnt := by rw [IntKind.wrap_u64]; omega
    have eE : Hid (Ending.returned (.tuple #[vI k, vU (IntKind.u64.wrap (T.cval k - T.cnt)), .bool true]) = Ending.returned (.tuple #[vI (nxC n T), vU (nxN n T), .bool (nxB n T)])) := by
      show _ = _
      unfold nxC nxN nxB
      rw [eb, if_neg (by omega), if_neg (by omega), decide_eq_false (by omega), Int.toNat_natCast, e1]; rfl
    have ta := run_ta ⟨T.cval k, k⟩
    have hQ1 := show Hid _ from hQ
    clear ev em hQ eb e1 hlt
    go_upto_region 4 with (first | (go_at_call 28; refine (len_c _ _ _ _).mono ?_; rintro e w' ⟨rfl, rfl⟩; dsimp only))
    go_upto_region 5 with (first | (go_at_call 29; refine hpop.mono ?_; rintro e w3 ⟨rfl, G3⟩; dsimp only) | (refine wpList_stT rfl _ _ rfl w3.heap.size rfl ⟨T.cval k, k⟩ nilT rfl (heap_alloc_new _ _) ?_; simp only [Act.put]))
    generalize hw4 : World.setRow _ _ _ = w4
    have B4 : Below w3.heap.size w3 w4 := by rw [← hw4]; exact below_setRow (below_alloc _ _) (Nat.le_refl _)
    have hd : w4.heap[w3.heap.size]? = some (.cells (Trn.mk (T.cval k) k).row.toArray 67) := by rw [← hw4]; exact setRow_heap _ _ _ _ _ _ (heap_alloc_new _ _)
    clear hw4
    have B3 : Below w.heap.size w w3 := hQB.trans (G3.below hQB.size hF)
    have B5 : Below w.heap.size w w4 := below_then B3 (Nat.le_refl _) B4
    have z0 : w4.cell? ⟨w3.heap.size, 0, none⟩ = some (vU (T.cval k)) := by rw [cell_of_row _ _ _ _ _ _ hd]; rfl
    have z1 : w4.cell? ⟨w3.heap.size, 1, none⟩ = some (vI k) := by rw [cell_of_row _ _ _ _ _ _ hd]; rfl
    have z2 := (H.grow B5).c0
    have B6 := show Hid _ from B5
    clear B5 B4 B3 hpop hQ1 hQB hd hF G3
    go_quiet (fail)
    go_wp2
    go_ret3
    exact ⟨eE.out, Rel.below_draws B6.out⟩
end
end Go.Proofs.Ytebkpmplhpebbaa
