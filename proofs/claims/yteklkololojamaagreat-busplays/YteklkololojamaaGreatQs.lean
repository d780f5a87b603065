/- slices.Delete over a row of works. -/
import Derived.Test.YteklkololojamaaGreatQr
import Derived.Deep.AppendSrc
namespace Go.Proofs.YteklkololojamaaGreat
open Go.RowKit
set_option linter.unusedVariables false
set_option linter.unusedSimpArgs false
set_option maxRecDepth 8000

theorem heap_setCells {b : Nat} {t : TypeId} : ∀ (vs : List Value) (o : Nat) (w : World) (cur : Array Value), w.heap[b]? = some (.cells cur t (0, 0)) → ∃ cur', (w.setCells b o vs).heap[b]? = some (.cells cur' t (0, 0)) ∧ cur'.size = cur.size
  | [], _, w, cur, h => ⟨cur, h, rfl⟩
  | v :: r, o, w, cur, h => by
    obtain ⟨cur', h1, h2⟩ := heap_setCells r (o + 1) (w.setCell ⟨b, o, none⟩ v) _ (heap_setCell_same w b o cur t v h)
    exact ⟨cur', h1, by rw [h2]; simp⟩
theorem goes_cells {F : Nat → Prop} {b : Nat} (hb : F b) : ∀ (vs : List Value) (o : Nat) (w : World), Goes F w (w.setCells b o vs)
  | [], _, w => Goes.refl _ _
  | v :: r, o, w => (goes_setCell w hb o v).trans (goes_cells hb r (o + 1) _) fun _ _ e => e
theorem zero84 (w : World) : (zeroValue 106).run Tryz.prog w = .ok nilT.val w := by
  obtain ⟨i, h1, h2, h3, h4⟩ := infT
  simp [zeroValue, typeInfo, h1, h2]
theorem run_clear1 (w : World) (ty : TypeId) (b o c : Nat) (h0 : ∀ j, j < 2 → (w.cell? ⟨b, o + j, none⟩).isSome = true ∧ w.frozen? ⟨b, o + j, none⟩ = false) : (Builtin.clear_ #[117] ty #[.slice (some ⟨b, o, none⟩) 1 c]).run Tryz.prog w = .ok (.tuple #[]) (w.setCells b o [vI 0, vI 0]) := by
  have hst := run_storeCells_cells (P := Tryz.prog) b o [vI 0, vI 0] 0 w (fun j hj => by rw [Nat.add_zero]; exact (h0 j hj).1) (fun j hj => by rw [Nat.add_zero]; exact (h0 j hj).2) (fun v hv => by simp at hv; subst hv; rfl)
  have hz : (Builtin.zeroCells nilT.val.cells 1).toList = [vI 0, vI 0] := by kernel_rfl
  rw [Nat.add_zero] at hst
  simp only [Builtin.clear_, Sem.run_bind, run_underlying Tryz.underlying117, zero84, Result.andThen_ok, hz, hst, Sem.run_pure]
  simp [run_underlying Tryz.underlying117, zero84]
  show ((Sem.run Tryz.prog (storeCells ⟨b, o, none⟩ (Builtin.zeroCells nilT.val.cells 1).toList) w).andThen fun a w' => Result.ok (Value.tuple #[]) w') = _
  rw [hz, hst]
  rfl
/-- What is left behind a deletion. -/
theorem own_erase {w : World} {b cap : Nat} {l : List Trn} {k : Nat} (R : w.ownsRow 0 106 2 (.slice (some ⟨b, 0, none⟩) l.length cap) l.length (flatT l)) (hk : k < l.length) :
    ((w.setCells b (k * 2) (flatT (l.drop (k + 1)))).setCells b ((l.length - 1) * 2) [vI 0, vI 0]).ownsRow 0 106 2 (.slice (some ⟨b, 0, none⟩) (l.length - 1) cap) (l.eraseIdx k).length (flatT (l.eraseIdx k)) := by
  have R0 := R
  rcases R.2 with ⟨h, _⟩ | ⟨b', cap', cur, ev, h1, h2, h3, h4, h5, h6⟩
  · cases h
  · cases ev
    have hlen : (l.eraseIdx k).length = l.length - 1 := by rw [List.length_eraseIdx, if_pos hk]
    have hdl : (flatT (l.drop (k + 1))).length = (l.length - (k + 1)) * 2 := by rw [len_flatT, List.length_drop]
    obtain ⟨cur1, g1, s1⟩ := heap_setCells (flatT (l.drop (k + 1))) (k * 2) w cur h2
    obtain ⟨cur2, g2, s2⟩ := heap_setCells [vI 0, vI 0] ((l.length - 1) * 2) _ cur1 g1
    have hall : ∀ j, j < l.length * 2 → (w.cell? ⟨b, j, none⟩).isSome = true := fun j hj => by
      rw [R0.cellAt j hj, List.getElem?_eq_getElem (by rw [len_flatT]; exact hj)]; rfl
    refine ⟨by rw [len_flatT], .inr ⟨b, cap, cur2, by rw [hlen], Nat.zero_le _, g2, by omega, h4, by rw [s2, s1, h5], ?_⟩⟩
    have hcell : ∀ j, cur2[j]? = ((w.setCells b (k * 2) (flatT (l.drop (k + 1)))).setCells b ((l.length - 1) * 2) [vI 0, vI 0]).cell? ⟨b, j, none⟩ := fun j => (cell_of_row _ _ _ _ _ _ g2).symm
    have he : flatT (l.eraseIdx k) = flatT (l.take k) ++ flatT (l.drop (k + 1)) := by rw [List.eraseIdx_eq_take_drop_succ, flatT_append]
    have htl : (flatT (l.take k)).length = k * 2 := by rw [len_flatT, List.length_take, Nat.min_eq_left (by omega)]
    have hfl : flatT l = flatT (l.take k) ++ flatT (l.drop k) := by rw [← flatT_append, List.take_append_drop]
    apply List.ext_getElem?
    intro j
    rw [List.getElem?_take, hlen]
    by_cases hj : j < (l.length - 1) * 2
    · rw [if_pos hj, Array.getElem?_toList, hcell, World.cell?_setCells_out _ _ _ _ _ (fun _ _ => .inl hj), he]
      by_cases hj2 : j < k * 2
      · rw [World.cell?_setCells_out _ _ _ _ _ (fun _ _ => .inl hj2), R0.cellAt j (by omega), hfl, List.getElem?_append_left (by omega), List.getElem?_append_left (by omega)]
      · obtain ⟨i, rfl⟩ : ∃ i, j = k * 2 + i := ⟨j - k * 2, by omega⟩
        have hi : i < (flatT (l.drop (k + 1))).length := by omega
        rw [World.cell?_setCells_in b _ (k * 2) w (fun q hq => hall _ (by omega)) i hi, List.getElem?_append_right (by omega), htl, Nat.add_sub_cancel_left, List.getElem?_eq_getElem hi]
    · rw [if_neg hj]
      exact (List.getElem?_eq_none (by rw [len_flatT, hlen]; omega)).symm
end Go.Proofs.YteklkololojamaaGreat
