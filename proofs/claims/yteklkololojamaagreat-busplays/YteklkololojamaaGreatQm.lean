/- container/heap over the queue: Pop. -/
import Derived.Test.YteklkololojamaaGreatQl
namespace Go.Proofs.YteklkololojamaaGreat
open Go.RowKit
set_option linter.unusedVariables false
set_option linter.unusedSimpArgs false
set_option maxRecDepth 8000

theorem qpop_c {base q : Nat} {v : Value} {l : List Trn} {w : World} (H : QAt base q v l w) {n : Nat} (hn : l.length = n + 1) (hl : n < 1000) {t : Trn} (ht : l[n]? = some t) : Calls Tryz.prog 164 #[ptr q 0] w fun e w' => e = .returned (.iface 106 t.val) ∧ Goes (QF q v) w w' := by
  obtain ⟨b, cap, ev, h1, h2, _, _, _⟩ := own_addr H.row (by omega)
  obtain ⟨a0, a1⟩ := own_cells H.row rfl ev ht
  have c0 := H.c0
  rw [ev, hn] at c0
  have hv : v.ownBlock = some b := by rw [ev]; rfl
  have hcap : n + 1 ≤ cap := by omega
  have hcap2 : cap ≤ maxLen := h2
  clear ev h1 h2
  have k1 : (0 : Int) ≤ n := by omega
  have hr : ∀ j, j < 2 → w.cell? ⟨b, n * 2 + j, none⟩ = t.row[j]? := fun j hj => by
    match j, hj with
    | 0, _ => exact a0
    | 1, _ => exact a1
  go_enter Tryz.func164, Tryz.ntmps164
  go_upto_region 3 with (first | (refine wpList_ldT rfl _ rfl b (n * 2) rfl t hr ?_; simp only [Act.put]) | (refine wpList_stT rfl _ _ rfl w.heap.size rfl t nilT rfl (heap_alloc_new _ _) ?_; simp only [Act.put]))
  generalize hw1 : World.setRow _ _ _ = w1
  have B1 : Below w.heap.size w w1 := by rw [← hw1]; exact below_setRow (below_alloc _ _) (Nat.le_refl _)
  have D1 : w1.heap[w.heap.size]? = some (.cells t.row.toArray 106) := by rw [← hw1]; exact setRow_heap _ _ _ _ _ _ (heap_alloc_new _ _)
  have H1 := H.grow B1
  have c1 := H1.c0
  rw [show v = Value.slice (some ⟨b, 0, none⟩) (n + 1) cap from by rw [H.c0] at c0; exact Option.some.inj c0] at c1
  have fz := frozen_of_row w1 q 0 _ _ H1.hd
  clear hw1 c0 a0 a1 hr
  have hne : q ≠ w.heap.size := Nat.ne_of_lt (lt_of_some H.hd)
  go_upto_region 4 with fail
  generalize hw2 : World.setCell _ _ _ = w2
  have D2 : w2.heap[w.heap.size]? = some (.cells t.row.toArray 106) := by rw [← hw2, Below.heap_setCell _ _ _ _ (Ne.symm hne)]; exact D1
  have G2 : Goes (QF q v) w w2 := by rw [← hw2]; exact (goes_of_below B1).trans (goes_setCell w1 (F := QF q v) (.inl rfl) _ _) fun _ _ e => e
  clear hw2 c1 fz
  have hr2 : ∀ j, j < 2 → w2.cell? ⟨w.heap.size, 0 + j, none⟩ = t.row[j]? := fun j hj => by rw [cell_of_row _ _ _ _ _ _ D2, Nat.zero_add]; simp
  go_wp2_with (first | (refine wpList_ldT rfl _ rfl w.heap.size 0 rfl t hr2 ?_; simp only [Act.put]))
  go_ret
  exact ⟨rfl, G2⟩
theorem pop_c {base q : Nat} {v : Value} {l : List Trn} {w : World} (H : QAt base q v l w) {n : Nat} (hn : l.length = n + 1) (hl : n < 900) {t : Trn} (ht : l[0]? = some t) : Calls Tryz.prog 77 #[.iface 135 (ptr q 0)] w fun e w' => e = .returned (.iface 106 t.val) ∧ Goes (QF q v) w w' := by
  have hs : l[n]? = some l[n] := getT (by omega)
  generalize l[n] = s at hs
  obtain ⟨ao, cap, ev, _, _⟩ := own_len H.row
  have mlen := meth_len H.c0
  have mswap := meth_swap H.c0
  have hsw := swap_c H.row ht hs
  rw [ev, hn] at mlen
  clear ev
  go_enter Tryz.func77, Tryz.ntmps77
  go_upto_region 3 with (first | (go_at_call 76; refine (len_c _ _ _ _).mono ?_; rintro e w' ⟨rfl, rfl⟩; dsimp only) | (go_at_call 166; refine hsw.mono ?_; rintro e w1 ⟨rfl, R1, G1⟩; dsimp only))
  clear mlen mswap hsw
  have H1 : QAt base q v ((l.set 0 s).set n t) w1 := H.swapped (by simp) R1 G1
  have hd := down_c H1 (n := n) (by simp; omega) (by simp; omega)
  go_upto_region 4 with (first | (go_at_call 109; refine hd.mono ?_; rintro e w2 ⟨⟨b, rfl⟩, m, H2, l2, E2, G2⟩; dsimp only))
  clear hd
  have mp := meth_pop H2.c0
  have hp := qpop_c H2 (n := n) (by rw [l2]; simp [hn]) (by omega) (t := t) (by rw [E2, sw_get (by omega) (by omega), if_pos rfl])
  go_wp2_with (first | (go_at_call 164; refine hp.mono ?_; rintro e w3 ⟨rfl, G3⟩; dsimp only))
  go_ret
  exact ⟨rfl, ((G1.mono fun _ _ e => .inr e).trans G2 fun _ _ e => e).trans G3 fun _ _ e => e⟩
end Go.Proofs.YteklkololojamaaGreat
