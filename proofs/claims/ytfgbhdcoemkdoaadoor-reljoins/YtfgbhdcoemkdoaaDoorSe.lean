/- container/heap over the queue: Pop; next. -/
import Derived.Test.YtfgbhdcoemkdoaaDoorSd
namespace Go.Proofs.YtfgbhdcoemkdoaaDoor
open Go.RowKit
set_option linter.unusedVariables false
set_option linter.unusedSimpArgs false
set_option maxRecDepth 8000

open Hq
theorem own_cut {base n g cap : Nat} {l : List Nat} {w : World} (R : w.ownsRow base 3 1 (.slice (some ⟨g, 0, none⟩) (n + 1) cap) (n + 1) (flN l)) : w.ownsRow base 3 1 (.slice (some ⟨g, 0, none⟩) n cap) n (flN (l.take n)) := by
  obtain ⟨h1, h2⟩ := R
  have hl : l.length = n + 1 := by simpa [flN] using h1
  refine ⟨by simp [flN]; omega, .inr ?_⟩
  rcases h2 with ⟨e, _⟩ | ⟨g', cap', cur, e, hb, hh, c1, c2, c3, c4⟩
  · cases e
  · cases e
    refine ⟨g, cap, cur, rfl, hb, hh, by omega, c2, c3, ?_⟩
    have : (flN l).take n = flN (l.take n) := by simp [flN, List.map_take]
    rw [← this, ← c4, List.take_take]
    congr 1
    omega
theorem qpop_c {base q : Nat} {v : Value} {l : List Nat} {w : World} (H : QAt base q v l w) {n : Nat} (hn : l.length = n + 1) (hl : n < 1000) {t : Nat} (ht : l[n]? = some t) : Calls Tryd.prog 83 #[ptr q 0] w fun e w' => e = .returned (.iface 3 (vI t)) ∧ ∃ u g, QAt base q u (l.take n) w' ∧ u.ownBlock = some g ∧ v.ownBlock = some g ∧ Goes (QF q v) w w' := by
  obtain ⟨b, cap, ev, h1, h2, h3, h4, h5⟩ := own_addr H.row (by omega)
  have a0 := own_cell H.row ev ht
  clear h3 h4 h5
  have c0 := H.c0
  have fz := frozen_of_row w q 0 _ _ H.hd
  have hrow := H.row
  rw [ev, hn] at c0 hrow
  have hcap : n + 1 ≤ cap := by omega
  have hcap2 : cap ≤ maxLen := h2
  have hv : v.ownBlock = some b := by rw [ev]; rfl
  have hqb : b ≠ q := fun e => own_ne H.hd H.row (by decide) (by rw [hv, e])
  clear ev h1 h2
  have k1 : (0 : Int) ≤ n := by omega
  go_enter Tryd.func83, Tryd.ntmps83
  go_wp2
  go_ret
  refine ⟨rfl, .slice (some ⟨b, 0, none⟩) n cap, b, ⟨heap_setCell_same w q 0 _ 74 _ H.hd, ?_, H.hq⟩, rfl, hv, goes_setCell w (F := QF q v) (.inl rfl) _ _⟩
  rw [List.length_take, Nat.min_eq_left (by omega)]
  exact own_of_block (own_cut hrow) fun k hk => Below.heap_setCell _ _ _ _ (by
    have : b = k := by simpa [Value.ownBlock] using hk
    show k ≠ q
    omega)
theorem pop_c {base q : Nat} {v : Value} {l : List Nat} {w : World} (H : QAt base q v l w) (hh : Heap l l.length) (hI : Inj l) {n : Nat} (hn : l.length = n + 1) (hl : n < 900) {t : Nat} (ht : l[0]? = some t) : Calls Tryd.prog 62 #[.iface 73 (ptr q 0)] w fun e w' => e = .returned (.iface 3 (vI t)) ∧ ∃ u m g, QAt base q u m w' ∧ Heap m m.length ∧ Inj m ∧ m.length = n ∧ (∀ x, x ∈ m ↔ x ∈ l ∧ x ≠ t) ∧ Goes (QF q v) w w' ∧ u.ownBlock = some g ∧ v.ownBlock = some g := by
  have hs : l[n]? = some l[n] := getT (by omega)
  generalize l[n] = s at hs
  obtain ⟨ao, cap, ev, _, _⟩ := own_len H.row
  have mlen := meth_len H.c0
  have mswap := meth_swap H.c0
  have hsw := swap_c H.row ht hs
  rw [ev, hn] at mlen
  clear ev
  go_enter Tryd.func62, Tryd.ntmps62
  go_upto_region 3 with (first | (go_at_call 49; refine (len_c _ _ _ _).mono ?_; rintro e w' ⟨rfl, rfl⟩; dsimp only) | (go_at_call 85; refine hsw.mono ?_; rintro e w1 ⟨rfl, R1, G1⟩; dsimp only))
  clear mlen mswap hsw
  have H1 : QAt base q v (swp l 0 n t s) w1 := H.swapped (swp_len _ _ _ _ _) R1 G1
  have hd := down_c H1 (n := n) (by rw [swp_len]; omega) (by rw [swp_len]; omega) (pop_heapD (by rw [← hn]; exact hh) ht hs) (swp_inj hI ht hs)
  go_upto_region 4 with (first | (go_at_call 64; refine hd.mono ?_; rintro e w2 ⟨⟨b, rfl⟩, m, H2, l2, E2, D2, M2, I2, G2⟩; dsimp only))
  clear hd
  rw [swp_len] at l2
  have hmt : m[n]? = some t := by rw [E2, swp_get ht hs, tr, if_pos rfl]; exact ht
  have mp := meth_pop H2.c0
  have hp := qpop_c H2 (n := n) (by rw [l2, hn]) (by omega) hmt
  go_wp2_with (first | (go_at_call 83; refine hp.mono ?_; rintro e w3 ⟨rfl, u, g, H3, hu, hv, G3⟩; dsimp only))
  go_ret
  refine ⟨rfl, u, m.take n, g, H3, heap_take D2 (by omega), inj_take I2 n, by rw [List.length_take]; omega, fun x => ?_, ((G1.mono fun _ _ e => .inr e).trans G2 fun _ _ e => e).trans G3 fun _ _ e => e, hu, hv⟩
  rw [take_mem I2 (by omega) hmt, M2, swp_mem ht hs]
theorem run_assert (t : Nat) (w : World) : (Instr.typeAssert (.iface 3 (vI t)) 20 3 false).run Tryd.prog w = .ok (vI t) w := by kernel_rfl
theorem next_c {base q : Nat} {v : Value} {l : List Nat} {w : World} (H : QAt base q v l w) (hh : Heap l l.length) (hI : Inj l) {n : Nat} (hn : l.length = n + 1) (hl : n < 900) {t : Nat} (ht : l[0]? = some t) : Calls Tryd.prog 50 #[ptr q 0] w fun e w' => e = .returned (vI t) ∧ ∃ u m g, QAt base q u m w' ∧ Heap m m.length ∧ Inj m ∧ m.length = n ∧ (∀ x, x ∈ m ↔ x ∈ l ∧ x ≠ t) ∧ Goes (QF q v) w w' ∧ u.ownBlock = some g ∧ v.ownBlock = some g := by
  have hp := pop_c H hh hI hn hl ht
  have ta : ∀ w, (Instr.typeAssert (.iface 3 (vI t)) 20 3 false).run Tryd.prog w = .ok (vI t) w := fun w => run_assert t w
  go_enter Tryd.func50, Tryd.ntmps50
  go_wp2_with (first | (go_at_call 62; refine hp.mono ?_; rintro e w1 ⟨rfl, u, m, g, p1, p2, p3, p4, p5, p6, p7, p8⟩; dsimp only))
  go_ret
  exact ⟨rfl, u, m, g, p1, p2, p3, p4, p5, p6, p7, p8⟩
end Go.Proofs.YtfgbhdcoemkdoaaDoor
