/- The document's own controller made: New. -/
import Derived.Test.YtpmlehfnlodmbaaGk
namespace Go.Proofs.Ytpmlehfnlodmbaa.Doc
open Go.RowKit
set_option linter.unusedVariables false
set_option linter.unusedSimpArgs false

def z0 : In8 := ⟨false, false, false, false, 160, 0, -1, 0⟩
def newR (n : Nat) : Ref := ⟨fun _ => List.replicate 32 z0, List.replicate n 255⟩
/-- The rows that are made so far. -/
structure NW (w0 : World) (h n r a b : Nat) (L : RLay) (w : World) : Prop where
  top : w.heap[h]? = some (.cells #[vI n, L.ov, .slice none 0 0, L.lv] 73)
  hh : w0.heap.size ≤ h
  own : w.ownsRow w0.heap.size 71 1 L.ov a ((List.range a).map L.sl)
  row : ∀ i, i < r → w.ownsRow w0.heap.size 75 8 (L.sl i) 32 (flatI (List.replicate 32 z0))
  lim : w.ownsRow w0.heap.size 3 1 L.lv b ((List.replicate b 255).map vI)
  inj : ∀ i s, i < r → s < r → L.rb i = L.rb s → i = s
  below : Below w0.heap.size w0 w
theorem NW.grow {w0 w w' : World} {h n r a b : Nat} {L : RLay} (U : NW w0 h n r a b L w) (hb : Below w.heap.size w w') : NW w0 h n r a b L w' :=
  ⟨by rw [hb.block h (lt_of_some U.top)]; exact U.top, U.hh, own_of_block U.own fun k hk => hb.block k (U.own.lt k hk).2, fun i hi => own_of_block (U.row i hi) fun k hk => hb.block k ((U.row i hi).lt k hk).2, own_of_block U.lim fun k hk => hb.block k (U.lim.lt k hk).2, U.inj, below_then U.below (Nat.le_refl _) hb⟩
def RLay.more (L : RLay) (c g hc : Nat) : RLay := { L with rb := fun i => if i = c then g else L.rb i, rc := fun i => if i = c then hc else L.rc i }
theorem more_lt {L : RLay} {c g hc i : Nat} (h : i < c) : (L.more c g hc).sl i = L.sl i := by
  have : ¬ i = c := by omega
  simp [RLay.sl, RLay.more, this]
theorem more_at {L : RLay} {c g hc : Nat} : (L.more c g hc).sl c = .slice (some ⟨g, 0, none⟩) 32 hc := by simp [RLay.sl, RLay.more]
/-- A row under way. -/
structure RU (w0 : World) (v : Value) (i : Nat) (w : World) : Prop where
  row : w.ownsRow w0.heap.size 75 8 v i (flatI (List.replicate i z0))
  below : Below w0.heap.size w0 w
theorem RU.grow {w0 w w' : World} {v : Value} {i : Nat} (h : RU w0 v i w) (hb : Below w.heap.size w w') : RU w0 v i w' :=
  ⟨own_of_block h.row fun b hk => hb.block b (h.row.lt b hk).2, below_then h.below (Nat.le_refl _) hb⟩
theorem RU.app {w0 w w1 w2 : World} {v : Value} {i : Nat} (h : RU w0 v i w) (hB : Below w.heap.size w w1) {b m cap : Nat} (q1 : w2.ownsRow w0.heap.size 75 8 (.slice (some ⟨b, 0, none⟩) m cap) (List.replicate i z0 ++ [z0]).length (flatI (List.replicate i z0 ++ [z0]))) (q2 : w1.grownBy w2 v.ownBlock) : RU w0 (.slice (some ⟨b, 0, none⟩) m cap) (i + 1) w2 := by
  refine ⟨?_, (below_then h.below (Nat.le_refl _) hB).trans ((goes_grown (F := fun k => v.ownBlock = some k) q2 fun k hk => hk).below (Nat.le_trans h.below.size hB.size) fun k hk => (h.row.lt k hk).1)⟩
  have e : List.replicate i z0 ++ [z0] = List.replicate (i + 1) z0 := by rw [List.replicate_succ']
  rw [e, List.length_replicate] at q1
  exact q1
theorem NW.addRow {w0 wo w : World} {h n r a b : Nat} {L : RLay} (U : NW w0 h n r a b L wo) (hab : a ≤ r) {g hc : Nat} (T : RU wo (.slice (some ⟨g, 0, none⟩) 32 hc) 32 w) : NW w0 h n (r + 1) a b (L.more r g hc) w := by
  have V := U.grow T.below
  have hg := (T.row.lt g rfl).1
  refine ⟨V.top, V.hh, ?_, fun i hi => ?_, V.lim, fun i s hi hs e => ?_, V.below⟩
  · have e : (List.range a).map (L.more r g hc).sl = (List.range a).map L.sl := List.map_congr_left fun i hi => more_lt (by have := List.mem_range.1 hi; omega)
    rw [e]; exact V.own
  · by_cases e : i = r
    · subst e
      rw [more_at]
      exact own_mono T.row U.below.size
    · rw [more_lt (by omega)]
      exact V.row i (by omega)
  · have lt : ∀ i, i < r → L.rb i < wo.heap.size := fun i hi => ((U.row i hi).lt _ rfl).2
    by_cases e1 : i = r
    · by_cases e2 : s = r
      · omega
      · have := lt s (by omega)
        simp only [RLay.more, if_pos e1, if_neg e2] at e
        omega
    · by_cases e2 : s = r
      · have := lt i (by omega)
        simp only [RLay.more, if_neg e1, if_pos e2] at e
        omega
      · simp only [RLay.more, if_neg e1, if_neg e2] at e
        exact U.inj i s (by omega) (by omega) e
theorem NW.addOwn {w0 w w1 y : World} {h n r a b : Nat} {L : RLay} (U : NW w0 h n r a b L w) (hB : Below w.heap.size w w1) {g m cap : Nat} {x : Value} (hx : x = L.sl a) (q1 : y.ownsRow w0.heap.size 71 1 (.slice (some ⟨g, 0, none⟩) m cap) (((List.range a).map L.sl) ++ [x]).length (((List.range a).map L.sl) ++ [x])) (q2 : w1.grownBy y L.ov.ownBlock) :
    NW w0 h n r (a + 1) b { L with ov := .slice (some ⟨g, 0, none⟩) m cap } (y.setCell ⟨h, 1, none⟩ (.slice (some ⟨g, 0, none⟩) m cap)) := by
  have V := U.grow hB
  have G := goes_grown (F := fun k => L.ov.ownBlock = some k) q2 fun k hk => hk
  have topY : y.heap[h]? = some (.cells #[vI n, L.ov, .slice none 0 0, L.lv] 73) := by
    rw [G.block h (lt_of_some V.top) (own_ne V.top V.own (by decide))]; exact V.top
  have keep : ∀ k, k ≠ h → (y.setCell ⟨h, 1, none⟩ (.slice (some ⟨g, 0, none⟩) m cap)).heap[k]? = y.heap[k]? := fun k hk => Below.heap_setCell _ _ _ _ hk
  refine ⟨?_, U.hh, ?_, fun i hi => own_of_block (V.row i hi) fun k hk => (keep k ?_).trans (G.block k ((V.row i hi).lt k hk).2 ?_), own_of_block V.lim fun k hk => (keep k ?_).trans (G.block k (V.lim.lt k hk).2 ?_), U.inj, ?_⟩
  · rw [setCell_eq_setRow _ _ _ _ _ _ _ topY]
    exact setRow_heap _ _ _ _ _ _ topY
  · have e : ((List.range a).map L.sl) ++ [x] = (List.range (a + 1)).map L.sl := by rw [List.range_succ, List.map_append, hx]; rfl
    rw [e, List.length_map, List.length_range] at q1
    exact own_of_block q1 fun k hk => keep k (by rintro rfl; exact own_ne topY q1 (by decide) hk)
  · rintro rfl; exact own_ne V.top (V.row i hi) (by decide) hk
  · intro e
    obtain ⟨C, _, hC⟩ := own_kind V.own e
    exact own_ne hC (V.row i hi) (by decide) hk
  · rintro rfl; exact own_ne V.top V.lim (by decide) hk
  · intro e
    obtain ⟨C, _, hC⟩ := own_kind V.own e
    exact own_ne hC V.lim (by decide) hk
  · refine (V.below.trans (G.below V.below.size fun k hk => (V.own.lt k hk).1)).trans ((goes_setCell y (F := fun k => k = h) rfl _ _).below (Nat.le_trans V.below.size G.size) fun k hk => ?_)
    subst hk; exact U.hh
theorem NW.addLim {w0 w w1 y : World} {h n r a b : Nat} {L : RLay} (U : NW w0 h n r a b L w) (hB : Below w.heap.size w w1) {g m cap : Nat} (q1 : y.ownsRow w0.heap.size 3 1 (.slice (some ⟨g, 0, none⟩) m cap) (List.replicate b (255 : Int) ++ [255]).length ((List.replicate b (255 : Int) ++ [255]).map vI)) (q2 : w1.grownBy y L.lv.ownBlock) :
    NW w0 h n r a (b + 1) { L with lv := .slice (some ⟨g, 0, none⟩) m cap } (y.setCell ⟨h, 3, none⟩ (.slice (some ⟨g, 0, none⟩) m cap)) := by
  have V := U.grow hB
  have G := goes_grown (F := fun k => L.lv.ownBlock = some k) q2 fun k hk => hk
  have topY : y.heap[h]? = some (.cells #[vI n, L.ov, .slice none 0 0, L.lv] 73) := by
    rw [G.block h (lt_of_some V.top) (own_ne V.top V.lim (by decide))]; exact V.top
  have keep : ∀ k, k ≠ h → (y.setCell ⟨h, 3, none⟩ (.slice (some ⟨g, 0, none⟩) m cap)).heap[k]? = y.heap[k]? := fun k hk => Below.heap_setCell _ _ _ _ hk
  refine ⟨?_, U.hh, own_of_block V.own fun k hk => (keep k ?_).trans (G.block k (V.own.lt k hk).2 ?_), fun i hi => own_of_block (V.row i hi) fun k hk => (keep k ?_).trans (G.block k ((V.row i hi).lt k hk).2 ?_), ?_, U.inj, ?_⟩
  · rw [setCell_eq_setRow _ _ _ _ _ _ _ topY]
    exact setRow_heap _ _ _ _ _ _ topY
  · rintro rfl; exact own_ne V.top V.own (by decide) hk
  · intro e
    obtain ⟨C, _, hC⟩ := own_kind V.lim e
    exact own_ne hC V.own (by decide) hk
  · rintro rfl; exact own_ne V.top (V.row i hi) (by decide) hk
  · intro e
    obtain ⟨C, _, hC⟩ := own_kind V.lim e
    exact own_ne hC (V.row i hi) (by decide) hk
  · have e : List.replicate b (255 : Int) ++ [255] = List.replicate (b + 1) 255 := by rw [List.replicate_succ']
    rw [e, List.length_replicate] at q1
    exact own_of_block q1 fun k hk => keep k (by rintro rfl; exact own_ne topY q1 (by decide) hk)
  · refine (V.below.trans (G.below V.below.size fun k hk => (V.lim.lt k hk).1)).trans ((goes_setCell y (F := fun k => k = h) rfl _ _).below (Nat.le_trans V.below.size G.size) fun k hk => ?_)
    subst hk; exact U.hh
theorem NW.atOwn {w0 w w1 y : World} {h n r a b : Nat} {L : RLay} (U : NW w0 h n r a b L w) (hB : Below w.heap.size w w1) (q2 : w1.grownBy y L.ov.ownBlock) : y.cell? ⟨h, 1, none⟩ = some L.ov ∧ y.frozen? ⟨h, 1, none⟩ = false := by
  have V := U.grow hB
  have G := goes_grown (F := fun k => L.ov.ownBlock = some k) q2 fun k hk => hk
  have topY : y.heap[h]? = some (.cells #[vI n, L.ov, .slice none 0 0, L.lv] 73) := by
    rw [G.block h (lt_of_some V.top) (own_ne V.top V.own (by decide))]; exact V.top
  exact ⟨by rw [cell_of_row _ _ _ _ _ _ topY]; rfl, frozen_of_row _ _ _ _ _ topY⟩
theorem NW.atLim {w0 w w1 y : World} {h n r a b : Nat} {L : RLay} (U : NW w0 h n r a b L w) (hB : Below w.heap.size w w1) (q2 : w1.grownBy y L.lv.ownBlock) : y.cell? ⟨h, 3, none⟩ = some L.lv ∧ y.frozen? ⟨h, 3, none⟩ = false := by
  have V := U.grow hB
  have G := goes_grown (F := fun k => L.lv.ownBlock = some k) q2 fun k hk => hk
  have topY : y.heap[h]? = some (.cells #[vI n, L.ov, .slice none 0 0, L.lv] 73) := by
    rw [G.block h (lt_of_some V.top) (own_ne V.top V.lim (by decide))]; exact V.top
  exact ⟨by rw [cell_of_row _ _ _ _ _ _ topY]; rfl, frozen_of_row _ _ _ _ _ topY⟩
theorem NW.done {w0 w : World} {h n : Nat} {L : RLay} (U : NW w0 h n (n + 1) n n L w) : RefAt h n (newR n) L (w.setCell ⟨h, 2, none⟩ (L.sl n)) ∧ (∀ k, RFoot h n L k → w0.heap.size ≤ k) ∧ Below w0.heap.size w0 (w.setCell ⟨h, 2, none⟩ (L.sl n)) := by
  have keep : ∀ k, k ≠ h → (w.setCell ⟨h, 2, none⟩ (L.sl n)).heap[k]? = w.heap[k]? := fun k hk => Below.heap_setCell _ _ _ _ hk
  refine ⟨⟨?_, own_mono (own_of_block U.own fun k hk => keep k ?_) (Nat.zero_le _), fun i hi => own_mono (own_of_block (U.row i (by omega)) fun k hk => keep k ?_) (Nat.zero_le _), fun i hi => by simp [newR], own_mono (own_of_block U.lim fun k hk => keep k ?_) (Nat.zero_le _), by simp [newR], fun i s hi hs e => U.inj i s (by omega) (by omega) e⟩, ?_, ?_⟩
  · rw [setCell_eq_setRow _ _ _ _ _ _ _ U.top]
    exact setRow_heap _ _ _ _ _ _ U.top
  · rintro rfl; exact own_ne U.top U.own (by decide) hk
  · rintro rfl; exact own_ne U.top (U.row i (by omega)) (by decide) hk
  · rintro rfl; exact own_ne U.top U.lim (by decide) hk
  · rintro k (rfl | e | ⟨i, hi, rfl⟩ | e)
    · exact U.hh
    · exact (U.own.lt k e).1
    · exact ((U.row i (by omega)).lt _ rfl).1
    · exact (U.lim.lt k e).1
  · refine U.below.trans ((goes_setCell w (F := fun k => k = h) rfl _ _).below U.below.size fun k hk => ?_)
    subst hk; exact U.hh
set_option maxRecDepth 8000 in
set_option maxHeartbeats 1000000 in
theorem newR_c (n : Nat) (w : World) (hn : n ≤ 8) : Calls Try.prog 11 #[vI n] w fun e w' => ∃ h L, e = .returned (ptr h 0) ∧ RefAt h n (newR n) L w' ∧ (∀ k, RFoot h n L k → w.heap.size ≤ k) ∧ Below w.heap.size w w' := by
  go_enter Try.func11, Try.ntmps11
  go_wp2
  have U0 : NW w w.heap.size n 0 0 0 ⟨.slice none 0 0, .slice none 0 0, fun _ => 0, fun _ => 0⟩ (w.alloc (.cells #[vI n, .slice none 0 0, .slice none 0 0, .slice none 0 0] 73)) :=
    ⟨heap_alloc_new _ _, Nat.le_refl _, World.ownsRow_nil _ _ _ _, fun r hr => absurd hr (Nat.not_lt_zero _), World.ownsRow_nil _ _ _ _, fun r s hr => absurd hr (Nat.not_lt_zero _), below_alloc _ _⟩
  generalize hh : w.heap.size = h at U0 ⊢
  have hh' : h = w.heap.size := hh.symm
  generalize hx : World.alloc w _ = x1
  replace U0 : NW w h n 0 0 0 ⟨.slice none 0 0, .slice none 0 0, fun _ => 0, fun _ => 0⟩ x1 := by rw [← hx]; exact U0
  clear hx
  replace hh := show Hid _ from hh
  replace hh' := show Hid _ from hh'
  go_loopw [4] (fun s4 wr => ∃ c : Nat, c ≤ n ∧ s4 = .int .i64 c ∧ Hid (∃ L, NW w h n c c c L wr)) (fun s4 _ => 9 - (intOf s4).toNat)
  case atStart => exact ⟨0, Nat.zero_le _, rfl, _, U0⟩
  case round =>
    obtain ⟨c, hcn, rfl, hU⟩ := hrel
    obtain ⟨L, U⟩ := hU.out
    clear hU U0
    have hcn' : (c : Int) ≤ n := by omega
    go_wp2
    generalize wr = wo at U ⊢
    go_loopw [5, 6] (fun s5 s6 wq => ∃ i : Nat, i ≤ 32 ∧ s6 = .int .i64 i ∧ ∃ ha hc, s5 = .slice ha i hc ∧ Hid (RU wo (.slice ha i hc) i wq)) (fun _ s6 _ => 32 - (intOf s6).toNat)
    case atStart => exact ⟨0, Nat.zero_le _, rfl, none, 0, rfl, World.ownsRow_nil _ _ _ _, Below.refl _ _⟩
    case round =>
      obtain ⟨i, hi, rfl, ha, hc, rfl, hT⟩ := hrel
      have T := hT.out
      clear hT
      by_cases hlt : (i : Int) < 32
      · go_upto_region 9 with fail
        have hbase : wo.heap.size ≤ wr.heap.size := T.below.size
        go_upto_region 8 with (at_builtin; refine wpList_app_in (by rfl) _ _ (by rfl) wo.heap.size (.slice ha i hc) (List.replicate i z0) (by rfl) (by rw [List.length_replicate]; exact (T.grow (below_alloc _ _)).row) (Nat.le_trans hbase (below_alloc _ _).size) wr.heap.size 0 1 z0 (by rfl) (by intro j u hj; rw [World.cell?_alloc_new, Nat.zero_add]; simpa [In8.row, z0] using hj) (by rw [List.length_replicate]; omega) ?_; intro b2 acap y2 q1 q2 q3 q4; simp only [Act.put, List.setIfInBounds_toArray, List.set_cons_succ, List.set_cons_zero, List.length_replicate] at q1 ⊢)
        have T2 := T.app (below_alloc _ _) q1 q2
        clear q1 q2 q3 q4
        go_wp2
        go_roundw
        case rel => exact ⟨i + 1, by omega, by go_num, _, _, rfl, T2⟩
        case measure => simp [intOf]; omega
      · obtain rfl : i = 32 := by omega
        obtain ⟨g, cap, eg, _, _, _, _, _⟩ := own_addr T.row (by decide)
        simp only [Value.slice.injEq] at eg
        obtain ⟨rfl, -, rfl⟩ := eg
        have V := U.addRow (Nat.le_refl _) T
        have hsl : (L.more c g hc).sl c = .slice (some ⟨g, 0, none⟩) 32 hc := more_at
        clear T U
        generalize L.more c g hc = L2 at V hsl
        by_cases hce : c = n
        · subst hce
          have z2 : wr.cell? ⟨h, 2, none⟩ = some (.slice none 0 0) := by rw [cell_of_row _ _ _ _ _ _ V.top]; rfl
          have f2 := frozen_of_row wr h 2 _ _ V.top
          have D := V.done
          rw [hsl] at D
          clear V
          go_wp2
          go_ret
          exact ⟨h, rfl, L2, D⟩
        · have hne : ((c : Int) == (n : Int)) = false := beq_eq_false_iff_ne.2 (by omega)
          obtain ⟨ao, oc, eo, _, _⟩ := own_len V.own
          have z1 : wr.cell? ⟨h, 1, none⟩ = some L2.ov := by rw [cell_of_row _ _ _ _ _ _ V.top]; rfl
          rw [eo] at z1
          have hbase : w.heap.size ≤ wr.heap.size := V.below.size
          go_upto_region 12 with fail
          go_upto_region 13 with (at_builtin; refine wpList_app_row (by rfl) _ _ (by rfl) w.heap.size (.slice ao c oc) ((List.range c).map L2.sl) (by rfl) (by rw [List.length_map, List.length_range, ← eo]; exact (V.grow (below_alloc _ _)).own) (Nat.le_trans hbase (below_alloc _ _).size) wr.heap.size 0 1 (some ⟨g, 0, none⟩) 32 hc (by rfl) (by rw [World.cell?_alloc_new]; rfl) (by rw [List.length_map, List.length_range]; omega) ?_; intro b2 acap y2 q1 q2 q3 q4; rw [← eo] at q2; have zz := V.atOwn (below_alloc _ _) q2; have zz1 := zz.1; have zz2 := zz.2; rw [eo] at zz1; simp only [Act.put, List.setIfInBounds_toArray, List.set_cons_succ, List.set_cons_zero, List.length_map, List.length_range] at q1 ⊢)
          obtain ⟨L3, V3⟩ : ∃ L3, NW w h n (c + 1) (c + 1) c L3 (y2.setCell ⟨h, 1, none⟩ (.slice (some ⟨b2, 0, none⟩) (c + 1) acap)) := ⟨_, V.addOwn (below_alloc _ _) hsl.symm q1 q2⟩
          generalize World.setCell _ _ _ = x2 at V3 ⊢
          clear V zz zz1 zz2 q1 q2 q3 q4 z1 eo hsl hbase
          obtain ⟨lo, lc, el, _, _⟩ := own_len V3.lim
          have z3 : x2.cell? ⟨h, 3, none⟩ = some L3.lv := by rw [cell_of_row _ _ _ _ _ _ V3.top]; rfl
          rw [el] at z3
          have hbase : w.heap.size ≤ x2.heap.size := V3.below.size
          go_upto_region 4 with (at_builtin; refine wpList_app_lim (by rfl) _ _ (by rfl) w.heap.size (.slice lo c lc) (List.replicate c 255) (by rfl) (by rw [List.length_replicate, ← el]; exact (V3.grow (below_alloc _ _)).lim) (Nat.le_trans hbase (below_alloc _ _).size) x2.heap.size 0 1 255 (by rfl) (by rw [World.cell?_alloc_new]; rfl) (by rw [List.length_replicate]; omega) ?_; intro b3 acap3 y3 q1 q2 q3 q4; rw [← el] at q2; have zz := V3.atLim (below_alloc _ _) q2; have zz1 := zz.1; have zz2 := zz.2; rw [el] at zz1; simp only [Act.put, List.setIfInBounds_toArray, List.set_cons_succ, List.set_cons_zero, List.length_replicate] at q1 ⊢)
          obtain ⟨L4, V4⟩ : ∃ L4, NW w h n (c + 1) (c + 1) (c + 1) L4 (y3.setCell ⟨h, 3, none⟩ (.slice (some ⟨b3, 0, none⟩) (c + 1) acap3)) := ⟨_, V3.addLim (below_alloc _ _) q1 q2⟩
          generalize World.setCell _ _ _ = x4 at V4 ⊢
          clear V3 zz zz1 zz2 q1 q2 q3 q4 z3 el
          go_wp2
          go_roundw
          case rel => exact ⟨c + 1, by omega, by go_num, L4, V4⟩
          case measure => simp [intOf]; omega
end Go.Proofs.Ytpmlehfnlodmbaa.Doc
