/- Events of one's own: literals, slices. -/
import Derived.Test.YtnedkielehmneaaGreatDoorEl
import Derived.Laws.AppendOwn
namespace Go.Proofs.YtnedkielehmneaaGreatDoor
open Go.RowKit
open Go.Shelf
set_option linter.unusedVariables false
set_option linter.unusedSimpArgs false
set_option maxRecDepth 8000

open Axm
abbrev nilS : Value := .slice none 0 0
abbrev wE (core po addr value stamp : Int) : Ev := ⟨core, po, 2, addr, value, 0, false, false, 0, stamp, [], [], []⟩
abbrev rE (core po addr value stamp : Int) : Ev := ⟨core, po, 1, addr, value, 0, false, false, 0, stamp, [], [], []⟩
abbrev fE (core po fence : Int) : Ev := ⟨core, po, 3, 0, 0, 0, false, false, fence, 0, [], [], []⟩
theorem inf36 : (Tryz.prog.info? 36).map (·.size) = some 13 := by kernel_rfl
theorem back36 {fn : Func} {p : Tmp} (h : fn.results = #[.cell p 36]) (tmps : Array Value) (w : World) (g : Nat) {e : Ev} {s0 s1 s2 : Value} (hp : tmps.getD p undef = ptr g 0) (H : LocE g (evA e s0 s1 s2) w) : (results fn tmps).run Tryz.prog w = .ok (.agg (evA e s0 s1 s2)) w :=
  results_cell_row h tmps w g 36 (evA e s0 s1 s2) (0, 0) _ hp H Tryz.underlying36 rfl (by exact inf36)
theorem evA_nil (e : Ev) : (evA e nilS nilS nilS).all (·.oneCell') = true := evA_one rfl rfl rfl
theorem wE_c (core po addr value stamp : Int) (w : World) : Calls Tryz.prog 24 #[vI core, vI po, vU addr, vU value, vI stamp] w fun e w' => e = .returned (.agg (evA (wE core po addr value stamp) nilS nilS nilS)) ∧ Below w.heap.size w w' := by
  have hone := evA_nil (wE core po addr value stamp)
  go_enter Tryz.func24, Tryz.ntmps24
  go_wp2_with (first | (with_reducible refine wpList_new36 rfl rfl ?_; intro w3 L3 hB3 hsz3; simp only [Act.put, List.setIfInBounds_toArray, List.set_cons_succ, List.set_cons_zero]) | (with_reducible refine wpList_store36 (e := wE core po addr value stamp) (s0 := nilS) (s1 := nilS) (s2 := nilS) rfl _ _ rfl rfl L3 rfl rfl hone ?_; intro w4 L hG4 hsz4; simp only [Act.put, List.setIfInBounds_toArray, List.set_cons_succ, List.set_cons_zero]))
  refine bodyPost_ret (v := .agg (evA (wE core po addr value stamp) nilS nilS nilS)) (back36 rfl _ _ w.heap.size rfl L) rfl ⟨rfl, ?_⟩
  exact hB3.trans (hG4.below hB3.size (fun k hk => by rw [hk]; exact Nat.le_refl _))
theorem rE_c (core po addr value stamp : Int) (w : World) : Calls Tryz.prog 25 #[vI core, vI po, vU addr, vU value, vI stamp] w fun e w' => e = .returned (.agg (evA (rE core po addr value stamp) nilS nilS nilS)) ∧ Below w.heap.size w w' := by
  have hone := evA_nil (rE core po addr value stamp)
  go_enter Tryz.func25, Tryz.ntmps25
  go_wp2_with (first | (with_reducible refine wpList_new36 rfl rfl ?_; intro w3 L3 hB3 hsz3; simp only [Act.put, List.setIfInBounds_toArray, List.set_cons_succ, List.set_cons_zero]) | (with_reducible refine wpList_store36 (e := rE core po addr value stamp) (s0 := nilS) (s1 := nilS) (s2 := nilS) rfl _ _ rfl rfl L3 rfl rfl hone ?_; intro w4 L hG4 hsz4; simp only [Act.put, List.setIfInBounds_toArray, List.set_cons_succ, List.set_cons_zero]))
  refine bodyPost_ret (v := .agg (evA (rE core po addr value stamp) nilS nilS nilS)) (back36 rfl _ _ w.heap.size rfl L) rfl ⟨rfl, ?_⟩
  exact hB3.trans (hG4.below hB3.size (fun k hk => by rw [hk]; exact Nat.le_refl _))
theorem fE_c (core po : Int) (w : World) : Calls Tryz.prog 27 #[vI core, vI po] w fun e w' => e = .returned (.agg (evA (fE core po 15) nilS nilS nilS)) ∧ Below w.heap.size w w' := by
  have hone := evA_nil (fE core po 15)
  go_enter Tryz.func27, Tryz.ntmps27
  go_wp2_with (first | (with_reducible refine wpList_new36 rfl rfl ?_; intro w3 L3 hB3 hsz3; simp only [Act.put, List.setIfInBounds_toArray, List.set_cons_succ, List.set_cons_zero]) | (with_reducible refine wpList_store36 (e := fE core po 15) (s0 := nilS) (s1 := nilS) (s2 := nilS) rfl _ _ rfl rfl L3 rfl rfl hone ?_; intro w4 L hG4 hsz4; simp only [Act.put, List.setIfInBounds_toArray, List.set_cons_succ, List.set_cons_zero]))
  refine bodyPost_ret (v := .agg (evA (fE core po 15) nilS nilS nilS)) (back36 rfl _ _ w.heap.size rfl L) rfl ⟨rfl, ?_⟩
  exact hB3.trans (hG4.below hB3.size (fun k hk => by rw [hk]; exact Nat.le_refl _))
/-- Events with where their own lists lie; a slice of one's own that holds them. -/
structure EvX where
  e : Ev
  s0 : Value
  s1 : Value
  s2 : Value
abbrev nilX (e : Ev) : EvX := ⟨e, nilS, nilS, nilS⟩
def evF (es : List EvX) : List Value := es.flatMap fun t => (evA t.e t.s0 t.s1 t.s2).toList
theorem evF_append (l m : List EvX) : evF (l ++ m) = evF l ++ evF m := by simp [evF]
theorem evF_len (l : List EvX) : (evF l).length = l.length * 13 := by
  induction l with
  | nil => rfl
  | cons t l ih =>
    simp only [evF, List.flatMap_cons, List.length_append, List.length_cons] at *
    rw [ih]
    show 13 + l.length * 13 = _
    omega
theorem evF_get : ∀ (l : List EvX) (i j : Nat) (t : EvX) (v : Value), l[i]? = some t → (evA t.e t.s0 t.s1 t.s2).toList[j]? = some v → (evF l)[i * 13 + j]? = some v
  | [], i, j, t, v, h, _ => by simp at h
  | t' :: l, 0, j, t, v, h, hv => by
    obtain rfl : t' = t := by simpa using h
    have hj : j < 13 := by have := (List.getElem?_eq_some_iff.1 hv).1; exact this
    show ((evA t'.e t'.s0 t'.s1 t'.s2).toList ++ evF l)[0 * 13 + j]? = _
    rw [List.getElem?_append_left (by show _ < 13; omega), Nat.zero_mul, Nat.zero_add]
    exact hv
  | t' :: l, i + 1, j, t, v, h, hv => by
    show ((evA t'.e t'.s0 t'.s1 t'.s2).toList ++ evF l)[(i + 1) * 13 + j]? = _
    have h13 : (evA t'.e t'.s0 t'.s1 t'.s2).toList.length = 13 := rfl
    rw [List.getElem?_append_right (by rw [h13]; omega), h13, show (i + 1) * 13 + j - 13 = i * 13 + j by omega]
    exact evF_get l i j t v (by simpa using h) hv
structure Deps (w : World) (es : List EvX) : Prop where
  all : ∀ t ∈ es, RawI w t.s0 t.e.adr ∧ RawI w t.s1 t.e.dat ∧ RawI w t.s2 t.e.ctl
theorem Deps.grow {w w' : World} {es : List EvX} (h : Deps w es) (hb : Below w.heap.size w w') : Deps w' es := ⟨fun t ht => ⟨(h.all t ht).1.grow hb, (h.all t ht).2.1.grow hb, (h.all t ht).2.2.grow hb⟩⟩
theorem Deps.nil (w : World) (es : List Ev) (h : ∀ e ∈ es, e.adr = [] ∧ e.dat = [] ∧ e.ctl = []) : Deps w (es.map nilX) := ⟨fun t ht => by
  obtain ⟨e, he, rfl⟩ := List.mem_map.1 ht
  obtain ⟨h1, h2, h3⟩ := h e he
  refine ⟨?_, ?_, ?_⟩
  · show RawI w nilS e.adr; rw [h1]; exact RawI.nil w
  · show RawI w nilS e.dat; rw [h2]; exact RawI.nil w
  · show RawI w nilS e.ctl; rw [h3]; exact RawI.nil w⟩
theorem Deps.append {w : World} {l m : List EvX} (h : Deps w l) (k : Deps w m) : Deps w (l ++ m) := ⟨fun t ht => by
  rcases List.mem_append.1 ht with ht | ht
  · exact h.all t ht
  · exact k.all t ht⟩
theorem Deps.one {w : World} {es : List EvX} (h : Deps w es) : ∀ u ∈ evF es, u.oneCell' = true := fun u hu => by
  obtain ⟨t, ht, hu⟩ := List.mem_flatMap.1 hu
  have h1 := evA_one (e := t.e) (h.all t ht).1.one (h.all t ht).2.1.one (h.all t ht).2.2.one
  exact (Array.all_eq_true_iff_forall_mem.1 h1) u (by simpa using hu)
/-- The events of such a list. -/
def xs (es : List EvX) : Nat → Ev := fun i => ((es[i]?).map EvX.e).getD zE
theorem evs_row {w : World} {g n : Nat} {cap : Nat} {cs : Array Value} {fr : Nat × Nat} {es : List EvX} (H : w.heap[g]? = some (.cells cs 36 fr)) (hn : es.length = n) (hm : n ≤ maxLen) (hp : ∀ (k : Nat) v, (evF es)[k]? = some v → cs[k]? = some v) (D : Deps w es) : Evs w (.slice (some ⟨g, 0, none⟩) n cap) n (xs es) := by
  refine ⟨⟨_, _, rfl⟩, hm, fun _ => ⟨_, _, rfl, fun i hi => ?_⟩⟩
  have hi2 : es[i]? = some es[i] := List.getElem?_eq_getElem (by omega)
  generalize es[i] = t at hi2
  have ex : xs es i = t.e := by unfold xs; rw [hi2]; rfl
  have ht : t ∈ es := List.mem_of_getElem? hi2
  have hl : g < w.heap.size := lt_of_some H
  have hc : ∀ j v, (evA t.e t.s0 t.s1 t.s2).toList[j]? = some v → w.cell? ⟨g, i * 13 + j, none⟩ = some v := fun j v hv => by
    rw [cell_of_row _ _ _ _ _ _ H]
    exact hp _ _ (evF_get es i j t v hi2 hv)
  rw [ex, Addr.add_mid, Nat.zero_add]
  exact ⟨t.s0, t.s1, t.s2, hl, hc 0 _ rfl, hc 1 _ rfl, hc 2 _ rfl, hc 3 _ rfl, hc 4 _ rfl, hc 5 _ rfl, hc 6 _ rfl, hc 7 _ rfl, hc 8 _ rfl, hc 9 _ rfl, hc 10 _ rfl, hc 11 _ rfl, hc 12 _ rfl, (D.all t ht).1, (D.all t ht).2.1, (D.all t ht).2.2⟩
structure EvO (w : World) (base : Nat) (v : Value) (es : List EvX) : Prop where
  row : w.ownsRow base 36 13 v es.length (evF es)
  deps : Deps w es
theorem EvO.evs {w : World} {base : Nat} {v : Value} {es : List EvX} (h : EvO w base v es) : Evs w v es.length (xs es) := by
  rcases h.row.2 with ⟨h1, h2⟩ | ⟨g, cap, cur, h1, _, h3, h4, h5, h6, h7⟩
  · rw [h1]
    exact ⟨⟨_, _, by rw [h2]⟩, by rw [h2]; exact Nat.zero_le _, fun h => by omega⟩
  · rw [h1]
    refine evs_row h3 rfl (by simp only [maxLen] at *; omega) (fun k u hu => ?_) h.deps
    rw [← h7] at hu
    have hk := (List.getElem?_eq_some_iff.1 hu).1
    rw [List.length_take] at hk
    rw [List.getElem?_take, if_pos (by omega)] at hu
    simpa using hu
theorem EvO.grow {w w' : World} {base : Nat} {v : Value} {es : List EvX} (h : EvO w base v es) (hb : Below w.heap.size w w') : EvO w' base v es := ⟨own_of_block h.row fun k hk => hb.block k (h.row.lt k hk).2, h.deps.grow hb⟩
theorem evO_none (w : World) (base : Nat) : EvO w base nilS [] := ⟨World.ownsRow_nil _ _ _ _, ⟨fun t ht => by simp at ht⟩⟩
theorem evO_lit {w : World} {es : List EvX} {cs : Array Value} {n : Nat} (hn : es.length = n) (hcs : cs = (evF es).toArray) (hm : n ≤ maxLen) (D : Deps w es) : EvO (w.alloc (.cells cs 36)) w.heap.size (.slice (some ⟨w.heap.size, 0, none⟩) n n) es := by
  refine ⟨⟨evF_len es, .inr ⟨w.heap.size, n, cs, by rw [hn], Nat.le_refl _, World.alloc_heap_new w _, by omega, by omega, ?_, ?_⟩⟩, D.grow (below_alloc w _)⟩
  · rw [hcs, List.size_toArray, evF_len, hn]
  · rw [hcs, List.take_of_length_le (by rw [evF_len]; omega)]
end Go.Proofs.YtnedkielehmneaaGreatDoor
