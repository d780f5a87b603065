/- Store, Drain. -/
import Derived.Test.YtjkjbcnafpljoaaRj
namespace Go.Proofs.Ytjkjbcnafpljoaa
open Go.RowKit
set_option linter.unusedVariables false
set_option linter.unusedSimpArgs false

def storeE (S : Sta) (core addr : Int) : Int := if hasWordB S addr then (if hasCoreB S core then (if S.depth ≤ (bufOf S core).length then 30 else 0) else 1) else 1
def storeT (S : Sta) (core addr : Int) : Int := if storeE S core addr = 0 then S.stamps.length + 1 else 0
def storeS (S : Sta) (core addr value : Int) : Sta := if storeE S core addr = 0 then { S with bufs := S.bufs.set core.toNat (bufOf S core ++ [⟨addr, value, S.stamps.length + 1⟩]), stamps := S.stamps ++ [0] } else S
theorem Turn.after {g : Nat} {L : Lay} {S' : Sta} {w w1 w2 : World} (t : Turn g L S' w1 w2) (hb : Below w.heap.size w w1) : Turn g L S' w w2 := by
  obtain ⟨L', m, go, ft⟩ := t
  exact ⟨L', m, (goes_of_below hb).trans go fun _ _ e => e, fun k hk => (ft k hk).imp id fun e => Nat.le_trans hb.size e⟩
theorem Turn.join {g : Nat} {L L1 : Lay} {S' : Sta} {w w1 w2 : World} (k : Turn g L1 S' w1 w2) (go1 : Goes (Foot g L) w w1) (ft1 : ∀ k, Foot g L1 k → Foot g L k ∨ w.heap.size ≤ k) : Turn g L S' w w2 := by
  obtain ⟨L2, k1, k2, k3⟩ := k
  refine ⟨L2, k1, go1.trans k2 fun b hb hf => ?_, fun b hb => ?_⟩
  · rcases ft1 b hf with e | e
    · exact e
    · omega
  · rcases k3 b hb with e | e
    · exact ft1 b e
    · exact .inr (Nat.le_trans go1.size e)
set_option maxRecDepth 4000 in
theorem store_c (g : Nat) (S : Sta) (L : Lay) (core addr value : Int) (w : World) (H : MemAt g S L w) (O : S.Ok) (hA : U64 addr) (ht : S.stamps.length < 1000000) : Calls Try.prog 27 #[ptr g 0, vI core, vU addr, vU value] w fun e w' => e = .returned (.tuple #[vI (storeT S core addr), vI (storeE S core addr)]) ∧ Turn g L (storeS S core addr value) w w' := by
  cases hW : hasWordB S addr
  · have e0 : storeE S core addr = 1 := by rw [storeE, hW]; rfl
    rw [storeT, storeS, e0]
    go_enter Try.func27, Try.ntmps27
    go_wp2_with (go_at_call 34; refine (hasWord_c g S L addr _ H O.w2 hA).mono ?_; rintro e w' ⟨rfl, rfl⟩; dsimp only; rw [hW])
    go_ret2
    exact ⟨rfl, turn_refl H⟩
  · cases hC : hasCoreB S core
    · have e0 : storeE S core addr = 1 := by rw [storeE, hW, hC]; rfl
      rw [storeT, storeS, e0]
      go_enter Try.func27, Try.ntmps27
      go_wp2_with (first | (go_at_call 34; refine (hasWord_c g S L addr _ H O.w2 hA).mono ?_; rintro e w' ⟨rfl, rfl⟩; dsimp only; rw [hW]) | (go_at_call 50; refine (next_c g S L addr value _ H (by omega)).mono ?_; rintro e w1 ⟨rfl, hB1⟩; dsimp only) | (go_at_call 35; refine (at_no 0 g S L core _ ⟨addr, value, S.stamps.length + 1⟩ w1 (H.grow hB1) hC).mono ?_; rintro e w2 ⟨rfl, T⟩; dsimp only))
      go_ret2
      exact ⟨rfl, (T.after hB1).grow (below_alloc _ _)⟩
    · obtain ⟨k, rfl, hk⟩ := core_nat hC
      obtain ⟨u, l, hu, hl⟩ := core_at H hk
      by_cases hd : S.depth ≤ l.length
      · have e0 : storeE S k addr = 30 := by rw [storeE, hW, hC, buf_at hl, if_pos rfl, if_pos rfl, if_pos hd]
        rw [storeT, storeS, e0]
        go_enter Try.func27, Try.ntmps27
        go_wp2_with (first | (go_at_call 34; refine (hasWord_c g S L addr _ H O.w2 hA).mono ?_; rintro e w' ⟨rfl, rfl⟩; dsimp only; rw [hW]) | (go_at_call 50; refine (next_c g S L addr value _ H (by omega)).mono ?_; rintro e w1 ⟨rfl, hB1⟩; dsimp only) | (go_at_call 35; refine (at_c49 g S S L k ⟨addr, value, S.stamps.length + 1⟩ nilL 30 w1 (H.grow hB1) hk (fun w3 h3 => hold_full g S L k u l _ w3 h3 hu hl hd)).mono ?_; rintro e w2 ⟨rfl, T⟩; dsimp only))
        go_ret2
        exact ⟨rfl, (T.after hB1).grow (below_alloc _ _)⟩
      · have e0 : storeE S k addr = 0 := by rw [storeE, hW, hC, buf_at hl, if_pos rfl, if_pos rfl, if_neg hd]
        rw [storeT, storeS, e0, if_pos rfl, if_pos rfl, buf_at hl, Int.toNat_natCast]
        go_enter Try.func27, Try.ntmps27
        go_upto_region 4 with (first | (go_at_call 34; refine (hasWord_c g S L addr _ H O.w2 hA).mono ?_; rintro e w' ⟨rfl, rfl⟩; dsimp only; rw [hW]) | (go_at_call 50; refine (next_c g S L addr value _ H (by omega)).mono ?_; rintro e w1 ⟨rfl, hB1⟩; dsimp only) | (go_at_call 35; refine (at_c49 g S { S with bufs := S.bufs.set k (l ++ [⟨addr, value, S.stamps.length + 1⟩]) } L k ⟨addr, value, S.stamps.length + 1⟩ ⟨addr, value, S.stamps.length + 1⟩ 0 w1 (H.grow hB1) hk (fun w3 h3 => hold_ok g S L k u l _ w3 h3 hu hl (by omega) O.d2)).mono ?_; rintro e w2 ⟨rfl, T⟩; dsimp only))
        obtain ⟨L1, M0, go0, ft1⟩ := T.after hB1
        have M1 := M0.grow (below_alloc w2 (.cells #[vU addr, vU value, vI (S.stamps.length + 1)] 59))
        have go1 := go0.grow (below_alloc w2 (.cells #[vU addr, vU value, vI (S.stamps.length + 1)] 59))
        have hx : (w2.alloc (.cells #[vU addr, vU value, vI (S.stamps.length + 1)] 59)).heap[w2.heap.size]? = some (.cells #[vU addr, vU value, vI (S.stamps.length + 1)] 59) := heap_alloc_new _ _
        have hnF : ¬ Foot g L1 w2.heap.size := fun h => Nat.lt_irrefl _ (M0.lt h)
        generalize w2.alloc (.cells #[vU addr, vU value, vI (S.stamps.length + 1)] 59) = w3 at M1 go1 hx ⊢
        go_wp2_with (go_at_call 51; refine (give_c g _ L1 _ M1 (by show S.stamps.length < _; omega)).mono ?_; rintro e w4 ⟨rfl, T4⟩; dsimp only; have hx4 := T4.other (lt_of_some hx) hnF; rw [hx] at hx4; have z2 : w4.cell? ⟨w2.heap.size, 2, none⟩ = some (vI (S.stamps.length + 1)) := by { rw [cell_of_row _ _ _ _ _ _ hx4]; rfl })
        go_ret2
        exact ⟨rfl, T4.join go1 ft1⟩
def drainE (S : Sta) (core : Int) : Int := if hasCoreB S core then (if bufOf S core = [] then 31 else 0) else 1
def drainL (S : Sta) (core : Int) : Lt := if hasCoreB S core then (bufOf S core).headD nilL else nilL
def drainS (S : Sta) (core : Int) : Sta := if drainE S core = 0 then reachS { S with bufs := S.bufs.set core.toNat (bufOf S core).tail } (drainL S core) else S
/-- The result laid down behind a call that turned the memory. -/
theorem Turn.lay {g d : Nat} {S' : Sta} {L : Lay} {w w1 w2 : World} (t : Turn g L S' w1 w2) (hb : Below w.heap.size w w1) (hd : w.heap.size ≤ d) (hd1 : d < w1.heap.size) (hf : ∀ k, Foot g L k → k < w.heap.size) (x : Array Value) : Turn g L S' w (w2.setRow d x) := by
  obtain ⟨L', m, go, ft⟩ := t
  have hn : ¬ Foot g L' d := fun e => by
    rcases ft d e with e | e
    · have := hf _ e; omega
    · omega
  refine ⟨L', m.keep fun k hk => setRow_other _ _ _ _ (fun e => hn (e ▸ hk)), ?_, fun k hk => (ft k hk).imp id fun e => Nat.le_trans hb.size e⟩
  refine ((goes_of_below hb).trans go fun _ _ e => e).trans (goes_setRow (F := fun k => k = d) w2 (b := d) rfl x) fun k hk e => ?_
  have e : k = d := e
  omega
theorem reach_eq (S : Sta) (s : Lt) {k m : Nat} (hk : s.a = 8 * k) (hm : s.t - 1 = m) : ({ S with words := S.words.set k (s.v, s.t), reached := S.reached + 1, stamps := S.stamps.set m (S.reached + 1) } : Sta) = reachS S s := by
  rw [reachS, show (s.a / 8).toNat = k by omega, show (s.t - 1).toNat = m by omega]
theorem sum_le_of_mem {l : List Nat} {x : Nat} (h : x ∈ l) : x ≤ l.sum := by
  induction l with
  | nil => cases h
  | cons a l ih =>
    rcases List.mem_cons.1 h with rfl | h
    · simp
    · have := ih h; simp; omega
theorem Sta.Ok.reach {S : Sta} (O : S.Ok) : S.reached ≤ S.stamps.length := by have := O.cnt; omega
set_option maxRecDepth 4000 in
theorem drain_c (g : Nat) (S : Sta) (L : Lay) (core : Int) (w : World) (H : MemAt g S L w) (O : S.Ok) (ht : S.stamps.length < 1000000) : Calls Try.prog 28 #[ptr g 0, vI core] w fun e w' => e = .returned (.tuple #[(drainL S core).val, vI (drainE S core)]) ∧ Turn g L (drainS S core) w w' := by
  have hf : ∀ k, Foot g L k → k < w.heap.size := fun k hk => H.lt hk
  cases hC : hasCoreB S core
  · have e0 : drainE S core = 1 := by rw [drainE, hC]; rfl
    have e1 : drainL S core = nilL := by rw [drainL, hC]; rfl
    rw [drainS, e0, e1]
    go_enter Try.func28, Try.ntmps28
    go_upto_region 1 with fail
    generalize h1 : World.alloc w _ = w1
    have hB : Below w.heap.size w w1 := by rw [← h1]; exact below_alloc _ _
    have hr : w1.heap[w.heap.size]? = some (.cells nilL.cells 59) := by rw [← h1]; exact heap_alloc_new _ _
    clear h1
    generalize hb : w.heap.size = b at hr ⊢
    go_upto_region 2 with (go_at_call 35; refine (at_no 0 g S L core _ nilL _ (H.grow hB) hC).mono ?_; rintro e w2 ⟨rfl, T⟩; dsimp only)
    have hx : w2.heap[b]? = some (.cells nilL.cells 59) := by
      rw [T.other (lt_of_some hr) (fun h => by have := hf _ h; omega)]; exact hr
    have hE := (T.grow (below_alloc w2 (.cells nilL.cells 59))).lay hB (d := b) (by omega) (lt_of_some hr) hf nilL.cells
    have hx2 : (w2.alloc (.cells nilL.cells 59)).heap[b]? = some (.cells nilL.cells 59) := by rw [Below.heap_alloc _ _ _ (lt_of_some hx)]; exact hx
    generalize h3 : World.alloc w2 _ = w3
    have h4 : w2.alloc (.cells nilL.cells 59) = w3 := h3
    rw [h4] at hE hx2
    clear h3 h4
    go_wp2_with ((with_reducible refine wpList_put59 hx2 rfl _ _ rfl rfl _ _ _ rfl ?_); simp only [Act.put])
    all_goals exact bodyPost_ret (back_le rfl _ _ _ _ _ _ rfl (setRow_heap _ _ _ _ _ _ hx2)) rfl ⟨rfl, hE⟩
  · obtain ⟨k, rfl, hk⟩ := core_nat hC
    obtain ⟨u, l, hu, hl⟩ := core_at H hk
    cases l with
    | nil =>
      have e0 : drainE S k = 31 := by rw [drainE, hC, buf_at hl]; rfl
      have e1 : drainL S k = nilL := by rw [drainL, hC, buf_at hl]; rfl
      rw [drainS, e0, e1]
      go_enter Try.func28, Try.ntmps28
      go_upto_region 1 with fail
      generalize h1 : World.alloc w _ = w1
      have hB : Below w.heap.size w w1 := by rw [← h1]; exact below_alloc _ _
      have hr : w1.heap[w.heap.size]? = some (.cells nilL.cells 59) := by rw [← h1]; exact heap_alloc_new _ _
      clear h1
      generalize hb : w.heap.size = b at hr ⊢
      go_upto_region 2 with (go_at_call 35; refine (at_c52 g S S L k nilL nilL 31 _ (H.grow hB) hk (fun w3 h3 => release_none g S L k u nilL w3 h3 hu hl)).mono ?_; rintro e w2 ⟨rfl, T⟩; dsimp only)
      have hx : w2.heap[b]? = some (.cells nilL.cells 59) := by
        rw [T.other (lt_of_some hr) (fun h => by have := hf _ h; omega)]; exact hr
      have hE := (T.grow (below_alloc w2 (.cells nilL.cells 59))).lay hB (d := b) (by omega) (lt_of_some hr) hf nilL.cells
      have hx2 : (w2.alloc (.cells nilL.cells 59)).heap[b]? = some (.cells nilL.cells 59) := by rw [Below.heap_alloc _ _ _ (lt_of_some hx)]; exact hx
      generalize h3 : World.alloc w2 _ = w3
      have h4 : w2.alloc (.cells nilL.cells 59) = w3 := h3
      rw [h4] at hE hx2
      clear h3 h4
      go_wp2_with ((with_reducible refine wpList_put59 hx2 rfl _ _ rfl rfl _ _ _ rfl ?_); simp only [Act.put])
      all_goals exact bodyPost_ret (back_le rfl _ _ _ _ _ _ rfl (setRow_heap _ _ _ _ _ _ hx2)) rfl ⟨rfl, hE⟩
    | cons s0 rest =>
      have e0 : drainE S k = 0 := by rw [drainE, hC, buf_at hl]; rfl
      have e1 : drainL S k = s0 := by rw [drainL, hC, buf_at hl]; rfl
      rw [drainS, e0, e1, if_pos rfl, buf_at hl, Int.toNat_natCast]
      obtain ⟨⟨k', ha, hk'⟩, ht1, ht2⟩ := O.held _ (List.mem_of_getElem? hl) s0 List.mem_cons_self
      obtain ⟨m, hm⟩ : ∃ m : Nat, s0.t - 1 = m := ⟨(s0.t - 1).toNat, by omega⟩
      have hr1 := O.pos
      have hr2 := O.reach
      have hdiv : Hid (s0.a.tdiv 8 = k') := by show s0.a.tdiv 8 = k'; rw [ha, Int.tdiv_eq_ediv_of_nonneg (by omega)]; omega
      have hmlt : m < S.stamps.length := by omega
      replace ha := show Hid _ from ha
      replace hm := show Hid _ from hm
      clear ht1 ht2
      go_enter Try.func28, Try.ntmps28
      go_upto_region 1 with fail
      generalize h1 : World.alloc w _ = w1
      have hB : Below w.heap.size w w1 := by rw [← h1]; exact below_alloc _ _
      have hr : w1.heap[w.heap.size]? = some (.cells nilL.cells 59) := by rw [← h1]; exact heap_alloc_new _ _
      clear h1
      generalize hb : w.heap.size = b at hr ⊢
      go_upto_region 2 with (go_at_call 35; refine (at_c52 g S { S with bufs := S.bufs.set k rest } L k nilL s0 0 _ (H.grow hB) hk (fun w3 h3 => release_ok g S L k u nilL s0 rest w3 h3 hu hl)).mono ?_; rintro e w2 ⟨rfl, T⟩; dsimp only)
      obtain ⟨L1, M0, go0, ft1⟩ := id T
      have M1 := M0.grow (below_alloc w2 (.cells s0.cells 59))
      have go1 := go0.grow (below_alloc w2 (.cells s0.cells 59))
      have hp : (w2.alloc (.cells s0.cells 59)).heap[w2.heap.size]? = some (.cells s0.cells 59) := heap_alloc_new _ _
      have hnF : ¬ Foot g L1 w2.heap.size := fun h => Nat.lt_irrefl _ (M0.lt h)
      generalize h3 : World.alloc w2 _ = w3
      have h4 : w2.alloc (.cells s0.cells 59) = w3 := h3
      rw [h4] at M1 go1 hp
      clear h3 h4
      have z0 : w3.cell? ⟨w2.heap.size, 0, none⟩ = some (vU s0.a) := by rw [cell_of_row _ _ _ _ _ _ hp]; rfl
      have z1 : w3.cell? ⟨w2.heap.size, 1, none⟩ = some (vU s0.v) := by rw [cell_of_row _ _ _ _ _ _ hp]; rfl
      have z2 : w3.cell? ⟨w2.heap.size, 2, none⟩ = some (vI s0.t) := by rw [cell_of_row _ _ _ _ _ _ hp]; rfl
      go_upto_region 5 with (go_at_call 53; refine (reach_c g _ L1 s0.a k' m s0.v s0.t _ M1 hdiv.out O.w2 hk' hm.out hmlt (by show S.stamps.length < _; omega) (by show 0 ≤ S.reached ∧ S.reached < 1000000000; omega)).mono ?_; rintro e w4 ⟨rfl, T4⟩; dsimp only)
      rw [reach_eq { S with bufs := S.bufs.set k rest } s0 ha.out hm.out] at T4
      have hp4 : w4.heap[w2.heap.size]? = some (.cells s0.cells 59) := by rw [T4.other (lt_of_some hp) hnF]; exact hp
      have T5 := T4.join go1 ft1
      have hx : w4.heap[b]? = some (.cells nilL.cells 59) := by
        rw [T5.other (lt_of_some hr) (fun h => by have := hf _ h; omega)]; exact hr
      have hE := T5.lay hB (d := b) (by omega) (lt_of_some hr) hf s0.cells
      clear z0 z1 z2
      have z0 : w4.cell? ⟨w2.heap.size, 0, none⟩ = some (vU s0.a) := by rw [cell_of_row _ _ _ _ _ _ hp4]; rfl
      have z1 : w4.cell? ⟨w2.heap.size, 1, none⟩ = some (vU s0.v) := by rw [cell_of_row _ _ _ _ _ _ hp4]; rfl
      have z2 : w4.cell? ⟨w2.heap.size, 2, none⟩ = some (vI s0.t) := by rw [cell_of_row _ _ _ _ _ _ hp4]; rfl
      go_wp2_with ((with_reducible refine wpList_put59 hx rfl _ _ rfl rfl _ _ _ rfl ?_); simp only [Act.put])
      all_goals exact bodyPost_ret (back_le rfl _ _ _ _ _ _ rfl (setRow_heap _ _ _ _ _ _ hx)) rfl ⟨rfl, hE⟩
end Go.Proofs.Ytjkjbcnafpljoaa
