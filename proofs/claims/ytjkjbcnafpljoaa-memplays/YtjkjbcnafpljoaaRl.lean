/- Flush. -/
import Derived.Test.YtjkjbcnafpljoaaPl
namespace Go.Proofs.Ytjkjbcnafpljoaa
open Go.RowKit
set_option linter.unusedVariables false
set_option linter.unusedSimpArgs false

/-- A call that turns a memory and hands back stores, in a row of its own. -/
def TurnR (g : Nat) (L : Lay) (S : Sta) (v : Value) (l : List Lt) (w w' : World) : Prop := ∃ L', MemAt g S L' w' ∧ Goes (Foot g L) w w' ∧ (∀ k, Foot g L' k → Foot g L k ∨ w.heap.size ≤ k) ∧ w'.ownsRow w.heap.size 59 3 v l.length (flatL l) ∧ ∀ b, v.ownBlock = some b → ¬ Foot g L' b
theorem TurnR.turn {g : Nat} {L : Lay} {S : Sta} {v : Value} {l : List Lt} {w w' : World} (h : TurnR g L S v l w w') : Turn g L S w w' := by
  obtain ⟨L', h1, h2, h3, _⟩ := h
  exact ⟨L', h1, h2, h3⟩
theorem turnR_none {g : Nat} {L : Lay} {S : Sta} {w w' : World} (h : Turn g L S w w') : TurnR g L S (.slice none 0 0) [] w w' := by
  obtain ⟨L', h1, h2, h3⟩ := h
  exact ⟨L', h1, h2, h3, World.ownsRow_nil _ _ _ _, fun b hb => by cases hb⟩
/-- The head of the loop: so many were let go, one fewer is told. -/
structure FL (g : Nat) (S : Sta) (L : Lay) (core : Int) (w : World) (j : Nat) (gone var : Value) (wr : World) : Prop where
  ex : ∃ L' p, MemAt g (dr S core (j + 1)) L' wr ∧ Goes (Foot g L) w wr ∧ (∀ k, Foot g L' k → Foot g L k ∨ w.heap.size ≤ k) ∧ wr.ownsRow w.heap.size 59 3 gone j (flatL ((bufOf S core).take j)) ∧ (∀ b, gone.ownBlock = some b → ¬ Foot g L' b) ∧
    var = ptr p 0 ∧ wr.heap[p]? = some (.cells (drainL (dr S core j) core).cells 59) ∧ w.heap.size ≤ p ∧ ¬ Foot g L' p ∧ gone.ownBlock ≠ some p
theorem own_mono {w : World} {base base' size n : Nat} {e : TypeId} {v : Value} {xs : List Value} (h : w.ownsRow base e size v n xs) (hb : base' ≤ base) : w.ownsRow base' e size v n xs :=
  ⟨h.1, h.2.imp id fun ⟨g, cap, cur, h1, h2, h3⟩ => ⟨g, cap, cur, h1, Nat.le_trans hb h2, h3⟩⟩
theorem own_base {w : World} {base base' size n m q cap : Nat} {e : TypeId} {xs : List Value} (h : w.ownsRow base e size (.slice (some ⟨q, 0, none⟩) m cap) n xs) (hb : base' ≤ q) : w.ownsRow base' e size (.slice (some ⟨q, 0, none⟩) m cap) n xs :=
  ⟨h.1, h.2.imp id fun ⟨g, c, cur, h1, h2, h3⟩ => ⟨g, c, cur, h1, by cases h1; exact hb, h3⟩⟩
/-- What stands behind the append of a round. -/
theorem fl_app {g : Nat} {T : Sta} {L' : Lay} {gone : Value} {s : Lt} {wr w3 : World} {p : Nat} (M : MemAt g T L' wr) (hgone : ∀ b, gone.ownBlock = some b → ¬ Foot g L' b) (hp : wr.heap[p]? = some (.cells s.cells 59)) (hpn : gone.ownBlock ≠ some p) (q2 : (wr.alloc (.cells s.cells 59)).grownBy w3 gone.ownBlock) :
    MemAt g T L' w3 ∧ w3.heap[p]? = some (.cells s.cells 59) := by
  have hb := below_alloc wr (.cells s.cells 59)
  have M1 := M.grow hb
  refine ⟨M1.keep fun k hk => q2.block k (M1.lt hk) (fun e => hgone k e.symm hk), ?_⟩
  rw [q2.block p (Nat.lt_of_lt_of_le (lt_of_some hp) hb.size) (fun e => hpn e.symm), hb.block p (lt_of_some hp)]
  exact hp
theorem fl_step {g : Nat} {S : Sta} {L L' : Lay} {core : Int} {w wr w3 w5 : World} {j : Nat} {gone : Value} {s : Lt} {q cap : Nat} (hf : ∀ k, Foot g L k → k < w.heap.size) (hgo : Goes (Foot g L) w wr) (hft : ∀ k, Foot g L' k → Foot g L k ∨ w.heap.size ≤ k) (M : MemAt g (dr S core (j + 1)) L' wr) (hgone : ∀ b, gone.ownBlock = some b → ¬ Foot g L' b) (hgb : ∀ b, gone.ownBlock = some b → w.heap.size ≤ b)
    (q1 : w3.ownsRow 0 59 3 (.slice (some ⟨q, 0, none⟩) (j + 1) cap) (j + 1) (flatL ((bufOf S core).take (j + 1)))) (q2 : (wr.alloc (.cells s.cells 59)).grownBy w3 gone.ownBlock) (q3 : gone.ownBlock = some q ∨ q = (wr.alloc (.cells s.cells 59)).heap.size) (q4 : q < w3.heap.size)
    (M3 : MemAt g (dr S core (j + 1)) L' w3) (T : Turn g L' (dr S core (j + 2)) (w3.alloc (.cells s.cells 59)) w5) :
    w5.heap[w3.heap.size]? = some (.cells s.cells 59) ∧ FL g S L core w (j + 1) (.slice (some ⟨q, 0, none⟩) (j + 1) cap) (ptr w3.heap.size 0) (w5.setRow w3.heap.size (drainL (dr S core (j + 1)) core).cells) := by
  have hb := below_alloc wr (.cells s.cells 59)
  have hb3 := below_alloc w3 (.cells s.cells 59)
  have hqF : ¬ Foot g L' q := by
    rcases q3 with e | e
    · exact hgone q e
    · intro h; have := M.lt h; have := hb.size; omega
  have hqw : w.heap.size ≤ q := by
    rcases q3 with e | e
    · exact hgb q e
    · rw [e]; exact Nat.le_trans hgo.size hb.size
  have hws : w.heap.size ≤ w3.heap.size := Nat.le_trans (Nat.le_trans hgo.size hb.size) q2.size
  have hpF : ¬ Foot g L' w3.heap.size := fun h => Nat.lt_irrefl _ (M3.lt h)
  have hp5 : w5.heap[w3.heap.size]? = some (.cells s.cells 59) := by
    rw [T.other (lt_of_some (heap_alloc_new w3 _)) hpF]; exact heap_alloc_new _ _
  have hgo3 : Goes (Foot g L) w w3 := (hgo.grow hb).trans (goes_grown (F := fun k => gone.ownBlock = some k) q2 (fun k e => e)) fun k hk e => by have := hgb k e; omega
  obtain ⟨L2, M5, go5, ft5⟩ := T
  have hp2 : ¬ Foot g L2 w3.heap.size := fun h => by
    rcases ft5 _ h with e | e
    · exact hpF e
    · have := lt_of_some (heap_alloc_new w3 (.cells s.cells 59)); omega
  have hq2 : ¬ Foot g L2 q := fun h => by
    rcases ft5 _ h with e | e
    · exact hqF e
    · have := hb3.size; omega
  have hmono : ∀ k, k < w.heap.size → Foot g L' k → Foot g L k := fun k hk hk2 => by
    rcases hft k hk2 with e | e
    · exact e
    · omega
  refine ⟨hp5, ⟨L2, w3.heap.size, M5.keep fun k hk => setRow_other _ _ _ _ (fun e => hp2 (e ▸ hk)), ?_, ?_, ?_, ?_, rfl, setRow_heap _ _ _ _ _ _ hp5, hws, hp2, ?_⟩⟩
  · refine ((hgo3.grow hb3).trans go5 hmono).trans (goes_setRow (F := fun k => k = w3.heap.size) w5 (b := w3.heap.size) rfl _) fun k hk e => ?_
    have e : k = w3.heap.size := e
    omega
  · intro k hk
    rcases ft5 k hk with e | e
    · exact hft k e
    · exact .inr (Nat.le_trans (Nat.le_trans hws hb3.size) e)
  · refine own_base (own_of_block (w := w3) q1 fun b hb => ?_) hqw
    obtain rfl : q = b := by simpa [Value.ownBlock] using hb
    rw [setRow_other _ _ _ _ (by omega), go5.block q (Nat.lt_of_lt_of_le q4 hb3.size) hqF, hb3.block q q4]
  · intro b hb
    obtain rfl : q = b := by simpa [Value.ownBlock] using hb
    exact hq2
  · simp [Value.ownBlock]; omega
set_option maxRecDepth 4000 in
theorem flush_no (g : Nat) (S : Sta) (L : Lay) (core : Int) (w : World) (H : MemAt g S L w) (hC : hasCoreB S core = false) : Calls Try.prog 25 #[ptr g 0, vI core] w fun e w' => e = .returned (.tuple #[.slice none 0 0, vI 1]) ∧ w' = w := by
  go_enter Try.func25, Try.ntmps25
  go_wp2_with (go_at_call 33; refine (hasCore_c g S L core _ H).mono ?_; rintro e w' ⟨rfl, rfl⟩; dsimp only; rw [hC])
  go_ret2
  exact ⟨rfl, rfl⟩
set_option maxRecDepth 4000 in
theorem flush_c (g : Nat) (S : Sta) (L : Lay) (core : Int) (w : World) (H : MemAt g S L w) (O : S.Ok) (ht : S.stamps.length < 1000000) (hC : hasCoreB S core = true) : Calls Try.prog 25 #[ptr g 0, vI core] w fun e w' => ∃ v, e = .returned (.tuple #[v, vI 0]) ∧ TurnR g L (flushS S core) v (bufOf S core) w w' := by
  have hf : ∀ k, Foot g L k → k < w.heap.size := fun k hk => H.lt hk
  go_enter Try.func25, Try.ntmps25
  go_wp2_with (first | (go_at_call 33; refine (hasCore_c g S L core _ H).mono ?_; rintro e w' ⟨rfl, rfl⟩; dsimp only; rw [hC]) | (go_at_call 28; refine (drain_c g S L core _ H O ht).mono ?_; rintro e w1 ⟨rfl, T⟩; dsimp only))
  have hst : FL g S L core w' 0 (.slice none 0 0) (ptr w1.heap.size 0) (w1.alloc (.cells (drainL S core).cells 59)) := by
    obtain ⟨L1, M, go, ft⟩ := T
    have hb := below_alloc w1 (.cells (drainL S core).cells 59)
    exact ⟨L1, w1.heap.size, M.grow hb, go.grow hb, ft, World.ownsRow_nil _ _ _ _, (fun b hb => by cases hb), rfl, heap_alloc_new _ _, go.size, (fun h => Nat.lt_irrefl _ (M.lt h)), by simp [Value.ownBlock]⟩
  have e0 : vI (drainE S core) = vI (drainE (dr S core 0) core) := rfl
  rw [e0]
  clear e0
  generalize w1.heap.size = p0 at hst ⊢
  generalize h2 : w1.alloc _ = w2
  replace hst : FL g S L core w' 0 (.slice none 0 0) (ptr p0 0) w2 := by rw [← h2]; exact hst
  clear h2 T
  go_loopg [6, 7, 8] ((bufOf S core).length + 1) (fun gk s6 s7 s8 wx => ∃ j : Nat, j ≤ (bufOf S core).length ∧ j + gk = (bufOf S core).length + 1 ∧ s8 = vI (drainE (dr S core j) core) ∧ Hid (FL g S L core w' j s6 s7 wx))
  case atStart =>
    exact ⟨0, Nat.zero_le _, by omega, rfl, hst⟩
  case round =>
    obtain ⟨j, hj, hjg, rfl, hF⟩ := hrel
    obtain ⟨L', p, M, hgo, hft, hown, hgone, rfl, hp, hpw, hpF, hpn⟩ := hF.out.ex
    clear hF hst
    by_cases hlt : j < (bufOf S core).length
    · have hcj := dr_core (S := S) core j
      have hbj := dr_buf hC j
      rw [hC] at hcj
      rw [List.drop_eq_getElem_cons hlt] at hbj
      have hE : drainE (dr S core j) core = 0 := by rw [drainE, hcj, hbj]; rfl
      have hL : drainL (dr S core j) core = (bufOf S core)[j] := by rw [drainL, hcj, hbj]; rfl
      have htake : (bufOf S core).take j ++ [(bufOf S core)[j]] = (bufOf S core).take (j + 1) := List.take_append_getElem hlt
      have hlj : ((bufOf S core).take j).length = j := by rw [List.length_take]; omega
      rw [hE]
      rw [hL] at hp
      generalize (bufOf S core)[j] = x at *
      have hj9 : j < 1000000000 := by
        have h1 := O.lens _ (List.mem_of_getElem? (core_buf hC))
        have h2 := O.d2
        omega
      have z0 : wr.cell? ⟨p, 0, none⟩ = some (vU x.a) := by rw [cell_of_row _ _ _ _ _ _ hp]; rfl
      have z1 : wr.cell? ⟨p, 1, none⟩ = some (vU x.v) := by rw [cell_of_row _ _ _ _ _ _ hp]; rfl
      have z2 : wr.cell? ⟨p, 2, none⟩ = some (vI x.t) := by rw [cell_of_row _ _ _ _ _ _ hp]; rfl
      have hgb : ∀ b, u6.ownBlock = some b → w'.heap.size ≤ b := fun b hb => (hown.lt b hb).1
      have hown0 : (wr.alloc (.cells x.cells 59)).ownsRow 0 59 3 u6 ((bufOf S core).take j).length (flatL ((bufOf S core).take j)) := by
        rw [hlj]; exact own_mono (hown.alloc _) (Nat.zero_le _)
      clear hbj hcj hE hL
      go_upto_region 6 with (at_builtin; refine wpList_app_lt (by rfl) _ _ (by rfl) u6 ((bufOf S core).take j) (by rfl) hown0 wr.heap.size 0 1 x (by rfl) ⟨by rw [World.cell?_alloc_new]; rfl, by rw [World.cell?_alloc_new]; rfl, by rw [World.cell?_alloc_new]; rfl⟩ (by rw [hlj]; exact hj9) ?_; intro q cap w3 q1 q2 q3 q4; obtain ⟨M3, hp3⟩ := fl_app M hgone hp hpn q2; have y0 : w3.cell? ⟨p, 0, none⟩ = some (vU x.a) := (by rw [cell_of_row _ _ _ _ _ _ hp3]; rfl); have y1 : w3.cell? ⟨p, 1, none⟩ = some (vU x.v) := (by rw [cell_of_row _ _ _ _ _ _ hp3]; rfl); have y2 : w3.cell? ⟨p, 2, none⟩ = some (vI x.t) := (by rw [cell_of_row _ _ _ _ _ _ hp3]; rfl); simp only [Act.put, List.setIfInBounds_toArray, List.set_cons_succ, List.set_cons_zero])
      have hlj1 : ((bufOf S core).take (j + 1)).length = j + 1 := by rw [List.length_take]; omega
      rw [htake, hlj, hlj1] at q1
      simp only [hlj]
      have hO1 := dr_ok O core (j + 1)
      have ht1 : (dr S core (j + 1)).stamps.length < 1000000 := by rw [(dr_len S core (j + 1)).2.1]; exact ht
      have M4 := M3.grow (below_alloc w3 (.cells x.cells 59))
      clear y0 y1 y2 z0 z1 z2
      go_wp2_with (first | (go_at_call 28; refine (drain_c g (dr S core (j + 1)) L' core _ M4 hO1 ht1).mono ?_; rintro e w5 ⟨rfl, T5⟩; dsimp only; obtain ⟨hp5, hFL⟩ := fl_step hf hgo hft M hgone hgb q1 q2 q3 q4 M3 T5) | ((with_reducible refine wpList_put59 hp5 rfl _ _ rfl rfl _ _ _ rfl ?_); simp only [Act.put]))
      go_roundg (gk - 1)
      case rel => exact ⟨j + 1, by omega, by omega, rfl, hFL⟩
      case measure => omega
    · obtain rfl : j = (bufOf S core).length := by omega
      have hcj := dr_core (S := S) core (bufOf S core).length
      have hbj := dr_buf hC (bufOf S core).length
      rw [hC] at hcj
      rw [List.drop_length] at hbj
      have hE : drainE (dr S core (bufOf S core).length) core = 31 := by rw [drainE, hcj, hbj]; rfl
      rw [hE]
      clear hcj hbj hE
      have hfin : TurnR g L (flushS S core) u6 (bufOf S core) w' wr := by
        rw [List.take_length] at hown
        have e1 : dr S core ((bufOf S core).length + 1) = flushS S core := dr_end hC
        rw [e1] at M
        exact ⟨L', M, hgo, hft, hown, hgone⟩
      go_wp2
      go_ret2
      exact ⟨u6, rfl, hfin⟩
end Go.Proofs.Ytjkjbcnafpljoaa
