/- Own law: a range over a closure that hands on two values, whose rounds go on or leave. No program is named. -/
import Derived.Test.YtilbnjldfgofmaaRg
namespace Go.Rg
open Go.RowKit
set_option linter.unusedVariables false
set_option linter.unusedSimpArgs false
set_option maxRecDepth 8000

open Go Go.Shelf Go.Proofs.Ytilbnjldfgofmaa
variable {P : Program}
/-- How a round is left: on, or by a return. -/
def twoPost (B : Nat) (I Ix : Nat → World → Prop) (k : Nat) (W : World) : Exit → Act → World → Prop
  | .normal, _, W' => KeepsFrom B W W' ∧ I (k + 1) W'
  | .ret, _, W' => KeepsFrom B W W' ∧ Ix k W'
  | _, _, _ => False
theorem twoPost_lets {B : Nat} {I Ix : Nat → World → Prop} {k : Nat} {W : World} : ¬ LetsOut (twoPost B I Ix k W) := by
  rintro ⟨a, w, h⟩
  exact h
/-- **A range over a closure that hands on two values, each round of which goes on or leaves by a return.** I k: ahead of the k-th; H k: where it is handed on; Ix k: where it was left. -/
theorem wp_range2 {p1 p2 : Tmp} {assign body : Code} {Q : Exit → Act → World → Prop} {a : Act} {w : World} {g : Operand} {gf : Nat} {lb : Array Value} (hg : a.eval g = .func (.func gf) #[] lb) (eg : ∀ args w, (callFunc gf args).run P w = .ok (.enter gf args) w)
    (y x : Nat → Value) (I H Ix E : Nat → World → Prop) (Ab : Nat → Act → World → Prop)
    (hseq : ∀ (l : Nat) (X Y : World → Prop) (W : World), (∀ W1 W2, X W1 → KeepsFrom w.heap.size W1 W2 → X W2) →
      (∀ k W1, H k W1 → X W1 → YieldAt Fence.wide 7 P l #[y k, x k] W1 fun e W' => (e = .returned (.bool true) ∧ I (k + 1) W' ∧ X W') ∨ (e = .returned (.bool false) ∧ Ix k W' ∧ Y W')) → I 0 W → X W →
      CallsIn Fence.wide 8 P gf (#[.func (.yield l) #[] #[]] ++ lb) W fun e W' => (∃ v, e = .returned v) ∧ ((∃ k, E k W' ∧ X W') ∨ ∃ k, Ix k W' ∧ Y W'))
    (hI : ∀ k W W', I k W → Turn w.heap.size W W' → I k W') (hIx : ∀ k W W', Ix k W → Turn w.heap.size W W' → Ix k W') (hE : ∀ k W W', E k W → Turn w.heap.size W W' → E k W') (hAb : ∀ k a W W', Ab k a W → Turn w.heap.size W W' → Ab k a W') (h0 : I 0 w)
    (hassign : ∀ (l k : Nat) (W : World) (K : Act → World → Prop), H k W → (∀ a' W', KeepsFrom w.heap.size W W' → Ab k a' W' → K a' W') → assign.wpIn (Fence.wide.inRound l) 7 P (Exit.then K (fun _ _ _ => False)) { tmps := ((#[p1, p2] : Array Tmp).zip (#[y k, x k] : Array Value)).foldl (fun t (p, v) => t.setIfInBounds p v) a.tmps, defers := [] } W)
    (hbody : ∀ (l k : Nat) (a' : Act) (W : World), Ab k a' W → body.wpIn (Fence.wide.inRound l) 7 P (twoPost w.heap.size I Ix k W) a' W)
    (hdone : ∀ (D k : Nat) (W : World), w.heap.size ≤ D → E k W → W.heap[D]? = some (.deferred (some [])) → Q .normal { a with defers := mark D :: a.defers } W)
    (hstop : ∀ (D k : Nat) (W : World), w.heap.size ≤ D → Ix k W → W.heap[D]? = some (.deferred (some [])) → (Code.ret).wp P Q { a with defers := mark D :: a.defers } W) :
    (Code.rangeFunc g #[p1, p2] assign body).wp P Q a w := by
  refine (wpIn_wide (n := 9)).1 (wpIn_rangeFunc ?_)
  intro fn hfn
  obtain ⟨rec, hrec⟩ : ∃ rec : LoopState → Option Code → Loop, rec = fun st pe => { state := st, pending := pe, fn, tmps := a.tmps, params := #[p1, p2], assign, body, defers := w.heap.size } := ⟨_, rfl⟩
  obtain ⟨W1, hW1⟩ : ∃ W1, (w.alloc (.deferred (some []))).alloc (.loop (rec .ready none)) = W1 := ⟨_, rfl⟩
  have hL1 : W1.heap[w.heap.size + 1]? = some (.loop (rec .ready none)) := by
    rw [← hW1]
    have := World.alloc_heap_new (w.alloc (.deferred (some []))) (.loop (rec .ready none))
    rwa [World.size_alloc] at this
  have hK1 : W1.heap[w.heap.size]? = some (.deferred (some [])) := by
    rw [← hW1]; exact (Below.heap_alloc _ _ _ (by simp)).trans (World.alloc_heap_new w _)
  have hI1 : I 0 W1 := by rw [← hW1]; exact hI _ _ _ (hI _ _ _ h0 (Turn.alloc _ _ _)) (Turn.alloc _ _ _)
  refine ⟨w.heap.size + 1, [mark w.heap.size], W1, { target := .fn (.func gf) lb, args := #[.func (.yield (w.heap.size + 1)) #[] #[]] }, W1, gf, #[.func (.yield (w.heap.size + 1)) #[] #[]] ++ lb, W1, ?_, ?_, fun _ _ => trivial, ?_, fun e => (by cases e), ?_⟩
  · rw [← hW1, hrec]; exact run_enterLoop_outer _ _ _ _ _
  · simp only [resolve, hg]
    simp [go_sem]
  · simp [invoke, go_sem, eg]
  · refine (hseq (w.heap.size + 1) (fun W => W.heap[w.heap.size + 1]? = some (.loop (rec .ready none)) ∧ W.heap[w.heap.size]? = some (.deferred (some []))) (fun W => W.heap[w.heap.size + 1]? = some (.loop (rec .done (some .ret))) ∧ W.heap[w.heap.size]? = some (.deferred (some []))) W1 (fun A B h hk => ⟨hk.same _ _ (by omega) h.1 rfl, hk.same _ _ (Nat.le_refl _) h.2 rfl⟩) ?_ hI1 ⟨hL1, hK1⟩).mono ?_
    · rintro k W hH ⟨hl, hk⟩
      have hlt : w.heap.size + 1 < W.heap.size := lt_of_some hl
      have hy := run_yield (P := P) (args := #[y k, x k]) hl (by rw [hrec]; rfl)
      rw [hrec] at hy
      refine ⟨fn, _, assign, body, hy, roundIn_of_wpIn (F := Fence.wide) (n := 7) trivial ?_⟩
      refine hassign (w.heap.size + 1) k W (fun a₁ w₁ => ∃ w₂, (Instr.beginRound (w.heap.size + 1)).run P w₁ = .ok () w₂ ∧ body.wpIn (Fence.wide.inRound (w.heap.size + 1)) 7 P (roundPost P (w.heap.size + 1) (fun e W' => (e = .returned (.bool true) ∧ I (k + 1) W' ∧ W'.heap[w.heap.size + 1]? = some (.loop (rec .ready none)) ∧ W'.heap[w.heap.size]? = some (.deferred (some []))) ∨ (e = .returned (.bool false) ∧ Ix k W' ∧ W'.heap[w.heap.size + 1]? = some (.loop (rec .done (some .ret))) ∧ W'.heap[w.heap.size]? = some (.deferred (some []))))) a₁ w₂) hH ?_
      intro a₁ w₁ hk1 hA
      have hl1 := hk1.same _ _ (by omega) hl rfl
      have hd1 := hk1.same _ _ (Nat.le_refl _) hk rfl
      have hlt1 : w.heap.size + 1 < w₁.heap.size := lt_of_some hl1
      refine ⟨_, run_beginRound hl1 (by rw [hrec]), ?_⟩
      have hl2 : (w₁.putObj (w.heap.size + 1) (.loop { rec .ready none with state := .busy })).heap[w.heap.size + 1]? = some (.loop { rec .ready none with state := .busy }) := World.putObj_heap_same hlt1
      have hk2 : (w₁.putObj (w.heap.size + 1) (.loop { rec .ready none with state := .busy })).heap[w.heap.size]? = some (.deferred (some [])) := (World.putObj_heap_other (by omega)).trans hd1
      refine wpIn_mono (hbody _ k a₁ _ (hAb _ _ _ _ hA (Turn.put _ hl1 rfl (by omega)))) ?_
      rintro e a3 W3 hp
      match e, hp with
      | .normal, hp =>
        obtain ⟨hk3, hi3⟩ := hp
        have hl3 := hk3.same _ _ (by omega) hl2 rfl
        have hr := run_endRound (P := P) none hl3
        refine ⟨_, _, hr, .inl ⟨rfl, hI _ _ _ hi3 (Turn.put _ hl3 rfl (by omega)), ?_, (World.putObj_heap_other (by omega)).trans (hk3.same _ _ (Nat.le_refl _) hk2 rfl)⟩⟩
        have := World.putObj_heap_same (o := .loop (rec .ready none)) (lt_of_some hl3)
        rw [hrec] at this ⊢
        exact this
      | .ret, hp =>
        obtain ⟨hk3, hi3⟩ := hp
        have hl3 := hk3.same _ _ (by omega) hl2 rfl
        have hr := run_endRound (P := P) (some .ret) hl3
        refine ⟨_, _, hr, .inr ⟨rfl, hIx _ _ _ hi3 (Turn.put _ hl3 rfl (by omega)), ?_, (World.putObj_heap_other (by omega)).trans (hk3.same _ _ (Nat.le_refl _) hk2 rfl)⟩⟩
        have := World.putObj_heap_same (o := .loop (rec .done (some .ret))) (lt_of_some hl3)
        rw [hrec] at this ⊢
        exact this
    · rintro e W2 ⟨⟨v, rfl⟩, h⟩
      rcases h with ⟨k, hi, hl, hk⟩ | ⟨k, hi, hl, hk⟩
      · have he := run_endLoop (P := P) hl (by rw [hrec]; simp)
        have hp : (rec .ready none).pending = none := by rw [hrec]
        rw [hp] at he
        exact ⟨none, _, he, hdone _ k _ (Nat.le_refl _) (hE _ _ _ hi (Turn.put _ hl rfl (by omega))) ((World.putObj_heap_other (by omega)).trans hk)⟩
      · have he := run_endLoop (P := P) hl (by rw [hrec]; simp)
        have hp : (rec .done (some .ret)).pending = some .ret := by rw [hrec]
        rw [hp] at he
        exact ⟨some .ret, _, he, (wpIn_wide (n := 9)).2 (hstop _ k _ (Nat.le_refl _) (hIx _ _ _ hi (Turn.put _ hl rfl (by omega))) ((World.putObj_heap_other (by omega)).trans hk))⟩
/-- A region that draws and only reads, in a round. -/
theorem region_quiet_round {l n id : Nat} {Q : Exit → Act → World → Prop} {a : Act} {w : World} {L : List Oper} (hm : P.follows .mixedOrders = true) (hd : noDefer L.toArray = true) (hQ : ¬ LetsOut Q) (hB : Region.lexB .any L.toArray = true)
    (h : wpQuiet P L.toArray (fun w' => ∃ n, w' = w.drewN n) (fun a' => ∀ w', (∃ n, w' = w.drewN n) → Q .normal a' w') L a) : (Code.region id L.toArray true).wpIn (Fence.wide.inRound l) n P Q a w := by
  refine region_round hm hd hQ ?_
  simp only [Region.lexB, Bool.and_eq_true] at hB
  refine wpAny_of_quiet (C := fun w' => ∃ n, w' = w.drewN n) (Q := fun a' => ∀ w', (∃ n, w' = w.drewN n) → Q .normal a' w') (fun _ w' hw' h => h w' hw') _ _ _ _ ⟨1, rfl⟩ ?_
  have := wpAnyQ_lex (C := fun w' => ∃ n, w' = w.drewN n) (md := .any) hB.1 L 0 (Array.replicate L.toArray.size false) a (by simp) (by simpa using hB.2) h
  simpa using this
theorem ret_marks_c {fn : Func} {R : Ending → World → Prop} {tmps : Array Value} {Ds : List Nat} {w : World} {v : Value} (B : Nat) (hm : Marks Ds w) (hB : ∀ D ∈ Ds, B ≤ D) (hr : ∀ w', Turn B w w' → (results fn tmps).run P w' = .ok v w') (h : ∀ w', Turn B w w' → R (.returned v) w') : bodyPostM Fence.wide 9 P fn R .ret { tmps := tmps, defers := Ds.map mark } w :=
  leaves_marks Ds B w hm hB fun w' hw' => ⟨v, hr w' hw', h w' hw'⟩
end Go.Rg
