/- Own laws: a range over a function whose rounds all go on, at the wide fence; regions that draw, in a round; a function's end behind several such ranges. No program is named. -/
import Derived.Test.YtilbnjldfgofmaaHg
import Derived.Test.YtilbnjldfgofmaaChm
import Derived.RangeFuncNested
import Derived.RangeFuncBound
import Derived.RangeFuncCalls
import Derived.RangeFuncLeaves
import Derived.RangeFuncBox
import Derived.Shelf.Abstract
import Derived.Shelf.RegionOpen
import Derived.WalkKit
import Derived.OwnWalkIn
import Derived.TacticsInMore
import Derived.LoopNIn
import Derived.LoopIn
import Derived.Maps.AppendAt
namespace Go.Rg
open Go.RowKit
set_option linter.unusedVariables false
set_option linter.unusedSimpArgs false
set_option maxRecDepth 8000

open Go Go.Shelf Go.Proofs.Ytilbnjldfgofmaa
variable {P : Program}

def noDefer (ops : Array Oper) : Bool := ops.toList.all fun o => match o.op with | .defer _ => false | _ => true
theorem noDefer_at {ops : Array Oper} (h : noDefer ops = true) {i : Nat} {o : Oper} (ho : ops[i]? = some o) : ∀ c, o.op ≠ .defer c := by
  intro c hc
  have hm : o ∈ ops.toList := by
    rw [Array.getElem?_eq_some_iff] at ho
    obtain ⟨h1, h2⟩ := ho
    rw [← h2]; simp
  have := List.all_eq_true.1 h o hm
  rw [hc] at this
  cases this
theorem calls_round (l n : Nat) {f : FuncId} {args : Array Value} {w : World} {R : Ending → World → Prop} (h : Calls P f args w R) : CallsIn (Fence.wide.inRound l) n P f args w R := CallsIn.inRound l (callsIn_wide.2 h)
theorem rows_round (l n : Nat) {row : String} {args : Array Value} {w : World} {R : Value → World → Prop} (h : Rows P row args w R) : RowsIn (Fence.wide.inRound l) n P row args w R := by
  intro c cs _
  obtain ⟨v, w', hr, hs⟩ := h c cs
  exact ⟨v, w', hr, stepsIn_wide.2 hs⟩
theorem op_round (l n : Nat) {o : Oper} {a : Act} {w : World} {K K' : Act → World → Prop} {Q : Exit → Act → World → Prop} (hd : ∀ c, o.op ≠ .defer c) (hK : ∀ a w, K a w → K' a w) (h : o.wp P a w K Q) : o.wpIn (Fence.wide.inRound l) n P a w K' Q := by
  refine ⟨fun _ _ => trivial, ?_⟩
  rw [Fence.inRound_round, Oper.semAt_some l _ _ hd]
  unfold Oper.wp at h
  generalize (execOp a.eval o).run P w = r at *
  cases r with
  | ok x w' =>
    cases x <;> simp only [Oper.upon, Oper.uponIn] at h ⊢ <;>
      first
        | exact hK _ _ h
        | exact ⟨fun e => (by cases e), calls_round l _ (Calls.mono h (fun e w'' he => by cases e <;> first | exact hK _ _ he | exact he))⟩
        | exact ⟨fun e => (by cases e), rows_round l _ (Rows.mono h (fun _ _ he => hK _ _ he))⟩
        | exact h.elim
  | halt x w' => cases x <;> simp only [Oper.upon, Oper.uponIn] at h ⊢ <;> exact h
theorem wpAny_round (l n : Nat) {md : Region.Mode} {ops : Array Oper} {Q : Exit → Act → World → Prop} (hd : noDefer ops = true) (hQ : ¬ LetsOut Q) : ∀ (fuel : Nat) (listed : Array Bool) (a : Act) (w : World), wpAny P md ops Q fuel listed a w → wpAnyIn (Fence.wide.inRound l) n P md ops Q fuel listed a w
  | 0, _, _, _, h => h
  | fuel + 1, listed, a, w, h => by
    refine ⟨h.1, fun i hi => ?_⟩
    have := h.2 i hi
    unfold wpOp at this
    unfold wpOpIn
    cases ho : ops[i]? with
    | none => rw [ho] at this; exact wpAny_round l n hd hQ fuel _ _ _ this
    | some o =>
      rw [ho] at this
      dsimp only at this ⊢
      by_cases hw : Region.wanted o (yielded ops a.tmps) = true
      · rw [if_pos hw] at this ⊢
        rcases this with this | this
        · exact op_round l n (noDefer_at hd ho) (fun a' w' h' => wpAny_round l n hd hQ fuel _ _ _ h') this
        · exact absurd this.2 hQ
      · rw [if_neg hw] at this ⊢
        exact ⟨fun _ _ => trivial, wpAny_round l n hd hQ fuel _ _ _ this⟩
/-- A region that draws, in a round. -/
theorem region_round {l n : Nat} {id : Nat} {ops : Array Oper} {Q : Exit → Act → World → Prop} {a : Act} {w : World} (hm : P.follows .mixedOrders = true) (hd : noDefer ops = true) (hQ : ¬ LetsOut Q) (h : wpAny P .any ops Q ops.size (Array.replicate ops.size false) a { w with drawn := w.drawn + 1 }) : (Code.region id ops true).wpIn (Fence.wide.inRound l) n P Q a w :=
  wpIn_region_any hm (wpAny_round l n hd hQ _ _ _ _ h)

/-- What the machine's own book-keeping of such a loop turns: blocks of its own that are no cells. -/
def Turn (B : Nat) (W W' : World) : Prop := Goes (fun k => B ≤ k ∧ ∃ o : Obj, W.heap[k]? = some o ∧ o.isCells = false) W W'
theorem Turn.put {B : Nat} {W : World} {l : Nat} {o : Obj} (o' : Obj) (hl : W.heap[l]? = some o) (ho : o.isCells = false) (hB : B ≤ l) : Turn B W (W.putObj l o') :=
  ⟨rfl, rfl, rfl, by simp, fun k _ hk => World.putObj_heap_other (fun e => hk (by subst e; exact ⟨hB, o, hl, ho⟩))⟩
theorem Turn.alloc (B : Nat) (W : World) (o : Obj) : Turn B W (W.alloc o) := goes_of_below (below_alloc W o)
theorem Turn.cells {B : Nat} {W W' : World} (h : Turn B W W') {k : Nat} {C : Array Value} {t : TypeId} {f : Nat × Nat} (hk : W.heap[k]? = some (.cells C t f)) : W'.heap[k]? = some (.cells C t f) := by
  rw [h.block k (lt_of_some hk) (fun ⟨_, o, ho, hn⟩ => by rw [hk] at ho; cases ho; cases hn)]; exact hk
theorem Turn.low {B : Nat} {W W' : World} (h : Turn B W W') {k : Nat} (hk : k < B) (hs : k < W.heap.size) : W'.heap[k]? = W.heap[k]? := h.block k hs (fun hb => by omega)
theorem Turn.below {B C : Nat} {W W' : World} (h : Turn B W W') (hC : C ≤ B) (hs : C ≤ W.heap.size) : Below C W W' := Goes.below h hs (fun k hk => Nat.le_trans hC hk.1)
theorem Turn.own {B : Nat} {W W' : World} (h : Turn B W W') {base size n : Nat} {e : TypeId} {v : Value} {xs : List Value} (R : W.ownsRow base e size v n xs) : W'.ownsRow base e size v n xs :=
  own_of_block R fun k hk => by
    obtain ⟨C, _, hC⟩ := own_kind R hk
    rw [h.cells hC, hC]
/-- How the body of a round is left: on, and what is no cells lies as it lay. -/
def onPost (B : Nat) (I : List Int → World → Prop) (xs : List Int) (W : World) : Exit → Act → World → Prop
  | .normal, _, W' => KeepsFrom B W W' ∧ I xs W'
  | _, _, _ => False
theorem onPost_lets {B : Nat} {I : List Int → World → Prop} {xs : List Int} {W : World} : ¬ LetsOut (onPost B I xs W) := by
  rintro ⟨a, w, h⟩
  exact h
theorem keeps_goes {B : Nat} {F : Nat → Prop} {W W' : World} (h : Goes F W W') (hF : ∀ k, F k → k < W.heap.size → ∃ C t f, W.heap[k]? = some (.cells C t f)) : KeepsFrom B W W' :=
  ⟨h.size, fun k o _ hk ho => by
    rw [h.block k (lt_of_some hk) (fun hf => by
      obtain ⟨C, t, f, hc⟩ := hF k hf (lt_of_some hk)
      rw [hk] at hc; cases hc; cases ho)]
    exact hk⟩
def mark (D : Nat) : Deferred := { target := .collected D, args := #[] }
/-- **A range over a function, each round of which goes on.** -/
theorem wp_range {p : Tmp} {assign body : Code} {Q : Exit → Act → World → Prop} {a : Act} {w : World} {g : Operand} {gf : Nat} {bd : Array Value} (hg : a.eval g = .func (.func gf) bd #[]) (eg : ∀ args w, (callFunc gf args).run P w = .ok (.enter gf args) w)
    (xs : List Int) (Tb : World → Prop)
    (hseq : ∀ (l : Nat) (J : List Int → World → Prop) (W : World), (∀ pre W1, J pre W1 → Tb W1) → (∀ pre x W1, J pre W1 → pre ++ [x] <+: xs → YieldAt Fence.wide 7 P l #[.int .i64 x] W1 fun e W' => e = .returned (.bool true) ∧ J (pre ++ [x]) W') → J [] W → CallsIn Fence.wide 8 P gf (bd ++ #[.func (.yield l) #[] #[]]) W fun e W' => (∃ v, e = .returned v) ∧ J xs W')
    (I : List Int → World → Prop) (hI : ∀ pre W W', I pre W → Turn w.heap.size W W' → I pre W') (hTb : ∀ pre W, I pre W → Tb W) (h0 : I [] w) (a₁ : Int → Act)
    (hassign : ∀ (l : Nat) (x : Int) (W : World) (K : Act → World → Prop), K (a₁ x) W → assign.wpIn (Fence.wide.inRound l) 7 P (Exit.then K (fun _ _ _ => False)) { tmps := ((#[p] : Array Tmp).zip (#[.int .i64 x] : Array Value)).foldl (fun t (p, v) => t.setIfInBounds p v) a.tmps, defers := [] } W)
    (hbody : ∀ (l : Nat) (pre : List Int) (x : Int) (W : World), I pre W → pre ++ [x] <+: xs → body.wpIn (Fence.wide.inRound l) 7 P (onPost w.heap.size I (pre ++ [x]) W) (a₁ x) W)
    (hdone : ∀ (D : Nat) (W : World), w.heap.size ≤ D → I xs W → W.heap[D]? = some (.deferred (some [])) → Q .normal { a with defers := mark D :: a.defers } W) :
    (Code.rangeFunc g #[p] assign body).wp P Q a w := by
  refine (wpIn_wide (n := 9)).1 (wpIn_rangeFunc ?_)
  intro fn hfn
  obtain ⟨rec, hrec⟩ : ∃ rec : LoopState → Loop, rec = fun st => { state := st, pending := none, fn, tmps := a.tmps, params := #[p], assign, body, defers := w.heap.size } := ⟨_, rfl⟩
  obtain ⟨W1, hW1⟩ : ∃ W1, (w.alloc (.deferred (some []))).alloc (.loop (rec .ready)) = W1 := ⟨_, rfl⟩
  have hL1 : W1.heap[w.heap.size + 1]? = some (.loop (rec .ready)) := by
    rw [← hW1]
    have := World.alloc_heap_new (w.alloc (.deferred (some []))) (.loop (rec .ready))
    rwa [World.size_alloc] at this
  have hK1 : W1.heap[w.heap.size]? = some (.deferred (some [])) := by
    rw [← hW1]; exact (Below.heap_alloc _ _ _ (by simp)).trans (World.alloc_heap_new w _)
  have hI1 : I [] W1 := by rw [← hW1]; exact hI _ _ _ (hI _ _ _ h0 (Turn.alloc _ _ _)) (Turn.alloc _ _ _)
  refine ⟨w.heap.size + 1, [mark w.heap.size], W1, { target := .fn (.func gf) #[], args := bd ++ #[.func (.yield (w.heap.size + 1)) #[] #[]] }, W1, gf, bd ++ #[.func (.yield (w.heap.size + 1)) #[] #[]], W1, ?_, ?_, fun _ _ => trivial, ?_, fun e => (by cases e), ?_⟩
  · rw [← hW1, hrec]; exact run_enterLoop_outer _ _ _ _ _
  · simp only [resolve, hg]
    simp [go_sem]
  · simp [invoke, go_sem, eg]
  · refine (hseq (w.heap.size + 1) (fun pre W => I pre W ∧ W.heap[w.heap.size + 1]? = some (.loop (rec .ready)) ∧ W.heap[w.heap.size]? = some (.deferred (some []))) W1 (fun pre W h => hTb pre W h.1) ?_ ⟨hI1, hL1, hK1⟩).mono ?_
    · rintro pre x W ⟨hi, hl, hk⟩ hlen
      have hlt : w.heap.size + 1 < W.heap.size := lt_of_some hl
      have hy := run_yield (P := P) (args := #[.int .i64 x]) hl (by rw [hrec]; rfl)
      rw [hrec] at hy
      refine ⟨fn, _, assign, body, hy, roundIn_of_wpIn (F := Fence.wide) (n := 7) trivial ?_⟩
      refine hassign (w.heap.size + 1) x W (fun a₁ w₁ => ∃ w₂, (Instr.beginRound (w.heap.size + 1)).run P w₁ = .ok () w₂ ∧ body.wpIn (Fence.wide.inRound (w.heap.size + 1)) 7 P (roundPost P (w.heap.size + 1) (fun e W' => e = .returned (.bool true) ∧ I (pre ++ [x]) W' ∧ W'.heap[w.heap.size + 1]? = some (.loop (rec .ready)) ∧ W'.heap[w.heap.size]? = some (.deferred (some [])))) a₁ w₂) ⟨_, run_beginRound hl (by rw [hrec]), ?_⟩
      have hl2 : (W.putObj (w.heap.size + 1) (.loop { rec .ready with state := .busy })).heap[w.heap.size + 1]? = some (.loop { rec .ready with state := .busy }) := World.putObj_heap_same hlt
      have hk2 : (W.putObj (w.heap.size + 1) (.loop { rec .ready with state := .busy })).heap[w.heap.size]? = some (.deferred (some [])) := (World.putObj_heap_other (by omega)).trans hk
      refine wpIn_mono (hbody _ pre x _ (hI _ _ _ hi (Turn.put _ hl rfl (by omega))) hlen) ?_
      rintro e a3 W3 hp
      cases e with
      | normal =>
        obtain ⟨hk3, hi3⟩ := hp
        have hl3 := hk3.same _ _ (by omega) hl2 rfl
        have hr := run_endRound (P := P) none hl3
        refine ⟨_, _, hr, rfl, hI _ _ _ hi3 (Turn.put _ hl3 rfl (by omega)), ?_, (World.putObj_heap_other (by omega)).trans (hk3.same _ _ (Nat.le_refl _) hk2 rfl)⟩
        have := World.putObj_heap_same (o := .loop (rec .ready)) (lt_of_some hl3)
        rw [hrec] at this ⊢
        exact this
      | _ => exact hp.elim
    · rintro e W2 ⟨⟨v, rfl⟩, hi, hl, hk⟩
      have he := run_endLoop (P := P) hl (by rw [hrec]; simp)
      have hp : (rec .ready).pending = none := by rw [hrec]
      rw [hp] at he
      exact ⟨none, _, he, hdone _ _ (Nat.le_refl _) (hI _ _ _ hi (Turn.put _ hl rfl (by omega))) ((World.putObj_heap_other (by omega)).trans hk)⟩
/-- Blocks for a round's deferred calls, all empty. -/
structure Marks (Ds : List Nat) (W : World) : Prop where
  one : Ds.Nodup
  is : ∀ D ∈ Ds, W.heap[D]? = some (.deferred (some []))
theorem Marks.nil (W : World) : Marks [] W := ⟨List.nodup_nil, fun _ h => by cases h⟩
theorem Marks.keep {Ds : List Nat} {W W' : World} (h : Marks Ds W) (hb : ∀ D ∈ Ds, W'.heap[D]? = W.heap[D]?) : Marks Ds W' := ⟨h.one, fun D hD => by rw [hb D hD]; exact h.is D hD⟩
theorem Marks.lt {Ds : List Nat} {W : World} (h : Marks Ds W) {D : Nat} (hD : D ∈ Ds) : D < W.heap.size := lt_of_some (h.is D hD)
theorem Marks.cons {Ds : List Nat} {W : World} {D : Nat} (h : Marks Ds W) (hD : W.heap[D]? = some (.deferred (some []))) (hn : D ∉ Ds) : Marks (D :: Ds) W :=
  ⟨List.nodup_cons.2 ⟨hn, h.one⟩, fun E hE => by
    rcases List.mem_cons.1 hE with rfl | hE
    · exact hD
    · exact h.is E hE⟩
theorem Marks.keeps {Ds : List Nat} {W W' : World} (h : Marks Ds W) (hk : KeepsFrom 0 W W') : Marks Ds W' := ⟨h.one, fun D hD => hk.same D _ (Nat.zero_le _) (h.is D hD) rfl⟩
theorem Marks.below {Ds : List Nat} {W W' : World} (h : Marks Ds W) (hb : Below W.heap.size W W') : Marks Ds W' := h.keep fun D hD => hb.block D (h.lt hD)
theorem leaves_marks {fn : Func} {tmps : Array Value} {R : Ending → World → Prop} : ∀ (Ds : List Nat) (B : Nat) (w : World), Marks Ds w → (∀ D ∈ Ds, B ≤ D) → (∀ w', Turn B w w' → LeavesIn Fence.wide 9 P fn tmps R [] .returning w') → LeavesInM Fence.wide 9 P fn tmps R (Ds.map mark) .returning w
  | [], _, w, _, _, h => h w (Goes.refl _ _)
  | D :: Ds, B, w, hm, hB, h => by
    have hD := hm.is D List.mem_cons_self
    refine ⟨by simp, .inl ⟨D, _, rfl, run_takeDeferred hD, ?_⟩⟩
    have t1 : Turn B w (w.putObj D (.deferred none)) := Turn.put _ hD rfl (hB D List.mem_cons_self)
    refine leaves_marks Ds B _ ⟨(List.nodup_cons.1 hm.one).2, fun E hE => ?_⟩ (fun E hE => hB E (List.mem_cons_of_mem _ hE)) fun w' hw' => h w' ?_
    · rw [World.putObj_heap_other (by rintro rfl; exact (List.nodup_cons.1 hm.one).1 hE)]
      exact hm.is E (List.mem_cons_of_mem _ hE)
    · refine Goes.trans t1 hw' fun k hk hb => ⟨hb.1, ?_⟩
      obtain ⟨o, ho, hn⟩ := hb.2
      by_cases e : k = D
      · subst e; exact ⟨_, hD, rfl⟩
      · exact ⟨o, by rw [← World.putObj_heap_other (o := .deferred none) e]; exact ho, hn⟩
/-- A function's contract from its body, where it holds ranges over functions. -/
theorem calls_marks {f : FuncId} {fn : Func} {c : Code} {args : Array Value} {w : World} {R : Ending → World → Prop} (hf : P.funcs[f]? = some fn) (hb : fn.body = some c)
    (h : c.wp P (bodyPostM Fence.wide 9 P fn R) { tmps := args ++ Array.replicate (fn.ntmps - args.size) undef, defers := [] } w) : Calls P f args w R :=
  callsIn_wide.1 (callsIn_of_wp_marks hf hb trivial (wpIn_wide.2 h))
theorem ret_marks {fn : Func} {R : Ending → World → Prop} {tmps : Array Value} {Ds : List Nat} {w : World} {v : Value} (B : Nat) (hm : Marks Ds w) (hB : ∀ D ∈ Ds, B ≤ D) (hr : ∀ w', (results fn tmps).run P w' = .ok v w') (h : ∀ w', Turn B w w' → R (.returned v) w') : bodyPostM Fence.wide 9 P fn R .ret { tmps := tmps, defers := Ds.map mark } w :=
  leaves_marks Ds B w hm hB fun w' hw' => ⟨v, hr w', h w' hw'⟩
theorem least_nat {p : Nat → Prop} : ∀ k, p k → ∃ m, p m ∧ ∀ j, p j → m ≤ j := by
  intro k
  induction k using Nat.strongRecOn with
  | _ k ih =>
    intro hk
    by_cases h : ∃ j, j < k ∧ p j
    · obtain ⟨j, hj, hp⟩ := h
      exact ih j hj hp
    · exact ⟨k, hk, fun j hj => Classical.byContradiction fun hn => h ⟨j, by omega, hj⟩⟩
open Classical in
noncomputable def meas (p : Nat → Prop) : Nat := if h : ∃ m, p m ∧ ∀ j, p j → m ≤ j then Classical.choose h else 0
theorem meas_spec {p : Nat → Prop} {k : Nat} (h : p k) : p (meas p) ∧ meas p ≤ k := by
  have hx := least_nat k h
  unfold meas
  rw [dif_pos hx]
  exact ⟨(Classical.choose_spec hx).1, (Classical.choose_spec hx).2 k h⟩
/-- A loop whose measure is a number that is not read off anything. -/
theorem wp_loop_by {c : Code} {Q : Exit → Act → World → Prop} {a : Act} {w : World} (I : Nat → Act → World → Prop) (k : Nat) (h0 : I k a w)
    (round : ∀ k a w, I k a w → c.wp P (Exit.then (fun a' w' => ∃ j, j < k ∧ I j a' w') Q) a w) : (Code.loop c).wp P Q a w := by
  refine wp_loop (fun a w => ∃ k, I k a w) (fun a w => meas fun k => I k a w) ⟨k, h0⟩ ?_
  rintro a w ⟨k, hI⟩
  refine wp_mono (round _ a w (meas_spec (p := fun k => I k a w) hI).1) ?_
  intro e a' w' hq
  cases e with
  | normal =>
    obtain ⟨j, hj, hIj⟩ := hq
    exact ⟨⟨j, hIj⟩, Nat.lt_of_le_of_lt (meas_spec (p := fun k => I k a' w') hIj).2 hj⟩
  | _ => exact hq
end Go.Rg
