/- those, find. -/
import Derived.Test.YtbdmemjenpnjgaaTh
namespace Go.Proofs.Ytbdmemjenpnjgaa
open Go.RowKit
set_option linter.unusedVariables false
set_option linter.unusedSimpArgs false
set_option maxRecDepth 8000

open Go.Shelf
attribute [local go_sem] Oper.semAt_some
abbrev clo (f : Nat) (fr : Array Value) : Value := .func (.func f) #[] fr
theorem boxed_turn {B q : Nat} {t : TypeId} {v : Value} {W W' : World} (h : Boxed W q t v) (k : Rg.Turn B W W') : Boxed W' q t v := k.cells h
theorem boxed_grow {q : Nat} {t : TypeId} {v : Value} {W W' : World} (h : Boxed W q t v) (k : Below W.heap.size W W') : Boxed W' q t v := by
  unfold Boxed at *
  rw [k.block q (lt_of_some h)]; exact h
theorem boxed_keep {q : Nat} {t : TypeId} {v : Value} {W W' : World} (h : Boxed W q t v) (k : W'.heap[q]? = W.heap[q]?) : Boxed W' q t v := k.trans h
theorem those_c (ao : Option Addr) (m cap hf : Nat) (fr : Array Value) (w : World) : Calls Try.prog 27 #[.slice ao m cap, clo hf fr] w fun e w' => e = .returned (clo 35 #[ptr w.heap.size 0, ptr (w.heap.size + 1) 0]) ∧ Boxed w' w.heap.size 22 (.slice ao m cap) ∧ Boxed w' (w.heap.size + 1) 59 (clo hf fr) ∧ Below w.heap.size w w' := by
  go_enter Try.func27, Try.ntmps27
  go_wp2
  go_ret
  refine ⟨rfl, (Boxed.new w 22 _).alloc _, ?_, below_then (below_alloc _ _) (Nat.le_refl _) (below_alloc _ _)⟩
  have := Boxed.new (w.alloc (Obj.cells #[.slice ao m cap] 22)) 59 (clo hf fr)
  rwa [World.size_alloc] at this
/-- What a search goes over: the notes of a trace, in their order, and what it asks of each. -/
structure Asks (tr : List Nt) (v : Value) (hf : Nat) (fr : Array Value) (hb : Nat → Bool) (w0 w : World) (J : (Nat → Prop) → Nat → World → Prop) : Prop where
  eh : ∀ args w, (callFunc hf args).run Try.prog w = .ok (.enter hf args) w
  nts : Nts w0 v tr
  low : Below w0.heap.size w0 w
  start : ∀ Pb W, Below w.heap.size w W → (∀ i, Pb i → i < W.heap.size ∧ (i < w0.heap.size ∨ w.heap.size ≤ i)) → J Pb 0 W
  grow : ∀ Pb k W W', J Pb k W → Below W.heap.size W W' → J Pb k W'
  turn : ∀ Pb k W W' B, w.heap.size ≤ B → J Pb k W → Rg.Turn B W W' → J Pb k W'
  ask : ∀ Pb k n t W, tr[k]? = some n → J Pb k W → LocN t n W → Calls Try.prog hf (#[ntV n] ++ fr) W fun e W' => e = .returned (.bool (hb k)) ∧ J Pb (k + 1) W' ∧ LocN t n W' ∧ KeepsFrom w.heap.size W W' ∧ Goes (fun i => ¬ Pb i) W W'
def Pb3 (c0 b1 b2 fb : Nat) (i : Nat) : Prop := i < c0 ∨ i = b1 ∨ i = b2 ∨ i = fb
structure FiI (v : Value) (hf : Nat) (fr : Array Value) (hb : Nat → Bool) (w0 : World) (J : (Nat → Prop) → Nat → World → Prop) (b1 b2 fb j k : Nat) (W : World) : Prop where
  st : J (Pb3 w0.heap.size b1 b2 fb) j W
  low : Below w0.heap.size w0 W
  x1 : Boxed W b1 22 v
  x2 : Boxed W b2 59 (clo hf fr)
  x3 : Boxed W fb 3 (vI (-1))
  no : ∀ i, i < k → hb i = false
section
variable {tr : List Nt} {v : Value} {hf : Nat} {fr : Array Value} {hb : Nat → Bool} {w0 w W W' : World} {J : (Nat → Prop) → Nat → World → Prop} {b1 b2 fb j k : Nat}
theorem FiI.grow (A : Asks tr v hf fr hb w0 w J) (h : FiI v hf fr hb w0 J b1 b2 fb j k W) (hB : Below W.heap.size W W') : FiI v hf fr hb w0 J b1 b2 fb j k W' :=
  ⟨A.grow _ _ _ _ h.st hB, h.low.trans (hB.mono h.low.size), boxed_grow h.x1 hB, boxed_grow h.x2 hB, boxed_grow h.x3 hB, h.no⟩
theorem FiI.turn (A : Asks tr v hf fr hb w0 w J) (h : FiI v hf fr hb w0 J b1 b2 fb j k W) {B : Nat} (hw : w.heap.size ≤ B) (hT : Rg.Turn B W W') : FiI v hf fr hb w0 J b1 b2 fb j k W' :=
  ⟨A.turn _ _ _ _ B hw h.st hT, h.low.trans (hT.below (Nat.le_trans A.low.size hw) h.low.size), boxed_turn h.x1 hT, boxed_turn h.x2 hT, boxed_turn h.x3 hT, h.no⟩
end
theorem keeps_mono {B C : Nat} {W W' : World} (h : KeepsFrom B W W') (hC : B ≤ C) : KeepsFrom C W W' := ⟨h.size, fun k o hk => h.same k o (Nat.le_trans hC hk)⟩
set_option maxHeartbeats 1000000 in
theorem find_c {tr : List Nt} {v : Value} {hf : Nat} {fr : Array Value} {hb : Nat → Bool} {w0 w : World} {J : (Nat → Prop) → Nat → World → Prop} (A : Asks tr v hf fr hb w0 w J) : Calls Try.prog 33 #[v, clo hf fr] w fun e w' => e = .returned (vI (firstB hb tr.length 0)) ∧ Below w0.heap.size w0 w' := by
  obtain ⟨ao, cap, ev⟩ := A.nts.len
  subst ev
  refine Rg.calls_marks Try.func33 rfl ?_
  simp only [Try.ntmps33, List.size_toArray, List.length_cons, List.length_nil, Nat.reduceAdd, Nat.reduceSub, Array.replicate_succ, Array.replicate_zero, List.push_toArray, List.append_toArray, List.nil_append, List.cons_append]
  go_upto_region 2 with fail
  have hb0 := below_alloc w (Obj.cells #[vI (-1)] 3)
  have hx3 := Boxed.new w 3 (vI (-1))
  have hs1 := hb0.size
  generalize w.alloc (Obj.cells #[Value.int IntKind.i64 (-1)] 3) = w1 at *
  have kt := those_c ao tr.length cap hf fr w1
  go_wp2_with (first | (go_at_call 27; with_reducible refine kt.mono ?_; clear kt; rintro e w2 ⟨rfl, hx1, hx2, hb1⟩; dsimp only))
  have hlow : Below w.heap.size w w2 := below_then hb0 (Nat.le_refl _) hb1
  have hI0 : FiI (.slice ao tr.length cap) hf fr hb w0 J w1.heap.size (w1.heap.size + 1) w.heap.size 0 0 w2 :=
    ⟨A.start _ _ hlow (fun i hi => by
      have h1 := hx1.lt
      have h2 := hx2.lt
      have h3 := A.low.size
      rcases hi with hi | hi | hi | hi <;> omega), A.low.trans (hlow.mono A.low.size), hx1, hx2, boxed_grow hx3 hb1, fun i hi => by omega⟩
  have hww : w.heap.size ≤ w2.heap.size := hlow.size
  clear hx1 hx2 hx3 hb1 hb0
  obtain ⟨F, hF⟩ : ∃ F : Nat → Nat → World → Prop, F = fun j k W => FiI (.slice ao tr.length cap) hf fr hb w0 J w1.heap.size (w1.heap.size + 1) w.heap.size j k W := ⟨_, rfl⟩
  have hFt : ∀ {j k W W'}, F j k W → Rg.Turn w2.heap.size W W' → F j k W' := by rw [hF]; exact fun h t => h.turn A hww t
  have hFg : ∀ {j k W W'}, F j k W → Below W.heap.size W W' → F j k W' := by rw [hF]; exact fun h t => h.grow A t
  refine Rg.wp_range2 (w := w2) rfl (enters_of Try.func35 (by kernel_rfl) rfl) (fun k => ntV (tr.getD k ⟨0, 0, 0, 0⟩))
    (fun k W => F k k W ∧ k ≤ tr.length) (fun k W => F (k + 1) k W ∧ hb k = true ∧ k < tr.length)
    (fun k W => Below w0.heap.size w0 W ∧ Boxed W w.heap.size 3 (vI k) ∧ firstB hb tr.length 0 = k)
    (fun k W => k = tr.length ∧ F k k W ∧ k ≤ tr.length)
    (fun k a W => (F (k + 1) k W ∧ hb k = true ∧ k < tr.length) ∧ ∃ u0 u1 u2 u3 u4 u7 u8 u9 u10 u11 u12 u13, a = { tmps := #[u0, u1, u2, u3, u4, ptr w.heap.size 0, vI k, u7, u8, u9, u10, u11, u12, u13], defers := [] })
    ?seq (fun k X Y h t => ⟨hFt h.1 t, h.2⟩) (fun k X Y h t => ⟨h.1.trans (t.below (Nat.le_trans A.low.size hww) h.1.size), boxed_turn h.2.1 t, h.2.2⟩) (fun k X Y h t => ⟨h.1, hFt h.2.1 t, h.2.2⟩) (fun k a X Y h t => ⟨⟨hFt h.1.1 t, h.1.2⟩, h.2⟩) ⟨by rw [hF]; exact hI0, Nat.zero_le _⟩ ?assign ?body ?done ?stop
  case seq =>
    intro l X Y W hX hY h0 hx
    refine those_in (fr := fr) (tr := tr) (v := .slice ao tr.length cap) (b1 := w1.heap.size) (b2 := w1.heap.size + 1) A.eh w2.heap.size (fun k W => F k k W ∧ k ≤ tr.length) (fun k W => F (k + 1) k W ∧ hb k = true ∧ k < tr.length) (fun k W => Below w0.heap.size w0 W ∧ Boxed W w.heap.size 3 (vI k) ∧ firstB hb tr.length 0 = k) hb (fun k W h => ?_) (fun k W W' h hB => ⟨hFg h.1 hB, h.2⟩) ?_ l X Y W hX hY h0 hx
    · rw [hF] at h
      exact ⟨h.1.x1, h.1.x2, A.nts.low h.1.low.size fun b hb => h.1.low.block b hb⟩
    intro k n t W hn h L
    rw [hF] at h ⊢
    have hkl := (List.getElem?_eq_some_iff.1 hn).1
    refine (A.ask _ k n t W hn h.1.st L).mono fun e W' ⟨q1, q2, q3, q4, q5⟩ => ?_
    have q6 : ∀ i, Pb3 w0.heap.size w1.heap.size (w1.heap.size + 1) w.heap.size i → i < W.heap.size → W'.heap[i]? = W.heap[i]? := fun i hi hlt => q5.block i hlt (fun hn => hn hi)
    have hF : FiI (.slice ao tr.length cap) hf fr hb w0 J w1.heap.size (w1.heap.size + 1) w.heap.size (k + 1) k W' :=
      ⟨q2, ⟨q5.os.trans h.1.low.os, q5.tape.trans h.1.low.tape, q5.output.trans h.1.low.output, Nat.le_trans h.1.low.size q4.size, fun i hi => (q6 i (.inl hi) (Nat.lt_of_lt_of_le hi h.1.low.size)).trans (h.1.low.block i hi)⟩, boxed_keep h.1.x1 (q6 _ (.inr (.inl rfl)) h.1.x1.lt), boxed_keep h.1.x2 (q6 _ (.inr (.inr (.inl rfl))) h.1.x2.lt), boxed_keep h.1.x3 (q6 _ (.inr (.inr (.inr rfl))) h.1.x3.lt), h.1.no⟩
    refine ⟨q1, fun hk => ⟨hF, hk, hkl⟩, fun hk => ⟨⟨hF.st, hF.low, hF.x1, hF.x2, hF.x3, fun i hi => ?_⟩, hkl⟩, q3, keeps_mono q4 hww⟩
    by_cases e : i = k
    · rw [e]; exact hk
    · exact h.1.no i (by omega)
  case assign =>
    intro l k W K h hK
    gi_wp2
    exact hK _ _ (KeepsFrom.refl _ _) ⟨h, _, _, _, _, _, _, _, _, _, _, _, _, rfl⟩
  case body =>
    rintro l k a' W ⟨⟨h, hk, hkl⟩, u0, u1, u2, u3, u4, u7, u8, u9, u10, u11, u12, u13, rfl⟩
    rw [hF] at h
    have c3 := h.x3.cell
    have f3 := h.x3.frozen
    gi_wp2
    have hlt : w.heap.size < W.heap.size := h.x3.lt
    have h0s : w0.heap.size ≤ w.heap.size := A.low.size
    refine ⟨(KeepsOthers.setCell W _ _).from _, h.low.trans ((goes_setCell W (F := fun k => k = w.heap.size) rfl 0 _).below (by omega) (fun k hk => by omega)), Boxed.set _ h.x3, firstB_yes hb _ _ k (Nat.zero_le _) (by omega) hk (fun j _ hj => h.no j hj)⟩
  case done =>
    rintro D k W hD ⟨rfl, h, _⟩ hm
    rw [hF] at h
    have c3 := h.x3.cell
    have hres : firstB hb tr.length 0 = -1 := firstB_no hb _ _ (fun j _ hj => h.no j (by omega))
    dsimp only
    go_wp2
    refine Rg.ret_marks (Ds := [D]) w2.heap.size (Rg.Marks.nil W |>.cons hm (by simp)) (fun E hE => by obtain rfl := List.mem_singleton.1 hE; exact hD) (fun w' => results_tmp rfl _ _ _) fun w' ht => ⟨by rw [hres]; rfl, h.low.trans (ht.below (Nat.le_trans A.low.size hww) h.low.size)⟩
  case stop =>
    rintro D k W hD ⟨h1, h2, h3⟩ hm
    have c3 := h2.cell
    dsimp only
    go_wp2
    refine Rg.ret_marks (Ds := [D]) w2.heap.size (Rg.Marks.nil W |>.cons hm (by simp)) (fun E hE => by obtain rfl := List.mem_singleton.1 hE; exact hD) (fun w' => results_tmp rfl _ _ _) fun w' ht => ⟨by rw [h3]; rfl, h1.trans (ht.below (Nat.le_trans A.low.size hww) h1.size)⟩
end Go.Proofs.Ytbdmemjenpnjgaa
