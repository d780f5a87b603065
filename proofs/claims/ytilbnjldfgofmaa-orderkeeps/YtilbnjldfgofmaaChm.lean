/- As Chn: a region that draws its order and whose calls turn memory; an operation that one of the calls waits for need hold only in the worlds ahead of that call. No program is named. -/
import Derived.Test.YtilbnjldfgofmaaChn
namespace Go.Chn
open Go Go.RowKit Go.Rel

theorem phase_le {m : Nat → Bool} : ∀ {chain : List Nat} {l k : Nat}, chain[l]? = some k → m k = false → phase chain m ≤ l
  | [], _, _, h, _ => by simp at h
  | c :: r, 0, k, h, hk => by
    obtain rfl : c = k := by simpa using h
    simp [phase, hk]
  | c :: r, l + 1, k, h, hk => by
    have := phase_le (chain := r) (l := l) (k := k) (by simpa using h) hk
    unfold phase at this ⊢
    rw [List.takeWhile_cons]
    cases m c
    · simp
    · simpa using this
/-- lims: of each operation the place in the chain of a call that waits for it (or the chain's length). -/
def limOk (ops : Array Oper) (chain : List Nat) (lims : List Nat) : Bool :=
  (List.range ops.size).all fun i => match chain[lims.getD i chain.length]? with
    | none => decide (chain.length ≤ lims.getD i chain.length)
    | some k => waits ops k i
theorem lim_le {ops : Array Oper} {chain lims : List Nat} (h : limOk ops chain lims = true) {i : Nat} (hi : i < ops.size) {m : Nat → Bool} (hm : m i = false) (hcl : ∀ a b, waits ops a b = true → m a = true → m b = true) : phase chain m ≤ lims.getD i chain.length := by
  have := List.all_eq_true.1 h i (List.mem_range.2 hi)
  cases hk : chain[lims.getD i chain.length]? with
  | none =>
    simp only [hk, decide_eq_true_eq] at this
    refine Nat.le_trans ?_ this
    exact (List.takeWhile_prefix _).length_le
  | some k =>
    simp only [hk] at this
    refine phase_le hk ?_
    cases e : m k
    · rfl
    · rw [hcl k i this e] at hm; cases hm
def wpChm (P : Program) (Cs : Nat → World → Prop) (chain lims : List Nat) (Q : Exit → Act → World → Prop) : Nat → List Oper → List Value → Act → Prop
  | i, o :: rest, c :: cs, a =>
    (match chain.findIdx? (· == i) with
      | none => ∀ (j : Nat) (w : World), j ≤ lims.getD i chain.length → Cs j w → upon P (fun v w' => v = c ∧ Cs j w') w ((execOp a.eval o).run P w)
      | some j => ∀ w : World, Cs j w → upon P (fun v w' => v = c ∧ Cs (j + 1) w') w ((execOp a.eval o).run P w)) ∧ wpChm P Cs chain lims Q (i + 1) rest cs (a.put o.dst c)
  | _, [], [], a => ∀ w : World, Cs chain.length w → Q .normal a w
  | _, _, _, _ => False

section
variable {P : Program} {ops : Array Oper} {Cs : Nat → World → Prop} {chain lims : List Nat} {a0 : Act} {Q : Exit → Act → World → Prop}
theorem wpChm_use (vals : Nat → Value) : ∀ (l : List Oper) (cs : List Value) (i : Nat) (a : Act),
    (∀ j, j < l.length → l[j]? = ops[i + j]?) → (∀ j, j < cs.length → cs[j]? = some (vals (i + j))) → a = fill ops vals (fun _ => true) a0 i → wpChm P Cs chain lims Q i l cs a →
    (∀ j o, i ≤ j → j < i + l.length → ops[j]? = some o → match chain.findIdx? (· == j) with
      | none => ∀ (t : Nat) (w : World), t ≤ lims.getD j chain.length → Cs t w → upon P (fun v w' => v = vals j ∧ Cs t w') w ((execOp (fill ops vals (fun _ => true) a0 j).eval o).run P w)
      | some t => ∀ w : World, Cs t w → upon P (fun v w' => v = vals j ∧ Cs (t + 1) w') w ((execOp (fill ops vals (fun _ => true) a0 j).eval o).run P w)) ∧
    (∀ w, Cs chain.length w → Q .normal (fill ops vals (fun _ => true) a0 (i + l.length)) w)
  | [], [], i, a, hl, hk, ha, h => by
    refine ⟨fun j o hij hlt => absurd hlt (by simp; omega), fun w hC => ?_⟩
    simp only [List.length_nil, Nat.add_zero]
    rw [← ha]
    exact h w hC
  | [], _ :: _, _, _, _, _, _, h => by simp [wpChm] at h
  | _ :: _, [], _, _, _, _, _, h => by simp [wpChm] at h
  | o :: rest, c :: cs, i, a, hl, hk, ha, h => by
    have ho : ops[i]? = some o := by simpa using (hl 0 (by simp)).symm
    have hc : c = vals i := by simpa using hk 0 (by simp)
    have hl' : ∀ j, j < rest.length → rest[j]? = ops[i + 1 + j]? := fun j hj => by have := hl (j + 1) (by simp; omega); simpa [Nat.add_assoc, Nat.add_comm 1 j] using this
    have hk' : ∀ j, j < cs.length → cs[j]? = some (vals (i + 1 + j)) := fun j hj => by have := hk (j + 1) (by simp; omega); simpa [Nat.add_assoc, Nat.add_comm 1 j] using this
    have hput : a.put o.dst (vals i) = fill ops vals (fun _ => true) a0 (i + 1) := by
      rw [ha]; show _ = if true = true then _ else _
      rw [if_pos rfl]; simp [dstOf, ho]
    obtain ⟨h1, h2⟩ := h
    rw [hc, hput] at h2
    obtain ⟨r1, r2⟩ := wpChm_use vals rest cs (i + 1) _ hl' hk' rfl h2
    have hN : i + (o :: rest).length = i + 1 + rest.length := by simp; omega
    rw [hN]
    refine ⟨fun j o' hij hjN ho' => ?_, r2⟩
    by_cases e : i = j
    · subst e
      obtain rfl : o = o' := Option.some.inj (ho.symm.trans ho')
      rw [← ha, ← hc]
      exact h1
    · exact r1 j o' (by omega) hjN ho'
end
/-- ONE WALK, IN THE ORDER OF THE TEXT, SERVES EVERY ORDER. -/
theorem wpAny_region_chainL {P : Program} {Q : Exit → Act → World → Prop} {a : Act} {w : World} {l : List Oper} (Cs : Nat → World → Prop) (chain lims : List Nat) (cs : List Value) (hok : okB l.toArray = true) (hlk : linked l.toArray chain = true) (hch : chain.all (fun k => decide (k < l.length)) = true) (hli : limOk l.toArray chain lims = true)
    (hw : Cs 0 { w with drawn := w.drawn + 1 }) (h : wpChm P Cs chain lims Q 0 l cs a) : wpAny P .any l.toArray Q l.toArray.size (Array.replicate l.toArray.size false) a { w with drawn := w.drawn + 1 } := by
  have hvals : ∀ j, j < cs.length → cs[j]? = some ((fun k => cs.getD k undef) (0 + j)) := fun j hj => by simp [hj]
  obtain ⟨u1, u2⟩ := wpChm_use (P := P) (ops := l.toArray) (Cs := Cs) (chain := chain) (lims := lims) (Q := Q) (a0 := a) (fun k => cs.getD k undef) l cs 0 a (fun j _ => by simp) hvals rfl h
  have hphase0 : phase chain (fun k => (Array.replicate l.toArray.size false).getD k false) = 0 := by
    cases chain with
    | nil => rfl
    | cons c r =>
      unfold phase
      rw [List.takeWhile_cons, getD_replicate_false]
      rfl
  have main := wpAny_chn (P := P) (ops := l.toArray) (C := fun m w => Cs (phase chain m) w) (a0 := a) (Q := Q) hok (fun k => cs.getD k undef)
    (fun i o ho m w hmi hwi hlate hcl hC => by
      have hlt : i < l.length := by simpa using (Array.getElem?_eq_some_iff.1 ho).1
      have := u1 i o (Nat.zero_le _) (by omega) ho
      by_cases hi : i ∈ chain
      · obtain ⟨pre, post, rfl⟩ := List.append_of_mem hi
        have hpre := linked_pre hok hlk m hwi hcl
        have hnp : i ∉ pre := fun hh => absurd (hpre i hh).2 (Nat.lt_irrefl _)
        have hf : (pre ++ i :: post).findIdx? (· == i) = some pre.length := by
          rw [List.findIdx?_append, List.findIdx?_eq_none_iff.2 (fun k hk => by simpa using fun e : k = i => hnp (e ▸ hk))]
          simp [List.findIdx?_cons]
        rw [hf] at this
        have e1 : phase (pre ++ i :: post) m = pre.length := phase_at (fun k hk => (hpre k hk).1) hmi
        have e2 : phase (pre ++ i :: post) (fun k => k == i || m k) = pre.length + 1 := phase_next (fun k hk => (hpre k hk).1) hnp (fun k hk => by
          have hk' := linked_post hlk k hk
          exact ⟨hlate k hk', fun e => by have := waits_back hok hk'; omega⟩)
        rw [e1] at hC
        rw [e2]
        exact this w hC
      · have hf : chain.findIdx? (· == i) = none := List.findIdx?_eq_none_iff.2 (fun k hk => by simpa using fun e : k = i => hi (e ▸ hk))
        rw [hf] at this
        rw [phase_other hi]
        exact this _ w (lim_le hli (by simpa using hlt) hmi hcl) hC)
    (fun m w hall hC => by
      have : phase chain m = chain.length := phase_all (fun k hk => hall k (by have := List.all_eq_true.1 hch k hk; simpa using this))
      rw [this] at hC
      have := u2 w hC
      simpa using this)
    l.toArray.size (Array.replicate l.toArray.size false) { w with drawn := w.drawn + 1 }
    ⟨by simp, (fun j oj _ hl => by rw [getD_replicate_false] at hl; exact absurd hl (by simp)), by rw [hphase0]; exact hw⟩
    (cnt_replicate _ _)
  have e : fill l.toArray (fun k => cs.getD k undef) (fun k => (Array.replicate l.toArray.size false).getD k false) a l.toArray.size = a := by
    have : ∀ n, fill l.toArray (fun k => cs.getD k undef) (fun k => (Array.replicate l.toArray.size false).getD k false) a n = a := by
      intro n
      induction n with
      | zero => rfl
      | succ n ih => unfold fill; rw [getD_replicate_false]; simpa using ih
    exact this _
  rwa [e] at main
theorem wp_region_chainL {P : Program} {id : Nat} {Q : Exit → Act → World → Prop} {a : Act} {w : World} {l : List Oper} (Cs : Nat → World → Prop) (chain lims : List Nat) (cs : List Value) (hm : P.follows .mixedOrders = true) (hok : okB l.toArray = true) (hlk : linked l.toArray chain = true) (hch : chain.all (fun k => decide (k < l.length)) = true) (hli : limOk l.toArray chain lims = true)
    (hw : Cs 0 { w with drawn := w.drawn + 1 }) (h : wpChm P Cs chain lims Q 0 l cs a) : (Code.region id l.toArray true).wp P Q a w := wp_region_any hm (wpAny_region_chainL Cs chain lims cs hok hlk hch hli hw h)
end Go.Chn
