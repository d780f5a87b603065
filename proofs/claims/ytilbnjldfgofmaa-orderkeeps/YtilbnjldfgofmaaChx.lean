/- As Chf: a region that draws its order and whose calls turn memory; the value of one of the chain hangs on what was drawn. No program is named. -/
import Derived.Test.YtilbnjldfgofmaaChf
namespace Go.Chn
open Go Go.RowKit Go.Rel

/-- THE WALK, in the order of the text, of whatever the new variable may be. -/
def wpChw (P : Program) (ops : Array Oper) (Cs : Nat → Option Value → World → Prop) (chain lims : List Nat) (q : Nat) (v : Value) (Q : Exit → Act → World → Prop) : Nat → List Oper → List Value → Act → Prop
  | i, o :: rest, c :: cs, a =>
    (match chain.findIdx? (· == i) with
      | none => ∀ (j : Nat) (ou : Option Value) (w : World), j ≤ lims.getD i chain.length → (waits ops i q = true → ou = some v) → Cs j ou w → upon P (fun u w' => u = c ∧ Cs j ou w') w ((execOp a.eval o).run P w)
      | some j => if i = q then ∀ w : World, Cs j none w → upon P (fun u w' => Cs (j + 1) (some u) w') w ((execOp a.eval o).run P w) else ∀ (ou : Option Value) (w : World), (waits ops i q = true → ou = some v) → Cs j ou w → upon P (fun u w' => u = c ∧ Cs (j + 1) ou w') w ((execOp a.eval o).run P w)) ∧ wpChw P ops Cs chain lims q v Q (i + 1) rest cs (a.put o.dst c)
  | _, [], [], a => ∀ w : World, Cs chain.length (some v) w → Q .normal a w
  | _, _, _, _ => False
section
variable {P : Program} {ops : Array Oper} {a0 : Act} {Q : Exit → Act → World → Prop}
theorem wpChw_use {Cs : Nat → Option Value → World → Prop} {chain lims : List Nat} {q : Nat} {v : Value} (vals : Nat → Value) : ∀ (l : List Oper) (cs : List Value) (i : Nat) (a : Act),
    (∀ j, j < l.length → l[j]? = ops[i + j]?) → (∀ j, j < cs.length → cs[j]? = some (vals (i + j))) → a = fill ops vals (fun _ => true) a0 i → wpChw P ops Cs chain lims q v Q i l cs a →
    (∀ j o, i ≤ j → j < i + l.length → ops[j]? = some o → match chain.findIdx? (· == j) with
      | none => ∀ (t : Nat) (ou : Option Value) (w : World), t ≤ lims.getD j chain.length → (waits ops j q = true → ou = some v) → Cs t ou w → upon P (fun u w' => u = vals j ∧ Cs t ou w') w ((execOp (fill ops vals (fun _ => true) a0 j).eval o).run P w)
      | some t => if j = q then ∀ w : World, Cs t none w → upon P (fun u w' => Cs (t + 1) (some u) w') w ((execOp (fill ops vals (fun _ => true) a0 j).eval o).run P w) else ∀ (ou : Option Value) (w : World), (waits ops j q = true → ou = some v) → Cs t ou w → upon P (fun u w' => u = vals j ∧ Cs (t + 1) ou w') w ((execOp (fill ops vals (fun _ => true) a0 j).eval o).run P w)) ∧
    (∀ w, Cs chain.length (some v) w → Q .normal (fill ops vals (fun _ => true) a0 (i + l.length)) w)
  | [], [], i, a, hl, hk, ha, h => by
    refine ⟨fun j o hij hlt => absurd hlt (by simp; omega), fun w hC => ?_⟩
    simp only [List.length_nil, Nat.add_zero]
    rw [← ha]
    exact h w hC
  | [], _ :: _, _, _, _, _, _, h => by simp [wpChw] at h
  | _ :: _, [], _, _, _, _, _, h => by simp [wpChw] at h
  | o :: rest, c :: cs, i, a, hl, hk, ha, h => by
    have ho : ops[i]? = some o := by simpa using (hl 0 (by simp)).symm
    have hc : c = vals i := by simpa using hk 0 (by simp)
    have hl' : ∀ j, j < rest.length → rest[j]? = ops[i + 1 + j]? := fun j hj => by have := hl (j + 1) (by simp; omega); simpa [Nat.add_assoc, Nat.add_comm 1 j] using this
    have hk' : ∀ j, j < cs.length → cs[j]? = some (vals (i + 1 + j)) := fun j hj => by have := hk (j + 1) (by simp; omega); simpa [Nat.add_assoc, Nat.add_comm 1 j] using this
    have hput : a.put o.dst (vals i) = fill ops vals (fun _ => true) a0 (i + 1) := by
      rw [ha]; show _ = if true = true then _ else _
      rw [if_pos rfl]; simp [dstOf, ho]
    obtain ⟨h1, h2⟩ := h
    rw [hc, hput] at h2
    obtain ⟨r1, r2⟩ := wpChw_use vals rest cs (i + 1) _ hl' hk' rfl h2
    have hN : i + (o :: rest).length = i + 1 + rest.length := by simp; omega
    rw [hN]
    refine ⟨fun j o' hij hjN ho' => ?_, r2⟩
    by_cases e : i = j
    · subst e
      obtain rfl : o = o' := Option.some.inj (ho.symm.trans ho')
      rw [← ha, ← hc]
      exact h1
    · exact r1 j o' (by omega) hjN ho'
end
/-- ONE WALK, IN THE ORDER OF THE TEXT, SERVES EVERY ORDER. cs: the values; at place q stands whatever the new variable is. -/
theorem wp_region_chainX {P : Program} {id : Nat} {Q : Exit → Act → World → Prop} {a : Act} {w : World} {l : List Oper} (Cs : Nat → Option Value → World → Prop) (chain lims : List Nat) (q : Nat) (cs : Value → List Value) (hm : P.follows .mixedOrders = true) (hok : okB l.toArray = true) (hlk : linked l.toArray chain = true) (hch : chain.all (fun k => decide (k < l.length)) = true) (hli : limOk l.toArray chain lims = true) (hq : chain.contains q = true)
    (hcs : ∀ v k, k ≠ q → (cs v).getD k undef = (cs undef).getD k undef) (hcq : ∀ v, (cs v).getD q undef = v) (hql : q < l.length)
    (hw : Cs 0 none { w with drawn := w.drawn + 1 }) (h : ∀ v, wpChw P l.toArray Cs chain lims q v Q 0 l (cs v) a) : (Code.region id l.toArray true).wp P Q a w := by
  refine wp_region_any hm ?_
  have hup : ∀ v, (fun k => (cs v).getD k undef) = updv (fun k => (cs undef).getD k undef) q v := fun v => by
    funext k
    unfold updv
    by_cases e : k = q
    · rw [if_pos e, e, hcq]
    · rw [if_neg e, hcs v k e]
  have use := fun v => wpChw_use (P := P) (ops := l.toArray) (Cs := Cs) (chain := chain) (lims := lims) (q := q) (v := v) (Q := Q) (a0 := a) (updv (fun k => (cs undef).getD k undef) q v) l (cs v) 0 a (fun j _ => by simp) (fun j hj => by rw [← hup v]; simp [hj]) rfl (h v)
  have hphase0 : phase chain (fun k => (Array.replicate l.toArray.size false).getD k false) = 0 := by
    cases chain with
    | nil => rfl
    | cons c r =>
      unfold phase
      rw [List.takeWhile_cons, getD_replicate_false]
      rfl
  have hqc : q ∈ chain := by simpa using hq
  have main := wpAny_chf (P := P) (ops := l.toArray) (C := fun m v w => Cs (phase chain m) (if m q = true then some v else none) w) (a0 := a) (Q := Q) hok (fun k => (cs undef).getD k undef) q
    (fun i o ho hiq m v w hmi hwi hlate hcl hC => by
      have hlt : i < l.length := by simpa using (Array.getElem?_eq_some_iff.1 ho).1
      have := (use v).1 i o (Nat.zero_le _) (by omega) ho
      have hval : updv (fun k => (cs undef).getD k undef) q v i = (cs undef).getD i undef := by simp [updv, hiq]
      have hmq : (q == i || m q) = m q := by simp [show (q == i) = false by simpa using Ne.symm hiq]
      have hneed : waits l.toArray i q = true → (if m q = true then some v else none) = some v := fun hh => by rw [if_pos (hwi q hh)]
      by_cases hi : i ∈ chain
      · obtain ⟨pre, post, rfl⟩ := List.append_of_mem hi
        have hpre := linked_pre hok hlk m hwi hcl
        have hnp : i ∉ pre := fun hh => absurd (hpre i hh).2 (Nat.lt_irrefl _)
        have hf : (pre ++ i :: post).findIdx? (· == i) = some pre.length := by
          rw [List.findIdx?_append, List.findIdx?_eq_none_iff.2 (fun k hk => by simpa using fun e : k = i => hnp (e ▸ hk))]
          simp [List.findIdx?_cons]
        rw [hf] at this
        simp only [if_neg hiq] at this
        have e1 : phase (pre ++ i :: post) m = pre.length := phase_at (fun k hk => (hpre k hk).1) hmi
        have e2 : phase (pre ++ i :: post) (fun k => k == i || m k) = pre.length + 1 := phase_next (fun k hk => (hpre k hk).1) hnp (fun k hk => by
          have hk' := linked_post hlk k hk
          exact ⟨hlate k hk', fun e => by have := waits_back hok hk'; omega⟩)
        rw [e1] at hC
        rw [e2]
        simp only [hmq]
        have := this _ w hneed hC
        rwa [hval] at this
      · have hf : chain.findIdx? (· == i) = none := List.findIdx?_eq_none_iff.2 (fun k hk => by simpa using fun e : k = i => hi (e ▸ hk))
        rw [hf] at this
        rw [phase_other hi]
        simp only [hmq]
        have := this _ _ w (lim_le hli (by simpa using hlt) hmi hcl) hneed hC
        rwa [hval] at this)
    (fun o ho m v w hmi hwi hcl hC => by
      have := (use v).1 q o (Nat.zero_le _) (by omega) ho
      rw [if_neg (by rw [hmi]; decide)] at hC
      have hlate : ∀ k, waits l.toArray k q = true → m k = false := fun k hk => by
        cases e : m k
        · rfl
        · have := hcl k q hk e
          rw [hmi] at this; cases this
      obtain ⟨pre, post, rfl⟩ := List.append_of_mem hqc
      have hpre := linked_pre hok hlk m hwi hcl
      have hnp : q ∉ pre := fun hh => absurd (hpre q hh).2 (Nat.lt_irrefl _)
      have hf : (pre ++ q :: post).findIdx? (· == q) = some pre.length := by
        rw [List.findIdx?_append, List.findIdx?_eq_none_iff.2 (fun k hk => by simpa using fun e : k = q => hnp (e ▸ hk))]
        simp [List.findIdx?_cons]
      rw [hf] at this
      simp only [if_true] at this
      have e1 : phase (pre ++ q :: post) m = pre.length := phase_at (fun k hk => (hpre k hk).1) hmi
      have e2 : phase (pre ++ q :: post) (fun k => k == q || m k) = pre.length + 1 := phase_next (fun k hk => (hpre k hk).1) hnp (fun k hk => by
        have hk' := linked_post hlk k hk
        exact ⟨hlate k hk', fun e => by have := waits_back hok hk'; omega⟩)
      rw [e1] at hC
      rw [e2]
      simpa using this w hC)
    (fun m v w hall hC => by
      have e1 : phase chain m = chain.length := phase_all (fun k hk => hall k (by have := List.all_eq_true.1 hch k hk; simpa using this))
      rw [e1, if_pos (hall q (by simpa using hql))] at hC
      have := (use v).2 w hC
      simpa using this)
    l.toArray.size (Array.replicate l.toArray.size false) undef { w with drawn := w.drawn + 1 }
    ⟨by simp, (fun j oj _ hl => by rw [getD_replicate_false] at hl; exact absurd hl (by simp)), by show Cs (phase chain _) (if (Array.replicate l.toArray.size false).getD q false = true then some undef else none) _; rw [hphase0, getD_replicate_false]; exact hw⟩
    (cnt_replicate _ _)
  have e : ∀ vs : Nat → Value, fill l.toArray vs (fun k => (Array.replicate l.toArray.size false).getD k false) a l.toArray.size = a := by
    intro vs
    have : ∀ n, fill l.toArray vs (fun k => (Array.replicate l.toArray.size false).getD k false) a n = a := by
      intro n
      induction n with
      | zero => rfl
      | succ n ih => unfold fill; rw [getD_replicate_false]; simpa using ih
    exact this _
  rwa [e] at main
end Go.Chn
