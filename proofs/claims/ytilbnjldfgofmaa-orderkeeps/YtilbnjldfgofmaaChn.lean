/- A region that draws its order and whose calls turn memory: the calls come one behind the other, each leads from one kind of world to the next; all else reads the same in each of them. One walk in the order of the text serves every order. No program is named. -/
import Derived.Test.YtilbnjldfgofmaaRel
namespace Go.Chn
open Go Go.RowKit Go.Rel

def upon (P : Program) (F : Value → World → Prop) (w : World) : Result Next → Prop
  | .ok (.value u) w' => F u w'
  | .ok .skip w' => F undef w'
  | .ok (.enter f args) w' => w' = w ∧ Calls P f args w (fun e w'' => ∃ v, e = .returned v ∧ F v w'')
  | _ => False

structure Inv (ops : Array Oper) (C : (Nat → Bool) → World → Prop) (listed : Array Bool) (w : World) : Prop where
  size : listed.size = ops.size
  closed : ∀ j oj, ops[j]? = some oj → listed.getD j false = true → ∀ e ∈ oj.after, Region.binds .any e = true → listed.getD e.on false = true
  cls : C (fun k => listed.getD k false) w

section
variable {P : Program} {ops : Array Oper} {C : (Nat → Bool) → World → Prop} {a0 : Act} {Q : Exit → Act → World → Prop}

theorem wpAny_chn (hok : okB ops = true) (vals : Nat → Value)
    (hstep : ∀ i o, ops[i]? = some o → ∀ (m : Nat → Bool) (w : World), m i = false → (∀ k, waits ops i k = true → m k = true) → (∀ k, waits ops k i = true → m k = false) → (∀ a b, waits ops a b = true → m a = true → m b = true) → C m w →
      upon P (fun v w' => v = vals i ∧ C (fun k => k == i || m k) w') w ((execOp (fill ops vals (fun _ => true) a0 i).eval o).run P w))
    (hend : ∀ (m : Nat → Bool) (w : World), (∀ k, k < ops.size → m k = true) → C m w → Q .normal (fill ops vals (fun _ => true) a0 ops.size) w) :
    ∀ (fuel : Nat) (listed : Array Bool) (w : World), Inv ops C listed w → cnt listed ops.size ≤ fuel →
      wpAny P .any ops Q fuel listed (fill ops vals (fun k => listed.getD k false) a0 ops.size) w := by
  have hsel := hok
  simp only [okB, Bool.and_eq_true] at hsel
  have hD := hsel.1.2
  have fin : ∀ (listed : Array Bool) (w : World), Inv ops C listed w → (∀ k, k < ops.size → listed.getD k true = true) → Q .normal (fill ops vals (fun k => listed.getD k false) a0 ops.size) w := by
    intro listed w inv hall
    have hall' : ∀ k, k < ops.size → listed.getD k false = true := fun k hk => by
      have h1 := hall k hk
      have h3 : k < listed.size := by rw [inv.size]; exact hk
      simp [h3] at h1 ⊢; exact h1
    rw [fill_mask (m' := fun _ => true) ops.size (fun k hk => hall' k hk)]
    exact hend _ w hall' inv.cls
  intro fuel
  induction fuel with
  | zero =>
    intro listed w inv hc
    have hall := cnt_zero ops.size (by omega : cnt listed ops.size = 0)
    refine ⟨?_, fin listed w inv hall⟩
    cases hr : Region.ready .any ops listed with
    | nil => rfl
    | cons j l =>
      exfalso
      have hj : j ∈ Region.ready .any ops listed := by rw [hr]; exact List.mem_cons_self ..
      obtain ⟨h1, o, ho, _⟩ := mem_ready.1 hj
      rw [hall j (Array.getElem?_eq_some_iff.1 ho).1] at h1; cases h1
  | succ fuel ih =>
    intro listed w inv hc
    refine ⟨fun hr => fin listed w inv (fun k hk => ready_nil hok inv.size hr (k + 1) k (by omega) hk), fun i hi => ?_⟩
    obtain ⟨hun, o, ho, hall⟩ := mem_ready.1 hi
    have hlt : i < ops.size := (Array.getElem?_eq_some_iff.1 ho).1
    obtain ⟨hg, hback, hlook⟩ := ok_at hok ho
    have hun' : listed.getD i false = false := getD_both hun
    have hwaits : ∀ k, waits ops i k = true → listed.getD k false = true := fun k hk => by
      obtain ⟨oj, hoj, e, he, hb, hon⟩ := waits_spec hk
      obtain rfl : oj = o := Option.some.inj (hoj.symm.trans ho)
      rw [← hon]; exact hall e he hb
    have hclosed : ∀ a b, waits ops a b = true → listed.getD a false = true → listed.getD b false = true := fun a b hab ha => by
      obtain ⟨oj, hoj, e, he, hb, hon⟩ := waits_spec hab
      rw [← hon]; exact inv.closed a oj hoj ha e he hb
    have hlate : ∀ k, waits ops k i = true → listed.getD k false = false := fun k hk => by
      cases e : listed.getD k false
      · rfl
      · have := hclosed k i hk e
        rw [hun'] at this; cases this
    have hsame : execOp (fill ops vals (fun k => listed.getD k false) a0 ops.size).eval o = execOp (fill ops vals (fun _ => true) a0 i).eval o := by
      rw [← fill_less (i := i) ops.size (by omega)]
      refine execOp_congr o (fun cs b => Region.noSelect_spec hsel.1.1 i o cs b ho) fun x hx => fill_eval ops.size fun k hk hne d hd hxd => ?_
      have hm : d ∈ o.looksAt ops := by
        subst hxd
        exact List.mem_append_left _ (List.mem_filterMap.2 ⟨.tmp d, by simpa using hx, rfl⟩)
      obtain ⟨l1, l2⟩ := hlook k d hk hd hm
      by_cases e : k < i
      · have := hwaits k (l1 e)
        simp [e, this] at hne
      · have hkl : listed.getD k false = true := by simpa [e] using hne
        rw [hlate k (l2 e)] at hkl; cases hkl
    have hrel := hstep i o ho (fun k => listed.getD k false) w hun' hwaits hlate hclosed inv.cls
    have next : ∀ v w', v = vals i ∧ C (fun k => k == i || listed.getD k false) w' → wpAny P .any ops Q fuel (listed.setIfInBounds i true) ((fill ops vals (fun k => listed.getD k false) a0 ops.size).put o.dst v) w' := by
      rintro v w' ⟨rfl, hv⟩
      have hsz : i < listed.size := by rw [inv.size]; exact hlt
      have key : (fill ops vals (fun k => listed.getD k false) a0 ops.size).put o.dst (vals i) = fill ops vals (fun k => (listed.setIfInBounds i true).getD k false) a0 ops.size := by
        have hd : o.dst = dstOf ops i := by simp [dstOf, ho]
        rw [fill_insert (m := fun k => listed.getD k false) hD hun' (by simp [hsz]) (fun k hk => getD_set_ne false (Ne.symm hk)) ops.size (Nat.le_refl _) hlt, hd]
      rw [key]
      have em : (fun k => (listed.setIfInBounds i true).getD k false) = (fun k => k == i || listed.getD k false) := by
        funext k
        by_cases hki : k = i
        · subst hki; simp [hsz]
        · rw [getD_set_ne false (Ne.symm hki)]; simp [hki]
      refine ih _ w' ⟨by simp [inv.size], fun j oj hj hl e he hb' => ?_, by rw [em]; exact hv⟩ ?_
      · by_cases hij : i = j
        · subst hij
          obtain rfl : oj = o := Option.some.inj (hj.symm.trans ho)
          exact getD_set_true (hall e he hb')
        · rw [getD_set_ne false hij] at hl
          exact getD_set_true (inv.closed j oj hj hl e he hb')
      · have := cnt_set hun ops.size
        rw [if_pos hlt] at this
        omega
    unfold wpOp
    simp only [ho]
    have hw : Region.wanted o (yielded ops (fill ops vals (fun k => listed.getD k false) a0 ops.size).tmps) = true := by simp [Region.wanted, hg]
    rw [if_pos hw]
    left
    unfold Oper.wp
    rw [hsame]
    generalize (execOp (fill ops vals (fun _ => true) a0 i).eval o).run P w = r at hrel
    cases r with
    | ok n w' =>
      cases n <;> simp only [upon] at hrel <;> simp only [Oper.upon]
      case value u => exact next u w' hrel
      case skip => exact next undef w' hrel
      case enter f args =>
        obtain ⟨rfl, hc⟩ := hrel
        exact hc.mono fun e w'' ⟨v, he, hv⟩ => by subst he; exact next v w'' hv
    | halt x w' => simp only [upon] at hrel
end

/-! The calls, one behind the other. -/
def phase (chain : List Nat) (m : Nat → Bool) : Nat := (chain.takeWhile m).length
theorem phase_other {chain : List Nat} {m : Nat → Bool} {i : Nat} (h : i ∉ chain) : phase chain (fun k => k == i || m k) = phase chain m := by
  unfold phase
  induction chain with
  | nil => rfl
  | cons c l ih =>
    have hc : (c == i) = false := by simpa using fun e : c = i => h (e ▸ List.mem_cons_self)
    simp only [List.takeWhile_cons, hc, Bool.false_or]
    cases m c
    · rfl
    · simp [ih (fun hh => h (List.mem_cons_of_mem _ hh))]
theorem phase_at {m : Nat → Bool} : ∀ {pre post : List Nat} {i : Nat}, (∀ k ∈ pre, m k = true) → m i = false → phase (pre ++ i :: post) m = pre.length
  | [], post, i, _, hi => by simp [phase, hi]
  | c :: pre, post, i, hp, hi => by
    have := phase_at (pre := pre) (post := post) (fun k hk => hp k (List.mem_cons_of_mem _ hk)) hi
    simp only [phase] at this
    simp [phase, hp c List.mem_cons_self, this]
theorem phase_next {m : Nat → Bool} {pre post : List Nat} {i : Nat} (hp : ∀ k ∈ pre, m k = true) (hn : i ∉ pre) (hpost : ∀ k ∈ post.head?, m k = false ∧ k ≠ i) : phase (pre ++ i :: post) (fun k => k == i || m k) = pre.length + 1 := by
  have h1 : ∀ k ∈ pre, (k == i || m k) = true := fun k hk => by simp [hp k hk]
  cases post with
  | nil =>
    unfold phase
    rw [List.takeWhile_append_of_pos h1]
    simp
  | cons c l =>
    have h2 := hpost c (by simp)
    have := phase_at (m := fun k => k == i || m k) (pre := pre ++ [i]) (post := l) (i := c) (fun k hk => by
      rcases List.mem_append.1 hk with hk | hk
      · exact h1 k hk
      · obtain rfl := List.mem_singleton.1 hk; simp) (by simp [h2.1, h2.2])
    simpa using this
theorem phase_all {chain : List Nat} {m : Nat → Bool} (h : ∀ k ∈ chain, m k = true) : phase chain m = chain.length := by
  unfold phase
  induction chain with
  | nil => rfl
  | cons c l ih => simp [h c List.mem_cons_self, ih (fun k hk => h k (List.mem_cons_of_mem _ hk))]

def linked (ops : Array Oper) : List Nat → Bool
  | a :: b :: l => waits ops b a && linked ops (b :: l)
  | [a] => decide (a < ops.size)
  | [] => true

/-- THE WALK, in the order of the text; Cs j: the world behind the first j calls. -/
def wpChn (P : Program) (Cs : Nat → World → Prop) (chain : List Nat) (Q : Exit → Act → World → Prop) : Nat → List Oper → List Value → Act → Prop
  | i, o :: rest, c :: cs, a =>
    (match chain.findIdx? (· == i) with
      | none => ∀ (j : Nat) (w : World), Cs j w → upon P (fun v w' => v = c ∧ Cs j w') w ((execOp a.eval o).run P w)
      | some j => ∀ w : World, Cs j w → upon P (fun v w' => v = c ∧ Cs (j + 1) w') w ((execOp a.eval o).run P w)) ∧ wpChn P Cs chain Q (i + 1) rest cs (a.put o.dst c)
  | _, [], [], a => ∀ w : World, Cs chain.length w → Q .normal a w
  | _, _, _, _ => False

section
variable {P : Program} {ops : Array Oper} {Cs : Nat → World → Prop} {chain : List Nat} {a0 : Act} {Q : Exit → Act → World → Prop}
theorem wpChn_use (vals : Nat → Value) : ∀ (l : List Oper) (cs : List Value) (i : Nat) (a : Act),
    (∀ j, j < l.length → l[j]? = ops[i + j]?) → (∀ j, j < cs.length → cs[j]? = some (vals (i + j))) → a = fill ops vals (fun _ => true) a0 i → wpChn P Cs chain Q i l cs a →
    (∀ j o, i ≤ j → j < i + l.length → ops[j]? = some o → match chain.findIdx? (· == j) with
      | none => ∀ (t : Nat) (w : World), Cs t w → upon P (fun v w' => v = vals j ∧ Cs t w') w ((execOp (fill ops vals (fun _ => true) a0 j).eval o).run P w)
      | some t => ∀ w : World, Cs t w → upon P (fun v w' => v = vals j ∧ Cs (t + 1) w') w ((execOp (fill ops vals (fun _ => true) a0 j).eval o).run P w)) ∧
    (∀ w, Cs chain.length w → Q .normal (fill ops vals (fun _ => true) a0 (i + l.length)) w)
  | [], [], i, a, hl, hk, ha, h => by
    refine ⟨fun j o hij hlt => absurd hlt (by simp; omega), fun w hC => ?_⟩
    simp only [List.length_nil, Nat.add_zero]
    rw [← ha]
    exact h w hC
  | [], _ :: _, _, _, _, _, _, h => by simp [wpChn] at h
  | _ :: _, [], _, _, _, _, _, h => by simp [wpChn] at h
  | o :: rest, c :: cs, i, a, hl, hk, ha, h => by
    have ho : ops[i]? = some o := by simpa using (hl 0 (by simp)).symm
    have hc : c = vals i := by simpa using hk 0 (by simp)
    have hl' : ∀ j, j < rest.length → rest[j]? = ops[i + 1 + j]? := fun j hj => by have := hl (j + 1) (by simp; omega); simpa [Nat.add_assoc, Nat.add_comm 1 j] using this
    have hk' : ∀ j, j < cs.length → cs[j]? = some (vals (i + 1 + j)) := fun j hj => by have := hk (j + 1) (by simp; omega); simpa [Nat.add_assoc, Nat.add_comm 1 j] using this
    have hput : a.put o.dst (vals i) = fill ops vals (fun _ => true) a0 (i + 1) := by
      rw [ha]; show _ = if true = true then _ else _
      rw [if_pos rfl]; simp [dstOf, ho]
    obtain ⟨h1, h2⟩ := h
    rw [hc, hput] at h2
    obtain ⟨r1, r2⟩ := wpChn_use vals rest cs (i + 1) _ hl' hk' rfl h2
    have hN : i + (o :: rest).length = i + 1 + rest.length := by simp; omega
    rw [hN]
    refine ⟨fun j o' hij hjN ho' => ?_, r2⟩
    by_cases e : i = j
    · subst e
      obtain rfl : o = o' := Option.some.inj (ho.symm.trans ho')
      rw [← ha, ← hc]
      exact h1
    · exact r1 j o' (by omega) hjN ho'
end

theorem linked_pre {ops : Array Oper} (h : okB ops = true) : ∀ {pre post : List Nat} {i : Nat}, linked ops (pre ++ i :: post) = true → ∀ m : Nat → Bool, (∀ k, waits ops i k = true → m k = true) → (∀ a b, waits ops a b = true → m a = true → m b = true) → ∀ k ∈ pre, m k = true ∧ k < i
  | [], _, _, _, _, _, _, _, hk => absurd hk List.not_mem_nil
  | [c], post, i, hl, m, hw, hcl, k, hk => by
    obtain rfl := List.mem_singleton.1 hk
    have hw' : waits ops i k = true := by
      have : linked ops (k :: i :: post) = true := hl
      simp only [linked, Bool.and_eq_true] at this
      exact this.1
    exact ⟨hw k hw', waits_back h hw'⟩
  | c :: d :: pre, post, i, hl, m, hw, hcl, k, hk => by
    have hl2 : waits ops d c = true ∧ linked ops ((d :: pre) ++ i :: post) = true := by
      have : linked ops (c :: d :: (pre ++ i :: post)) = true := hl
      simp only [linked, Bool.and_eq_true] at this
      exact this
    have ih := linked_pre h hl2.2 m hw hcl
    rcases List.mem_cons.1 hk with rfl | hk
    · have := ih d List.mem_cons_self
      exact ⟨hcl d k hl2.1 this.1, Nat.lt_trans (waits_back h hl2.1) this.2⟩
    · exact ih k hk
theorem linked_post {ops : Array Oper} : ∀ {pre post : List Nat} {i : Nat}, linked ops (pre ++ i :: post) = true → ∀ k ∈ post.head?, waits ops k i = true
  | [], post, i, hl, k, hk => by
    cases post with
    | nil => simp at hk
    | cons d l =>
      obtain rfl : d = k := by simpa using hk
      have : linked ops (i :: d :: l) = true := hl
      simp only [linked, Bool.and_eq_true] at this
      exact this.1
  | [c], post, i, hl, k, hk => by
    have : linked ops (c :: i :: post) = true := hl
    simp only [linked, Bool.and_eq_true] at this
    exact linked_post (pre := []) this.2 k hk
  | c :: d :: pre, post, i, hl, k, hk => by
    have : linked ops (c :: d :: (pre ++ i :: post)) = true := hl
    simp only [linked, Bool.and_eq_true] at this
    exact linked_post (pre := d :: pre) this.2 k hk

/-- ONE WALK, IN THE ORDER OF THE TEXT, SERVES EVERY ORDER. -/
theorem wp_region_chain {P : Program} {id : Nat} {Q : Exit → Act → World → Prop} {a : Act} {w : World} {l : List Oper} (Cs : Nat → World → Prop) (chain : List Nat) (cs : List Value) (hm : P.follows .mixedOrders = true) (hok : okB l.toArray = true) (hlk : linked l.toArray chain = true) (hch : chain.all (fun k => decide (k < l.length)) = true)
    (hw : Cs 0 { w with drawn := w.drawn + 1 }) (h : wpChn P Cs chain Q 0 l cs a) : (Code.region id l.toArray true).wp P Q a w := by
  refine wp_region_any hm ?_
  have hvals : ∀ j, j < cs.length → cs[j]? = some ((fun k => cs.getD k undef) (0 + j)) := fun j hj => by simp [hj]
  obtain ⟨u1, u2⟩ := wpChn_use (P := P) (ops := l.toArray) (Cs := Cs) (chain := chain) (Q := Q) (a0 := a) (fun k => cs.getD k undef) l cs 0 a (fun j _ => by simp) hvals rfl h
  have hphase0 : phase chain (fun k => (Array.replicate l.toArray.size false).getD k false) = 0 := by
    cases chain with
    | nil => rfl
    | cons c r =>
      unfold phase
      rw [List.takeWhile_cons, getD_replicate_false]
      rfl
  have main := wpAny_chn (P := P) (ops := l.toArray) (C := fun m w => Cs (phase chain m) w) (a0 := a) (Q := Q) hok (fun k => cs.getD k undef)
    (fun i o ho m w hmi hwi hlate hcl hC => by
      have hlt : i < l.length := by simpa using (Array.getElem?_eq_some_iff.1 ho).1
      have := u1 i o (Nat.zero_le _) (by omega) ho
      by_cases hi : i ∈ chain
      · obtain ⟨pre, post, rfl⟩ := List.append_of_mem hi
        have hpre := linked_pre hok hlk m hwi hcl
        have hnp : i ∉ pre := fun hh => absurd (hpre i hh).2 (Nat.lt_irrefl _)
        have hf : (pre ++ i :: post).findIdx? (· == i) = some pre.length := by
          rw [List.findIdx?_append, List.findIdx?_eq_none_iff.2 (fun k hk => by simpa using fun e : k = i => hnp (e ▸ hk))]
          simp [List.findIdx?_cons]
        rw [hf] at this
        have e1 : phase (pre ++ i :: post) m = pre.length := phase_at (fun k hk => (hpre k hk).1) hmi
        have e2 : phase (pre ++ i :: post) (fun k => k == i || m k) = pre.length + 1 := phase_next (fun k hk => (hpre k hk).1) hnp (fun k hk => by
          have hk' := linked_post hlk k hk
          exact ⟨hlate k hk', fun e => by have := waits_back hok hk'; omega⟩)
        rw [e1] at hC
        rw [e2]
        exact this w hC
      · have hf : chain.findIdx? (· == i) = none := List.findIdx?_eq_none_iff.2 (fun k hk => by simpa using fun e : k = i => hi (e ▸ hk))
        rw [hf] at this
        rw [phase_other hi]
        exact this _ w hC)
    (fun m w hall hC => by
      have : phase chain m = chain.length := phase_all (fun k hk => hall k (by have := List.all_eq_true.1 hch k hk; simpa using this))
      rw [this] at hC
      have := u2 w hC
      simpa using this)
    l.toArray.size (Array.replicate l.toArray.size false) { w with drawn := w.drawn + 1 }
    ⟨by simp, (fun j oj _ hl => by rw [getD_replicate_false] at hl; exact absurd hl (by simp)), by rw [hphase0]; exact hw⟩
    (cnt_replicate _ _)
  have e : fill l.toArray (fun k => cs.getD k undef) (fun k => (Array.replicate l.toArray.size false).getD k false) a l.toArray.size = a := by
    have : ∀ n, fill l.toArray (fun k => cs.getD k undef) (fun k => (Array.replicate l.toArray.size false).getD k false) a n = a := by
      intro n
      induction n with
      | zero => rfl
      | succ n ih => unfold fill; rw [getD_replicate_false]; simpa using ih
    exact this _
  rwa [e] at main
theorem upon_pure {P : Program} {C : World → Prop} {w : World} {c : Value} {r : Result Next} (hC : C w) (h : ∀ F : Value → World → Prop, F c w → upon P F w r) : upon P (fun v w' => v = c ∧ C w') w r := h _ ⟨rfl, hC⟩
theorem upon_int {P : Program} {C : World → Prop} {w : World} {k : IntKind} {n : Int} {r : Result Next} (hC : C w) (m : Int) (e : m = n) (h : ∀ F : Value → World → Prop, F (.int k m) w → upon P F w r) : upon P (fun v w' => v = .int k n ∧ C w') w r := h _ ⟨by rw [e], hC⟩
theorem upon_call {P : Program} {C : World → Prop} {w : World} {c : Value} {r : Result Next} {f : FuncId} {args : Array Value} {R : Ending → World → Prop} (hc : Calls P f args w R) (hR : ∀ e w', R e w' → e = .returned c ∧ C w')
    (h : ∀ F : Value → World → Prop, Calls P f args w (fun e w'' => ∃ v, e = .returned v ∧ F v w'') → upon P F w r) : upon P (fun v w' => v = c ∧ C w') w r :=
  h _ (hc.mono fun e w' hh => ⟨c, (hR e w' hh).1, rfl, (hR e w' hh).2⟩)
attribute [go_sem] upon
end Go.Chn
