/- A region that draws its order, with an invariant over which operations are done, their values and the world; a region of reads, one call, and pure operations behind it. No program is named. -/
import Derived.Test.YtbdmemjenpnjgaaRel
import Derived.Test.YtbdmemjenpnjgaaChn
namespace Go.RelJ
open Go Go.RowKit Go.Rel Go.Chn

theorem upon_mono {P : Program} {F G : Value → World → Prop} {w : World} {r : Result Next} (h : upon P F w r) (hg : ∀ v w', F v w' → G v w') : upon P G w r := by
  cases r with
  | ok n w' =>
    cases n <;> simp only [upon] at h ⊢
    · exact hg _ _ h
    · exact hg _ _ h
    · exact ⟨h.1, h.2.mono fun e w'' ⟨v, he, hv⟩ => ⟨v, he, hg v w'' hv⟩⟩
  | halt x w' => exact h.elim

structure Inv (ops : Array Oper) (J : (Nat → Bool) → (Nat → Value) → World → Prop) (listed : Array Bool) (vals : Nat → Value) (w : World) : Prop where
  size : listed.size = ops.size
  closed : ∀ j oj, ops[j]? = some oj → listed.getD j false = true → ∀ e ∈ oj.after, Region.binds .any e = true → listed.getD e.on false = true
  j : J (fun k => listed.getD k false) vals w
section
variable {P : Program} {ops : Array Oper} {J : (Nat → Bool) → (Nat → Value) → World → Prop} {a0 : Act} {Q : Exit → Act → World → Prop}
theorem wpAny_J (hok : okB ops = true)
    (hstep : ∀ i o, ops[i]? = some o → ∀ (m : Nat → Bool) (vals : Nat → Value) (w : World), m i = false → (∀ k, waits ops i k = true → m k = true) → (∀ j k, waits ops j k = true → m j = true → m k = true) → J m vals w →
      upon P (fun u w' => J (fun k => k == i || m k) (fun k => if k = i then u else vals k) w') w ((execOp (fill ops vals (fun _ => true) a0 i).eval o).run P w))
    (hend : ∀ (m : Nat → Bool) (vals : Nat → Value) (w : World), (∀ k, k < ops.size → m k = true) → J m vals w → Q .normal (fill ops vals (fun _ => true) a0 ops.size) w) :
    ∀ (fuel : Nat) (listed : Array Bool) (vals : Nat → Value) (w : World), Inv ops J listed vals w → cnt listed ops.size ≤ fuel →
      wpAny P .any ops Q fuel listed (fill ops vals (fun k => listed.getD k false) a0 ops.size) w := by
  have hsel := hok
  simp only [okB, Bool.and_eq_true] at hsel
  have hD := hsel.1.2
  have fin : ∀ (listed : Array Bool) (vals : Nat → Value) (w : World), Inv ops J listed vals w → (∀ k, k < ops.size → listed.getD k true = true) → Q .normal (fill ops vals (fun k => listed.getD k false) a0 ops.size) w := by
    intro listed vals w inv hall
    have hall' : ∀ k, k < ops.size → listed.getD k false = true := fun k hk => by
      have h1 := hall k hk
      have h3 : k < listed.size := by rw [inv.size]; exact hk
      simp [h3] at h1 ⊢; exact h1
    rw [fill_mask (m' := fun _ => true) ops.size (fun k hk => hall' k hk)]
    exact hend _ vals w hall' inv.j
  intro fuel
  induction fuel with
  | zero =>
    intro listed vals w inv hc
    have hall := cnt_zero ops.size (by omega : cnt listed ops.size = 0)
    refine ⟨?_, fin listed vals w inv hall⟩
    cases hr : Region.ready .any ops listed with
    | nil => rfl
    | cons j l =>
      exfalso
      have hj : j ∈ Region.ready .any ops listed := by rw [hr]; exact List.mem_cons_self ..
      obtain ⟨h1, o, ho, _⟩ := mem_ready.1 hj
      rw [hall j (Array.getElem?_eq_some_iff.1 ho).1] at h1; cases h1
  | succ fuel ih =>
    intro listed vals w inv hc
    refine ⟨fun hr => fin listed vals w inv (fun k hk => ready_nil hok inv.size hr (k + 1) k (by omega) hk), fun i hi => ?_⟩
    obtain ⟨hun, o, ho, hall⟩ := mem_ready.1 hi
    have hlt : i < ops.size := (Array.getElem?_eq_some_iff.1 ho).1
    obtain ⟨hg, hback, hlook⟩ := ok_at hok ho
    have hun' : listed.getD i false = false := getD_both hun
    have hwaits : ∀ k, waits ops i k = true → listed.getD k false = true := fun k hk => by
      obtain ⟨oj, hoj, e, he, hb, hon⟩ := waits_spec hk
      obtain rfl : oj = o := Option.some.inj (hoj.symm.trans ho)
      rw [← hon]; exact hall e he hb
    have hsame : execOp (fill ops vals (fun k => listed.getD k false) a0 ops.size).eval o = execOp (fill ops vals (fun _ => true) a0 i).eval o := by
      rw [← fill_less (i := i) ops.size (by omega)]
      refine execOp_congr o (fun cs b => Region.noSelect_spec hsel.1.1 i o cs b ho) fun x hx => fill_eval ops.size fun k hk hne d hd hxd => ?_
      have hm : d ∈ o.looksAt ops := by
        subst hxd
        exact List.mem_append_left _ (List.mem_filterMap.2 ⟨.tmp d, by simpa using hx, rfl⟩)
      obtain ⟨l1, l2⟩ := hlook k d hk hd hm
      by_cases e : k < i
      · have := hwaits k (l1 e)
        simp [e, this] at hne
      · have h2 := l2 e
        obtain ⟨ok, hok', e', he', hb', hon'⟩ := waits_spec h2
        have hkl : listed.getD k false = true := by simpa [e] using hne
        have := inv.closed k ok hok' hkl e' he' hb'
        rw [hon', hun'] at this; cases this
    have hcl : ∀ j k, waits ops j k = true → listed.getD j false = true → listed.getD k false = true := fun j k hjk hj => by
      obtain ⟨oj, hoj, e, he, hb, hon⟩ := waits_spec hjk
      rw [← hon]; exact inv.closed j oj hoj hj e he hb
    have hrel := hstep i o ho (fun k => listed.getD k false) vals w hun' hwaits hcl inv.j
    have next : ∀ v w', J (fun k => k == i || listed.getD k false) (fun k => if k = i then v else vals k) w' → wpAny P .any ops Q fuel (listed.setIfInBounds i true) ((fill ops vals (fun k => listed.getD k false) a0 ops.size).put o.dst v) w' := by
      intro v w' hv
      have hsz : i < listed.size := by rw [inv.size]; exact hlt
      have key : (fill ops vals (fun k => listed.getD k false) a0 ops.size).put o.dst v = fill ops (fun k => if k = i then v else vals k) (fun k => (listed.setIfInBounds i true).getD k false) a0 ops.size := by
        have hd : o.dst = dstOf ops i := by simp [dstOf, ho]
        rw [fill_insert (m := fun k => listed.getD k false) hD hun' (by simp [hsz]) (fun k hk => getD_set_ne false (Ne.symm hk)) ops.size (Nat.le_refl _) hlt, hd]
        simp only [if_true]
        rw [fill_vals (vals' := vals) ops.size (fun k _ hk => if_neg (fun e => by subst e; rw [hun'] at hk; cases hk))]
      rw [key]
      have hm : (fun k => k == i || listed.getD k false) = fun k => (listed.setIfInBounds i true).getD k false := by
        funext k
        by_cases hki : k = i
        · subst hki; simp [hsz]
        · rw [getD_set_ne false (Ne.symm hki)]; simp [hki]
      refine ih _ _ w' ⟨by simp [inv.size], fun j oj hj hl e he hb' => ?_, by rw [← hm]; exact hv⟩ ?_
      · by_cases hij : i = j
        · subst hij
          obtain rfl : oj = o := Option.some.inj (hj.symm.trans ho)
          exact getD_set_true (hall e he hb')
        · rw [getD_set_ne false hij] at hl
          exact getD_set_true (inv.closed j oj hj hl e he hb')
      · have := cnt_set hun ops.size
        rw [if_pos hlt] at this
        omega
    unfold wpOp
    simp only [ho]
    have hw : Region.wanted o (yielded ops (fill ops vals (fun k => listed.getD k false) a0 ops.size).tmps) = true := by simp [Region.wanted, hg]
    rw [if_pos hw]
    left
    unfold Oper.wp
    rw [hsame]
    generalize (execOp (fill ops vals (fun _ => true) a0 i).eval o).run P w = r at hrel
    cases r with
    | ok n w' =>
      cases n <;> simp only [upon] at hrel <;> simp only [Oper.upon]
      case value u => exact next u w' hrel
      case skip => exact next undef w' hrel
      case enter f args =>
        obtain ⟨rfl, hc⟩ := hrel
        exact hc.mono fun e w'' ⟨v, he, hv⟩ => by subst he; exact next v w'' hv
    | halt x w' => simp only [upon] at hrel

/-- Each operation behind the call waits for it, or for one that does. -/
def callOk (ops : Array Oper) (c : Nat) : Bool := (List.range ops.size).all fun k => decide (k ≤ c) || (List.range ops.size).any fun j => decide (c ≤ j) && decide (j < k) && waits ops k j
theorem call_done {c : Nat} (h : callOk ops c = true) {m : Nat → Bool} (hcl : ∀ j k, waits ops j k = true → m j = true → m k = true) : ∀ n k, k < n → k < ops.size → c < k → (∀ j, waits ops k j = true → m j = true) → m c = true := by
  intro n
  induction n with
  | zero => intro k hk; omega
  | succ n ih =>
    intro k hk hk2 hck hw
    have h1 := List.all_eq_true.1 h k (List.mem_range.2 hk2)
    rw [decide_eq_false (by omega : ¬ k ≤ c), Bool.false_or] at h1
    obtain ⟨j, hj, h2⟩ := List.any_eq_true.1 h1
    simp only [Bool.and_eq_true, decide_eq_true_eq] at h2
    obtain ⟨⟨h3, h4⟩, h5⟩ := h2
    have hmj := hw j h5
    by_cases e : j = c
    · rw [← e]; exact hmj
    · exact ih j (by omega) (List.mem_range.1 hj) (by omega) (fun i hi => hcl j i hi hmj)
end
/-- THE WALK: what each operation yields, in the order of the text; v: what the call gives. -/
def wpCall (P : Program) (c : Nat) (C0 : World → Prop) (F : Value → World → Prop) (v : Value) (Q : Exit → Act → World → Prop) : Nat → List Oper → List Value → Act → Prop
  | i, o :: rest, x :: xs, a =>
    (if i < c then ∀ w : World, (C0 w ∨ ∃ u, F u w) → upon P (fun u w' => u = x ∧ w' = w) w ((execOp a.eval o).run P w)
     else if i = c then ∀ w : World, C0 w → upon P F w ((execOp a.eval o).run P w)
     else ∀ w : World, F v w → upon P (fun u w' => u = x ∧ w' = w) w ((execOp a.eval o).run P w)) ∧ wpCall P c C0 F v Q (i + 1) rest xs (a.put o.dst x)
  | _, [], [], a => ∀ w : World, F v w → Q .normal a w
  | _, _, _, _ => False
section
variable {P : Program} {ops : Array Oper} {a0 : Act} {Q : Exit → Act → World → Prop}
theorem wpCall_use {c : Nat} {C0 : World → Prop} {F : Value → World → Prop} {v : Value} (vals : Nat → Value) : ∀ (l : List Oper) (cs : List Value) (i : Nat) (a : Act),
    (∀ j, j < l.length → l[j]? = ops[i + j]?) → (∀ j, j < cs.length → cs[j]? = some (vals (i + j))) → a = fill ops vals (fun _ => true) a0 i → wpCall P c C0 F v Q i l cs a →
    (∀ j o, i ≤ j → j < i + l.length → ops[j]? = some o → if j < c then ∀ w : World, (C0 w ∨ ∃ u, F u w) → upon P (fun u w' => u = vals j ∧ w' = w) w ((execOp (fill ops vals (fun _ => true) a0 j).eval o).run P w)
      else if j = c then ∀ w : World, C0 w → upon P F w ((execOp (fill ops vals (fun _ => true) a0 j).eval o).run P w)
      else ∀ w : World, F v w → upon P (fun u w' => u = vals j ∧ w' = w) w ((execOp (fill ops vals (fun _ => true) a0 j).eval o).run P w)) ∧
    (∀ w, F v w → Q .normal (fill ops vals (fun _ => true) a0 (i + l.length)) w)
  | [], [], i, a, hl, hk, ha, h => by
    refine ⟨fun j o hij hlt => absurd hlt (by simp; omega), fun w hC => ?_⟩
    simp only [List.length_nil, Nat.add_zero]
    rw [← ha]
    exact h w hC
  | [], _ :: _, _, _, _, _, _, h => by simp [wpCall] at h
  | _ :: _, [], _, _, _, _, _, h => by simp [wpCall] at h
  | o :: rest, x :: cs, i, a, hl, hk, ha, h => by
    have ho : ops[i]? = some o := by simpa using (hl 0 (by simp)).symm
    have hc : x = vals i := by simpa using hk 0 (by simp)
    have hl' : ∀ j, j < rest.length → rest[j]? = ops[i + 1 + j]? := fun j hj => by have := hl (j + 1) (by simp; omega); simpa [Nat.add_assoc, Nat.add_comm 1 j] using this
    have hk' : ∀ j, j < cs.length → cs[j]? = some (vals (i + 1 + j)) := fun j hj => by have := hk (j + 1) (by simp; omega); simpa [Nat.add_assoc, Nat.add_comm 1 j] using this
    have hput : a.put o.dst (vals i) = fill ops vals (fun _ => true) a0 (i + 1) := by
      rw [ha]; show _ = if true = true then _ else _
      rw [if_pos rfl]; simp [dstOf, ho]
    obtain ⟨h1, h2⟩ := h
    rw [hc, hput] at h2
    obtain ⟨r1, r2⟩ := wpCall_use vals rest cs (i + 1) _ hl' hk' rfl h2
    have hN : i + (o :: rest).length = i + 1 + rest.length := by simp; omega
    rw [hN]
    refine ⟨fun j o' hij hjN ho' => ?_, r2⟩
    by_cases e : i = j
    · subst e
      obtain rfl : o = o' := Option.some.inj (ho.symm.trans ho')
      rw [← ha, ← hc]
      exact h1
    · exact r1 j o' (by omega) hjN ho'
theorem eval_vals {vals vs : Nat → Value} {x : Operand} : ∀ n, (∀ k, k < n → ∀ d, dstOf ops k = some d → x = .tmp d → vals k = vs k) → (fill ops vals (fun _ => true) a0 n).eval x = (fill ops vs (fun _ => true) a0 n).eval x
  | 0, _ => rfl
  | n + 1, h => by
    have ih := eval_vals (vals := vals) (vs := vs) n (fun k hk => h k (by omega))
    have hn := h n (by omega)
    unfold fill
    simp only [if_true]
    by_cases hx : ∃ d, dstOf ops n = some d ∧ x = .tmp d
    · obtain ⟨d, hd, rfl⟩ := hx
      rw [hd, hn d hd rfl]
      show ((fill ops vals (fun _ => true) a0 n).tmps.setIfInBounds d (vs n)).getD d undef = ((fill ops vs (fun _ => true) a0 n).tmps.setIfInBounds d (vs n)).getD d undef
      have s1 := fill_size ops vals (fun _ => true) a0 n
      have s2 := fill_size ops vs (fun _ => true) a0 n
      by_cases hlt : d < a0.tmps.size
      · simp [s1, s2, hlt]
      · simp [s1, s2, hlt]
    · have hx' : ∀ d, dstOf ops n = some d → x ≠ .tmp d := fun d hd he => hx ⟨d, hd, he⟩
      rw [Act.eval_put hx', Act.eval_put hx']; exact ih
theorem exec_vals (hok : okB ops = true) {i : Nat} {o : Oper} (ho : ops[i]? = some o) {vals vs : Nat → Value} (h : ∀ k, waits ops i k = true → vals k = vs k) : execOp (fill ops vals (fun _ => true) a0 i).eval o = execOp (fill ops vs (fun _ => true) a0 i).eval o := by
  have hsel := hok
  simp only [okB, Bool.and_eq_true] at hsel
  obtain ⟨_, _, hlook⟩ := ok_at hok ho
  have hlt : i < ops.size := (Array.getElem?_eq_some_iff.1 ho).1
  refine execOp_congr o (fun cs b => Region.noSelect_spec hsel.1.1 i o cs b ho) fun x hx => eval_vals i fun k hk d hd hxd => ?_
  have hm : d ∈ o.looksAt ops := by
    subst hxd
    exact List.mem_append_left _ (List.mem_filterMap.2 ⟨.tmp d, by simpa using hx, rfl⟩)
  exact h k ((hlook k d (by omega) hd hm).1 hk)
/-- What stands at each place: ahead of the call known values, at its place whatever it gave, behind it what hangs on that. -/
def CJ (c n : Nat) (cs : Value → List Value) (C0 : World → Prop) (F : Value → World → Prop) (m : Nat → Bool) (vals : Nat → Value) (w : World) : Prop :=
  (∀ k, k < n → m k = true → k ≠ c → vals k = (cs (vals c)).getD k undef) ∧ ((m c = false ∧ C0 w ∧ ∀ k, k < n → c < k → m k = false) ∨ (m c = true ∧ F (vals c) w))
end
theorem wp_region_call {P : Program} {id : Nat} {Q : Exit → Act → World → Prop} {a : Act} {w : World} {l : List Oper} (c : Nat) (C0 : World → Prop) (F : Value → World → Prop) (cs : Value → List Value) (hm : P.follows .mixedOrders = true) (hok : okB l.toArray = true) (hco : callOk l.toArray c = true) (hcl : c < l.length)
    (hcs : ∀ v k, k < c → (cs v).getD k undef = (cs undef).getD k undef) (hcq : ∀ v, (cs v).getD c undef = v) (hln : ∀ v, (cs v).length = l.length)
    (hw : C0 { w with drawn := w.drawn + 1 }) (h : ∀ v, wpCall P c C0 F v Q 0 l (cs v) a) : (Code.region id l.toArray true).wp P Q a w := by
  refine wp_region_any hm ?_
  have use := fun (vals : Nat → Value) (hv : ∀ k, k < l.length → vals k = (cs (vals c)).getD k undef) => wpCall_use (P := P) (ops := l.toArray) (c := c) (C0 := C0) (F := F) (v := vals c) (Q := Q) (a0 := a) vals l (cs (vals c)) 0 a (fun j _ => by simp) (fun j hj => by
    rw [Nat.zero_add, hv j (by rw [← hln (vals c)]; exact hj), List.getD_eq_getElem?_getD, List.getElem?_eq_getElem hj]; rfl) rfl (h (vals c))
  have main := wpAny_J (P := P) (ops := l.toArray) (J := CJ c l.length cs C0 F) (a0 := a) (Q := Q) hok
    (fun i o ho m vals w hmi hwi hclo hJ => by
      have hlt : i < l.length := by simpa using (Array.getElem?_eq_some_iff.1 ho).1
      obtain ⟨hv, hs⟩ := hJ
      have hsz : l.toArray.size = l.length := by simp
      obtain ⟨v, hvd⟩ : ∃ v, v = vals c := ⟨_, rfl⟩
      -- the values as the text has them, with what the call gave
      have hvs : ∀ k, k < l.length → (fun k => (cs v).getD k undef) k = (cs ((fun k => (cs v).getD k undef) c)).getD k undef := fun k _ => by
        show (cs v).getD k undef = (cs ((cs v).getD c undef)).getD k undef
        rw [hcq]
      obtain ⟨u1, _⟩ := use (fun k => (cs v).getD k undef) hvs
      have hu := u1 i o (Nat.zero_le _) (by omega) ho
      rw [hcq v] at hu
      have hex : execOp (fill l.toArray vals (fun _ => true) a i).eval o = execOp (fill l.toArray (fun k => (cs v).getD k undef) (fun _ => true) a i).eval o := exec_vals hok ho fun k hk => by
        have hmk := hwi k hk
        have hki : k < i := waits_back hok hk
        by_cases e : k = c
        · rw [e]; show vals c = (cs v).getD c undef; rw [hcq, hvd]
        · have := hv k (by omega) hmk e
          rw [this, hvd]
      rw [hex]
      -- the same, if the call gives another value: ahead of the call nothing hangs on it
      have hval : ∀ u k, k < c → (cs u).getD k undef = (cs v).getD k undef := fun u k hk => by rw [hcs u k hk, hcs v k hk]
      have step : ∀ (x : Value) (w' : World), i ≠ c → x = (cs v).getD i undef → w' = w → CJ c l.length cs C0 F (fun k => k == i || m k) (fun k => if k = i then x else vals k) w' := fun x w' hic hx hw' => by
        subst hw'
        have e1 : (if c = i then x else vals c) = vals c := if_neg (fun e => hic e.symm)
        refine ⟨fun k hk hmk hkc => ?_, ?_⟩
        · show (if k = i then x else vals k) = (cs (if c = i then x else vals c)).getD k undef
          rw [e1]
          by_cases e : k = i
          · rw [if_pos e, hx, e, hvd]
          · rw [if_neg e]
            have : m k = true := by simpa [e] using hmk
            exact hv k hk this hkc
        · have emc : (c == i || m c) = m c := by simp [show (c == i) = false by simpa using fun e => hic e.symm]
          show ((c == i || m c) = false ∧ C0 w' ∧ _) ∨ ((c == i || m c) = true ∧ F (if c = i then x else vals c) w')
          rw [e1, emc]
          rcases hs with ⟨a1, a2, a3⟩ | a
          · refine .inl ⟨a1, a2, fun k hk hck => ?_⟩
            have hki : k ≠ i := fun e => by
              subst e
              have := call_done hco hclo (k + 1) k (by omega) (by omega) hck hwi
              rw [a1] at this; cases this
            show (k == i || m k) = false
            rw [a3 k hk hck]; simpa using hki
          · exact .inr a
      by_cases h1 : i < c
      · rw [if_pos h1] at hu
        have hcw : C0 w ∨ ∃ u, F u w := hs.imp (fun h => h.2.1) fun h => ⟨_, h.2⟩
        refine upon_mono (hu w hcw) fun x w' ⟨hx, hw'⟩ => step x w' (by omega) hx hw'
      · by_cases h2 : i = c
        · subst h2
          rw [if_neg h1, if_pos rfl] at hu
          rcases hs with ⟨a1, a2, a3⟩ | ⟨a1, _⟩
          · refine upon_mono (hu w a2) fun x w' hx => ⟨fun k hk hmk hkc => ?_, .inr ⟨by simp, by show F (if i = i then x else vals i) w'; rw [if_pos rfl]; exact hx⟩⟩
            have hmk' : m k = true := by simpa [hkc] using hmk
            have hlt2 : k < i := by
              rcases Nat.lt_or_ge i k with e | e
              · rw [a3 k hk e] at hmk'; cases hmk'
              · omega
            show (if k = i then x else vals k) = (cs (if i = i then x else vals i)).getD k undef
            rw [if_neg hkc, if_pos rfl, hv k hk hmk' hkc, ← hvd, hval x k hlt2]
          · rw [hmi] at a1; cases a1
        · rw [if_neg h1, if_neg h2] at hu
          have hmc : m c = true := call_done hco hclo (i + 1) i (by omega) (by omega) (by omega) hwi
          rcases hs with ⟨a1, _⟩ | ⟨_, hF⟩
          · rw [hmc] at a1; cases a1
          · rw [← hvd] at hF
            exact upon_mono (hu w hF) fun x w' ⟨hx, hw'⟩ => step x w' h2 hx hw')
    (fun m vals w hall hJ => by
      obtain ⟨hv, hs⟩ := hJ
      have hmc : m c = true := hall c (by simpa using hcl)
      rcases hs with ⟨e, _⟩ | ⟨_, hF⟩
      · rw [hmc] at e; cases e
      · have hv' : ∀ k, k < l.length → vals k = (cs (vals c)).getD k undef := fun k hk => by
          by_cases e : k = c
          · rw [e, hcq]
          · exact hv k hk (hall k (by simpa using hk)) e
        have := (use vals hv').2 w hF
        simpa using this)
    l.toArray.size (Array.replicate l.toArray.size false) (fun _ => undef) { w with drawn := w.drawn + 1 }
    ⟨by simp, (fun j oj _ hl => by rw [getD_replicate_false] at hl; exact absurd hl (by simp)), (fun k _ hk _ => by have hk : (Array.replicate l.toArray.size false).getD k false = true := hk; rw [getD_replicate_false] at hk; cases hk), .inl ⟨getD_replicate_false _ _, hw, fun k _ _ => getD_replicate_false _ _⟩⟩
    (cnt_replicate _ _)
  have e : fill l.toArray (fun _ => undef) (fun k => (Array.replicate l.toArray.size false).getD k false) a l.toArray.size = a := by
    have : ∀ n, fill l.toArray (fun _ => undef) (fun k => (Array.replicate l.toArray.size false).getD k false) a n = a := by
      intro n
      induction n with
      | zero => rfl
      | succ n ih => unfold fill; rw [getD_replicate_false]; simpa using ih
    exact this _
  rwa [e] at main
end Go.RelJ
