/- RelJ, Da, Db, Dd of the seat, joined. -/
import Derived.Test.YteklkololojamaaGreatRel
import Derived.Test.YteklkololojamaaGreatChn
import Derived.Test.YteklkololojamaaGreatWc
import Derived.Test.YteklkololojamaaGreatWy
/- A region that draws its order, with an invariant over which operations are done, their values and the world; a region of reads, one call, and pure operations behind it. No program is named. -/
namespace Go.RelJ
open Go Go.RowKit Go.Rel Go.Chn

theorem upon_mono {P : Program} {F G : Value → World → Prop} {w : World} {r : Result Next} (h : upon P F w r) (hg : ∀ v w', F v w' → G v w') : upon P G w r := by
  cases r with
  | ok n w' =>
    cases n <;> simp only [upon] at h ⊢
    · exact hg _ _ h
    · exact hg _ _ h
    · exact ⟨h.1, h.2.mono fun e w'' ⟨v, he, hv⟩ => ⟨v, he, hg v w'' hv⟩⟩
  | halt x w' => exact h.elim

structure Inv (ops : Array Oper) (J : (Nat → Bool) → (Nat → Value) → World → Prop) (listed : Array Bool) (vals : Nat → Value) (w : World) : Prop where
  size : listed.size = ops.size
  closed : ∀ j oj, ops[j]? = some oj → listed.getD j false = true → ∀ e ∈ oj.after, Region.binds .any e = true → listed.getD e.on false = true
  j : J (fun k => listed.getD k false) vals w
section
variable {P : Program} {ops : Array Oper} {J : (Nat → Bool) → (Nat → Value) → World → Prop} {a0 : Act} {Q : Exit → Act → World → Prop}
theorem wpAny_J (hok : okB ops = true)
    (hstep : ∀ i o, ops[i]? = some o → ∀ (m : Nat → Bool) (vals : Nat → Value) (w : World), m i = false → (∀ k, waits ops i k = true → m k = true) → (∀ j k, waits ops j k = true → m j = true → m k = true) → J m vals w →
      upon P (fun u w' => J (fun k => k == i || m k) (fun k => if k = i then u else vals k) w') w ((execOp (fill ops vals (fun _ => true) a0 i).eval o).run P w))
    (hend : ∀ (m : Nat → Bool) (vals : Nat → Value) (w : World), (∀ k, k < ops.size → m k = true) → J m vals w → Q .normal (fill ops vals (fun _ => true) a0 ops.size) w) :
    ∀ (fuel : Nat) (listed : Array Bool) (vals : Nat → Value) (w : World), Inv ops J listed vals w → cnt listed ops.size ≤ fuel →
      wpAny P .any ops Q fuel listed (fill ops vals (fun k => listed.getD k false) a0 ops.size) w := by
  have hsel := hok
  simp only [okB, Bool.and_eq_true] at hsel
  have hD := hsel.1.2
  have fin : ∀ (listed : Array Bool) (vals : Nat → Value) (w : World), Inv ops J listed vals w → (∀ k, k < ops.size → listed.getD k true = true) → Q .normal (fill ops vals (fun k => listed.getD k false) a0 ops.size) w := by
    intro listed vals w inv hall
    have hall' : ∀ k, k < ops.size → listed.getD k false = true := fun k hk => by
      have h1 := hall k hk
      have h3 : k < listed.size := by rw [inv.size]; exact hk
      simp [h3] at h1 ⊢; exact h1
    rw [fill_mask (m' := fun _ => true) ops.size (fun k hk => hall' k hk)]
    exact hend _ vals w hall' inv.j
  intro fuel
  induction fuel with
  | zero =>
    intro listed vals w inv hc
    have hall := cnt_zero ops.size (by omega : cnt listed ops.size = 0)
    refine ⟨?_, fin listed vals w inv hall⟩
    cases hr : Region.ready .any ops listed with
    | nil => rfl
    | cons j l =>
      exfalso
      have hj : j ∈ Region.ready .any ops listed := by rw [hr]; exact List.mem_cons_self ..
      obtain ⟨h1, o, ho, _⟩ := mem_ready.1 hj
      rw [hall j (Array.getElem?_eq_some_iff.1 ho).1] at h1; cases h1
  | succ fuel ih =>
    intro listed vals w inv hc
    refine ⟨fun hr => fin listed vals w inv (fun k hk => ready_nil hok inv.size hr (k + 1) k (by omega) hk), fun i hi => ?_⟩
    obtain ⟨hun, o, ho, hall⟩ := mem_ready.1 hi
    have hlt : i < ops.size := (Array.getElem?_eq_some_iff.1 ho).1
    obtain ⟨hg, hback, hlook⟩ := ok_at hok ho
    have hun' : listed.getD i false = false := getD_both hun
    have hwaits : ∀ k, waits ops i k = true → listed.getD k false = true := fun k hk => by
      obtain ⟨oj, hoj, e, he, hb, hon⟩ := waits_spec hk
      obtain rfl : oj = o := Option.some.inj (hoj.symm.trans ho)
      rw [← hon]; exact hall e he hb
    have hsame : execOp (fill ops vals (fun k => listed.getD k false) a0 ops.size).eval o = execOp (fill ops vals (fun _ => true) a0 i).eval o := by
      rw [← fill_less (i := i) ops.size (by omega)]
      refine execOp_congr o (fun cs b => Region.noSelect_spec hsel.1.1 i o cs b ho) fun x hx => fill_eval ops.size fun k hk hne d hd hxd => ?_
      have hm : d ∈ o.looksAt ops := by
        subst hxd
        exact List.mem_append_left _ (List.mem_filterMap.2 ⟨.tmp d, by simpa using hx, rfl⟩)
      obtain ⟨l1, l2⟩ := hlook k d hk hd hm
      by_cases e : k < i
      · have := hwaits k (l1 e)
        simp [e, this] at hne
      · have h2 := l2 e
        obtain ⟨ok, hok', e', he', hb', hon'⟩ := waits_spec h2
        have hkl : listed.getD k false = true := by simpa [e] using hne
        have := inv.closed k ok hok' hkl e' he' hb'
        rw [hon', hun'] at this; cases this
    have hcl : ∀ j k, waits ops j k = true → listed.getD j false = true → listed.getD k false = true := fun j k hjk hj => by
      obtain ⟨oj, hoj, e, he, hb, hon⟩ := waits_spec hjk
      rw [← hon]; exact inv.closed j oj hoj hj e he hb
    have hrel := hstep i o ho (fun k => listed.getD k false) vals w hun' hwaits hcl inv.j
    have next : ∀ v w', J (fun k => k == i || listed.getD k false) (fun k => if k = i then v else vals k) w' → wpAny P .any ops Q fuel (listed.setIfInBounds i true) ((fill ops vals (fun k => listed.getD k false) a0 ops.size).put o.dst v) w' := by
      intro v w' hv
      have hsz : i < listed.size := by rw [inv.size]; exact hlt
      have key : (fill ops vals (fun k => listed.getD k false) a0 ops.size).put o.dst v = fill ops (fun k => if k = i then v else vals k) (fun k => (listed.setIfInBounds i true).getD k false) a0 ops.size := by
        have hd : o.dst = dstOf ops i := by simp [dstOf, ho]
        rw [fill_insert (m := fun k => listed.getD k false) hD hun' (by simp [hsz]) (fun k hk => getD_set_ne false (Ne.symm hk)) ops.size (Nat.le_refl _) hlt, hd]
        simp only [if_true]
        rw [fill_vals (vals' := vals) ops.size (fun k _ hk => if_neg (fun e => by subst e; rw [hun'] at hk; cases hk))]
      rw [key]
      have hm : (fun k => k == i || listed.getD k false) = fun k => (listed.setIfInBounds i true).getD k false := by
        funext k
        by_cases hki : k = i
        · subst hki; simp [hsz]
        · rw [getD_set_ne false (Ne.symm hki)]; simp [hki]
      refine ih _ _ w' ⟨by simp [inv.size], fun j oj hj hl e he hb' => ?_, by rw [← hm]; exact hv⟩ ?_
      · by_cases hij : i = j
        · subst hij
          obtain rfl : oj = o := Option.some.inj (hj.symm.trans ho)
          exact getD_set_true (hall e he hb')
        · rw [getD_set_ne false hij] at hl
          exact getD_set_true (inv.closed j oj hj hl e he hb')
      · have := cnt_set hun ops.size
        rw [if_pos hlt] at this
        omega
    unfold wpOp
    simp only [ho]
    have hw : Region.wanted o (yielded ops (fill ops vals (fun k => listed.getD k false) a0 ops.size).tmps) = true := by simp [Region.wanted, hg]
    rw [if_pos hw]
    left
    unfold Oper.wp
    rw [hsame]
    generalize (execOp (fill ops vals (fun _ => true) a0 i).eval o).run P w = r at hrel
    cases r with
    | ok n w' =>
      cases n <;> simp only [upon] at hrel <;> simp only [Oper.upon]
      case value u => exact next u w' hrel
      case skip => exact next undef w' hrel
      case enter f args =>
        obtain ⟨rfl, hc⟩ := hrel
        exact hc.mono fun e w'' ⟨v, he, hv⟩ => by subst he; exact next v w'' hv
    | halt x w' => simp only [upon] at hrel

/-- Each operation behind the call waits for it, or for one that does. -/
def callOk (ops : Array Oper) (c : Nat) : Bool := (List.range ops.size).all fun k => decide (k ≤ c) || (List.range ops.size).any fun j => decide (c ≤ j) && decide (j < k) && waits ops k j
theorem call_done {c : Nat} (h : callOk ops c = true) {m : Nat → Bool} (hcl : ∀ j k, waits ops j k = true → m j = true → m k = true) : ∀ n k, k < n → k < ops.size → c < k → (∀ j, waits ops k j = true → m j = true) → m c = true := by
  intro n
  induction n with
  | zero => intro k hk; omega
  | succ n ih =>
    intro k hk hk2 hck hw
    have h1 := List.all_eq_true.1 h k (List.mem_range.2 hk2)
    rw [decide_eq_false (by omega : ¬ k ≤ c), Bool.false_or] at h1
    obtain ⟨j, hj, h2⟩ := List.any_eq_true.1 h1
    simp only [Bool.and_eq_true, decide_eq_true_eq] at h2
    obtain ⟨⟨h3, h4⟩, h5⟩ := h2
    have hmj := hw j h5
    by_cases e : j = c
    · rw [← e]; exact hmj
    · exact ih j (by omega) (List.mem_range.1 hj) (by omega) (fun i hi => hcl j i hi hmj)
end
/-- THE WALK: what each operation yields, in the order of the text; v: what the call gives. -/
def wpCall (P : Program) (c : Nat) (C0 : World → Prop) (F : Value → World → Prop) (v : Value) (Q : Exit → Act → World → Prop) : Nat → List Oper → List Value → Act → Prop
  | i, o :: rest, x :: xs, a =>
    (if i < c then ∀ w : World, (C0 w ∨ ∃ u, F u w) → upon P (fun u w' => u = x ∧ w' = w) w ((execOp a.eval o).run P w)
     else if i = c then ∀ w : World, C0 w → upon P F w ((execOp a.eval o).run P w)
     else ∀ w : World, F v w → upon P (fun u w' => u = x ∧ w' = w) w ((execOp a.eval o).run P w)) ∧ wpCall P c C0 F v Q (i + 1) rest xs (a.put o.dst x)
  | _, [], [], a => ∀ w : World, F v w → Q .normal a w
  | _, _, _, _ => False
section
variable {P : Program} {ops : Array Oper} {a0 : Act} {Q : Exit → Act → World → Prop}
theorem wpCall_use {c : Nat} {C0 : World → Prop} {F : Value → World → Prop} {v : Value} (vals : Nat → Value) : ∀ (l : List Oper) (cs : List Value) (i : Nat) (a : Act),
    (∀ j, j < l.length → l[j]? = ops[i + j]?) → (∀ j, j < cs.length → cs[j]? = some (vals (i + j))) → a = fill ops vals (fun _ => true) a0 i → wpCall P c C0 F v Q i l cs a →
    (∀ j o, i ≤ j → j < i + l.length → ops[j]? = some o → if j < c then ∀ w : World, (C0 w ∨ ∃ u, F u w) → upon P (fun u w' => u = vals j ∧ w' = w) w ((execOp (fill ops vals (fun _ => true) a0 j).eval o).run P w)
      else if j = c then ∀ w : World, C0 w → upon P F w ((execOp (fill ops vals (fun _ => true) a0 j).eval o).run P w)
      else ∀ w : World, F v w → upon P (fun u w' => u = vals j ∧ w' = w) w ((execOp (fill ops vals (fun _ => true) a0 j).eval o).run P w)) ∧
    (∀ w, F v w → Q .normal (fill ops vals (fun _ => true) a0 (i + l.length)) w)
  | [], [], i, a, hl, hk, ha, h => by
    refine ⟨fun j o hij hlt => absurd hlt (by simp; omega), fun w hC => ?_⟩
    simp only [List.length_nil, Nat.add_zero]
    rw [← ha]
    exact h w hC
  | [], _ :: _, _, _, _, _, _, h => by simp [wpCall] at h
  | _ :: _, [], _, _, _, _, _, h => by simp [wpCall] at h
  | o :: rest, x :: cs, i, a, hl, hk, ha, h => by
    have ho : ops[i]? = some o := by simpa using (hl 0 (by simp)).symm
    have hc : x = vals i := by simpa using hk 0 (by simp)
    have hl' : ∀ j, j < rest.length → rest[j]? = ops[i + 1 + j]? := fun j hj => by have := hl (j + 1) (by simp; omega); simpa [Nat.add_assoc, Nat.add_comm 1 j] using this
    have hk' : ∀ j, j < cs.length → cs[j]? = some (vals (i + 1 + j)) := fun j hj => by have := hk (j + 1) (by simp; omega); simpa [Nat.add_assoc, Nat.add_comm 1 j] using this
    have hput : a.put o.dst (vals i) = fill ops vals (fun _ => true) a0 (i + 1) := by
      rw [ha]; show _ = if true = true then _ else _
      rw [if_pos rfl]; simp [dstOf, ho]
    obtain ⟨h1, h2⟩ := h
    rw [hc, hput] at h2
    obtain ⟨r1, r2⟩ := wpCall_use vals rest cs (i + 1) _ hl' hk' rfl h2
    have hN : i + (o :: rest).length = i + 1 + rest.length := by simp; omega
    rw [hN]
    refine ⟨fun j o' hij hjN ho' => ?_, r2⟩
    by_cases e : i = j
    · subst e
      obtain rfl : o = o' := Option.some.inj (ho.symm.trans ho')
      rw [← ha, ← hc]
      exact h1
    · exact r1 j o' (by omega) hjN ho'
theorem eval_vals {vals vs : Nat → Value} {x : Operand} : ∀ n, (∀ k, k < n → ∀ d, dstOf ops k = some d → x = .tmp d → vals k = vs k) → (fill ops vals (fun _ => true) a0 n).eval x = (fill ops vs (fun _ => true) a0 n).eval x
  | 0, _ => rfl
  | n + 1, h => by
    have ih := eval_vals (vals := vals) (vs := vs) n (fun k hk => h k (by omega))
    have hn := h n (by omega)
    unfold fill
    simp only [if_true]
    by_cases hx : ∃ d, dstOf ops n = some d ∧ x = .tmp d
    · obtain ⟨d, hd, rfl⟩ := hx
      rw [hd, hn d hd rfl]
      show ((fill ops vals (fun _ => true) a0 n).tmps.setIfInBounds d (vs n)).getD d undef = ((fill ops vs (fun _ => true) a0 n).tmps.setIfInBounds d (vs n)).getD d undef
      have s1 := fill_size ops vals (fun _ => true) a0 n
      have s2 := fill_size ops vs (fun _ => true) a0 n
      by_cases hlt : d < a0.tmps.size
      · simp [s1, s2, hlt]
      · simp [s1, s2, hlt]
    · have hx' : ∀ d, dstOf ops n = some d → x ≠ .tmp d := fun d hd he => hx ⟨d, hd, he⟩
      rw [Act.eval_put hx', Act.eval_put hx']; exact ih
theorem exec_vals (hok : okB ops = true) {i : Nat} {o : Oper} (ho : ops[i]? = some o) {vals vs : Nat → Value} (h : ∀ k, waits ops i k = true → vals k = vs k) : execOp (fill ops vals (fun _ => true) a0 i).eval o = execOp (fill ops vs (fun _ => true) a0 i).eval o := by
  have hsel := hok
  simp only [okB, Bool.and_eq_true] at hsel
  obtain ⟨_, _, hlook⟩ := ok_at hok ho
  have hlt : i < ops.size := (Array.getElem?_eq_some_iff.1 ho).1
  refine execOp_congr o (fun cs b => Region.noSelect_spec hsel.1.1 i o cs b ho) fun x hx => eval_vals i fun k hk d hd hxd => ?_
  have hm : d ∈ o.looksAt ops := by
    subst hxd
    exact List.mem_append_left _ (List.mem_filterMap.2 ⟨.tmp d, by simpa using hx, rfl⟩)
  exact h k ((hlook k d (by omega) hd hm).1 hk)
/-- What stands at each place: ahead of the call known values, at its place whatever it gave, behind it what hangs on that. -/
def CJ (c n : Nat) (cs : Value → List Value) (C0 : World → Prop) (F : Value → World → Prop) (m : Nat → Bool) (vals : Nat → Value) (w : World) : Prop :=
  (∀ k, k < n → m k = true → k ≠ c → vals k = (cs (vals c)).getD k undef) ∧ ((m c = false ∧ C0 w ∧ ∀ k, k < n → c < k → m k = false) ∨ (m c = true ∧ F (vals c) w))
end
theorem wp_region_call {P : Program} {id : Nat} {Q : Exit → Act → World → Prop} {a : Act} {w : World} {l : List Oper} (c : Nat) (C0 : World → Prop) (F : Value → World → Prop) (cs : Value → List Value) (hm : P.follows .mixedOrders = true) (hok : okB l.toArray = true) (hco : callOk l.toArray c = true) (hcl : c < l.length)
    (hcs : ∀ v k, k < c → (cs v).getD k undef = (cs undef).getD k undef) (hcq : ∀ v, (cs v).getD c undef = v) (hln : ∀ v, (cs v).length = l.length)
    (hw : C0 { w with drawn := w.drawn + 1 }) (h : ∀ v, wpCall P c C0 F v Q 0 l (cs v) a) : (Code.region id l.toArray true).wp P Q a w := by
  refine wp_region_any hm ?_
  have use := fun (vals : Nat → Value) (hv : ∀ k, k < l.length → vals k = (cs (vals c)).getD k undef) => wpCall_use (P := P) (ops := l.toArray) (c := c) (C0 := C0) (F := F) (v := vals c) (Q := Q) (a0 := a) vals l (cs (vals c)) 0 a (fun j _ => by simp) (fun j hj => by
    rw [Nat.zero_add, hv j (by rw [← hln (vals c)]; exact hj), List.getD_eq_getElem?_getD, List.getElem?_eq_getElem hj]; rfl) rfl (h (vals c))
  have main := wpAny_J (P := P) (ops := l.toArray) (J := CJ c l.length cs C0 F) (a0 := a) (Q := Q) hok
    (fun i o ho m vals w hmi hwi hclo hJ => by
      have hlt : i < l.length := by simpa using (Array.getElem?_eq_some_iff.1 ho).1
      obtain ⟨hv, hs⟩ := hJ
      have hsz : l.toArray.size = l.length := by simp
      obtain ⟨v, hvd⟩ : ∃ v, v = vals c := ⟨_, rfl⟩
      -- the values as the text has them, with what the call gave
      have hvs : ∀ k, k < l.length → (fun k => (cs v).getD k undef) k = (cs ((fun k => (cs v).getD k undef) c)).getD k undef := fun k _ => by
        show (cs v).getD k undef = (cs ((cs v).getD c undef)).getD k undef
        rw [hcq]
      obtain ⟨u1, _⟩ := use (fun k => (cs v).getD k undef) hvs
      have hu := u1 i o (Nat.zero_le _) (by omega) ho
      rw [hcq v] at hu
      have hex : execOp (fill l.toArray vals (fun _ => true) a i).eval o = execOp (fill l.toArray (fun k => (cs v).getD k undef) (fun _ => true) a i).eval o := exec_vals hok ho fun k hk => by
        have hmk := hwi k hk
        have hki : k < i := waits_back hok hk
        by_cases e : k = c
        · rw [e]; show vals c = (cs v).getD c undef; rw [hcq, hvd]
        · have := hv k (by omega) hmk e
          rw [this, hvd]
      rw [hex]
      -- the same, if the call gives another value: ahead of the call nothing hangs on it
      have hval : ∀ u k, k < c → (cs u).getD k undef = (cs v).getD k undef := fun u k hk => by rw [hcs u k hk, hcs v k hk]
      have step : ∀ (x : Value) (w' : World), i ≠ c → x = (cs v).getD i undef → w' = w → CJ c l.length cs C0 F (fun k => k == i || m k) (fun k => if k = i then x else vals k) w' := fun x w' hic hx hw' => by
        subst hw'
        have e1 : (if c = i then x else vals c) = vals c := if_neg (fun e => hic e.symm)
        refine ⟨fun k hk hmk hkc => ?_, ?_⟩
        · show (if k = i then x else vals k) = (cs (if c = i then x else vals c)).getD k undef
          rw [e1]
          by_cases e : k = i
          · rw [if_pos e, hx, e, hvd]
          · rw [if_neg e]
            have : m k = true := by simpa [e] using hmk
            exact hv k hk this hkc
        · have emc : (c == i || m c) = m c := by simp [show (c == i) = false by simpa using fun e => hic e.symm]
          show ((c == i || m c) = false ∧ C0 w' ∧ _) ∨ ((c == i || m c) = true ∧ F (if c = i then x else vals c) w')
          rw [e1, emc]
          rcases hs with ⟨a1, a2, a3⟩ | a
          · refine .inl ⟨a1, a2, fun k hk hck => ?_⟩
            have hki : k ≠ i := fun e => by
              subst e
              have := call_done hco hclo (k + 1) k (by omega) (by omega) hck hwi
              rw [a1] at this; cases this
            show (k == i || m k) = false
            rw [a3 k hk hck]; simpa using hki
          · exact .inr a
      by_cases h1 : i < c
      · rw [if_pos h1] at hu
        have hcw : C0 w ∨ ∃ u, F u w := hs.imp (fun h => h.2.1) fun h => ⟨_, h.2⟩
        refine upon_mono (hu w hcw) fun x w' ⟨hx, hw'⟩ => step x w' (by omega) hx hw'
      · by_cases h2 : i = c
        · subst h2
          rw [if_neg h1, if_pos rfl] at hu
          rcases hs with ⟨a1, a2, a3⟩ | ⟨a1, _⟩
          · refine upon_mono (hu w a2) fun x w' hx => ⟨fun k hk hmk hkc => ?_, .inr ⟨by simp, by show F (if i = i then x else vals i) w'; rw [if_pos rfl]; exact hx⟩⟩
            have hmk' : m k = true := by simpa [hkc] using hmk
            have hlt2 : k < i := by
              rcases Nat.lt_or_ge i k with e | e
              · rw [a3 k hk e] at hmk'; cases hmk'
              · omega
            show (if k = i then x else vals k) = (cs (if i = i then x else vals i)).getD k undef
            rw [if_neg hkc, if_pos rfl, hv k hk hmk' hkc, ← hvd, hval x k hlt2]
          · rw [hmi] at a1; cases a1
        · rw [if_neg h1, if_neg h2] at hu
          have hmc : m c = true := call_done hco hclo (i + 1) i (by omega) (by omega) (by omega) hwi
          rcases hs with ⟨a1, _⟩ | ⟨_, hF⟩
          · rw [hmc] at a1; cases a1
          · rw [← hvd] at hF
            exact upon_mono (hu w hF) fun x w' ⟨hx, hw'⟩ => step x w' h2 hx hw')
    (fun m vals w hall hJ => by
      obtain ⟨hv, hs⟩ := hJ
      have hmc : m c = true := hall c (by simpa using hcl)
      rcases hs with ⟨e, _⟩ | ⟨_, hF⟩
      · rw [hmc] at e; cases e
      · have hv' : ∀ k, k < l.length → vals k = (cs (vals c)).getD k undef := fun k hk => by
          by_cases e : k = c
          · rw [e, hcq]
          · exact hv k hk (hall k (by simpa using hk)) e
        have := (use vals hv').2 w hF
        simpa using this)
    l.toArray.size (Array.replicate l.toArray.size false) (fun _ => undef) { w with drawn := w.drawn + 1 }
    ⟨by simp, (fun j oj _ hl => by rw [getD_replicate_false] at hl; exact absurd hl (by simp)), (fun k _ hk _ => by have hk : (Array.replicate l.toArray.size false).getD k false = true := hk; rw [getD_replicate_false] at hk; cases hk), .inl ⟨getD_replicate_false _ _, hw, fun k _ _ => getD_replicate_false _ _⟩⟩
    (cnt_replicate _ _)
  have e : fill l.toArray (fun _ => undef) (fun k => (Array.replicate l.toArray.size false).getD k false) a l.toArray.size = a := by
    have : ∀ n, fill l.toArray (fun _ => undef) (fun k => (Array.replicate l.toArray.size false).getD k false) a n = a := by
      intro n
      induction n with
      | zero => rfl
      | succ n ih => unfold fill; rw [getD_replicate_false]; simpa using ih
    exact this _
  rwa [e] at main
end Go.RelJ
/- The document's own timer, as the machine's blocks hold it. -/
namespace Go.Proofs.YteklkololojamaaGreat.Tmr
open Go.RowKit
open Tim
set_option linter.unusedVariables false
set_option linter.unusedSimpArgs false
set_option maxRecDepth 8000

structure RefAt (r cb cv n : Nat) (T : Tm) (w : World) : Prop where
  pos : 0 < n
  le8 : n ≤ 8
  ok : T.Ok
  top : w.heap[r]? = some (.cells #[vU T.cnt, .slice (some ⟨cb, 0, none⟩) n n, .slice (some ⟨cv, 0, none⟩) n n] 57)
  ctl : ∃ C, w.heap[cb]? = some (.cells C 30) ∧ C.size = n ∧ ∀ c, c < n → C[c]? = some (vU (T.ctl c))
  cvl : ∃ C, w.heap[cv]? = some (.cells C 30) ∧ C.size = n ∧ ∀ c, c < n → C[c]? = some (vU (T.cval c))
  ne : cb ≠ cv
def RFoot (r cb cv : Nat) (k : Nat) : Prop := k = r ∨ k = cb ∨ k = cv
section
variable {r cb cv n : Nat} {T : Tm} {w w' : World}
theorem RefAt.keep (H : RefAt r cb cv n T w) (hb : ∀ k, RFoot r cb cv k → w'.heap[k]? = w.heap[k]?) : RefAt r cb cv n T w' :=
  ⟨H.pos, H.le8, H.ok, by rw [hb _ (.inl rfl)]; exact H.top, by rw [hb _ (.inr (.inl rfl))]; exact H.ctl, by rw [hb _ (.inr (.inr rfl))]; exact H.cvl, H.ne⟩
theorem RefAt.lt (H : RefAt r cb cv n T w) {k : Nat} (hk : RFoot r cb cv k) : k < w.heap.size := by
  rcases hk with rfl | rfl | rfl
  · exact lt_of_some H.top
  · obtain ⟨C, h, _⟩ := H.ctl; exact lt_of_some h
  · obtain ⟨C, h, _⟩ := H.cvl; exact lt_of_some h
theorem RefAt.grow (H : RefAt r cb cv n T w) (hb : Below w.heap.size w w') : RefAt r cb cv n T w' := H.keep fun k hk => hb.block k (H.lt hk)
theorem RefAt.c0 (H : RefAt r cb cv n T w) : w.cell? ⟨r, 0, none⟩ = some (vU T.cnt) := by rw [cell_of_row _ _ _ _ _ _ H.top]; rfl
theorem RefAt.c1 (H : RefAt r cb cv n T w) : w.cell? ⟨r, 1, none⟩ = some (.slice (some ⟨cb, 0, none⟩) n n) := by rw [cell_of_row _ _ _ _ _ _ H.top]; rfl
theorem RefAt.c2 (H : RefAt r cb cv n T w) : w.cell? ⟨r, 2, none⟩ = some (.slice (some ⟨cv, 0, none⟩) n n) := by rw [cell_of_row _ _ _ _ _ _ H.top]; rfl
theorem RefAt.f0 (H : RefAt r cb cv n T w) (j : Nat) : w.frozen? ⟨r, j, none⟩ = false := frozen_of_row _ _ _ _ _ H.top
theorem RefAt.fb (H : RefAt r cb cv n T w) (j : Nat) : w.frozen? ⟨cb, j, none⟩ = false := by
  obtain ⟨C, h, _⟩ := H.ctl
  exact frozen_of_row _ _ _ _ _ h
theorem RefAt.fv (H : RefAt r cb cv n T w) (j : Nat) : w.frozen? ⟨cv, j, none⟩ = false := by
  obtain ⟨C, h, _⟩ := H.cvl
  exact frozen_of_row _ _ _ _ _ h
theorem RefAt.cc (H : RefAt r cb cv n T w) {c : Nat} (hc : c < n) : w.cell? ⟨cb, c, none⟩ = some (vU (T.ctl c)) := by
  obtain ⟨C, h, _, t⟩ := H.ctl
  rw [cell_of_row _ _ _ _ _ _ h]; exact t c hc
theorem RefAt.cl (H : RefAt r cb cv n T w) {c : Nat} (hc : c < n) : w.cell? ⟨cv, c, none⟩ = some (vU (T.cval c)) := by
  obtain ⟨C, h, _, t⟩ := H.cvl
  rw [cell_of_row _ _ _ _ _ _ h]; exact t c hc
theorem RefAt.nb (H : RefAt r cb cv n T w) : r ≠ cb := by
  obtain ⟨D, k, _⟩ := H.ctl
  exact ne_of_type H.top k (by decide)
theorem RefAt.nv (H : RefAt r cb cv n T w) : r ≠ cv := by
  obtain ⟨D, k, _⟩ := H.cvl
  exact ne_of_type H.top k (by decide)
/-- What a call does. -/
def RT (r cb cv n : Nat) (T : Tm) (w w' : World) : Prop := RefAt r cb cv n T w' ∧ Goes (RFoot r cb cv) w w'
theorem RT.refl (H : RefAt r cb cv n T w) : RT r cb cv n T w w := ⟨H, Goes.refl _ _⟩
theorem RefAt.ticked (H : RefAt r cb cv n T w) (k : Int) : RT r cb cv n (T.tick k) w (w.setCell ⟨r, 0, none⟩ (vU ((T.cnt + k) % 18446744073709551616))) := by
  refine ⟨⟨H.pos, H.le8, tick_ok H.ok k, heap_setCell_same w r 0 _ 57 _ H.top, ?_, ?_, H.ne⟩, goes_setCell w (F := RFoot r cb cv) (.inl rfl) _ _⟩
  · rw [Below.heap_setCell _ _ _ _ (Ne.symm H.nb)]; exact H.ctl
  · rw [Below.heap_setCell _ _ _ _ (Ne.symm H.nv)]; exact H.cvl
theorem RefAt.putV (H : RefAt r cb cv n T w) {c : Nat} (hc : c < n) {v : Int} (hv : U64 v) : RT r cb cv n (T.setV c v) w (w.setCell ⟨cv, c, none⟩ (vU v)) := by
  refine ⟨⟨H.pos, H.le8, setV_ok H.ok c hv.1 hv.2, ?_, ?_, ?_, H.ne⟩, goes_setCell w (F := RFoot r cb cv) (.inr (.inr rfl)) _ _⟩
  · rw [Below.heap_setCell _ _ _ _ H.nv]; exact H.top
  · rw [Below.heap_setCell _ _ _ _ H.ne]; exact H.ctl
  · obtain ⟨C, h, hs, t⟩ := H.cvl
    refine ⟨_, heap_setCell_same w cv c _ 30 _ h, by simp [hs], fun d hd => ?_⟩
    simp only [Tm.setV, Array.getElem?_setIfInBounds]
    by_cases e : d = c
    · subst e; rw [if_pos rfl, if_pos (by omega), if_pos rfl]
    · rw [if_neg (by omega), if_neg e]; exact t d hd
theorem RefAt.putC (H : RefAt r cb cv n T w) {c : Nat} (hc : c < n) (v : Int) : RT r cb cv n (T.setC c v) w (w.setCell ⟨cb, c, none⟩ (vU (v % 4))) := by
  refine ⟨⟨H.pos, H.le8, setC_ok H.ok c v, ?_, ?_, ?_, H.ne⟩, goes_setCell w (F := RFoot r cb cv) (.inr (.inl rfl)) _ _⟩
  · rw [Below.heap_setCell _ _ _ _ H.nb]; exact H.top
  · obtain ⟨C, h, hs, t⟩ := H.ctl
    refine ⟨_, heap_setCell_same w cb c _ 30 _ h, by simp [hs], fun d hd => ?_⟩
    simp only [Tm.setC, Array.getElem?_setIfInBounds]
    by_cases e : d = c
    · subst e; rw [if_pos rfl, if_pos (by omega), if_pos rfl]
    · rw [if_neg (by omega), if_neg e]; exact t d hd
  · rw [Below.heap_setCell _ _ _ _ (Ne.symm H.ne)]; exact H.cvl
theorem rhas_c (H : RefAt r cb cv n T w) (core : Int) : Calls Tryz.prog 63 #[ptr r 0, vI core] w fun e w' => e = .returned (.bool (hasB n core)) ∧ w' = w := by
  have c1 := H.c1
  clear H
  unfold hasB
  by_cases h1 : 0 ≤ core
  · rw [decide_eq_true h1]
    go_enter Tryz.func63, Tryz.ntmps63
    go_wp2
    go_ret
    exact ⟨rfl, rfl⟩
  · rw [decide_eq_false h1]
    go_enter Tryz.func63, Tryz.ntmps63
    go_wp2
    go_ret
    exact ⟨rfl, rfl⟩
theorem rwrite_c (H : RefAt r cb cv n T w) (core sys : Int) {v : Int} (hv : U64 v) : Calls Tryz.prog 52 #[ptr r 0, vI core, vI sys, vU v] w fun e w' => e = .returned (vI (writeE n core sys)) ∧ RT r cb cv n (writeT n T core sys v) w w' := by
  unfold writeE writeT
  have c1 := H.c1
  have c2 := H.c2
  have hh := rhas_c H core
  cases h1 : hasB n core with
  | false =>
    rw [Bool.false_and, if_neg (by decide), if_neg (by decide)]
    rw [h1] at hh
    go_enter Tryz.func52, Tryz.ntmps52
    go_wp2_with (first | (go_at_call 63; refine hh.mono ?_; rintro e w' ⟨rfl, rfl⟩; dsimp only))
    go_ret
    exact ⟨rfl, RT.refl H⟩
  | true =>
    obtain ⟨c, rfl, hc⟩ := core_of h1
    have hc' : (c : Int) < n := by omega
    rw [h1] at hh
    rw [Bool.true_and, Int.toNat_natCast]
    cases hs : wregB sys with
    | false =>
      rw [if_neg (by decide), if_neg (by decide)]
      simp only [wregB, Bool.or_eq_false_iff, decide_eq_false_iff_not] at hs
      obtain ⟨s1, s2⟩ := hs
      have b1 : (sys != 24346) = true := by simpa using s1
      have b2 : (sys != 24345) = true := by simpa using s2
      go_enter Tryz.func52, Tryz.ntmps52
      go_wp2_with (first | (go_at_call 63; refine hh.mono ?_; rintro e w' ⟨rfl, rfl⟩; dsimp only))
      go_ret
      exact ⟨rfl, RT.refl H⟩
    | true =>
      rw [if_pos rfl, if_pos rfl]
      have q1 := H.putV hc hv
      have q2 := H.putC hc v
      have z1 := H.cc hc
      have z2 := H.cl hc
      have y1 := H.fb c
      have y2 := H.fv c
      rw [← and3 v hv.1 hv.2] at q2
      by_cases g1 : sys = 24346
      · rw [if_pos g1]
        subst g1
        clear hs q2 z1 y1
        go_enter Tryz.func52, Tryz.ntmps52
        go_wp2_with (first | (go_at_call 63; refine hh.mono ?_; rintro e w' ⟨rfl, rfl⟩; dsimp only))
        go_ret
        exact ⟨rfl, q1⟩
      · have g3 : sys = 24345 := by
          simp only [wregB, Bool.or_eq_true, decide_eq_true_eq] at hs
          omega
        rw [if_neg g1]
        subst g3
        clear g1 hs q1 z2 y2
        go_enter Tryz.func52, Tryz.ntmps52
        go_wp2_with (first | (go_at_call 63; refine hh.mono ?_; rintro e w' ⟨rfl, rfl⟩; dsimp only))
        go_ret
        exact ⟨rfl, q2⟩
theorem rhigh_c (H : RefAt r cb cv n T w) (core : Int) : Calls Tryz.prog 28 #[ptr r 0, vI core] w fun e w' => e = .returned (.bool (highV n T core)) ∧ Below w.heap.size w w' := by
  unfold highV
  have c0 := H.c0
  have c1 := H.c1
  have c2 := H.c2
  have hh := rhas_c H core
  cases h1 : hasB n core with
  | false =>
    rw [Bool.false_and]
    rw [h1] at hh
    go_enter Tryz.func28, Tryz.ntmps28
    go_upto_region 2 with (first | (go_at_call 63; refine hh.mono ?_; rintro e w' ⟨rfl, rfl⟩; dsimp only))
    go_quiet (fail)
    go_wp2
    go_ret
    exact ⟨rfl, Rel.below_draws (Below.refl _ _)⟩
  | true =>
    obtain ⟨c, rfl, hc⟩ := core_of h1
    have hc' : (c : Int) < n := by omega
    rw [h1] at hh
    rw [Bool.true_and, Int.toNat_natCast]
    have z1 := H.cc hc
    have z2 := H.cl hc
    unfold Tm.high
    by_cases g1 : T.ctl c = 1
    · rw [g1] at z1
      rw [decide_eq_true g1, Bool.true_and]
      clear H g1
      generalize T.cval c = x at z2 ⊢
      generalize T.cnt = y at c0 ⊢
      go_enter Tryz.func28, Tryz.ntmps28
      go_upto_region 2 with (first | (go_at_call 63; refine hh.mono ?_; rintro e w' ⟨rfl, rfl⟩; dsimp only))
      go_quiet (fail)
      go_wp2
      go_ret
      exact ⟨rfl, Rel.below_draws (Below.refl _ _)⟩
    · have b1 : (T.ctl c == 1) = false := by simpa using g1
      rw [decide_eq_false g1, Bool.false_and]
      clear H
      go_enter Tryz.func28, Tryz.ntmps28
      go_upto_region 2 with (first | (go_at_call 63; refine hh.mono ?_; rintro e w' ⟨rfl, rfl⟩; dsimp only))
      go_quiet (fail)
      go_wp2
      go_ret
      exact ⟨rfl, Rel.below_draws (Below.refl _ _)⟩
end
end Go.Proofs.YteklkololojamaaGreat.Tmr
/- The document's own timer: Read, Next. -/
namespace Go.Proofs.YteklkololojamaaGreat.Tmr
open Go.RowKit
open Tim
set_option linter.unusedVariables false
set_option linter.unusedSimpArgs false
set_option maxRecDepth 8000

section
variable {r cb cv n : Nat} {T : Tm} {w w' : World}
theorem rread_c (H : RefAt r cb cv n T w) (core sys : Int) : Calls Tryz.prog 50 #[ptr r 0, vI core, vI sys] w fun e w' => e = .returned (.tuple #[vU (readV n T core sys), vI (readE n core sys)]) ∧ Below w.heap.size w w' := by
  unfold readV readE
  have c0 := H.c0
  have c1 := H.c1
  have c2 := H.c2
  have hh := rhas_c H core
  cases h1 : hasB n core with
  | false =>
    rw [Bool.false_and, if_neg (by decide), if_neg (by decide)]
    rw [h1] at hh
    go_enter Tryz.func50, Tryz.ntmps50
    go_wp2_with (first | (go_at_call 63; refine hh.mono ?_; rintro e w' ⟨rfl, rfl⟩; dsimp only))
    go_ret2
    exact ⟨rfl, Below.refl _ _⟩
  | true =>
    obtain ⟨c, rfl, hc⟩ := core_of h1
    have hc' : (c : Int) < n := by omega
    rw [h1] at hh
    rw [Bool.true_and, Int.toNat_natCast]
    have z1 := H.cc hc
    have z2 := H.cl hc
    have h0 := H.ok.b0 c
    have h3 := H.ok.b1 c
    clear H
    cases hs : regB sys with
    | false =>
      rw [if_neg (by decide), if_neg (by decide)]
      simp only [regB, Bool.or_eq_false_iff, decide_eq_false_iff_not] at hs
      obtain ⟨⟨s1, s2⟩, s3⟩ := hs
      go_enter Tryz.func50, Tryz.ntmps50
      go_wp2_with (first | (go_at_call 63; refine hh.mono ?_; rintro e w' ⟨rfl, rfl⟩; dsimp only))
      go_ret2
      exact ⟨rfl, Below.refl _ _⟩
    | true =>
      rw [if_pos rfl, if_pos rfl]
      unfold regV
      by_cases g1 : sys = 24322
      · rw [if_pos g1]
        subst g1
        clear hs h0 h3 z1 z2
        go_enter Tryz.func50, Tryz.ntmps50
        go_wp2_with (first | (go_at_call 63; refine hh.mono ?_; rintro e w' ⟨rfl, rfl⟩; dsimp only))
        go_ret2
        exact ⟨rfl, Below.refl _ _⟩
      · rw [if_neg g1]
        by_cases g2 : sys = 24346
        · rw [if_pos g2]
          subst g2
          clear hs h0 h3 z1 g1
          go_enter Tryz.func50, Tryz.ntmps50
          go_wp2_with (first | (go_at_call 63; refine hh.mono ?_; rintro e w' ⟨rfl, rfl⟩; dsimp only))
          go_ret2
          exact ⟨rfl, Below.refl _ _⟩
        · rw [if_neg g2]
          have g3 : sys = 24345 := by
            simp only [regB, Bool.or_eq_true, decide_eq_true_eq] at hs
            omega
          subst g3
          unfold Tm.bits
          have a1 := and1 (T.ctl c) h0 (by omega)
          have o4 := or4 (T.ctl c) h0 h3
          clear g1 g2 hs h0 h3
          generalize T.cval c = x at z2 ⊢
          generalize T.cnt = y at c0 ⊢
          by_cases q1 : T.ctl c % 2 = 1
          · have b1 : (bits .and .u64 (T.ctl c) 1 == 1) = true := by rw [a1, q1]; rfl
            by_cases q2 : x ≤ y
            · rw [if_pos ⟨q1, q2⟩, ← o4]
              clear a1 o4 q1
              go_enter Tryz.func50, Tryz.ntmps50
              go_upto_region 11 with (first | (go_at_call 63; refine hh.mono ?_; rintro e w' ⟨rfl, rfl⟩; dsimp only))
              go_quiet (fail)
              go_wp2
              go_ret2
              exact ⟨rfl, Rel.below_draws (Below.refl _ _)⟩
            · rw [if_neg (fun h => q2 h.2)]
              clear a1 o4 q1
              go_enter Tryz.func50, Tryz.ntmps50
              go_upto_region 11 with (first | (go_at_call 63; refine hh.mono ?_; rintro e w' ⟨rfl, rfl⟩; dsimp only))
              go_quiet (fail)
              go_wp2
              go_ret2
              exact ⟨rfl, Rel.below_draws (Below.refl _ _)⟩
          · rw [if_neg (fun h => q1 h.1)]
            have b1 : (bits .and .u64 (T.ctl c) 1 == 1) = false := by rw [a1, show T.ctl c % 2 = 0 by omega]; rfl
            clear a1 o4 q1
            go_enter Tryz.func50, Tryz.ntmps50
            go_upto_region 11 with (first | (go_at_call 63; refine hh.mono ?_; rintro e w' ⟨rfl, rfl⟩; dsimp only))
            go_quiet (fail)
            go_wp2
            go_ret2
            exact ⟨rfl, Rel.below_draws (Below.refl _ _)⟩
end
end Go.Proofs.YteklkololojamaaGreat.Tmr
/- The document's own timer: New. -/
namespace Go.RelJ
open Go Go.RowKit Go.Rel Go.Chn
/-- A region that draws, by an invariant over what is done. -/
theorem wp_region_J {P : Program} {id : Nat} {Q : Exit → Act → World → Prop} {a : Act} {w : World} {l : List Oper} (J : (Nat → Bool) → (Nat → Value) → World → Prop) (hm : P.follows .mixedOrders = true) (hok : okB l.toArray = true)
    (hw : J (fun _ => false) (fun _ => undef) { w with drawn := w.drawn + 1 })
    (hstep : ∀ i o, l[i]? = some o → ∀ (m : Nat → Bool) (vals : Nat → Value) (w : World), m i = false → (∀ k, waits l.toArray i k = true → m k = true) → (∀ j k, waits l.toArray j k = true → m j = true → m k = true) → J m vals w →
      upon P (fun u w' => J (fun k => k == i || m k) (fun k => if k = i then u else vals k) w') w ((execOp (fill l.toArray vals (fun _ => true) a i).eval o).run P w))
    (hend : ∀ (m : Nat → Bool) (vals : Nat → Value) (w : World), (∀ k, k < l.length → m k = true) → J m vals w → Q .normal (fill l.toArray vals (fun _ => true) a l.length) w) : (Code.region id l.toArray true).wp P Q a w := by
  refine wp_region_any hm ?_
  have main := wpAny_J (P := P) (ops := l.toArray) (J := J) (a0 := a) (Q := Q) hok
    (fun i o ho m vals w hmi hwi hclo hJ => hstep i o (by simpa using ho) m vals w hmi hwi hclo hJ)
    (fun m vals w hall hJ => by simpa using hend m vals w (fun k hk => hall k (by simpa using hk)) hJ)
    l.toArray.size (Array.replicate l.toArray.size false) (fun _ => undef) { w with drawn := w.drawn + 1 }
    ⟨by simp, (fun j oj _ hl => by rw [getD_replicate_false] at hl; exact absurd hl (by simp)), by
      have e : (fun k => (Array.replicate l.toArray.size false).getD k false) = fun _ => false := by funext k; exact getD_replicate_false _ _
      rw [e]; exact hw⟩
    (cnt_replicate _ _)
  have e : fill l.toArray (fun _ => undef) (fun k => (Array.replicate l.toArray.size false).getD k false) a l.toArray.size = a := by
    have : ∀ n, fill l.toArray (fun _ => undef) (fun k => (Array.replicate l.toArray.size false).getD k false) a n = a := by
      intro n
      induction n with
      | zero => rfl
      | succ n ih => unfold fill; rw [getD_replicate_false]; simpa using ih
    exact this _
  rwa [e] at main
end Go.RelJ
namespace Go.Proofs.YteklkololojamaaGreat.Tmr
open Go.RowKit
open Tim
set_option linter.unusedVariables false
set_option linter.unusedSimpArgs false
set_option maxRecDepth 8000

theorem infU : ∃ i, Tryz.prog.info? 30 = some i ∧ i.zero = some (vU 0) ∧ i.size = 1 ∧ i.bytes = 8 := by
  have h : (Tryz.prog.info? 30).map (fun i => (i.zero, i.size, i.bytes)) = some (some (vU 0), 1, 8) := by kernel_rfl
  cases hq : Tryz.prog.info? 30 with
  | none => rw [hq] at h; cases h
  | some i =>
    rw [hq] at h
    simp only [Option.map_some, Option.some.injEq, Prod.mk.injEq] at h
    exact ⟨i, rfl, h.1, h.2.1, h.2.2⟩
/-- A row of noughts made since w0. -/
def ZR (w0 : World) (n : Nat) (v : Value) (w : World) : Prop := ∃ b, v = .slice (some ⟨b, 0, none⟩) n n ∧ w0.heap.size ≤ b ∧ w.heap[b]? = some (.cells (madeCells #[vU 0] n) 30)
theorem ZR.grow {w0 : World} {n : Nat} {v : Value} {w w' : World} (H : ZR w0 n v w) (hb : Below w.heap.size w w') : ZR w0 n v w' := by
  obtain ⟨b, h1, h2, h3⟩ := H
  exact ⟨b, h1, h2, by rw [hb.block _ (lt_of_some h3)]; exact h3⟩
structure NJ (w0 : World) (n : Nat) (m : Nat → Bool) (x : Nat → Value) (w : World) : Prop where
  b : Below w0.heap.size w0 w
  m0 : m 0 = true → x 0 = vI n
  m1 : m 1 = true → ZR w0 n (x 1) w
  m2 : m 2 = true → x 2 = vI n
  m3 : m 3 = true → ZR w0 n (x 3) w
  ne : m 1 = true → m 3 = true → x 1 ≠ x 3
  m4 : m 4 = true → x 4 = .agg #[vU 0, x 1, x 3]
  m5 : m 5 = true → ∃ r, x 5 = ptr r 0 ∧ w0.heap.size ≤ r ∧ w.heap[r]? = some (.cells #[vU 0, x 1, x 3] 57)
  m6 : m 6 = true → x 6 = x 5
theorem run_mk (w : World) (n : Nat) (hn : n ≤ 8) : (Instr.makeSlice 55 (vI n) (vI n)).run Tryz.prog w = .ok (.slice (some ⟨w.heap.size, 0, none⟩) n n) (w.alloc (.cells (madeCells #[vU 0] n) 30)) := by
  obtain ⟨i, h1, h2, h3, h4⟩ := infU
  have hr := run_makeSlice (P := Tryz.prog) w 55 30 i (vU 0) Tryz.underlying55 h1 h2 .i64 .i64 n n (by omega) (by omega) (by rw [h3, Int.toNat_natCast]; omega) (by rw [h4]; omega) (by omega)
  rw [Int.toNat_natCast, h3, Nat.mul_one] at hr
  exact hr
section
variable {w0 : World} {n : Nat} {m : Nat → Bool} {x : Nat → Value} {w : World}
theorem NJ.grow {w' : World} (H : NJ w0 n m x w) (hb : Below w.heap.size w w') : NJ w0 n m x w' :=
  ⟨below_then H.b (Nat.le_refl _) hb, H.m0, fun h => (H.m1 h).grow hb, H.m2, fun h => (H.m3 h).grow hb, H.ne, H.m4, fun h => by
    obtain ⟨r, h1, h2, h3⟩ := H.m5 h
    exact ⟨r, h1, h2, by rw [hb.block _ (lt_of_some h3)]; exact h3⟩, H.m6⟩
theorem NJ.s0 (H : NJ w0 n m x w) : NJ w0 n (fun k => k == 0 || m k) (fun k => if k = 0 then vI n else x k) w := ⟨H.b, fun _ => rfl, H.m1, H.m2, H.m3, H.ne, H.m4, H.m5, H.m6⟩
theorem NJ.s2 (H : NJ w0 n m x w) : NJ w0 n (fun k => k == 2 || m k) (fun k => if k = 2 then vI n else x k) w := ⟨H.b, H.m0, H.m1, fun _ => rfl, H.m3, H.ne, H.m4, H.m5, H.m6⟩
theorem NJ.s1 (H : NJ w0 n m x w) (h4 : m 4 = false) (h5 : m 5 = false) : NJ w0 n (fun k => k == 1 || m k) (fun k => if k = 1 then .slice (some ⟨w.heap.size, 0, none⟩) n n else x k) (w.alloc (.cells (madeCells #[vU 0] n) 30)) := by
  have G := H.grow (below_alloc w (.cells (madeCells #[vU 0] n) 30))
  refine ⟨G.b, G.m0, fun _ => ⟨w.heap.size, rfl, H.b.size, heap_alloc_new _ _⟩, G.m2, G.m3, fun _ h3 e => ?_, fun h => ?_, fun h => ?_, G.m6⟩
  · obtain ⟨b, e1, _, e2⟩ := H.m3 h3
    have e' : Value.slice (some ⟨w.heap.size, 0, none⟩) n n = x 3 := e
    rw [e1] at e'
    cases e'
    have := lt_of_some e2
    omega
  · have h' : m 4 = true := h
    rw [h4] at h'; cases h'
  · have h' : m 5 = true := h
    rw [h5] at h'; cases h'
theorem NJ.s3 (H : NJ w0 n m x w) (h4 : m 4 = false) (h5 : m 5 = false) : NJ w0 n (fun k => k == 3 || m k) (fun k => if k = 3 then .slice (some ⟨w.heap.size, 0, none⟩) n n else x k) (w.alloc (.cells (madeCells #[vU 0] n) 30)) := by
  have G := H.grow (below_alloc w (.cells (madeCells #[vU 0] n) 30))
  refine ⟨G.b, G.m0, G.m1, G.m2, fun _ => ⟨w.heap.size, rfl, H.b.size, heap_alloc_new _ _⟩, fun h1 _ e => ?_, fun h => ?_, fun h => ?_, G.m6⟩
  · obtain ⟨b, e1, _, e2⟩ := H.m1 h1
    have e' : x 1 = Value.slice (some ⟨w.heap.size, 0, none⟩) n n := e
    rw [e1] at e'
    cases e'
    have := lt_of_some e2
    omega
  · have h' : m 4 = true := h
    rw [h4] at h'; cases h'
  · have h' : m 5 = true := h
    rw [h5] at h'; cases h'
theorem NJ.s4 (H : NJ w0 n m x w) : NJ w0 n (fun k => k == 4 || m k) (fun k => if k = 4 then .agg #[vU 0, x 1, x 3] else x k) w := ⟨H.b, H.m0, H.m1, H.m2, H.m3, H.ne, fun _ => rfl, H.m5, H.m6⟩
theorem NJ.s5 (H : NJ w0 n m x w) (h6 : m 6 = false) : NJ w0 n (fun k => k == 5 || m k) (fun k => if k = 5 then ptr w.heap.size 0 else x k) (w.alloc (.cells #[vU 0, x 1, x 3] 57)) := by
  have G := H.grow (below_alloc w (.cells #[vU 0, x 1, x 3] 57))
  refine ⟨G.b, G.m0, G.m1, G.m2, G.m3, G.ne, G.m4, fun _ => ⟨w.heap.size, rfl, H.b.size, heap_alloc_new _ _⟩, fun h => ?_⟩
  have h' : m 6 = true := h
  rw [h6] at h'; cases h'
theorem NJ.s6 (H : NJ w0 n m x w) : NJ w0 n (fun k => k == 6 || m k) (fun k => if k = 6 then x 5 else x k) w := ⟨H.b, H.m0, H.m1, H.m2, H.m3, H.ne, H.m4, H.m5, fun _ => rfl⟩
end
theorem up_make {o : Oper} {a : Act} {w : World} {F : Value → World → Prop} {n : Nat} (hn : n ≤ 8) (x : Operand) (ho : o.op = .makeSlice 55 x x) (hx : a.eval x = vI n) (hF : F (.slice (some ⟨w.heap.size, 0, none⟩) n n) (w.alloc (.cells (madeCells #[vU 0] n) 30))) : Chn.upon Tryz.prog F w ((execOp a.eval o).run Tryz.prog w) := by
  unfold execOp
  simp only [ho, hx, Sem.run_bind, run_mk w n hn, Result.andThen_ok]
  exact hF
theorem up_build {o : Oper} {a : Act} {w : World} {F : Value → World → Prop} {n b c : Nat} (x y : Operand) (ho : o.op = .build 57 #[(1, x), (2, y)]) (hx : a.eval x = .slice (some ⟨b, 0, none⟩) n n) (hy : a.eval y = .slice (some ⟨c, 0, none⟩) n n) (hF : F (.agg #[vU 0, .slice (some ⟨b, 0, none⟩) n n, .slice (some ⟨c, 0, none⟩) n n]) w) : Chn.upon Tryz.prog F w ((execOp a.eval o).run Tryz.prog w) := by
  have hr := run_build (P := Tryz.prog) w 57 #[(1, .slice (some ⟨b, 0, none⟩) n n), (2, .slice (some ⟨c, 0, none⟩) n n)] #[vU 0, .slice (some ⟨b, 0, none⟩) n n, .slice (some ⟨c, 0, none⟩) n n] (by kernel_rfl)
  unfold execOp
  simp only [ho, Sem.run_bind, List.map_toArray, List.map_cons, List.map_nil, hx, hy, hr, Result.andThen_ok]
  exact hF
theorem up_box {o : Oper} {a : Act} {w : World} {F : Value → World → Prop} {C : Array Value} (x : Operand) (ho : o.op = .box 57 x) (hx : a.eval x = .agg C) (hF : F (ptr w.heap.size 0) (w.alloc (.cells C 57))) : Chn.upon Tryz.prog F w ((execOp a.eval o).run Tryz.prog w) := by
  unfold execOp
  simp only [ho, hx, Instr.box, newVar, newRow, Sem.run_bind, Sem.run_pure, Result.andThen_ok, Value.cells]
  exact hF
theorem up_move {o : Oper} {a : Act} {w : World} {F : Value → World → Prop} {v : Value} (x : Operand) (ho : o.op = .move x ∨ o.op = .assign x) (hx : a.eval x = v) (hF : F v w) : Chn.upon Tryz.prog F w ((execOp a.eval o).run Tryz.prog w) := by
  unfold execOp
  rcases ho with ho | ho <;> (simp only [ho, hx, Sem.run_pure]; exact hF)
theorem falls {m : Nat → Bool} {j k : Nat} (h : m j = true → m k = true) (hk : m k = false) : m j = false := by
  cases e : m j with
  | false => rfl
  | true => rw [h e] at hk; cases hk
set_option maxHeartbeats 1000000 in
theorem rnew_c (n : Nat) (h0 : 0 < n) (h8 : n ≤ 8) (w : World) : Calls Tryz.prog 41 #[vI n] w fun e w' => ∃ r, e = .returned (ptr r 0) ∧ ∃ cb cv, RefAt r cb cv n zeroT w' ∧ Below w.heap.size w w' ∧ (∀ k, RFoot r cb cv k → w.heap.size ≤ k) := by
  go_enter Tryz.func41, Tryz.ntmps41
  go_upto_region 1 with fail
  refine RelJ.wp_region_J (NJ w n) (by kernel_rfl) (by kernel_rfl) ⟨Rel.below_draws (n := 1) (Below.refl _ _), fun h => (by cases h), fun h => (by cases h), fun h => (by cases h), fun h => (by cases h), fun h => (by cases h), fun h => (by cases h), fun h => (by cases h), fun h => (by cases h)⟩ ?_ ?_
  · intro i o ho m x w1 hmi hwi hcl H
    have w41 := hcl 4 1 (by kernel_rfl)
    have w43 := hcl 4 3 (by kernel_rfl)
    have w54 := hcl 5 4 (by kernel_rfl)
    have w65 := hcl 6 5 (by kernel_rfl)
    match i, ho with
    | 0, ho =>
      cases ho
      exact up_move _ (.inl rfl) rfl H.s0
    | 1, ho =>
      have q := hwi 0 (by kernel_rfl)
      have h4 := falls w41 hmi
      have h5 := falls w54 h4
      cases ho
      exact up_make h8 _ rfl (H.m0 q) (H.s1 h4 h5)
    | 2, ho =>
      cases ho
      exact up_move _ (.inl rfl) rfl H.s2
    | 3, ho =>
      have q := hwi 2 (by kernel_rfl)
      have h4 := falls w43 hmi
      have h5 := falls w54 h4
      cases ho
      exact up_make h8 _ rfl (H.m2 q) (H.s3 h4 h5)
    | 4, ho =>
      obtain ⟨b, e1, _⟩ := H.m1 (hwi 1 (by kernel_rfl))
      obtain ⟨c, e3, _⟩ := H.m3 (hwi 3 (by kernel_rfl))
      have s := H.s4
      rw [e1, e3] at s
      cases ho
      exact up_build _ _ rfl e1 e3 s
    | 5, ho =>
      have q := H.m4 (hwi 4 (by kernel_rfl))
      have h6 := falls w65 hmi
      cases ho
      exact up_box _ rfl q (H.s5 h6)
    | 6, ho =>
      cases ho
      exact up_move _ (.inr rfl) rfl H.s6
    | i + 7, ho => cases ho
  · intro m x w1 hall H
    obtain ⟨b, e1, b1, b2⟩ := H.m1 (hall 1 (by decide))
    obtain ⟨c, e3, c1, c2⟩ := H.m3 (hall 3 (by decide))
    obtain ⟨r, e5, r1, r2⟩ := H.m5 (hall 5 (by decide))
    have e6 := H.m6 (hall 6 (by decide))
    have hne := H.ne (hall 1 (by decide)) (hall 3 (by decide))
    rw [e1, e3] at hne r2
    have hbc : b ≠ c := fun e => hne (by rw [e])
    generalize hA : Rel.fill _ _ _ _ _ = A
    have hA2 : A = ⟨#[vI n, undef, x 6, x 0, x 1, x 2, x 3, x 4, x 5], []⟩ := by rw [← hA]; rfl
    rw [hA2, e6, e5]
    clear hA hA2 e6 e5 e1 e3 hne
    have hB := H.b
    clear H hall
    go_wp2
    go_ret
    refine ⟨r, rfl, b, c, ⟨h0, h8, zeroT_ok, r2, ⟨_, b2, size_madeCells _ _, fun j hj => ?_⟩, ⟨_, c2, size_madeCells _ _, fun j hj => ?_⟩, hbc⟩, hB, ?_⟩
    · rw [made_get (s := 1) rfl (by decide) hj, Nat.mod_one]; rfl
    · rw [made_get (s := 1) rfl (by decide) hj, Nat.mod_one]; rfl
    · rintro k (rfl | rfl | rfl) <;> assumption
end Go.Proofs.YteklkololojamaaGreat.Tmr
