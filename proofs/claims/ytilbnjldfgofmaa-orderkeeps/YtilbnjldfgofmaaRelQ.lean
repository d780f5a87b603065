/- (With operations that may panic.) A region that draws its order, whose operations read what was there, make memory of their own and call what makes memory of its own: one walk in the order of the text serves every order; operations may be guarded. No program is named. -/
import Derived.Still
import Derived.Below
import Derived.WalkKit
import Derived.Deep.QuietTactic
namespace Go.RelQ
open Go Go.RowKit

def waits (ops : Array Oper) (j i : Nat) : Bool :=
  match ops[j]? with
  | none => false
  | some o => o.after.any fun e => Region.binds .any e && decide (e.on = i)

theorem waits_spec {ops : Array Oper} {j i : Nat} (h : waits ops j i = true) : ∃ o, ops[j]? = some o ∧ ∃ e ∈ o.after, Region.binds .any e = true ∧ e.on = i := by
  unfold waits at h
  cases hj : ops[j]? with
  | none => simp [hj] at h
  | some o =>
    simp only [hj] at h
    obtain ⟨e, he, hb⟩ := Array.any_eq_true'.1 h
    simp only [Bool.and_eq_true, decide_eq_true_eq] at hb
    exact ⟨o, rfl, e, he, hb.1, hb.2⟩

theorem getD_both {listed : Array Bool} {i : Nat} (h : listed.getD i true = false) : listed.getD i false = false := by
  rcases Nat.lt_or_ge i listed.size with h' | h'
  · simp [h'] at h ⊢; exact h
  · simp [Array.getElem?_eq_none h'] at h

theorem getD_replicate_false (m j : Nat) : (Array.replicate m false).getD j false = false := by
  rcases Nat.lt_or_ge j m with h | h
  · simp [h]
  · simp [h]

/-- What is known of an operation's value: the value itself, or a property that holds on while memory grows. -/
abbrev Kind := Sum Value (Value → World → Prop)
abbrev det (c : Value) : Kind := Sum.inl c
abbrev rel (F : Value → World → Prop) : Kind := Sum.inr F

def Up (G : World → World → Prop) (C : World → Prop) : Prop := ∀ w w', C w → G w w' → C w'

/-- Of what was there nothing has turned. -/
def Grows (w w' : World) : Prop := Below w.heap.size w w'

def holds : Kind → Value → World → Prop
  | .inl c, v, _ => v = c
  | .inr F, v, w => F v w

def upK (G : World → World → Prop) : Kind → Prop
  | .inl _ => True
  | .inr F => ∀ v, Up G (F v)

theorem holds_up {G : World → World → Prop} {k : Kind} (h : upK G k) {v : Value} {w w' : World} (hh : holds k v w) (hb : G w w') : holds k v w' := by
  cases k with
  | inl c => exact hh
  | inr F => exact h v w w' hh hb

def relUpon (P : Program) (G : World → World → Prop) (E : List PanicEntry → World → Prop) (F : Value → World → Prop) (w : World) : Result Next → Prop
  | .ok (.value u) w' => G w w' ∧ F u w'
  | .ok .skip w' => G w w' ∧ F undef w'
  | .ok (.enter f args) w' => w' = w ∧ Calls P f args w (fun e w'' => (∃ v, e = .returned v ∧ G w w'' ∧ F v w'') ∨ ∃ ch, e = .panicked ch ∧ E ch w'')
  | _ => False

/-- An operation with a guard: done where it says yes, left where it says no. -/
def uponG (P : Program) (G : World → World → Prop) (E : List PanicEntry → World → Prop) (F : Value → World → Prop) (w : World) (want : Bool) (r : Result Next) : Prop := if want = true then relUpon P G E F w r else F undef w
theorem uponG_yes {P : Program} {G : World → World → Prop} {E : List PanicEntry → World → Prop} {F : Value → World → Prop} {w : World} {want : Bool} {r : Result Next} (hw : want = true) (h : relUpon P G E F w r) : uponG P G E F w want r := by unfold uponG; rw [if_pos hw]; exact h
theorem uponG_no {P : Program} {G : World → World → Prop} {E : List PanicEntry → World → Prop} {F : Value → World → Prop} {w : World} {want : Bool} {r : Result Next} (hw : want = false) (h : F undef w) : uponG P G E F w want r := by unfold uponG; rw [hw]; exact h
def dstOf (ops : Array Oper) (k : Nat) : Option Tmp := (ops[k]?).bind (·.dst)

/-- The frame behind the operations that the mask names. -/
def fill (ops : Array Oper) (vals : Nat → Value) (m : Nat → Bool) (a0 : Act) : Nat → Act
  | 0 => a0
  | n + 1 => if m n then (fill ops vals m a0 n).put (dstOf ops n) (vals n) else fill ops vals m a0 n

theorem put_size (a : Act) (d : Option Tmp) (v : Value) : (a.put d v).tmps.size = a.tmps.size := by
  cases d <;> simp [Act.put]

theorem fill_size (ops : Array Oper) (vals : Nat → Value) (m : Nat → Bool) (a0 : Act) : ∀ n, (fill ops vals m a0 n).tmps.size = a0.tmps.size
  | 0 => rfl
  | n + 1 => by
    unfold fill
    split
    · rw [put_size]; exact fill_size ops vals m a0 n
    · exact fill_size ops vals m a0 n

theorem fill_eval {ops : Array Oper} {vals : Nat → Value} {m m' : Nat → Bool} {a0 : Act} {x : Operand} : ∀ n,
    (∀ k, k < n → m k ≠ m' k → ∀ d, dstOf ops k = some d → x ≠ .tmp d) → (fill ops vals m a0 n).eval x = (fill ops vals m' a0 n).eval x
  | 0, _ => rfl
  | n + 1, h => by
    have ih := fill_eval (vals := vals) (a0 := a0) n (fun k hk => h k (by omega))
    have hn := h n (by omega)
    unfold fill
    by_cases e1 : m n = true <;> by_cases e2 : m' n = true
    · rw [if_pos e1, if_pos e2]
      by_cases hx : ∃ d, dstOf ops n = some d ∧ x = .tmp d
      · obtain ⟨d, hd, rfl⟩ := hx
        rw [hd]
        show ((fill ops vals m a0 n).tmps.setIfInBounds d (vals n)).getD d undef = ((fill ops vals m' a0 n).tmps.setIfInBounds d (vals n)).getD d undef
        have s1 := fill_size ops vals m a0 n
        have s2 := fill_size ops vals m' a0 n
        by_cases hlt : d < a0.tmps.size
        · simp [s1, s2, hlt]
        · simp [s1, s2, hlt]
      · have hx' : ∀ d, dstOf ops n = some d → x ≠ .tmp d := fun d hd he => hx ⟨d, hd, he⟩
        rw [Act.eval_put hx', Act.eval_put hx']; exact ih
    · rw [if_pos e1, if_neg e2, Act.eval_put (hn (by simp_all))]; exact ih
    · rw [if_neg e1, if_pos e2, Act.eval_put (hn (by simp_all))]; exact ih
    · rw [if_neg e1, if_neg e2]; exact ih

theorem fill_vals {ops : Array Oper} {vals vals' : Nat → Value} {m : Nat → Bool} {a0 : Act} : ∀ n, (∀ k, k < n → m k = true → vals k = vals' k) →
    fill ops vals m a0 n = fill ops vals' m a0 n
  | 0, _ => rfl
  | n + 1, h => by
    unfold fill
    rw [fill_vals n (fun k hk => h k (by omega))]
    by_cases e : m n = true
    · rw [if_pos e, if_pos e, h n (by omega) e]
    · rw [if_neg e, if_neg e]

theorem fill_mask {ops : Array Oper} {vals : Nat → Value} {m m' : Nat → Bool} {a0 : Act} : ∀ n, (∀ k, k < n → m k = m' k) →
    fill ops vals m a0 n = fill ops vals m' a0 n
  | 0, _ => rfl
  | n + 1, h => by
    unfold fill
    rw [fill_mask n (fun k hk => h k (by omega)), h n (by omega)]

theorem fill_less {ops : Array Oper} {vals : Nat → Value} {a0 : Act} {i : Nat} : ∀ n, i ≤ n →
    fill ops vals (fun k => decide (k < i)) a0 n = fill ops vals (fun _ => true) a0 i
  | 0, h => by
    obtain rfl : i = 0 := by omega
    rfl
  | n + 1, h => by
    by_cases e : i = n + 1
    · subst e; exact fill_mask _ (fun k hk => by simpa using hk)
    · have hn : ¬ (decide (n < i) = true) := by simp; omega
      refine Eq.trans ?_ (fill_less (ops := ops) (vals := vals) (a0 := a0) (i := i) n (by omega))
      show (if decide (n < i) = true then _ else _) = _
      rw [if_neg hn]

/-- The destinations of two operations part. -/
def distB (ops : Array Oper) : Bool :=
  (List.range ops.size).all fun i => (List.range ops.size).all fun j => i == j || (dstOf ops i).isNone || dstOf ops i != dstOf ops j

theorem dist_spec {ops : Array Oper} (h : distB ops = true) {i j : Nat} (hi : i < ops.size) (hj : j < ops.size) (hne : i ≠ j) : ∀ d, dstOf ops i = some d → dstOf ops j ≠ some d := by
  intro d hd he
  have h1 := List.all_eq_true.1 (List.all_eq_true.1 h i (List.mem_range.2 hi)) j (List.mem_range.2 hj)
  simp [hd, he, hne] at h1

theorem fill_insert {ops : Array Oper} {vals : Nat → Value} {m m' : Nat → Bool} {a0 : Act} {i : Nat} (hD : distB ops = true) (hi : m i = false) (hi' : m' i = true) (hm : ∀ k, k ≠ i → m' k = m k) :
    ∀ n, n ≤ ops.size → i < n → fill ops vals m' a0 n = (fill ops vals m a0 n).put (dstOf ops i) (vals i)
  | 0, _, h => by omega
  | n + 1, hn, h => by
    unfold fill
    by_cases e : i = n
    · subst e
      rw [if_pos hi', if_neg (by simp [hi]), fill_mask i (fun k hk => hm k (by omega))]
    · rw [fill_insert hD hi hi' hm n (by omega) (by omega), hm n (by omega)]
      by_cases e2 : m n = true
      · rw [if_pos e2, if_pos e2]
        exact Act.put_comm _ _ _ (dist_spec hD (by omega) (by omega) e)
      · rw [if_neg e2, if_neg e2]

/-- Each edge goes back; what an operation looks at of the region's own, its guard too, is waited for. -/
def okB (ops : Array Oper) : Bool :=
  Region.noSelect ops && distB ops && (List.range ops.size).all fun i =>
    match ops[i]? with
    | none => false
    | some o => (o.after.all fun e => !(Region.binds .any e) || decide (e.on < i)) &&
      (List.range ops.size).all fun k => match dstOf ops k with
        | none => true
        | some d => !(o.looksAt ops).contains d || (if k < i then waits ops i k else waits ops k i)

def cnt (listed : Array Bool) : Nat → Nat
  | 0 => 0
  | n + 1 => cnt listed n + (if listed.getD n true = true then 0 else 1)

theorem cnt_set {listed : Array Bool} {i : Nat} (hi : listed.getD i true = false) : ∀ n, cnt (listed.setIfInBounds i true) n + (if i < n then 1 else 0) = cnt listed n
  | 0 => by simp [cnt]
  | n + 1 => by
    have ih := cnt_set hi n
    have hlt : i < listed.size := by
      rcases Nat.lt_or_ge i listed.size with h | h
      · exact h
      · simp [Array.getElem?_eq_none h] at hi
    unfold cnt
    by_cases e : i = n
    · subst e
      have : (listed.setIfInBounds i true).getD i true = true := by simp [hlt]
      rw [this, hi]
      rw [if_neg (by omega)] at ih
      simp; omega
    · rw [getD_set_ne true e]
      by_cases e2 : i < n
      · rw [if_pos e2] at ih; rw [if_pos (show i < n + 1 by omega)]; omega
      · rw [if_neg e2] at ih; rw [if_neg (show ¬ i < n + 1 by omega)]; omega

theorem cnt_zero {listed : Array Bool} : ∀ n, cnt listed n = 0 → ∀ k, k < n → listed.getD k true = true
  | 0, _, k, hk => by omega
  | n + 1, h, k, hk => by
    unfold cnt at h
    by_cases e : k = n
    · subst e
      by_cases h2 : listed.getD k true = true
      · exact h2
      · rw [if_neg h2] at h; omega
    · exact cnt_zero n (by omega) k (by omega)

theorem cnt_replicate : ∀ n m, cnt (Array.replicate m false) n ≤ n
  | 0, _ => by simp [cnt]
  | n + 1, m => by
    unfold cnt
    have := cnt_replicate n m
    split <;> omega

theorem yielded_congr {ops : Array Oper} {g : Nat} {A B : Act} (h : ∀ d, (ops[g]?).bind (·.dst) = some d → A.eval (.tmp d) = B.eval (.tmp d)) : yielded ops A.tmps g = yielded ops B.tmps g := by
  unfold yielded
  cases hd : (ops[g]?).bind (·.dst) with
  | none => rfl
  | some d =>
    have hev := h d hd
    simp only [Act.eval, Array.getD_eq_getD_getElem?] at hev
    simp only [Option.bind_some]
    generalize A.tmps[d]? = x at hev ⊢
    generalize B.tmps[d]? = y at hev ⊢
    cases x with
    | none =>
      cases y with
      | none => rfl
      | some v =>
        have hev : undef = v := hev
        subst hev; rfl
    | some u =>
      cases y with
      | none =>
        have hev : u = undef := hev
        subst hev; rfl
      | some v =>
        have hev : u = v := hev
        subst hev; rfl
structure Inv (ops : Array Oper) (C : World → Prop) (K : Nat → Kind) (listed : Array Bool) (vals : Nat → Value) (w : World) : Prop where
  size : listed.size = ops.size
  closed : ∀ j oj, ops[j]? = some oj → listed.getD j false = true → ∀ e ∈ oj.after, Region.binds .any e = true → listed.getD e.on false = true
  cls : C w
  facts : ∀ k, k < ops.size → listed.getD k false = true → holds (K k) (vals k) w
  dets : ∀ k c, K k = .inl c → vals k = c

section
variable {P : Program} {G : World → World → Prop} {E : List PanicEntry → World → Prop} {ops : Array Oper} {C : World → Prop} {K : Nat → Kind} {a0 : Act} {Q : Exit → Act → World → Prop}

theorem ok_at (h : okB ops = true) {i : Nat} {o : Oper} (ho : ops[i]? = some o) : (∀ e ∈ o.after, Region.binds .any e = true → e.on < i) ∧
    (∀ k d, k < ops.size → dstOf ops k = some d → d ∈ o.looksAt ops → (k < i → waits ops i k = true) ∧ (¬ k < i → waits ops k i = true)) := by
  simp only [okB, Bool.and_eq_true] at h
  have hlt : i < ops.size := (Array.getElem?_eq_some_iff.1 ho).1
  have h1 := List.all_eq_true.1 h.2 i (List.mem_range.2 hlt)
  simp only [ho, Bool.and_eq_true] at h1
  refine ⟨fun e he hb => by have := Array.all_eq_true_iff_forall_mem.1 h1.1 e he; rw [hb] at this; simpa using this, fun k d hk hd hm => ?_⟩
  have h2 := List.all_eq_true.1 h1.2 k (List.mem_range.2 hk)
  simp only [hd] at h2
  have h3 : (o.looksAt ops).contains d = true := by simpa using hm
  rw [h3] at h2
  simp only [Bool.not_true, Bool.false_or] at h2
  by_cases e : k < i
  · rw [if_pos e] at h2; exact ⟨fun _ => h2, fun hn => absurd e hn⟩
  · rw [if_neg e] at h2; exact ⟨fun hn => absurd hn e, fun _ => h2⟩

theorem ready_nil (h : okB ops = true) {listed : Array Bool} (hs : listed.size = ops.size) (hr : Region.ready .any ops listed = []) : ∀ n k, k < n → k < ops.size → listed.getD k true = true := by
  intro n
  induction n with
  | zero => intro k hk; omega
  | succ n ih =>
    intro k hk hk2
    by_cases e : listed.getD k true = true
    · exact e
    · exfalso
      have ho : ops[k]? = some ops[k] := by simp [hk2]
      have : k ∈ Region.ready .any ops listed := mem_ready.2 ⟨by simpa using e, _, ho, fun e' he' hb' => by
        have h1 := (ok_at h ho).1 e' he' hb'
        have h2 := ih e'.on (by omega) (by omega)
        have h3 : e'.on < listed.size := by omega
        simp [h3] at h2 ⊢; exact h2⟩
      rw [hr] at this; cases this

theorem fill_defers {ops : Array Oper} {vals : Nat → Value} {m : Nat → Bool} {a0 : Act} : ∀ n, (fill ops vals m a0 n).defers = a0.defers
  | 0 => rfl
  | n + 1 => by
    show (if m n = true then _ else _ : Act).defers = _
    split
    · show (Act.put _ _ _).defers = _
      have := fill_defers (ops := ops) (vals := vals) (m := m) (a0 := a0) n
      cases hd : dstOf ops n <;> simpa [Act.put, hd] using this
    · exact fill_defers n
theorem wpAny_rel (hE : ∀ ch a w, E ch w → a.defers = a0.defers → Q (.panic ch) a w) (hok : okB ops = true) (hC : Up G C) (hK : ∀ k, upK G (K k))
    (hstep : ∀ i o, ops[i]? = some o → ∀ vals : Nat → Value, (∀ k c, K k = .inl c → vals k = c) → ∀ w, C w → (∀ k, waits ops i k = true → holds (K k) (vals k) w) →
      uponG P G E (holds (K i)) w (Region.wanted o (yielded ops (fill ops vals (fun _ => true) a0 i).tmps)) ((execOp (fill ops vals (fun _ => true) a0 i).eval o).run P w))
    (hG : ∀ w, G w w) (hend : ∀ vals : Nat → Value, (∀ k c, K k = .inl c → vals k = c) → ∀ w, C w → (∀ k, k < ops.size → holds (K k) (vals k) w) → Q .normal (fill ops vals (fun _ => true) a0 ops.size) w) :
    ∀ (fuel : Nat) (listed : Array Bool) (vals : Nat → Value) (w : World), Inv ops C K listed vals w → cnt listed ops.size ≤ fuel →
      wpAny P .any ops Q fuel listed (fill ops vals (fun k => listed.getD k false) a0 ops.size) w := by
  have hsel := hok
  simp only [okB, Bool.and_eq_true] at hsel
  have hD := hsel.1.2
  have fin : ∀ (listed : Array Bool) (vals : Nat → Value) (w : World), Inv ops C K listed vals w → (∀ k, k < ops.size → listed.getD k true = true) → Q .normal (fill ops vals (fun k => listed.getD k false) a0 ops.size) w := by
    intro listed vals w inv hall
    have hall' : ∀ k, k < ops.size → listed.getD k false = true := fun k hk => by
      have h1 := hall k hk
      have h3 : k < listed.size := by rw [inv.size]; exact hk
      simp [h3] at h1 ⊢; exact h1
    rw [fill_mask (m' := fun _ => true) ops.size (fun k hk => hall' k hk)]
    exact hend vals inv.dets w inv.cls (fun k hk => inv.facts k hk (hall' k hk))
  intro fuel
  induction fuel with
  | zero =>
    intro listed vals w inv hc
    have hall := cnt_zero ops.size (by omega : cnt listed ops.size = 0)
    refine ⟨?_, fin listed vals w inv hall⟩
    cases hr : Region.ready .any ops listed with
    | nil => rfl
    | cons j l =>
      exfalso
      have hj : j ∈ Region.ready .any ops listed := by rw [hr]; exact List.mem_cons_self ..
      obtain ⟨h1, o, ho, _⟩ := mem_ready.1 hj
      rw [hall j (Array.getElem?_eq_some_iff.1 ho).1] at h1; cases h1
  | succ fuel ih =>
    intro listed vals w inv hc
    refine ⟨fun hr => fin listed vals w inv (fun k hk => ready_nil hok inv.size hr (k + 1) k (by omega) hk), fun i hi => ?_⟩
    obtain ⟨hun, o, ho, hall⟩ := mem_ready.1 hi
    have hlt : i < ops.size := (Array.getElem?_eq_some_iff.1 ho).1
    obtain ⟨hback, hlook⟩ := ok_at hok ho
    have hun' : listed.getD i false = false := getD_both hun
    have hwaits : ∀ k, waits ops i k = true → listed.getD k false = true := fun k hk => by
      obtain ⟨oj, hoj, e, he, hb, hon⟩ := waits_spec hk
      obtain rfl : oj = o := Option.some.inj (hoj.symm.trans ho)
      rw [← hon]; exact hall e he hb
    have hsees : ∀ x : Operand, (∀ d, x = .tmp d → d ∈ o.looksAt ops) → (fill ops vals (fun k => listed.getD k false) a0 ops.size).eval x = (fill ops vals (fun _ => true) a0 i).eval x := by
      intro x hx
      rw [← fill_less (i := i) ops.size (by omega)]
      refine fill_eval ops.size fun k hk hne d hd hxd => ?_
      have hm : d ∈ o.looksAt ops := hx d hxd
      obtain ⟨l1, l2⟩ := hlook k d hk hd hm
      by_cases e : k < i
      · have := hwaits k (l1 e)
        simp [e, this] at hne
      · have h2 := l2 e
        obtain ⟨ok, hok', e', he', hb', hon'⟩ := waits_spec h2
        have hkl : listed.getD k false = true := by simpa [e] using hne
        have := inv.closed k ok hok' hkl e' he' hb'
        rw [hon', hun'] at this; cases this
    have hsame : execOp (fill ops vals (fun k => listed.getD k false) a0 ops.size).eval o = execOp (fill ops vals (fun _ => true) a0 i).eval o :=
      execOp_congr o (fun cs b => Region.noSelect_spec hsel.1.1 i o cs b ho) fun x hx => hsees x fun d hxd => by
        subst hxd
        exact List.mem_append_left _ (List.mem_filterMap.2 ⟨.tmp d, by simpa using hx, rfl⟩)
    have hwant : Region.wanted o (yielded ops (fill ops vals (fun k => listed.getD k false) a0 ops.size).tmps) = Region.wanted o (yielded ops (fill ops vals (fun _ => true) a0 i).tmps) := by
      unfold Region.wanted
      cases hgd : o.guard with
      | none => rfl
      | some gp =>
        obtain ⟨g, pol⟩ := gp
        have hy : yielded ops (fill ops vals (fun k => listed.getD k false) a0 ops.size).tmps g = yielded ops (fill ops vals (fun _ => true) a0 i).tmps g :=
          yielded_congr fun d hd => hsees (.tmp d) (fun d' hd' => by
            obtain rfl : d = d' := by injection hd'
            unfold Oper.looksAt
            rw [hgd]
            exact List.mem_append_right _ (by simp [hd]))
        simp only [hy]
    have hrel := hstep i o ho vals inv.dets w inv.cls (fun k hk => by
      have h1 := hwaits k hk
      obtain ⟨oj, hoj, e, he, hb, hon⟩ := waits_spec hk
      obtain rfl : oj = o := Option.some.inj (hoj.symm.trans ho)
      have := hback e he hb
      exact inv.facts k (by omega) h1)
    have next : ∀ v w', G w w' → holds (K i) v w' → wpAny P .any ops Q fuel (listed.setIfInBounds i true) ((fill ops vals (fun k => listed.getD k false) a0 ops.size).put o.dst v) w' := by
      intro v w' hb hv
      have hsz : i < listed.size := by rw [inv.size]; exact hlt
      have key : (fill ops vals (fun k => listed.getD k false) a0 ops.size).put o.dst v = fill ops (fun k => if k = i then v else vals k) (fun k => (listed.setIfInBounds i true).getD k false) a0 ops.size := by
        have hd : o.dst = dstOf ops i := by simp [dstOf, ho]
        rw [fill_insert (m := fun k => listed.getD k false) hD hun' (by simp [hsz]) (fun k hk => getD_set_ne false (Ne.symm hk)) ops.size (Nat.le_refl _) hlt, hd]
        simp only [if_true]
        rw [fill_vals (vals' := vals) ops.size (fun k _ hk => if_neg (fun e => by subst e; rw [hun'] at hk; cases hk))]
      rw [key]
      refine ih _ _ w' ⟨by simp [inv.size], fun j oj hj hl e he hb' => ?_, hC w w' inv.cls hb, fun k hk hl => ?_, fun k c hkc => ?_⟩ ?_
      · by_cases hij : i = j
        · subst hij
          obtain rfl : oj = o := Option.some.inj (hj.symm.trans ho)
          exact getD_set_true (hall e he hb')
        · rw [getD_set_ne false hij] at hl
          exact getD_set_true (inv.closed j oj hj hl e he hb')
      · by_cases hki : k = i
        · subst hki; simpa using hv
        · rw [getD_set_ne false (Ne.symm hki)] at hl
          simp only [if_neg hki]
          exact holds_up (hK k) (inv.facts k hk hl) hb
      · by_cases hki : k = i
        · subst hki
          rw [hkc] at hv
          have hv : v = c := hv
          simpa using hv
        · simp only [if_neg hki]; exact inv.dets k c hkc
      · have := cnt_set hun ops.size
        rw [if_pos hlt] at this
        omega
    unfold wpOp
    simp only [ho]
    rw [hwant]
    unfold uponG at hrel
    by_cases hw : Region.wanted o (yielded ops (fill ops vals (fun _ => true) a0 i).tmps) = true
    case neg =>
      rw [if_neg hw] at hrel ⊢
      exact next undef w (hG w) hrel
    rw [if_pos hw] at hrel ⊢
    left
    unfold Oper.wp
    rw [hsame]
    generalize (execOp (fill ops vals (fun _ => true) a0 i).eval o).run P w = r at hrel
    cases r with
    | ok n w' =>
      cases n <;> simp only [relUpon] at hrel <;> simp only [Oper.upon]
      case value u => exact next u w' hrel.1 hrel.2
      case skip => exact next undef w' hrel.1 hrel.2
      case enter f args =>
        obtain ⟨rfl, hc⟩ := hrel
        exact hc.mono fun e w'' h => by
          rcases h with ⟨v, he, hb, hv⟩ | ⟨ch, he, hx⟩
          · subst he; exact next v w'' hb hv
          · subst he; exact hE ch _ w'' hx (fill_defers _)
    | halt x w' => simp only [relUpon] at hrel

/-- THE WALK, in the order of the text. -/
def wpRel (P : Program) (G : World → World → Prop) (E : List PanicEntry → World → Prop) (ops : Array Oper) (C : World → Prop) (Q : Exit → Act → World → Prop) : Nat → List Oper → List Kind → (Nat → World → Prop) → Act → Prop
  | i, o :: rest, .inl c :: ks, facts, a =>
    (∀ w, C w → (∀ k, waits ops i k = true → facts k w) → uponG P G E (fun v _ => v = c) w (Region.wanted o (yielded ops a.tmps)) ((execOp a.eval o).run P w)) ∧ wpRel P G E ops C Q (i + 1) rest ks facts (a.put o.dst c)
  | i, o :: rest, .inr F :: ks, facts, a =>
    (∀ w, C w → (∀ k, waits ops i k = true → facts k w) → uponG P G E F w (Region.wanted o (yielded ops a.tmps)) ((execOp a.eval o).run P w)) ∧ ∀ v, wpRel P G E ops C Q (i + 1) rest ks (fun k w => (k = i → F v w) ∧ facts k w) (a.put o.dst v)
  | _, [], [], facts, a => ∀ w, C w → (∀ k, facts k w) → Q .normal a w
  | _, _, _, _, _ => False

theorem wpRel_use {Ks : List Kind} (hK : K = fun i => Ks.getD i (.inl undef)) (vals : Nat → Value) (hv : ∀ k c, K k = .inl c → vals k = c) : ∀ (l : List Oper) (ks : List Kind) (i : Nat) (facts : Nat → World → Prop) (a : Act),
    (∀ j, j < l.length → l[j]? = ops[i + j]?) → (∀ j, ks[j]? = Ks[i + j]?) → a = fill ops vals (fun _ => true) a0 i →
    (∀ k w, (∀ F, K k = .inr F → k < i → F (vals k) w) → facts k w) → wpRel P G E ops C Q i l ks facts a →
    (∀ j o, i ≤ j → j < i + l.length → ops[j]? = some o → ∀ w, C w → (∀ k, k < j → waits ops j k = true → holds (K k) (vals k) w) → (∀ k, waits ops j k = true → k < j) → uponG P G E (holds (K j)) w (Region.wanted o (yielded ops (fill ops vals (fun _ => true) a0 j).tmps)) ((execOp (fill ops vals (fun _ => true) a0 j).eval o).run P w)) ∧
    (∀ w, C w → (∀ k, k < i + l.length → holds (K k) (vals k) w) → Q .normal (fill ops vals (fun _ => true) a0 (i + l.length)) w)
  | [], [], i, facts, a, hl, hk, ha, hf, h => by
    refine ⟨fun j o hij hlt => absurd hlt (by simp; omega), fun w hC hall => ?_⟩
    · simp only [List.length_nil, Nat.add_zero] at hall ⊢
      rw [← ha]
      exact h w hC (fun k => hf k w (fun F hF hlt => by have := hall k hlt; rw [hF] at this; exact this))
  | [], _ :: _, _, _, _, _, _, _, _, h => by simp [wpRel] at h
  | _ :: _, [], _, _, _, _, _, _, _, h => by simp [wpRel] at h
  | o :: rest, k0 :: ks, i, facts, a, hl, hk, ha, hf, h => by
    have ho : ops[i]? = some o := by simpa using (hl 0 (by simp)).symm
    have hki : K i = k0 := by
      have := hk 0
      simp only [List.getElem?_cons_zero, Nat.add_zero] at this
      rw [hK]; simp [← this]
    have hl' : ∀ j, j < rest.length → rest[j]? = ops[i + 1 + j]? := fun j hj => by have := hl (j + 1) (by simp; omega); simpa [Nat.add_assoc, Nat.add_comm 1 j] using this
    have hk' : ∀ j, ks[j]? = Ks[i + 1 + j]? := fun j => by have := hk (j + 1); simpa [Nat.add_assoc, Nat.add_comm 1 j] using this
    have hput : a.put o.dst (vals i) = fill ops vals (fun _ => true) a0 (i + 1) := by
      rw [ha]; show _ = if true = true then _ else _
      rw [if_pos rfl]; simp [dstOf, ho]
    cases k0 with
    | inl c =>
      obtain ⟨h1, h2⟩ := h
      have hvc := hv i c hki
      rw [← hvc, hput] at h2
      obtain ⟨r1, r2⟩ := wpRel_use hK vals hv rest ks (i + 1) facts _ hl' hk' rfl (fun k w hh => hf k w (fun F hF hlt => hh F hF (by omega))) h2
      have hN : i + (o :: rest).length = i + 1 + rest.length := by simp; omega
      rw [hN]
      refine ⟨fun j o' hij hjN ho' w hC hw hlt => ?_, r2⟩
      by_cases e : i = j
      · subst e
        obtain rfl : o = o' := Option.some.inj (ho.symm.trans ho')
        rw [hki, ← ha]
        exact h1 w hC (fun k hk => hf k w (fun F hF hlt => by have := hw k hlt hk; rw [hF] at this; exact this))
      · exact r1 j o' (by omega) hjN ho' w hC hw hlt
    | inr F =>
      obtain ⟨h1, h2⟩ := h
      have h2 := h2 (vals i)
      rw [hput] at h2
      obtain ⟨r1, r2⟩ := wpRel_use hK vals hv rest ks (i + 1) _ _ hl' hk' rfl (fun k w hh => ⟨fun e => by subst e; exact hh F hki (by omega), hf k w (fun F hF hlt => hh F hF (by omega))⟩) h2
      have hN : i + (o :: rest).length = i + 1 + rest.length := by simp; omega
      rw [hN]
      refine ⟨fun j o' hij hjN ho' w hC hw hlt => ?_, r2⟩
      by_cases e : i = j
      · subst e
        obtain rfl : o = o' := Option.some.inj (ho.symm.trans ho')
        rw [hki, ← ha]
        exact h1 w hC (fun k hk => hf k w (fun F hF hlt => by have := hw k hlt hk; rw [hF] at this; exact this))
      · exact r1 j o' (by omega) hjN ho' w hC hw hlt

end

theorem waits_back {ops : Array Oper} (h : okB ops = true) {j k : Nat} (hw : waits ops j k = true) : k < j := by
  obtain ⟨oj, hoj, e, he, hb, hon⟩ := waits_spec hw
  have := (ok_at h hoj).1 e he hb
  omega

/-- ONE WALK, IN THE ORDER OF THE TEXT, SERVES EVERY ORDER. -/
theorem wp_region_rel {P : Program} {id : Nat} {Q : Exit → Act → World → Prop} {a : Act} {w : World} {l : List Oper} (G : World → World → Prop) (E : List PanicEntry → World → Prop) (hE : ∀ ch a' w, E ch w → a'.defers = a.defers → Q (.panic ch) a' w) (C : World → Prop) (ks : List Kind) (hm : P.follows .mixedOrders = true) (hok : okB l.toArray = true) (hG : ∀ w, G w w) (hC : Up G C) (hw : C { w with drawn := w.drawn + 1 })
    (hks : ∀ k ∈ ks, upK G k) (h : wpRel P G E l.toArray C Q 0 l ks (fun _ _ => True) a) : (Code.region id l.toArray true).wp P Q a w := by
  refine wp_region_any hm ?_
  have hK : ∀ k, upK G ((fun i => ks.getD i (.inl undef)) k : Kind) := fun k => by
    show upK G (ks.getD k (.inl undef))
    rw [List.getD_eq_getElem?_getD]
    cases hh : ks[k]? with
    | none => exact trivial
    | some x => exact hks x (List.mem_of_getElem? hh)
  have use := fun vals hv => wpRel_use (P := P) (G := G) (E := E) (ops := l.toArray) (C := C) (Q := Q) (a0 := a) (Ks := ks) rfl vals hv l ks 0 (fun _ _ => True) a (fun j _ => by simp) (by simp) rfl (fun _ _ _ => trivial) h
  have := wpAny_rel (P := P) (G := G) (ops := l.toArray) (C := C) (K := fun i => ks.getD i (.inl undef)) (a0 := a) (Q := Q) (E := E) hE hok hC hK
    (fun i o ho vals hv w hCw hf => (use vals hv).1 i o (Nat.zero_le _) (by have := (Array.getElem?_eq_some_iff.1 ho).1; simpa using this) ho w hCw (fun k _ hk => hf k hk) (fun k hk => waits_back hok hk))
    hG (fun vals hv w hCw hf => by have := (use vals hv).2 w hCw (by simpa using hf); simpa using this)
    l.toArray.size (Array.replicate l.toArray.size false) (fun k => match ks.getD k (.inl undef) with | .inl c => c | .inr _ => undef) { w with drawn := w.drawn + 1 }
    ⟨by simp, (fun j oj _ hl => by rw [getD_replicate_false] at hl; exact absurd hl (by simp)), hw, (fun k _ hl => by rw [getD_replicate_false] at hl; exact absurd hl (by simp)), fun k c hkc => by simp only [hkc]⟩
    (cnt_replicate _ _)
  have e : fill l.toArray (fun k => match ks.getD k (.inl undef) with | .inl c => c | .inr _ => undef) (fun k => (Array.replicate l.toArray.size false).getD k false) a l.toArray.size = a := by
    have : ∀ n, fill l.toArray (fun k => match ks.getD k (.inl undef) with | .inl c => c | .inr _ => undef) (fun k => (Array.replicate l.toArray.size false).getD k false) a n = a := by
      intro n
      induction n with
      | zero => rfl
      | succ n ih => unfold fill; rw [getD_replicate_false]; simpa using ih
    exact this _
  rwa [e] at this

theorem up_below (w0 : World) : Up Grows (fun w => Below w0.heap.size w0 w) := fun _ _ h hb => h.trans ⟨hb.os, hb.tape, hb.output, hb.size, fun k hk => hb.block k (Nat.lt_of_lt_of_le hk h.size)⟩

attribute [go_sem] relUpon
theorem grows_refl (w : World) : Grows w w := Below.refl _ _
end Go.RelQ
