/- As Rel: a region that draws its order; what is known of an operation's value may speak of the values of those that it waits for. No program is named. -/
import Derived.Test.YtgloemlbkkjcaaaRel
namespace Go.RelD
open Go Go.RowKit Go.Rel

abbrev Kd := Value ⊕ ((Nat → Value) → Value → World → Prop)
def holdsD (vals : Nat → Value) : Kd → Value → World → Prop
  | .inl c, v, _ => v = c
  | .inr F, v, w => F vals v w
def upD (G : World → World → Prop) : Kd → Prop
  | .inl _ => True
  | .inr F => ∀ vals v w w', F vals v w → G w w' → F vals v w'
theorem holds_upD {G : World → World → Prop} {k : Kd} (h : upD G k) {vals : Nat → Value} {v : Value} {w w' : World} (hh : holdsD vals k v w) (hb : G w w') : holdsD vals k v w' := by
  cases k with
  | inl c => exact hh
  | inr F => exact h vals v w w' hh hb
/-- It speaks of what it waits for alone. -/
def depD (ops : Array Oper) (i : Nat) : Kd → Prop
  | .inl _ => True
  | .inr F => ∀ vals vals' : Nat → Value, (∀ j, waits ops i j = true → vals j = vals' j) → ∀ v w, F vals v w → F vals' v w
theorem holds_dep {ops : Array Oper} {i : Nat} {k : Kd} (h : depD ops i k) {vals vals' : Nat → Value} (e : ∀ j, waits ops i j = true → vals j = vals' j) {v : Value} {w : World} (hh : holdsD vals k v w) : holdsD vals' k v w := by
  cases k with
  | inl c => exact hh
  | inr F => exact h vals vals' e v w hh
structure Inv (ops : Array Oper) (C : World → Prop) (K : Nat → Kd) (listed : Array Bool) (vals : Nat → Value) (w : World) : Prop where
  size : listed.size = ops.size
  closed : ∀ j oj, ops[j]? = some oj → listed.getD j false = true → ∀ e ∈ oj.after, Region.binds .any e = true → listed.getD e.on false = true
  cls : C w
  facts : ∀ k, k < ops.size → listed.getD k false = true → holdsD vals (K k) (vals k) w
  dets : ∀ k c, K k = .inl c → vals k = c

theorem back_of {ops : Array Oper} (h : okB ops = true) {j k : Nat} (hw : waits ops j k = true) : k < j := waits_back h hw
section
variable {P : Program} {G : World → World → Prop} {ops : Array Oper} {C : World → Prop} {K : Nat → Kd} {a0 : Act} {Q : Exit → Act → World → Prop}
theorem wpAny_relD (hok : okB ops = true) (hC : Up G C) (hK : ∀ k, upD G (K k)) (hdep : ∀ k, depD ops k (K k))
    (hstep : ∀ i o, ops[i]? = some o → ∀ vals : Nat → Value, (∀ k c, K k = .inl c → vals k = c) → ∀ w, C w → (∀ k, waits ops i k = true → holdsD vals (K k) (vals k) w) →
      relUpon P G (holdsD vals (K i)) w ((execOp (fill ops vals (fun _ => true) a0 i).eval o).run P w))
    (hend : ∀ vals : Nat → Value, (∀ k c, K k = .inl c → vals k = c) → ∀ w, C w → (∀ k, k < ops.size → holdsD vals (K k) (vals k) w) → Q .normal (fill ops vals (fun _ => true) a0 ops.size) w) :
    ∀ (fuel : Nat) (listed : Array Bool) (vals : Nat → Value) (w : World), Inv ops C K listed vals w → cnt listed ops.size ≤ fuel →
      wpAny P .any ops Q fuel listed (fill ops vals (fun k => listed.getD k false) a0 ops.size) w := by
  have hsel := hok
  simp only [okB, Bool.and_eq_true] at hsel
  have hD := hsel.1.2
  have fin : ∀ (listed : Array Bool) (vals : Nat → Value) (w : World), Inv ops C K listed vals w → (∀ k, k < ops.size → listed.getD k true = true) → Q .normal (fill ops vals (fun k => listed.getD k false) a0 ops.size) w := by
    intro listed vals w inv hall
    have hall' : ∀ k, k < ops.size → listed.getD k false = true := fun k hk => by
      have h1 := hall k hk
      have h3 : k < listed.size := by rw [inv.size]; exact hk
      simp [h3] at h1 ⊢; exact h1
    rw [fill_mask (m' := fun _ => true) ops.size (fun k hk => hall' k hk)]
    exact hend vals inv.dets w inv.cls (fun k hk => inv.facts k hk (hall' k hk))
  intro fuel
  induction fuel with
  | zero =>
    intro listed vals w inv hc
    have hall := cnt_zero ops.size (by omega : cnt listed ops.size = 0)
    refine ⟨?_, fin listed vals w inv hall⟩
    cases hr : Region.ready .any ops listed with
    | nil => rfl
    | cons j l =>
      exfalso
      have hj : j ∈ Region.ready .any ops listed := by rw [hr]; exact List.mem_cons_self ..
      obtain ⟨h1, o, ho, _⟩ := mem_ready.1 hj
      rw [hall j (Array.getElem?_eq_some_iff.1 ho).1] at h1; cases h1
  | succ fuel ih =>
    intro listed vals w inv hc
    refine ⟨fun hr => fin listed vals w inv (fun k hk => ready_nil hok inv.size hr (k + 1) k (by omega) hk), fun i hi => ?_⟩
    obtain ⟨hun, o, ho, hall⟩ := mem_ready.1 hi
    have hlt : i < ops.size := (Array.getElem?_eq_some_iff.1 ho).1
    obtain ⟨hg, hback, hlook⟩ := ok_at hok ho
    have hun' : listed.getD i false = false := getD_both hun
    have hwaits : ∀ k, waits ops i k = true → listed.getD k false = true := fun k hk => by
      obtain ⟨oj, hoj, e, he, hb, hon⟩ := waits_spec hk
      obtain rfl : oj = o := Option.some.inj (hoj.symm.trans ho)
      rw [← hon]; exact hall e he hb
    have hsame : execOp (fill ops vals (fun k => listed.getD k false) a0 ops.size).eval o = execOp (fill ops vals (fun _ => true) a0 i).eval o := by
      rw [← fill_less (i := i) ops.size (by omega)]
      refine execOp_congr o (fun cs b => Region.noSelect_spec hsel.1.1 i o cs b ho) fun x hx => fill_eval ops.size fun k hk hne d hd hxd => ?_
      have hm : d ∈ o.looksAt ops := by
        subst hxd
        exact List.mem_append_left _ (List.mem_filterMap.2 ⟨.tmp d, by simpa using hx, rfl⟩)
      obtain ⟨l1, l2⟩ := hlook k d hk hd hm
      by_cases e : k < i
      · have := hwaits k (l1 e)
        simp [e, this] at hne
      · have h2 := l2 e
        obtain ⟨ok, hok', e', he', hb', hon'⟩ := waits_spec h2
        have hkl : listed.getD k false = true := by simpa [e] using hne
        have := inv.closed k ok hok' hkl e' he' hb'
        rw [hon', hun'] at this; cases this
    have hrel := hstep i o ho vals inv.dets w inv.cls (fun k hk => by
      have h1 := hwaits k hk
      obtain ⟨oj, hoj, e, he, hb, hon⟩ := waits_spec hk
      obtain rfl : oj = o := Option.some.inj (hoj.symm.trans ho)
      have := hback e he hb
      exact inv.facts k (by omega) h1)
    have next : ∀ v w', G w w' → holdsD vals (K i) v w' → wpAny P .any ops Q fuel (listed.setIfInBounds i true) ((fill ops vals (fun k => listed.getD k false) a0 ops.size).put o.dst v) w' := by
      intro v w' hb hv
      have hsz : i < listed.size := by rw [inv.size]; exact hlt
      have key : (fill ops vals (fun k => listed.getD k false) a0 ops.size).put o.dst v = fill ops (fun k => if k = i then v else vals k) (fun k => (listed.setIfInBounds i true).getD k false) a0 ops.size := by
        have hd : o.dst = dstOf ops i := by simp [dstOf, ho]
        rw [fill_insert (m := fun k => listed.getD k false) hD hun' (by simp [hsz]) (fun k hk => getD_set_ne false (Ne.symm hk)) ops.size (Nat.le_refl _) hlt, hd]
        simp only [if_true]
        rw [fill_vals (vals' := vals) ops.size (fun k _ hk => if_neg (fun e => by subst e; rw [hun'] at hk; cases hk))]
      rw [key]
      refine ih _ _ w' ⟨by simp [inv.size], fun j oj hj hl e he hb' => ?_, hC w w' inv.cls hb, fun k hk hl => ?_, fun k c hkc => ?_⟩ ?_
      · by_cases hij : i = j
        · subst hij
          obtain rfl : oj = o := Option.some.inj (hj.symm.trans ho)
          exact getD_set_true (hall e he hb')
        · rw [getD_set_ne false hij] at hl
          exact getD_set_true (inv.closed j oj hj hl e he hb')
      · by_cases hki : k = i
        · subst hki
          simp only [if_true]
          exact holds_dep (hdep k) (fun j hj => by
            have hne : j ≠ k := fun e => by subst e; exact absurd (back_of hok hj) (Nat.lt_irrefl _)
            rw [if_neg hne]) hv
        · rw [getD_set_ne false (Ne.symm hki)] at hl
          simp only [if_neg hki]
          refine holds_dep (hdep k) (fun j hj => ?_) (holds_upD (hK k) (inv.facts k hk hl) hb)
          have hne : j ≠ i := fun e => by
            obtain ⟨ok, hok2, e2, he2, hb2, hon2⟩ := waits_spec hj
            have := inv.closed k ok hok2 hl e2 he2 hb2
            rw [hon2, e, hun'] at this; cases this
          rw [if_neg hne]
      · by_cases hki : k = i
        · subst hki
          rw [hkc] at hv
          have hv : v = c := hv
          simpa using hv
        · simp only [if_neg hki]; exact inv.dets k c hkc
      · have := cnt_set hun ops.size
        rw [if_pos hlt] at this
        omega
    unfold wpOp
    simp only [ho]
    have hw : Region.wanted o (yielded ops (fill ops vals (fun k => listed.getD k false) a0 ops.size).tmps) = true := by simp [Region.wanted, hg]
    rw [if_pos hw]
    left
    unfold Oper.wp
    rw [hsame]
    generalize (execOp (fill ops vals (fun _ => true) a0 i).eval o).run P w = r at hrel
    cases r with
    | ok n w' =>
      cases n <;> simp only [relUpon] at hrel <;> simp only [Oper.upon]
      case value u => exact next u w' hrel.1 hrel.2
      case skip => exact next undef w' hrel.1 hrel.2
      case enter f args =>
        obtain ⟨rfl, hc⟩ := hrel
        exact hc.mono fun e w'' ⟨v, he, hb, hv⟩ => by subst he; exact next v w'' hb hv
    | halt x w' => simp only [relUpon] at hrel

/-- THE WALK, in the order of the text. -/
def wpRelD (P : Program) (G : World → World → Prop) (ops : Array Oper) (C : World → Prop) (Q : Exit → Act → World → Prop) (vals : Nat → Value) : Nat → List Oper → List Kd → (Nat → World → Prop) → Act → Prop
  | i, o :: rest, .inl c :: ks, facts, a =>
    (∀ w, C w → (∀ k, waits ops i k = true → facts k w) → relUpon P G (fun v _ => v = c) w ((execOp a.eval o).run P w)) ∧ wpRelD P G ops C Q vals (i + 1) rest ks facts (a.put o.dst c)
  | i, o :: rest, .inr F :: ks, facts, a =>
    (∀ w, C w → (∀ k, waits ops i k = true → facts k w) → relUpon P G (F vals) w ((execOp a.eval o).run P w)) ∧ wpRelD P G ops C Q vals (i + 1) rest ks (fun k w => (k = i → F vals (vals i) w) ∧ facts k w) (a.put o.dst (vals i))
  | _, [], [], facts, a => ∀ w, C w → (∀ k, facts k w) → Q .normal a w
  | _, _, _, _, _ => False

theorem wpRelD_use {Ks : List Kd} (hK : K = fun i => Ks.getD i (.inl undef)) (vals : Nat → Value) (hv : ∀ k c, K k = .inl c → vals k = c) : ∀ (l : List Oper) (ks : List Kd) (i : Nat) (facts : Nat → World → Prop) (a : Act),
    (∀ j, j < l.length → l[j]? = ops[i + j]?) → (∀ j, ks[j]? = Ks[i + j]?) → a = fill ops vals (fun _ => true) a0 i →
    (∀ k w, (∀ F, K k = .inr F → k < i → F vals (vals k) w) → facts k w) → wpRelD P G ops C Q vals i l ks facts a →
    (∀ j o, i ≤ j → j < i + l.length → ops[j]? = some o → ∀ w, C w → (∀ k, k < j → waits ops j k = true → holdsD vals (K k) (vals k) w) → (∀ k, waits ops j k = true → k < j) → relUpon P G (holdsD vals (K j)) w ((execOp (fill ops vals (fun _ => true) a0 j).eval o).run P w)) ∧
    (∀ w, C w → (∀ k, k < i + l.length → holdsD vals (K k) (vals k) w) → Q .normal (fill ops vals (fun _ => true) a0 (i + l.length)) w)
  | [], [], i, facts, a, hl, hk, ha, hf, h => by
    refine ⟨fun j o hij hlt => absurd hlt (by simp; omega), fun w hC hall => ?_⟩
    · simp only [List.length_nil, Nat.add_zero] at hall ⊢
      rw [← ha]
      exact h w hC (fun k => hf k w (fun F hF hlt => by have := hall k hlt; rw [hF] at this; exact this))
  | [], _ :: _, _, _, _, _, _, _, _, h => by simp [wpRelD] at h
  | _ :: _, [], _, _, _, _, _, _, _, h => by simp [wpRelD] at h
  | o :: rest, k0 :: ks, i, facts, a, hl, hk, ha, hf, h => by
    have ho : ops[i]? = some o := by simpa using (hl 0 (by simp)).symm
    have hki : K i = k0 := by
      have := hk 0
      simp only [List.getElem?_cons_zero, Nat.add_zero] at this
      rw [hK]; simp [← this]
    have hl' : ∀ j, j < rest.length → rest[j]? = ops[i + 1 + j]? := fun j hj => by have := hl (j + 1) (by simp; omega); simpa [Nat.add_assoc, Nat.add_comm 1 j] using this
    have hk' : ∀ j, ks[j]? = Ks[i + 1 + j]? := fun j => by have := hk (j + 1); simpa [Nat.add_assoc, Nat.add_comm 1 j] using this
    have hput : a.put o.dst (vals i) = fill ops vals (fun _ => true) a0 (i + 1) := by
      rw [ha]; show _ = if true = true then _ else _
      rw [if_pos rfl]; simp [dstOf, ho]
    cases k0 with
    | inl c =>
      obtain ⟨h1, h2⟩ := h
      have hvc := hv i c hki
      rw [← hvc, hput] at h2
      obtain ⟨r1, r2⟩ := wpRelD_use hK vals hv rest ks (i + 1) facts _ hl' hk' rfl (fun k w hh => hf k w (fun F hF hlt => hh F hF (by omega))) h2
      have hN : i + (o :: rest).length = i + 1 + rest.length := by simp; omega
      rw [hN]
      refine ⟨fun j o' hij hjN ho' w hC hw hlt => ?_, r2⟩
      by_cases e : i = j
      · subst e
        obtain rfl : o = o' := Option.some.inj (ho.symm.trans ho')
        rw [hki, ← ha]
        exact h1 w hC (fun k hk => hf k w (fun F hF hlt => by have := hw k hlt hk; rw [hF] at this; exact this))
      · exact r1 j o' (by omega) hjN ho' w hC hw hlt
    | inr F =>
      obtain ⟨h1, h2⟩ := h
      rw [hput] at h2
      obtain ⟨r1, r2⟩ := wpRelD_use hK vals hv rest ks (i + 1) _ _ hl' hk' rfl (fun k w hh => ⟨fun e => by subst e; exact hh F hki (by omega), hf k w (fun F hF hlt => hh F hF (by omega))⟩) h2
      have hN : i + (o :: rest).length = i + 1 + rest.length := by simp; omega
      rw [hN]
      refine ⟨fun j o' hij hjN ho' w hC hw hlt => ?_, r2⟩
      by_cases e : i = j
      · subst e
        obtain rfl : o = o' := Option.some.inj (ho.symm.trans ho')
        rw [hki, ← ha]
        exact h1 w hC (fun k hk => hf k w (fun F hF hlt => by have := hw k hlt hk; rw [hF] at this; exact this))
      · exact r1 j o' (by omega) hjN ho' w hC hw hlt

end

/-- ONE WALK, IN THE ORDER OF THE TEXT, SERVES EVERY ORDER. -/
theorem wp_region_relD {P : Program} {id : Nat} {Q : Exit → Act → World → Prop} {a : Act} {w : World} {l : List Oper} (G : World → World → Prop) (C : World → Prop) (ks : List Kd) (hm : P.follows .mixedOrders = true) (hok : okB l.toArray = true) (hC : Up G C) (hw : C { w with drawn := w.drawn + 1 })
    (hks : ∀ k ∈ ks, upD G k) (hdep : ∀ i k, ks[i]? = some k → depD l.toArray i k) (h : ∀ vals, wpRelD P G l.toArray C Q vals 0 l ks (fun _ _ => True) a) : (Code.region id l.toArray true).wp P Q a w := by
  refine wp_region_any hm ?_
  have hK : ∀ k, upD G ((fun i => ks.getD i (.inl undef)) k : Kd) := fun k => by
    show upD G (ks.getD k (.inl undef))
    rw [List.getD_eq_getElem?_getD]
    cases hh : ks[k]? with
    | none => exact trivial
    | some x => exact hks x (List.mem_of_getElem? hh)
  have hD : ∀ k, depD l.toArray k ((fun i => ks.getD i (.inl undef)) k : Kd) := fun k => by
    show depD l.toArray k (ks.getD k (.inl undef))
    rw [List.getD_eq_getElem?_getD]
    cases hh : ks[k]? with
    | none => exact trivial
    | some x => exact hdep k x hh
  have use := fun vals hv => wpRelD_use (P := P) (G := G) (ops := l.toArray) (C := C) (Q := Q) (a0 := a) (Ks := ks) rfl vals hv l ks 0 (fun _ _ => True) a (fun j _ => by simp) (by simp) rfl (fun _ _ _ => trivial) (h vals)
  have := wpAny_relD (P := P) (G := G) (ops := l.toArray) (C := C) (K := fun i => ks.getD i (.inl undef)) (a0 := a) (Q := Q) hok hC hK hD
    (fun i o ho vals hv w hCw hf => (use vals hv).1 i o (Nat.zero_le _) (by have := (Array.getElem?_eq_some_iff.1 ho).1; simpa using this) ho w hCw (fun k _ hk => hf k hk) (fun k hk => waits_back hok hk))
    (fun vals hv w hCw hf => by have := (use vals hv).2 w hCw (by simpa using hf); simpa using this)
    l.toArray.size (Array.replicate l.toArray.size false) (fun k => match ks.getD k (.inl undef) with | .inl c => c | .inr _ => undef) { w with drawn := w.drawn + 1 }
    ⟨by simp, (fun j oj _ hl => by rw [getD_replicate_false] at hl; exact absurd hl (by simp)), hw, (fun k _ hl => by rw [getD_replicate_false] at hl; exact absurd hl (by simp)), fun k c hkc => by simp only [hkc]⟩
    (cnt_replicate _ _)
  have e : fill l.toArray (fun k => match ks.getD k (.inl undef) with | .inl c => c | .inr _ => undef) (fun k => (Array.replicate l.toArray.size false).getD k false) a l.toArray.size = a := by
    have : ∀ n, fill l.toArray (fun k => match ks.getD k (.inl undef) with | .inl c => c | .inr _ => undef) (fun k => (Array.replicate l.toArray.size false).getD k false) a n = a := by
      intro n
      induction n with
      | zero => rfl
      | succ n ih => unfold fill; rw [getD_replicate_false]; simpa using ih
    exact this _
  rwa [e] at this

end Go.RelD
