/- As Chm: a region that draws its order and whose calls turn memory; and one operation of it, a new variable, gives back what hangs on when it came. No program is named. -/
import Derived.Test.YtilbnjldfgofmaaChm
namespace Go.Chn
open Go Go.RowKit Go.Rel

def updv (vals : Nat → Value) (q : Nat) (v : Value) : Nat → Value := fun k => if k = q then v else vals k
structure InvF (ops : Array Oper) (C : (Nat → Bool) → Value → World → Prop) (listed : Array Bool) (v : Value) (w : World) : Prop where
  size : listed.size = ops.size
  closed : ∀ j oj, ops[j]? = some oj → listed.getD j false = true → ∀ e ∈ oj.after, Region.binds .any e = true → listed.getD e.on false = true
  cls : C (fun k => listed.getD k false) v w
section
variable {P : Program} {ops : Array Oper} {C : (Nat → Bool) → Value → World → Prop} {a0 : Act} {Q : Exit → Act → World → Prop}
theorem wpAny_chf (hok : okB ops = true) (vals : Nat → Value) (q : Nat)
    (hstep : ∀ i o, ops[i]? = some o → i ≠ q → ∀ (m : Nat → Bool) (v : Value) (w : World), m i = false → (∀ k, waits ops i k = true → m k = true) → (∀ k, waits ops k i = true → m k = false) → (∀ a b, waits ops a b = true → m a = true → m b = true) → C m v w →
      upon P (fun u w' => u = vals i ∧ C (fun k => k == i || m k) v w') w ((execOp (fill ops (updv vals q v) (fun _ => true) a0 i).eval o).run P w))
    (hfree : ∀ o, ops[q]? = some o → ∀ (m : Nat → Bool) (v : Value) (w : World), m q = false → (∀ k, waits ops q k = true → m k = true) → (∀ a b, waits ops a b = true → m a = true → m b = true) → C m v w →
      upon P (fun u w' => C (fun k => k == q || m k) u w') w ((execOp (fill ops (updv vals q v) (fun _ => true) a0 q).eval o).run P w))
    (hend : ∀ (m : Nat → Bool) (v : Value) (w : World), (∀ k, k < ops.size → m k = true) → C m v w → Q .normal (fill ops (updv vals q v) (fun _ => true) a0 ops.size) w) :
    ∀ (fuel : Nat) (listed : Array Bool) (v : Value) (w : World), InvF ops C listed v w → cnt listed ops.size ≤ fuel →
      wpAny P .any ops Q fuel listed (fill ops (updv vals q v) (fun k => listed.getD k false) a0 ops.size) w := by
  have hsel := hok
  simp only [okB, Bool.and_eq_true] at hsel
  have hD := hsel.1.2
  have fin : ∀ (listed : Array Bool) (v : Value) (w : World), InvF ops C listed v w → (∀ k, k < ops.size → listed.getD k true = true) → Q .normal (fill ops (updv vals q v) (fun k => listed.getD k false) a0 ops.size) w := by
    intro listed v w inv hall
    have hall' : ∀ k, k < ops.size → listed.getD k false = true := fun k hk => by
      have h1 := hall k hk
      have h3 : k < listed.size := by rw [inv.size]; exact hk
      simp [h3] at h1 ⊢; exact h1
    rw [fill_mask (m' := fun _ => true) ops.size (fun k hk => hall' k hk)]
    exact hend _ v w hall' inv.cls
  intro fuel
  induction fuel with
  | zero =>
    intro listed v w inv hc
    have hall := cnt_zero ops.size (by omega : cnt listed ops.size = 0)
    refine ⟨?_, fin listed v w inv hall⟩
    cases hr : Region.ready .any ops listed with
    | nil => rfl
    | cons j l =>
      exfalso
      have hj : j ∈ Region.ready .any ops listed := by rw [hr]; exact List.mem_cons_self ..
      obtain ⟨h1, o, ho, _⟩ := mem_ready.1 hj
      rw [hall j (Array.getElem?_eq_some_iff.1 ho).1] at h1; cases h1
  | succ fuel ih =>
    intro listed v w inv hc
    refine ⟨fun hr => fin listed v w inv (fun k hk => ready_nil hok inv.size hr (k + 1) k (by omega) hk), fun i hi => ?_⟩
    obtain ⟨hun, o, ho, hall⟩ := mem_ready.1 hi
    have hlt : i < ops.size := (Array.getElem?_eq_some_iff.1 ho).1
    obtain ⟨hg, hback, hlook⟩ := ok_at hok ho
    have hun' : listed.getD i false = false := getD_both hun
    have hwaits : ∀ k, waits ops i k = true → listed.getD k false = true := fun k hk => by
      obtain ⟨oj, hoj, e, he, hb, hon⟩ := waits_spec hk
      obtain rfl : oj = o := Option.some.inj (hoj.symm.trans ho)
      rw [← hon]; exact hall e he hb
    have hclosed : ∀ a b, waits ops a b = true → listed.getD a false = true → listed.getD b false = true := fun a b hab ha => by
      obtain ⟨oj, hoj, e, he, hb, hon⟩ := waits_spec hab
      rw [← hon]; exact inv.closed a oj hoj ha e he hb
    have hlate : ∀ k, waits ops k i = true → listed.getD k false = false := fun k hk => by
      cases e : listed.getD k false
      · rfl
      · have := hclosed k i hk e
        rw [hun'] at this; cases this
    have hsame : execOp (fill ops (updv vals q v) (fun k => listed.getD k false) a0 ops.size).eval o = execOp (fill ops (updv vals q v) (fun _ => true) a0 i).eval o := by
      rw [← fill_less (i := i) ops.size (by omega)]
      refine execOp_congr o (fun cs b => Region.noSelect_spec hsel.1.1 i o cs b ho) fun x hx => fill_eval ops.size fun k hk hne d hd hxd => ?_
      have hm : d ∈ o.looksAt ops := by
        subst hxd
        exact List.mem_append_left _ (List.mem_filterMap.2 ⟨.tmp d, by simpa using hx, rfl⟩)
      obtain ⟨l1, l2⟩ := hlook k d hk hd hm
      by_cases e : k < i
      · have := hwaits k (l1 e)
        simp [e, this] at hne
      · have hkl : listed.getD k false = true := by simpa [e] using hne
        rw [hlate k (l2 e)] at hkl; cases hkl
    have em : (fun k => (listed.setIfInBounds i true).getD k false) = (fun k => k == i || listed.getD k false) := by
      have hsz : i < listed.size := by rw [inv.size]; exact hlt
      funext k
      by_cases hki : k = i
      · subst hki; simp [hsz]
      · rw [getD_set_ne false (Ne.symm hki)]; simp [hki]
    have next0 : ∀ (u : Value) (v' : Value) (w' : World), u = updv vals q v' i → (∀ k, k ≠ i → updv vals q v' k = updv vals q v k ∨ listed.getD k false = false) → C (fun k => k == i || listed.getD k false) v' w' → wpAny P .any ops Q fuel (listed.setIfInBounds i true) ((fill ops (updv vals q v) (fun k => listed.getD k false) a0 ops.size).put o.dst u) w' := by
      intro u v' w' hu hsv hv
      have hsz : i < listed.size := by rw [inv.size]; exact hlt
      have e0 : fill ops (updv vals q v) (fun k => listed.getD k false) a0 ops.size = fill ops (updv vals q v') (fun k => listed.getD k false) a0 ops.size := by
        refine fill_vals ops.size fun k hk hmk => ?_
        by_cases hki : k = i
        · subst hki; rw [hun'] at hmk; cases hmk
        · rcases hsv k hki with e | e
          · exact e.symm
          · rw [e] at hmk; cases hmk
      rw [e0]
      have key : (fill ops (updv vals q v') (fun k => listed.getD k false) a0 ops.size).put o.dst u = fill ops (updv vals q v') (fun k => (listed.setIfInBounds i true).getD k false) a0 ops.size := by
        have hd : o.dst = dstOf ops i := by simp [dstOf, ho]
        rw [hu, fill_insert (m := fun k => listed.getD k false) hD hun' (by simp [hsz]) (fun k hk => getD_set_ne false (Ne.symm hk)) ops.size (Nat.le_refl _) hlt, hd]
      rw [key]
      refine ih _ v' w' ⟨by simp [inv.size], fun j oj hj hl e he hb' => ?_, by rw [em]; exact hv⟩ ?_
      · by_cases hij : i = j
        · subst hij
          obtain rfl : oj = o := Option.some.inj (hj.symm.trans ho)
          exact getD_set_true (hall e he hb')
        · rw [getD_set_ne false hij] at hl
          exact getD_set_true (inv.closed j oj hj hl e he hb')
      · have := cnt_set hun ops.size
        rw [if_pos hlt] at this
        omega
    have main : ∃ F : Value → World → Prop, (∀ u w', F u w' → wpAny P .any ops Q fuel (listed.setIfInBounds i true) ((fill ops (updv vals q v) (fun k => listed.getD k false) a0 ops.size).put o.dst u) w') ∧ upon P F w ((execOp (fill ops (updv vals q v) (fun _ => true) a0 i).eval o).run P w) := by
      by_cases hiq : i = q
      · subst hiq
        refine ⟨_, fun u w' hF => next0 u u w' (by simp [updv]) (fun k hk => .inl (by simp [updv, hk])) hF, hfree o ho (fun k => listed.getD k false) v w hun' hwaits hclosed inv.cls⟩
      · refine ⟨_, fun u w' hF => next0 u v w' (by rw [hF.1]; simp [updv, hiq]) (fun k _ => .inl rfl) hF.2, hstep i o ho hiq (fun k => listed.getD k false) v w hun' hwaits hlate hclosed inv.cls⟩
    obtain ⟨F, next, hrel⟩ := main
    unfold wpOp
    simp only [ho]
    have hw : Region.wanted o (yielded ops (fill ops (updv vals q v) (fun k => listed.getD k false) a0 ops.size).tmps) = true := by simp [Region.wanted, hg]
    rw [if_pos hw]
    left
    unfold Oper.wp
    rw [hsame]
    generalize (execOp (fill ops (updv vals q v) (fun _ => true) a0 i).eval o).run P w = r at hrel
    cases r with
    | ok n w' =>
      cases n <;> simp only [upon] at hrel <;> simp only [Oper.upon]
      case value u => exact next u w' hrel
      case skip => exact next undef w' hrel
      case enter f args =>
        obtain ⟨rfl, hc⟩ := hrel
        exact hc.mono fun e w'' ⟨v, he, hv⟩ => by subst he; exact next v w'' hv
    | halt x w' => simp only [upon] at hrel
end

/-- THE WALK, in the order of the text, of whatever the new variable may be. -/
def wpChv (P : Program) (ops : Array Oper) (Cs : Nat → Option Value → World → Prop) (chain lims : List Nat) (q : Nat) (v : Value) (Q : Exit → Act → World → Prop) : Nat → List Oper → List Value → Act → Prop
  | i, o :: rest, c :: cs, a =>
    (if i = q then ∀ (j : Nat) (w : World), j ≤ lims.getD i chain.length → Cs j none w → upon P (fun u w' => Cs j (some u) w') w ((execOp a.eval o).run P w)
     else match chain.findIdx? (· == i) with
      | none => ∀ (j : Nat) (ou : Option Value) (w : World), j ≤ lims.getD i chain.length → (waits ops i q = true → ou = some v) → Cs j ou w → upon P (fun u w' => u = c ∧ Cs j ou w') w ((execOp a.eval o).run P w)
      | some j => ∀ (ou : Option Value) (w : World), (waits ops i q = true → ou = some v) → Cs j ou w → upon P (fun u w' => u = c ∧ Cs (j + 1) ou w') w ((execOp a.eval o).run P w)) ∧ wpChv P ops Cs chain lims q v Q (i + 1) rest cs (a.put o.dst c)
  | _, [], [], a => ∀ w : World, Cs chain.length (some v) w → Q .normal a w
  | _, _, _, _ => False
section
variable {P : Program} {ops : Array Oper} {a0 : Act} {Q : Exit → Act → World → Prop}
theorem wpChv_use {Cs : Nat → Option Value → World → Prop} {chain lims : List Nat} {q : Nat} {v : Value} (vals : Nat → Value) : ∀ (l : List Oper) (cs : List Value) (i : Nat) (a : Act),
    (∀ j, j < l.length → l[j]? = ops[i + j]?) → (∀ j, j < cs.length → cs[j]? = some (vals (i + j))) → a = fill ops vals (fun _ => true) a0 i → wpChv P ops Cs chain lims q v Q i l cs a →
    (∀ j o, i ≤ j → j < i + l.length → ops[j]? = some o → if j = q then ∀ (t : Nat) (w : World), t ≤ lims.getD j chain.length → Cs t none w → upon P (fun u w' => Cs t (some u) w') w ((execOp (fill ops vals (fun _ => true) a0 j).eval o).run P w)
     else match chain.findIdx? (· == j) with
      | none => ∀ (t : Nat) (ou : Option Value) (w : World), t ≤ lims.getD j chain.length → (waits ops j q = true → ou = some v) → Cs t ou w → upon P (fun u w' => u = vals j ∧ Cs t ou w') w ((execOp (fill ops vals (fun _ => true) a0 j).eval o).run P w)
      | some t => ∀ (ou : Option Value) (w : World), (waits ops j q = true → ou = some v) → Cs t ou w → upon P (fun u w' => u = vals j ∧ Cs (t + 1) ou w') w ((execOp (fill ops vals (fun _ => true) a0 j).eval o).run P w)) ∧
    (∀ w, Cs chain.length (some v) w → Q .normal (fill ops vals (fun _ => true) a0 (i + l.length)) w)
  | [], [], i, a, hl, hk, ha, h => by
    refine ⟨fun j o hij hlt => absurd hlt (by simp; omega), fun w hC => ?_⟩
    simp only [List.length_nil, Nat.add_zero]
    rw [← ha]
    exact h w hC
  | [], _ :: _, _, _, _, _, _, h => by simp [wpChv] at h
  | _ :: _, [], _, _, _, _, _, h => by simp [wpChv] at h
  | o :: rest, c :: cs, i, a, hl, hk, ha, h => by
    have ho : ops[i]? = some o := by simpa using (hl 0 (by simp)).symm
    have hc : c = vals i := by simpa using hk 0 (by simp)
    have hl' : ∀ j, j < rest.length → rest[j]? = ops[i + 1 + j]? := fun j hj => by have := hl (j + 1) (by simp; omega); simpa [Nat.add_assoc, Nat.add_comm 1 j] using this
    have hk' : ∀ j, j < cs.length → cs[j]? = some (vals (i + 1 + j)) := fun j hj => by have := hk (j + 1) (by simp; omega); simpa [Nat.add_assoc, Nat.add_comm 1 j] using this
    have hput : a.put o.dst (vals i) = fill ops vals (fun _ => true) a0 (i + 1) := by
      rw [ha]; show _ = if true = true then _ else _
      rw [if_pos rfl]; simp [dstOf, ho]
    obtain ⟨h1, h2⟩ := h
    rw [hc, hput] at h2
    obtain ⟨r1, r2⟩ := wpChv_use vals rest cs (i + 1) _ hl' hk' rfl h2
    have hN : i + (o :: rest).length = i + 1 + rest.length := by simp; omega
    rw [hN]
    refine ⟨fun j o' hij hjN ho' => ?_, r2⟩
    by_cases e : i = j
    · subst e
      obtain rfl : o = o' := Option.some.inj (ho.symm.trans ho')
      rw [← ha, ← hc]
      exact h1
    · exact r1 j o' (by omega) hjN ho'
end
/-- ONE WALK, IN THE ORDER OF THE TEXT, SERVES EVERY ORDER. cs: the values; at place q stands whatever the new variable is. -/
theorem wp_region_chainF {P : Program} {id : Nat} {Q : Exit → Act → World → Prop} {a : Act} {w : World} {l : List Oper} (Cs : Nat → Option Value → World → Prop) (chain lims : List Nat) (q : Nat) (cs : Value → List Value) (hm : P.follows .mixedOrders = true) (hok : okB l.toArray = true) (hlk : linked l.toArray chain = true) (hch : chain.all (fun k => decide (k < l.length)) = true) (hli : limOk l.toArray chain lims = true) (hq : chain.all (fun k => k != q) = true)
    (hcs : ∀ v k, k ≠ q → (cs v).getD k undef = (cs undef).getD k undef) (hcq : ∀ v, (cs v).getD q undef = v) (hql : q < l.length)
    (hw : Cs 0 none { w with drawn := w.drawn + 1 }) (h : ∀ v, wpChv P l.toArray Cs chain lims q v Q 0 l (cs v) a) : (Code.region id l.toArray true).wp P Q a w := by
  refine wp_region_any hm ?_
  have hup : ∀ v, (fun k => (cs v).getD k undef) = updv (fun k => (cs undef).getD k undef) q v := fun v => by
    funext k
    unfold updv
    by_cases e : k = q
    · rw [if_pos e, e, hcq]
    · rw [if_neg e, hcs v k e]
  have use := fun v => wpChv_use (P := P) (ops := l.toArray) (Cs := Cs) (chain := chain) (lims := lims) (q := q) (v := v) (Q := Q) (a0 := a) (updv (fun k => (cs undef).getD k undef) q v) l (cs v) 0 a (fun j _ => by simp) (fun j hj => by rw [← hup v]; simp [hj]) rfl (h v)
  have hphase0 : phase chain (fun k => (Array.replicate l.toArray.size false).getD k false) = 0 := by
    cases chain with
    | nil => rfl
    | cons c r =>
      unfold phase
      rw [List.takeWhile_cons, getD_replicate_false]
      rfl
  have hqc : q ∉ chain := fun hh => by have := List.all_eq_true.1 hq q hh; simp at this
  have main := wpAny_chf (P := P) (ops := l.toArray) (C := fun m v w => Cs (phase chain m) (if m q = true then some v else none) w) (a0 := a) (Q := Q) hok (fun k => (cs undef).getD k undef) q
    (fun i o ho hiq m v w hmi hwi hlate hcl hC => by
      have hlt : i < l.length := by simpa using (Array.getElem?_eq_some_iff.1 ho).1
      have := (use v).1 i o (Nat.zero_le _) (by omega) ho
      rw [if_neg hiq] at this
      have hval : updv (fun k => (cs undef).getD k undef) q v i = (cs undef).getD i undef := by simp [updv, hiq]
      have hmq : (q == i || m q) = m q := by simp [show (q == i) = false by simpa using Ne.symm hiq]
      have hneed : waits l.toArray i q = true → (if m q = true then some v else none) = some v := fun hh => by rw [if_pos (hwi q hh)]
      by_cases hi : i ∈ chain
      · obtain ⟨pre, post, rfl⟩ := List.append_of_mem hi
        have hpre := linked_pre hok hlk m hwi hcl
        have hnp : i ∉ pre := fun hh => absurd (hpre i hh).2 (Nat.lt_irrefl _)
        have hf : (pre ++ i :: post).findIdx? (· == i) = some pre.length := by
          rw [List.findIdx?_append, List.findIdx?_eq_none_iff.2 (fun k hk => by simpa using fun e : k = i => hnp (e ▸ hk))]
          simp [List.findIdx?_cons]
        rw [hf] at this
        have e1 : phase (pre ++ i :: post) m = pre.length := phase_at (fun k hk => (hpre k hk).1) hmi
        have e2 : phase (pre ++ i :: post) (fun k => k == i || m k) = pre.length + 1 := phase_next (fun k hk => (hpre k hk).1) hnp (fun k hk => by
          have hk' := linked_post hlk k hk
          exact ⟨hlate k hk', fun e => by have := waits_back hok hk'; omega⟩)
        rw [e1] at hC
        rw [e2]
        simp only [hmq]
        have := this _ w hneed hC
        rwa [hval] at this
      · have hf : chain.findIdx? (· == i) = none := List.findIdx?_eq_none_iff.2 (fun k hk => by simpa using fun e : k = i => hi (e ▸ hk))
        rw [hf] at this
        rw [phase_other hi]
        simp only [hmq]
        have := this _ _ w (lim_le hli (by simpa using hlt) hmi hcl) hneed hC
        rwa [hval] at this)
    (fun o ho m v w hmi hwi hcl hC => by
      have := (use v).1 q o (Nat.zero_le _) (by omega) ho
      rw [if_pos rfl] at this
      rw [if_neg (by rw [hmi]; decide)] at hC
      have r := this _ w (lim_le hli (by simpa using hql) hmi hcl) hC
      rw [phase_other hqc]
      simpa using r)
    (fun m v w hall hC => by
      have e1 : phase chain m = chain.length := phase_all (fun k hk => hall k (by have := List.all_eq_true.1 hch k hk; simpa using this))
      rw [e1, if_pos (hall q (by simpa using hql))] at hC
      have := (use v).2 w hC
      simpa using this)
    l.toArray.size (Array.replicate l.toArray.size false) undef { w with drawn := w.drawn + 1 }
    ⟨by simp, (fun j oj _ hl => by rw [getD_replicate_false] at hl; exact absurd hl (by simp)), by show Cs (phase chain _) (if (Array.replicate l.toArray.size false).getD q false = true then some undef else none) _; rw [hphase0, getD_replicate_false]; exact hw⟩
    (cnt_replicate _ _)
  have e : ∀ vs : Nat → Value, fill l.toArray vs (fun k => (Array.replicate l.toArray.size false).getD k false) a l.toArray.size = a := by
    intro vs
    have : ∀ n, fill l.toArray vs (fun k => (Array.replicate l.toArray.size false).getD k false) a n = a := by
      intro n
      induction n with
      | zero => rfl
      | succ n ih => unfold fill; rw [getD_replicate_false]; simpa using ih
    exact this _
  rwa [e] at main
end Go.Chn
