/- The same of a region whose first operations come in whatever order and whose last ones come one behind the other: one walk in the order of the text. No program is named. -/
import Derived.Test.YtilbnjldfgofmaaRel
import Derived.StillTail
namespace Go.Rel
open Go Go.RowKit

/-- Of the first n operations: no guard; what one looks at of theirs is waited for; their destinations part. Behind them each waits for the one ahead. -/
def okTB (ops : Array Oper) (n : Nat) : Bool :=
  Region.noSelect ops && distB ops && decide (n < ops.size) && Region.sinkB .any ops n && Region.chainB .any ops n &&
  Region.seqB .any ops (ops.size - n) n ((List.range ops.size).map fun k => decide (k < n)).toArray &&
  (List.range n).all fun i =>
    match ops[i]? with
    | none => false
    | some o => o.guard.isNone && (o.after.all fun e => decide (e.on < i)) &&
      (List.range n).all fun k => match dstOf ops k with
        | none => true
        | some d => !(o.looksAt ops).contains d || (if k < i then waits ops i k else waits ops k i)

section
variable {P : Program} {G : World → World → Prop} {ops : Array Oper} {C : World → Prop} {K : Nat → Kind} {a0 : Act} {Q : Exit → Act → World → Prop} {n : Nat}

theorem okT_at (h : okTB ops n = true) {i : Nat} {o : Oper} (hi : i < n) (ho : ops[i]? = some o) : o.guard = none ∧ (∀ e ∈ o.after, e.on < i) ∧
    (∀ k d, k < n → dstOf ops k = some d → d ∈ o.looksAt ops → (k < i → waits ops i k = true) ∧ (¬ k < i → waits ops k i = true)) := by
  simp only [okTB, Bool.and_eq_true] at h
  have h1 := List.all_eq_true.1 h.2 i (List.mem_range.2 hi)
  simp only [ho, Bool.and_eq_true] at h1
  refine ⟨by simpa using h1.1.1, fun e he => by simpa using Array.all_eq_true_iff_forall_mem.1 h1.1.2 e he, fun k d hk hd hm => ?_⟩
  have h2 := List.all_eq_true.1 h1.2 k (List.mem_range.2 hk)
  simp only [hd] at h2
  have h3 : (o.looksAt ops).contains d = true := by simpa using hm
  rw [h3] at h2
  simp only [Bool.not_true, Bool.false_or] at h2
  by_cases e : k < i
  · rw [if_pos e] at h2; exact ⟨fun _ => h2, fun hn => absurd e hn⟩
  · rw [if_neg e] at h2; exact ⟨fun hn => absurd hn e, fun _ => h2⟩

structure InvT (ops : Array Oper) (C : World → Prop) (K : Nat → Kind) (n : Nat) (listed : Array Bool) (vals : Nat → Value) (w : World) : Prop where
  head : HeadInv .any ops n listed
  cls : C w
  facts : ∀ k, k < n → listed.getD k false = true → holds (K k) (vals k) w
  dets : ∀ k c, K k = .inl c → vals k = c

theorem wpAny_relT (hok : okTB ops n = true) (hC : Up G C) (hK : ∀ k, upK G (K k))
    (hstep : ∀ i o, i < n → ops[i]? = some o → ∀ vals : Nat → Value, (∀ k c, K k = .inl c → vals k = c) → ∀ w, C w → (∀ k, waits ops i k = true → holds (K k) (vals k) w) →
      relUpon P G (holds (K i)) w ((execOp (fill ops vals (fun _ => true) a0 i).eval o).run P w))
    (hend : ∀ vals : Nat → Value, (∀ k c, K k = .inl c → vals k = c) → ∀ w, C w → (∀ k, k < n → holds (K k) (vals k) w) →
      wpAny P .any ops Q (ops.size - n) ((List.range ops.size).map fun k => decide (k < n)).toArray (fill ops vals (fun _ => true) a0 n) w) :
    ∀ (fuel : Nat) (listed : Array Bool) (vals : Nat → Value) (w : World), InvT ops C K n listed vals w → cnt listed n = fuel →
      wpAny P .any ops Q (fuel + (ops.size - n)) listed (fill ops vals (fun k => listed.getD k false) a0 n) w := by
  have hB := hok
  simp only [okTB, Bool.and_eq_true, decide_eq_true_eq] at hB
  obtain ⟨⟨⟨⟨⟨⟨hsel, hD⟩, hn⟩, hs⟩, hc⟩, hseq⟩, -⟩ := hB
  have fin : ∀ (listed : Array Bool) (vals : Nat → Value) (w : World), InvT ops C K n listed vals w → (∀ k, k < n → listed.getD k true = true) →
      wpAny P .any ops Q (ops.size - n) listed (fill ops vals (fun k => listed.getD k false) a0 n) w := by
    intro listed vals w inv hall
    have hall' : ∀ k, k < n → listed.getD k false = true := fun k hk => by
      have h1 := hall k hk
      have h3 : k < listed.size := by rw [inv.head.size]; omega
      simp [h3] at h1 ⊢; exact h1
    have hlist : listed = ((List.range ops.size).map fun k => decide (k < n)).toArray := by
      apply Array.ext
      · simp [inv.head.size]
      · intro k h1 h2
        have hk : k < ops.size := by rw [← inv.head.size]; exact h1
        simp only [List.getElem_toArray, List.getElem_map, List.getElem_range]
        by_cases e : k < n
        · have := hall k e
          simp [h1] at this; simp [e, this]
        · have := inv.head.tail k (by omega) hk
          simp [h1] at this; simp [e, this]
    rw [fill_mask (m' := fun _ => true) n (fun k hk => hall' k hk), hlist]
    exact hend vals inv.dets w inv.cls (fun k hk => inv.facts k hk (hall' k hk))
  intro fuel
  induction fuel with
  | zero =>
    intro listed vals w inv hc0
    rw [Nat.zero_add]
    exact fin listed vals w inv (cnt_zero n hc0)
  | succ fuel ih =>
    intro listed vals w inv hc1
    have hex : ∃ i, i < n ∧ listed.getD i true = false := by
      refine Classical.byContradiction fun hne => ?_
      have hz : ∀ m, m ≤ n → cnt listed m = 0 := by
        intro m
        induction m with
        | zero => intro _; rfl
        | succ m ihm =>
          intro hm
          unfold cnt
          rw [ihm (by omega)]
          by_cases e : listed.getD m true = true
          · rw [if_pos e]
          · exact absurd ⟨m, by omega, by simpa using e⟩ hne
      rw [hz n (Nat.le_refl _)] at hc1
      omega
    obtain ⟨i0, hi0, hu0⟩ := hex
    have hpre : ∀ i ∈ Region.ready .any ops listed, i < n := fun i hi => by
      refine Classical.byContradiction fun hge => ?_
      exact tail_waits hs hc hn inv.head _ i0 rfl hi0 hu0 i (by omega) hi
    rw [Nat.add_right_comm]
    refine ⟨fun hr => ?_, fun i hi => ?_⟩
    · exfalso
      have : ∀ m k, k < m → k < n → listed.getD k true = true := by
        intro m
        induction m with
        | zero => intro k hk; omega
        | succ m ihm =>
          intro k hk hkn
          by_cases e : listed.getD k true = true
          · exact e
          · exfalso
            have ho : ops[k]? = some ops[k] := by simp
            have hmem : k ∈ Region.ready .any ops listed := mem_ready.2 ⟨by simpa using e, _, ho, fun e' he' _ => by
              have h1 := (okT_at hok hkn ho).2.1 e' he'
              have h2 := ihm e'.on (by omega) (by omega)
              have h3 : e'.on < listed.size := by rw [inv.head.size]; omega
              simp [h3] at h2 ⊢; exact h2⟩
            rw [hr] at hmem; cases hmem
      rw [this (i0 + 1) i0 (by omega) hi0] at hu0; cases hu0
    have hin := hpre i hi
    obtain ⟨hun, o, ho, hall⟩ := mem_ready.1 hi
    have hlt : i < ops.size := (Array.getElem?_eq_some_iff.1 ho).1
    obtain ⟨hg, hback, hlook⟩ := okT_at hok hin ho
    have hun' : listed.getD i false = false := Rel.getD_both hun
    have hwaits : ∀ k, waits ops i k = true → listed.getD k false = true := fun k hk => by
      obtain ⟨oj, hoj, e, he, hb, hon⟩ := waits_spec hk
      obtain rfl : oj = o := Option.some.inj (hoj.symm.trans ho)
      rw [← hon]; exact hall e he hb
    have hsame : execOp (fill ops vals (fun k => listed.getD k false) a0 n).eval o = execOp (fill ops vals (fun _ => true) a0 i).eval o := by
      rw [← fill_less (i := i) n (by omega)]
      refine execOp_congr o (fun cs b => Region.noSelect_spec hsel i o cs b ho) fun x hx => fill_eval n fun k hk hne d hd hxd => ?_
      have hm : d ∈ o.looksAt ops := by
        subst hxd
        exact List.mem_append_left _ (List.mem_filterMap.2 ⟨.tmp d, by simpa using hx, rfl⟩)
      obtain ⟨l1, l2⟩ := hlook k d hk hd hm
      by_cases e : k < i
      · have := hwaits k (l1 e)
        simp [e, this] at hne
      · have h2 := l2 e
        obtain ⟨ok, hok', e', he', hb', hon'⟩ := waits_spec h2
        have hkl : listed.getD k false = true := by simpa [e] using hne
        have := inv.head.closed k ok hok' hkl e' he' hb'
        rw [hon', hun'] at this; cases this
    have hrel := hstep i o hin ho vals inv.dets w inv.cls (fun k hk => by
      have h1 := hwaits k hk
      obtain ⟨oj, hoj, e, he, hb, hon⟩ := waits_spec hk
      obtain rfl : oj = o := Option.some.inj (hoj.symm.trans ho)
      have := hback e he
      exact inv.facts k (by omega) h1)
    have next : ∀ v w', G w w' → holds (K i) v w' → wpAny P .any ops Q (fuel + (ops.size - n)) (listed.setIfInBounds i true) ((fill ops vals (fun k => listed.getD k false) a0 n).put o.dst v) w' := by
      intro v w' hb hv
      have hsz : i < listed.size := by rw [inv.head.size]; exact hlt
      have key : (fill ops vals (fun k => listed.getD k false) a0 n).put o.dst v = fill ops (fun k => if k = i then v else vals k) (fun k => (listed.setIfInBounds i true).getD k false) a0 n := by
        have hd : o.dst = dstOf ops i := by simp [dstOf, ho]
        rw [fill_insert (m := fun k => listed.getD k false) hD hun' (by simp [hsz]) (fun k hk => getD_set_ne false (Ne.symm hk)) n (by omega) hin, hd]
        simp only [if_true]
        rw [fill_vals (vals' := vals) n (fun k _ hk => if_neg (fun e => by subst e; rw [hun'] at hk; cases hk))]
      rw [key]
      refine ih _ _ w' ⟨inv.head.set hi hin, hC w w' inv.cls hb, fun k hk hl => ?_, fun k c hkc => ?_⟩ ?_
      · by_cases hki : k = i
        · subst hki; simpa using hv
        · rw [getD_set_ne false (Ne.symm hki)] at hl
          simp only [if_neg hki]
          exact holds_up (hK k) (inv.facts k hk hl) hb
      · by_cases hki : k = i
        · subst hki
          rw [hkc] at hv
          have hv : v = c := hv
          simpa using hv
        · simp only [if_neg hki]; exact inv.dets k c hkc
      · have := cnt_set hun n
        rw [if_pos hin] at this
        omega
    unfold wpOp
    simp only [ho]
    have hw : Region.wanted o (yielded ops (fill ops vals (fun k => listed.getD k false) a0 n).tmps) = true := by simp [Region.wanted, hg]
    rw [if_pos hw]
    left
    unfold Oper.wp
    rw [hsame]
    generalize (execOp (fill ops vals (fun _ => true) a0 i).eval o).run P w = r at hrel
    cases r with
    | ok n w' =>
      cases n <;> simp only [relUpon] at hrel <;> simp only [Oper.upon]
      case value u => exact next u w' hrel.1 hrel.2
      case skip => exact next undef w' hrel.1 hrel.2
      case enter f args =>
        obtain ⟨rfl, hc⟩ := hrel
        exact hc.mono fun e w'' ⟨v, he, hb, hv⟩ => by subst he; exact next v w'' hb hv
    | halt x w' => simp only [relUpon] at hrel
end

/-- ONE WALK: the first n operations in whatever order, then the others, one behind the other. -/
theorem wp_region_tail {P : Program} {id : Nat} {Q : Exit → Act → World → Prop} {a : Act} {w : World} {l : List Oper} (n : Nat) (G : World → World → Prop) (C : World → Prop) (ks : List Kind) (hm : P.follows .mixedOrders = true) (hok : okTB l.toArray n = true) (hC : Up G C) (hw : C { w with drawn := w.drawn + 1 })
    (hks : ∀ k ∈ ks, upK G k) (h : wpRel P G l.toArray C (fun _ a' w' => wpList P l.toArray Q (l.drop n) a' w') 0 (l.take n) ks (fun _ _ => True) a) : (Code.region id l.toArray true).wp P Q a w := by
  refine wp_region_any hm ?_
  have hB := hok
  simp only [okTB, Bool.and_eq_true, decide_eq_true_eq] at hB
  obtain ⟨⟨⟨⟨⟨⟨hsel, hD⟩, hn⟩, hs⟩, hc⟩, hseq⟩, -⟩ := hB
  have hn' : n < l.length := by simpa using hn
  have htl : (l.take n).length = n := by simp; omega
  have hdl : (l.drop n).length = l.toArray.size - n := by simp
  have hK : ∀ k, upK G ((fun i => ks.getD i (.inl undef)) k : Kind) := fun k => by
    show upK G (ks.getD k (.inl undef))
    rw [List.getD_eq_getElem?_getD]
    cases hh : ks[k]? with
    | none => exact trivial
    | some x => exact hks x (List.mem_of_getElem? hh)
  have use := fun vals hv => wpRel_use (P := P) (G := G) (ops := l.toArray) (C := C) (Q := fun _ a' w' => wpList P l.toArray Q (l.drop n) a' w') (a0 := a) (Ks := ks) rfl vals hv (l.take n) ks 0 (fun _ _ => True) a (fun j hj => by
    have hj' : j < n := by rw [htl] at hj; exact hj
    simp [hj']) (by simp) rfl (fun _ _ _ => trivial) h
  have H := wpAny_relT (P := P) (G := G) (ops := l.toArray) (C := C) (K := fun i => ks.getD i (.inl undef)) (a0 := a) (Q := Q) (n := n) hok hC hK
    (fun i o hi ho vals hv w hCw hf => (use vals hv).1 i o (Nat.zero_le _) (by rw [htl]; omega) ho w hCw (fun k _ hk => hf k hk) (fun k hk => by
      obtain ⟨oj, hoj, e, he, _, hon⟩ := waits_spec hk
      have := (okT_at hok hi hoj).2.1 e he
      omega))
    (fun vals hv w hCw hf => by
      have := (use vals hv).2 w hCw (by rw [htl]; simpa using hf)
      rw [htl, Nat.zero_add] at this
      have := wpAny_of_seq (md := .any) (ops := l.toArray) (Q' := Q) (l.drop n) n _ _ w (fun j => by simp [List.getElem?_drop]) (by rw [hdl]; exact hseq) this
      rwa [hdl] at this)
    (cnt (Array.replicate l.toArray.size false) n) (Array.replicate l.toArray.size false) (fun k => match ks.getD k (.inl undef) with | .inl c => c | .inr _ => undef) { w with drawn := w.drawn + 1 }
    ⟨⟨by simp, (fun j oj _ hl => by rw [Rel.getD_replicate_false] at hl; exact absurd hl (by simp)), fun t _ ht => by have : t < l.length := (by simpa using ht); simp [this]⟩, hw, (fun k _ hl => by rw [Rel.getD_replicate_false] at hl; exact absurd hl (by simp)), fun k c hkc => by simp only [hkc]⟩
    rfl
  have hcnt : cnt (Array.replicate l.toArray.size false) n = n := by
    have : ∀ m, m ≤ n → cnt (Array.replicate l.toArray.size false) m = m := by
      intro m
      induction m with
      | zero => intro _; rfl
      | succ m ihm =>
        intro hm'
        unfold cnt
        rw [ihm (by omega)]
        have : m < l.length := by omega
        simp [this]
    exact this n (Nat.le_refl _)
  have e : fill l.toArray (fun k => match ks.getD k (.inl undef) with | .inl c => c | .inr _ => undef) (fun k => (Array.replicate l.toArray.size false).getD k false) a n = a := by
    have : ∀ m, fill l.toArray (fun k => match ks.getD k (.inl undef) with | .inl c => c | .inr _ => undef) (fun k => (Array.replicate l.toArray.size false).getD k false) a m = a := by
      intro m
      induction m with
      | zero => rfl
      | succ m ih => unfold fill; rw [Rel.getD_replicate_false]; simpa using ih
    exact this _
  rw [e, hcnt, show n + (l.toArray.size - n) = l.toArray.size by omega] at H
  exact H

end Go.Rel
