/- The same of a region whose first operations come in whatever order and whose last ones come one behind the other: one walk in the order of the text. No program is named. -/
import Derived.Test.YtbjcdpmhmebjnaaGreatB02
import Derived.StillTail
import Derived.Test.YtbjcdpmhmebjnaaGreatB01
namespace Go.Rel
open Go Go.RowKit

/-- Of the first n operations: no guard; what one looks at of theirs is waited for; their destinations part. Behind them each waits for the one ahead. -/
def okTB (ops : Array Oper) (n : Nat) : Bool :=
  Region.noSelect ops && distB ops && decide (n < ops.size) && Region.sinkB .any ops n && Region.chainB .any ops n &&
  Region.seqB .any ops (ops.size - n) n ((List.range ops.size).map fun k => decide (k < n)).toArray &&
  (List.range n).all fun i =>
    match ops[i]? with
    | none => false
    | some o => o.guard.isNone && (o.after.all fun e => decide (e.on < i)) &&
      (List.range n).all fun k => match dstOf ops k with
        | none => true
        | some d => !(o.looksAt ops).contains d || (if k < i then waits ops i k else waits ops k i)

section
variable {P : Program} {G : World → World → Prop} {ops : Array Oper} {C : World → Prop} {K : Nat → Kind} {a0 : Act} {Q : Exit → Act → World → Prop} {n : Nat}

theorem okT_at (h : okTB ops n = true) {i : Nat} {o : Oper} (hi : i < n) (ho : ops[i]? = some o) : o.guard = none ∧ (∀ e ∈ o.after, e.on < i) ∧
    (∀ k d, k < n → dstOf ops k = some d → d ∈ o.looksAt ops → (k < i → waits ops i k = true) ∧ (¬ k < i → waits ops k i = true)) := by
  simp only [okTB, Bool.and_eq_true] at h
  have h1 := List.all_eq_true.1 h.2 i (List.mem_range.2 hi)
  simp only [ho, Bool.and_eq_true] at h1
  refine ⟨by simpa using h1.1.1, fun e he => by simpa using Array.all_eq_true_iff_forall_mem.1 h1.1.2 e he, fun k d hk hd hm => ?_⟩
  have h2 := List.all_eq_true.1 h1.2 k (List.mem_range.2 hk)
  simp only [hd] at h2
  have h3 : (o.looksAt ops).contains d = true := by simpa using hm
  rw [h3] at h2
  simp only [Bool.not_true, Bool.false_or] at h2
  by_cases e : k < i
  · rw [if_pos e] at h2; exact ⟨fun _ => h2, fun hn => absurd e hn⟩
  · rw [if_neg e] at h2; exact ⟨fun hn => absurd hn e, fun _ => h2⟩

structure InvT (ops : Array Oper) (C : World → Prop) (K : Nat → Kind) (n : Nat) (listed : Array Bool) (vals : Nat → Value) (w : World) : Prop where
  head : HeadInv .any ops n listed
  cls : C w
  facts : ∀ k, k < n → listed.getD k false = true → holds (K k) (vals k) w
  dets : ∀ k c, K k = .inl c → vals k = c

theorem wpAny_relT (hok : okTB ops n = true) (hC : Up G C) (hK : ∀ k, upK G (K k))
    (hstep : ∀ i o, i < n → ops[i]? = some o → ∀ vals : Nat → Value, (∀ k c, K k = .inl c → vals k = c) → ∀ w, C w → (∀ k, waits ops i k = true → holds (K k) (vals k) w) →
      relUpon P G (holds (K i)) w ((execOp (fill ops vals (fun _ => true) a0 i).eval o).run P w))
    (hend : ∀ vals : Nat → Value, (∀ k c, K k = .inl c → vals k = c) → ∀ w, C w → (∀ k, k < n → holds (K k) (vals k) w) →
      wpAny P .any ops Q (ops.size - n) ((List.range ops.size).map fun k => decide (k < n)).toArray (fill ops vals (fun _ => true) a0 n) w) :
    ∀ (fuel : Nat) (listed : Array Bool) (vals : Nat → Value) (w : World), InvT ops C K n listed vals w → cnt listed n = fuel →
      wpAny P .any ops Q (fuel + (ops.size - n)) listed (fill ops vals (fun k => listed.getD k false) a0 n) w := by
  have hB := hok
  simp only [okTB, Bool.and_eq_true, decide_eq_true_eq] at hB
  obtain ⟨⟨⟨⟨⟨⟨hsel, hD⟩, hn⟩, hs⟩, hc⟩, hseq⟩, -⟩ := hB
  have fin : ∀ (listed : Array Bool) (vals : Nat → Value) (w : World), InvT ops C K n listed vals w → (∀ k, k < n → listed.getD k true = true) →
      wpAny P .any ops Q (ops.size - n) listed (fill ops vals (fun k => listed.getD k false) a0 n) w := by
    intro listed vals w inv hall
    have hall' : ∀ k, k < n → listed.getD k false = true := fun k hk => by
      have h1 := hall k hk
      have h3 : k < listed.size := by rw [inv.head.size]; omega
      simp [h3] at h1 ⊢; exact h1
    have hlist : listed = ((List.range ops.size).map fun k => decide (k < n)).toArray := by
      apply Array.ext
      · simp [inv.head.size]
      · intro k h1 h2
        have hk : k < ops.size := by rw [← inv.head.size]; exact h1
        simp only [List.getElem_toArray, List.getElem_map, List.getElem_range]
        by_cases e : k < n
        · have := hall k e
          simp [h1] at this; simp [e, this]
        · have := inv.head.tail k (by omega) hk
          simp [h1] at this; simp [e, this]
    rw [fill_mask (m' := fun _ => true) n (fun k hk => hall' k hk), hlist]
    exact hend vals inv.dets w inv.cls (fun k hk => inv.facts k hk (hall' k hk))
  intro fuel
  induction fuel with
  | zero =>
    intro listed vals w inv hc0
    rw [Nat.zero_add]
    exact fin listed vals w inv (cnt_zero n hc0)
  | succ fuel ih =>
    intro listed vals w inv hc1
    have hex : ∃ i, i < n ∧ listed.getD i true = false := by
      refine Classical.byContradiction fun hne => ?_
      have hz : ∀ m, m ≤ n → cnt listed m = 0 := by
        intro m
        induction m with
        | zero => intro _; rfl
        | succ m ihm =>
          intro hm
          unfold cnt
          rw [ihm (by omega)]
          by_cases e : listed.getD m true = true
          · rw [if_pos e]
          · exact absurd ⟨m, by omega, by simpa using e⟩ hne
      rw [hz n (Nat.le_refl _)] at hc1
      omega
    obtain ⟨i0, hi0, hu0⟩ := hex
    have hpre : ∀ i ∈ Region.ready .any ops listed, i < n := fun i hi => by
      refine Classical.byContradiction fun hge => ?_
      exact tail_waits hs hc hn inv.head _ i0 rfl hi0 hu0 i (by omega) hi
    rw [Nat.add_right_comm]
    refine ⟨fun hr => ?_, fun i hi => ?_⟩
    · exfalso
      have : ∀ m k, k < m → k < n → listed.getD k true = true := by
        intro m
        induction m with
        | zero => intro k hk; omega
        | succ m ihm =>
          intro k hk hkn
          by_cases e : listed.getD k true = true
          · exact e
          · exfalso
            have ho : ops[k]? = some ops[k] := by simp
            have hmem : k ∈ Region.ready .any ops listed := mem_ready.2 ⟨by simpa using e, _, ho, fun e' he' _ => by
              have h1 := (okT_at hok hkn ho).2.1 e' he'
              have h2 := ihm e'.on (by omega) (by omega)
              have h3 : e'.on < listed.size := by rw [inv.head.size]; omega
              simp [h3] at h2 ⊢; exact h2⟩
            rw [hr] at hmem; cases hmem
      rw [this (i0 + 1) i0 (by omega) hi0] at hu0; cases hu0
    have hin := hpre i hi
    obtain ⟨hun, o, ho, hall⟩ := mem_ready.1 hi
    have hlt : i < ops.size := (Array.getElem?_eq_some_iff.1 ho).1
    obtain ⟨hg, hback, hlook⟩ := okT_at hok hin ho
    have hun' : listed.getD i false = false := Rel.getD_both hun
    have hwaits : ∀ k, waits ops i k = true → listed.getD k false = true := fun k hk => by
      obtain ⟨oj, hoj, e, he, hb, hon⟩ := waits_spec hk
      obtain rfl : oj = o := Option.some.inj (hoj.symm.trans ho)
      rw [← hon]; exact hall e he hb
    have hsame : execOp (fill ops vals (fun k => listed.getD k false) a0 n).eval o = execOp (fill ops vals (fun _ => true) a0 i).eval o := by
      rw [← fill_less (i := i) n (by omega)]
      refine execOp_congr o (fun cs b => Region.noSelect_spec hsel i o cs b ho) fun x hx => fill_eval n fun k hk hne d hd hxd => ?_
      have hm : d ∈ o.looksAt ops := by
        subst hxd
        exact List.mem_append_left _ (List.mem_filterMap.2 ⟨.tmp d, by simpa using hx, rfl⟩)
      obtain ⟨l1, l2⟩ := hlook k d hk hd hm
      by_cases e : k < i
      · have := hwaits k (l1 e)
        simp [e, this] at hne
      · have h2 := l2 e
        obtain ⟨ok, hok', e', he', hb', hon'⟩ := waits_spec h2
        have hkl : listed.getD k false = true := by simpa [e] using hne
        have := inv.head.closed k ok hok' hkl e' he' hb'
        rw [hon', hun'] at this; cases this
    have hrel := hstep i o hin ho vals inv.dets w inv.cls (fun k hk => by
      have h1 := hwaits k hk
      obtain ⟨oj, hoj, e, he, hb, hon⟩ := waits_spec hk
      obtain rfl : oj = o := Option.some.inj (hoj.symm.trans ho)
      have := hback e he
      exact inv.facts k (by omega) h1)
    have next : ∀ v w', G w w' → holds (K i) v w' → wpAny P .any ops Q (fuel + (ops.size - n)) (listed.setIfInBounds i true) ((fill ops vals (fun k => listed.getD k false) a0 n).put o.dst v) w' := by
      intro v w' hb hv
      have hsz : i < listed.size := by rw [inv.head.size]; exact hlt
      have key : (fill ops vals (fun k => listed.getD k false) a0 n).put o.dst v = fill ops (fun k => if k = i then v else vals k) (fun k => (listed.setIfInBounds i true).getD k false) a0 n := by
        have hd : o.dst = dstOf ops i := by simp [dstOf, ho]
        rw [fill_insert (m := fun k => listed.getD k false) hD hun' (by simp [hsz]) (fun k hk => getD_set_ne false (Ne.symm hk)) n (by omega) hin, hd]
        simp only [if_true]
        rw [fill_vals (vals' := vals) n (fun k _ hk => if_neg (fun e => by subst e; rw [hun'] at hk; cases hk))]
      rw [key]
      refine ih _ _ w' ⟨inv.head.set hi hin, hC w w' inv.cls hb, fun k hk hl => ?_, fun k c hkc => ?_⟩ ?_
      · by_cases hki : k = i
        · subst hki; simpa using hv
        · rw [getD_set_ne false (Ne.symm hki)] at hl
          simp only [if_neg hki]
          exact holds_up (hK k) (inv.facts k hk hl) hb
      · by_cases hki : k = i
        · subst hki
          rw [hkc] at hv
          have hv : v = c := hv
          simpa using hv
        · simp only [if_neg hki]; exact inv.dets k c hkc
      · have := cnt_set hun n
        rw [if_pos hin] at this
        omega
    unfold wpOp
    simp only [ho]
    have hw : Region.wanted o (yielded ops (fill ops vals (fun k => listed.getD k false) a0 n).tmps) = true := by simp [Region.wanted, hg]
    rw [if_pos hw]
    left
    unfold Oper.wp
    rw [hsame]
    generalize (execOp (fill ops vals (fun _ => true) a0 i).eval o).run P w = r at hrel
    cases r with
    | ok n w' =>
      cases n <;> simp only [relUpon] at hrel <;> simp only [Oper.upon]
      case value u => exact next u w' hrel.1 hrel.2
      case skip => exact next undef w' hrel.1 hrel.2
      case enter f args =>
        obtain ⟨rfl, hc⟩ := hrel
        exact hc.mono fun e w'' ⟨v, he, hb, hv⟩ => by subst he; exact next v w'' hb hv
    | halt x w' => simp only [relUpon] at hrel
end

/-- ONE WALK: the first n operations in whatever order, then the others, one behind the other. -/
theorem wp_region_tail {P : Program} {id : Nat} {Q : Exit → Act → World → Prop} {a : Act} {w : World} {l : List Oper} (n : Nat) (G : World → World → Prop) (C : World → Prop) (ks : List Kind) (hm : P.follows .mixedOrders = true) (hok : okTB l.toArray n = true) (hC : Up G C) (hw : C { w with drawn := w.drawn + 1 })
    (hks : ∀ k ∈ ks, upK G k) (h : wpRel P G l.toArray C (fun _ a' w' => wpList P l.toArray Q (l.drop n) a' w') 0 (l.take n) ks (fun _ _ => True) a) : (Code.region id l.toArray true).wp P Q a w := by
  refine wp_region_any hm ?_
  have hB := hok
  simp only [okTB, Bool.and_eq_true, decide_eq_true_eq] at hB
  obtain ⟨⟨⟨⟨⟨⟨hsel, hD⟩, hn⟩, hs⟩, hc⟩, hseq⟩, -⟩ := hB
  have hn' : n < l.length := by simpa using hn
  have htl : (l.take n).length = n := by simp; omega
  have hdl : (l.drop n).length = l.toArray.size - n := by simp
  have hK : ∀ k, upK G ((fun i => ks.getD i (.inl undef)) k : Kind) := fun k => by
    show upK G (ks.getD k (.inl undef))
    rw [List.getD_eq_getElem?_getD]
    cases hh : ks[k]? with
    | none => exact trivial
    | some x => exact hks x (List.mem_of_getElem? hh)
  have use := fun vals hv => wpRel_use (P := P) (G := G) (ops := l.toArray) (C := C) (Q := fun _ a' w' => wpList P l.toArray Q (l.drop n) a' w') (a0 := a) (Ks := ks) rfl vals hv (l.take n) ks 0 (fun _ _ => True) a (fun j hj => by
    have hj' : j < n := by rw [htl] at hj; exact hj
    simp [hj']) (by simp) rfl (fun _ _ _ => trivial) h
  have H := wpAny_relT (P := P) (G := G) (ops := l.toArray) (C := C) (K := fun i => ks.getD i (.inl undef)) (a0 := a) (Q := Q) (n := n) hok hC hK
    (fun i o hi ho vals hv w hCw hf => (use vals hv).1 i o (Nat.zero_le _) (by rw [htl]; omega) ho w hCw (fun k _ hk => hf k hk) (fun k hk => by
      obtain ⟨oj, hoj, e, he, _, hon⟩ := waits_spec hk
      have := (okT_at hok hi hoj).2.1 e he
      omega))
    (fun vals hv w hCw hf => by
      have := (use vals hv).2 w hCw (by rw [htl]; simpa using hf)
      rw [htl, Nat.zero_add] at this
      have := wpAny_of_seq (md := .any) (ops := l.toArray) (Q' := Q) (l.drop n) n _ _ w (fun j => by simp [List.getElem?_drop]) (by rw [hdl]; exact hseq) this
      rwa [hdl] at this)
    (cnt (Array.replicate l.toArray.size false) n) (Array.replicate l.toArray.size false) (fun k => match ks.getD k (.inl undef) with | .inl c => c | .inr _ => undef) { w with drawn := w.drawn + 1 }
    ⟨⟨by simp, (fun j oj _ hl => by rw [Rel.getD_replicate_false] at hl; exact absurd hl (by simp)), fun t _ ht => by have : t < l.length := (by simpa using ht); simp [this]⟩, hw, (fun k _ hl => by rw [Rel.getD_replicate_false] at hl; exact absurd hl (by simp)), fun k c hkc => by simp only [hkc]⟩
    rfl
  have hcnt : cnt (Array.replicate l.toArray.size false) n = n := by
    have : ∀ m, m ≤ n → cnt (Array.replicate l.toArray.size false) m = m := by
      intro m
      induction m with
      | zero => intro _; rfl
      | succ m ihm =>
        intro hm'
        unfold cnt
        rw [ihm (by omega)]
        have : m < l.length := by omega
        simp [this]
    exact this n (Nat.le_refl _)
  have e : fill l.toArray (fun k => match ks.getD k (.inl undef) with | .inl c => c | .inr _ => undef) (fun k => (Array.replicate l.toArray.size false).getD k false) a n = a := by
    have : ∀ m, fill l.toArray (fun k => match ks.getD k (.inl undef) with | .inl c => c | .inr _ => undef) (fun k => (Array.replicate l.toArray.size false).getD k false) a m = a := by
      intro m
      induction m with
      | zero => rfl
      | succ m ih => unfold fill; rw [Rel.getD_replicate_false]; simpa using ih
    exact this _
  rw [e, hcnt, show n + (l.toArray.size - n) = l.toArray.size by omega] at H
  exact H

end Go.Rel
/- The address of an access, as a step reckons it: a contract. -/
namespace Go.Proofs.YtbjcdpmhmebjnaaGreat
open Go.RowKit

/-- The step lies in its block still. -/
structure Sg (g : Nat) (s : Stp) (w0 w : World) : Prop where
  below : Below w0.heap.size w0 w
  row : w.heap[g]? = some (.cells s.cells 58)
theorem Sg.grow {g : Nat} {s : Stp} {w0 w w' : World} (h : Sg g s w0 w) (hb : Below w.heap.size w w') : Sg g s w0 w' := ⟨r_below_then h.below hb, keep_row h.row hb⟩
theorem sg_up (g : Nat) (s : Stp) (w0 : World) : Rel.Up Rel.Grows (fun w => Sg g s w0 w) := fun _ _ h hb => h.grow hb
set_option maxRecDepth 4000 in
set_option maxHeartbeats 2000000 in
theorem address_a (g : Nat) (s : Stp) (w : World) (h : w.heap[g]? = some (.cells s.cells 58)) (ho : s.i.op = 19 ∨ s.i.op = 20) (ha : s.i.amount = 0) : Calls Tryz.prog 219 #[.pointer (some ⟨g, 0, none⟩)] w fun e w' => e = .returned (.int .u64 (u64 (spX s.c s.i.rn + u64 (xV s.c s.i.rm * 2 ^ (0 : Nat))))) ∧ Below w.heap.size w w' := by
  go_enter Tryz.func219, Tryz.ntmps219
  have c3 := at_i h 3 (.int .i64 s.i.rn) (by decide) rfl
  go_upto_region 2 with (go_at_call 195; refine (xOrSP_c g s _ _ h).mono ?_; rintro e w1 ⟨rfl, hB1⟩; dsimp only)
  have hs1 := keep_row h hB1
  have c0 := at_i hs1 0 (.int .i64 s.i.op) (by decide) rfl
  rcases ho with ho | ho
  all_goals
    rw [ho] at c0
    go_upto_region 3 with fail
    refine Rel.wp_region_tail 15 Rel.Grows (fun x => Sg g s w x) [.inl (.int .u64 (spX s.c s.i.rn)), .inl (.pointer (some ⟨g, 0, none⟩)), .inl (.pointer (some ⟨g, 0, none⟩)), .inl (.pointer (some ⟨g, 0, none⟩)), .inl (.pointer (some ⟨g, 0, none⟩)), .inl (.pointer (some ⟨g, 4, none⟩)), .inl (.int .i64 s.i.rm), .inl (.int .u64 (xV s.c s.i.rm)), .inl (.pointer (some ⟨g, 0, none⟩)), .inl (.pointer (some ⟨g, 0, none⟩)), .inl (.pointer (some ⟨g, 0, none⟩)), .inl (.pointer (some ⟨g, 8, none⟩)), .inl (.int .i64 0), .inl (.int .u64 (u64 (xV s.c s.i.rm * 1))), .inl (.int .u64 (u64 (spX s.c s.i.rn + (u64 (xV s.c s.i.rm * 1)))))] (by kernel_rfl) (by kernel_rfl) (sg_up g s w) (Sg.grow ⟨r_below_then (Below.refl _ _) hB1, hs1⟩ ⟨rfl, rfl, rfl, Nat.le_refl _, fun _ _ => rfl⟩) (by simp [Rel.upK]) ?_
    refine ⟨fun w1 hC _ => by go_simp; first | exact Below.refl _ _ | exact ⟨Below.refl _ _, rfl⟩, ?_⟩
    simp only [Act.put, List.setIfInBounds_toArray, List.set_cons_succ, List.set_cons_zero]
    refine ⟨fun w1 hC _ => by go_simp; first | exact Below.refl _ _ | exact ⟨Below.refl _ _, rfl⟩, ?_⟩
    simp only [Act.put, List.setIfInBounds_toArray, List.set_cons_succ, List.set_cons_zero]
    refine ⟨fun w1 hC _ => by go_simp; first | exact Below.refl _ _ | exact ⟨Below.refl _ _, rfl⟩, ?_⟩
    simp only [Act.put, List.setIfInBounds_toArray, List.set_cons_succ, List.set_cons_zero]
    refine ⟨fun w1 hC _ => by go_simp; first | exact Below.refl _ _ | exact ⟨Below.refl _ _, rfl⟩, ?_⟩
    simp only [Act.put, List.setIfInBounds_toArray, List.set_cons_succ, List.set_cons_zero]
    refine ⟨fun w1 hC _ => by go_simp; first | exact Below.refl _ _ | exact ⟨Below.refl _ _, rfl⟩, ?_⟩
    simp only [Act.put, List.setIfInBounds_toArray, List.set_cons_succ, List.set_cons_zero]
    refine ⟨fun w1 hC _ => by go_simp; first | exact Below.refl _ _ | exact ⟨Below.refl _ _, rfl⟩, ?_⟩
    simp only [Act.put, List.setIfInBounds_toArray, List.set_cons_succ, List.set_cons_zero]
    refine ⟨fun w1 hC _ => by have hq := at_i hC.row 4 (.int .i64 s.i.rm) (by decide) rfl; go_simp; first | exact Below.refl _ _ | exact ⟨Below.refl _ _, rfl⟩, ?_⟩
    simp only [Act.put, List.setIfInBounds_toArray, List.set_cons_succ, List.set_cons_zero]
    refine ⟨fun w1 hC _ => by go_simp; refine (sx_c g s _ w1 hC.row).mono ?_; rintro e w2 ⟨rfl, hb⟩; exact ⟨rfl, hb⟩, ?_⟩
    simp only [Act.put, List.setIfInBounds_toArray, List.set_cons_succ, List.set_cons_zero]
    refine ⟨fun w1 hC _ => by go_simp; first | exact Below.refl _ _ | exact ⟨Below.refl _ _, rfl⟩, ?_⟩
    simp only [Act.put, List.setIfInBounds_toArray, List.set_cons_succ, List.set_cons_zero]
    refine ⟨fun w1 hC _ => by go_simp; first | exact Below.refl _ _ | exact ⟨Below.refl _ _, rfl⟩, ?_⟩
    simp only [Act.put, List.setIfInBounds_toArray, List.set_cons_succ, List.set_cons_zero]
    refine ⟨fun w1 hC _ => by go_simp; first | exact Below.refl _ _ | exact ⟨Below.refl _ _, rfl⟩, ?_⟩
    simp only [Act.put, List.setIfInBounds_toArray, List.set_cons_succ, List.set_cons_zero]
    refine ⟨fun w1 hC _ => by go_simp; first | exact Below.refl _ _ | exact ⟨Below.refl _ _, rfl⟩, ?_⟩
    simp only [Act.put, List.setIfInBounds_toArray, List.set_cons_succ, List.set_cons_zero]
    refine ⟨fun w1 hC _ => by have hq := (by have hq := at_i hC.row 8 (.int .i64 s.i.amount) (by decide) rfl; rw [ha] at hq; exact hq : w1.cell? ⟨g, 8, none⟩ = some (.int .i64 0)); go_simp; first | exact Below.refl _ _ | exact ⟨Below.refl _ _, rfl⟩, ?_⟩
    simp only [Act.put, List.setIfInBounds_toArray, List.set_cons_succ, List.set_cons_zero]
    refine ⟨fun w1 hC _ => by go_simp; first | exact Below.refl _ _ | exact ⟨Below.refl _ _, rfl⟩ | (refine ⟨Below.refl _ _, ?_⟩; simp only [u64, wrapU]) | (refine ⟨Below.refl _ _, ?_⟩; trace_state; simp [u64, wrapU]), ?_⟩
    simp only [Act.put, List.setIfInBounds_toArray, List.set_cons_succ, List.set_cons_zero]
    refine ⟨fun w1 hC _ => by go_simp; first | exact Below.refl _ _ | exact ⟨Below.refl _ _, rfl⟩ | (refine ⟨Below.refl _ _, ?_⟩; simp only [u64, wrapU]) | (refine ⟨Below.refl _ _, ?_⟩; trace_state; simp [u64, wrapU]), ?_⟩
    simp only [Act.put, List.setIfInBounds_toArray, List.set_cons_succ, List.set_cons_zero]
    intro w2 hC _
    clear c0 c3 hs1
    simp only [List.drop_succ_cons, List.drop_zero]
    go_wp2
    go_ret
    exact ⟨by rfl, hC.below⟩
set_option maxRecDepth 4000 in
set_option maxHeartbeats 2000000 in
theorem address_b (g : Nat) (s : Stp) (w : World) (h : w.heap[g]? = some (.cells s.cells 58)) (ho : s.i.op = 19 ∨ s.i.op = 20) (ha : s.i.amount = 3) : Calls Tryz.prog 219 #[.pointer (some ⟨g, 0, none⟩)] w fun e w' => e = .returned (.int .u64 (u64 (spX s.c s.i.rn + u64 (xV s.c s.i.rm * 2 ^ (3 : Nat))))) ∧ Below w.heap.size w w' := by
  go_enter Tryz.func219, Tryz.ntmps219
  have c3 := at_i h 3 (.int .i64 s.i.rn) (by decide) rfl
  go_upto_region 2 with (go_at_call 195; refine (xOrSP_c g s _ _ h).mono ?_; rintro e w1 ⟨rfl, hB1⟩; dsimp only)
  have hs1 := keep_row h hB1
  have c0 := at_i hs1 0 (.int .i64 s.i.op) (by decide) rfl
  rcases ho with ho | ho
  all_goals
    rw [ho] at c0
    go_upto_region 3 with fail
    refine Rel.wp_region_tail 15 Rel.Grows (fun x => Sg g s w x) [.inl (.int .u64 (spX s.c s.i.rn)), .inl (.pointer (some ⟨g, 0, none⟩)), .inl (.pointer (some ⟨g, 0, none⟩)), .inl (.pointer (some ⟨g, 0, none⟩)), .inl (.pointer (some ⟨g, 0, none⟩)), .inl (.pointer (some ⟨g, 4, none⟩)), .inl (.int .i64 s.i.rm), .inl (.int .u64 (xV s.c s.i.rm)), .inl (.pointer (some ⟨g, 0, none⟩)), .inl (.pointer (some ⟨g, 0, none⟩)), .inl (.pointer (some ⟨g, 0, none⟩)), .inl (.pointer (some ⟨g, 8, none⟩)), .inl (.int .i64 3), .inl (.int .u64 (u64 (xV s.c s.i.rm * 8))), .inl (.int .u64 (u64 (spX s.c s.i.rn + (u64 (xV s.c s.i.rm * 8)))))] (by kernel_rfl) (by kernel_rfl) (sg_up g s w) (Sg.grow ⟨r_below_then (Below.refl _ _) hB1, hs1⟩ ⟨rfl, rfl, rfl, Nat.le_refl _, fun _ _ => rfl⟩) (by simp [Rel.upK]) ?_
    refine ⟨fun w1 hC _ => by go_simp; first | exact Below.refl _ _ | exact ⟨Below.refl _ _, rfl⟩, ?_⟩
    simp only [Act.put, List.setIfInBounds_toArray, List.set_cons_succ, List.set_cons_zero]
    refine ⟨fun w1 hC _ => by go_simp; first | exact Below.refl _ _ | exact ⟨Below.refl _ _, rfl⟩, ?_⟩
    simp only [Act.put, List.setIfInBounds_toArray, List.set_cons_succ, List.set_cons_zero]
    refine ⟨fun w1 hC _ => by go_simp; first | exact Below.refl _ _ | exact ⟨Below.refl _ _, rfl⟩, ?_⟩
    simp only [Act.put, List.setIfInBounds_toArray, List.set_cons_succ, List.set_cons_zero]
    refine ⟨fun w1 hC _ => by go_simp; first | exact Below.refl _ _ | exact ⟨Below.refl _ _, rfl⟩, ?_⟩
    simp only [Act.put, List.setIfInBounds_toArray, List.set_cons_succ, List.set_cons_zero]
    refine ⟨fun w1 hC _ => by go_simp; first | exact Below.refl _ _ | exact ⟨Below.refl _ _, rfl⟩, ?_⟩
    simp only [Act.put, List.setIfInBounds_toArray, List.set_cons_succ, List.set_cons_zero]
    refine ⟨fun w1 hC _ => by go_simp; first | exact Below.refl _ _ | exact ⟨Below.refl _ _, rfl⟩, ?_⟩
    simp only [Act.put, List.setIfInBounds_toArray, List.set_cons_succ, List.set_cons_zero]
    refine ⟨fun w1 hC _ => by have hq := at_i hC.row 4 (.int .i64 s.i.rm) (by decide) rfl; go_simp; first | exact Below.refl _ _ | exact ⟨Below.refl _ _, rfl⟩, ?_⟩
    simp only [Act.put, List.setIfInBounds_toArray, List.set_cons_succ, List.set_cons_zero]
    refine ⟨fun w1 hC _ => by go_simp; refine (sx_c g s _ w1 hC.row).mono ?_; rintro e w2 ⟨rfl, hb⟩; exact ⟨rfl, hb⟩, ?_⟩
    simp only [Act.put, List.setIfInBounds_toArray, List.set_cons_succ, List.set_cons_zero]
    refine ⟨fun w1 hC _ => by go_simp; first | exact Below.refl _ _ | exact ⟨Below.refl _ _, rfl⟩, ?_⟩
    simp only [Act.put, List.setIfInBounds_toArray, List.set_cons_succ, List.set_cons_zero]
    refine ⟨fun w1 hC _ => by go_simp; first | exact Below.refl _ _ | exact ⟨Below.refl _ _, rfl⟩, ?_⟩
    simp only [Act.put, List.setIfInBounds_toArray, List.set_cons_succ, List.set_cons_zero]
    refine ⟨fun w1 hC _ => by go_simp; first | exact Below.refl _ _ | exact ⟨Below.refl _ _, rfl⟩, ?_⟩
    simp only [Act.put, List.setIfInBounds_toArray, List.set_cons_succ, List.set_cons_zero]
    refine ⟨fun w1 hC _ => by go_simp; first | exact Below.refl _ _ | exact ⟨Below.refl _ _, rfl⟩, ?_⟩
    simp only [Act.put, List.setIfInBounds_toArray, List.set_cons_succ, List.set_cons_zero]
    refine ⟨fun w1 hC _ => by have hq := (by have hq := at_i hC.row 8 (.int .i64 s.i.amount) (by decide) rfl; rw [ha] at hq; exact hq : w1.cell? ⟨g, 8, none⟩ = some (.int .i64 3)); go_simp; first | exact Below.refl _ _ | exact ⟨Below.refl _ _, rfl⟩, ?_⟩
    simp only [Act.put, List.setIfInBounds_toArray, List.set_cons_succ, List.set_cons_zero]
    refine ⟨fun w1 hC _ => by go_simp; first | exact Below.refl _ _ | exact ⟨Below.refl _ _, rfl⟩ | (refine ⟨Below.refl _ _, ?_⟩; simp only [u64, wrapU]) | (refine ⟨Below.refl _ _, ?_⟩; trace_state; simp [u64, wrapU]), ?_⟩
    simp only [Act.put, List.setIfInBounds_toArray, List.set_cons_succ, List.set_cons_zero]
    refine ⟨fun w1 hC _ => by go_simp; first | exact Below.refl _ _ | exact ⟨Below.refl _ _, rfl⟩ | (refine ⟨Below.refl _ _, ?_⟩; simp only [u64, wrapU]) | (refine ⟨Below.refl _ _, ?_⟩; trace_state; simp [u64, wrapU]), ?_⟩
    simp only [Act.put, List.setIfInBounds_toArray, List.set_cons_succ, List.set_cons_zero]
    intro w2 hC _
    clear c0 c3 hs1
    simp only [List.drop_succ_cons, List.drop_zero]
    go_wp2
    go_ret
    exact ⟨by rfl, hC.below⟩
set_option maxHeartbeats 1000000 in
theorem address_n (g : Nat) (s : Stp) (w : World) (h : w.heap[g]? = some (.cells s.cells 58)) (h1 : (s.i.op == 19) = false) (h2 : (s.i.op == 20) = false) : Calls Tryz.prog 219 #[.pointer (some ⟨g, 0, none⟩)] w fun e w' => e = .returned (.int .u64 (u64 (spX s.c s.i.rn + u64 s.i.imm))) ∧ Below w.heap.size w w' := by
  go_enter Tryz.func219, Tryz.ntmps219
  have c3 := at_i h 3 (.int .i64 s.i.rn) (by decide) rfl
  go_upto_region 2 with (go_at_call 195; refine (xOrSP_c g s _ _ h).mono ?_; rintro e w1 ⟨rfl, hB1⟩; dsimp only)
  have hs1 := keep_row h hB1
  have c0 := at_i hs1 0 (.int .i64 s.i.op) (by decide) rfl
  have c6 := at_i hs1 6 (.int .i64 s.i.imm) (by decide) rfl
  go_wp2
  go_ret
  exact ⟨r_ret_int (by simp only [u64, wrapU]), hB1⟩
theorem address_c (g : Nat) (s : Stp) (w : World) (h : w.heap[g]? = some (.cells s.cells 58)) (ha : s.i.op = 19 ∨ s.i.op = 20 → s.i.amount = 0 ∨ s.i.amount = 3) : Calls Tryz.prog 219 #[.pointer (some ⟨g, 0, none⟩)] w fun e w' => e = .returned (.int .u64 (adrV s.c s.i)) ∧ Below w.heap.size w w' := by
  by_cases ho : s.i.op = 19 ∨ s.i.op = 20
  · unfold adrV
    rw [if_pos ho]
    rcases ha ho with e | e
    · have := address_a g s w h ho e
      rw [e]
      exact this
    · have := address_b g s w h ho e
      rw [e]
      exact this
  · unfold adrV
    rw [if_neg ho]
    exact address_n g s w h (by simp; omega) (by simp; omega)
end Go.Proofs.YtbjcdpmhmebjnaaGreat
/- What the functions of package regs, and the document's own, make of a state: contracts, for every state. -/
namespace Go.Proofs.YtbjcdpmhmebjnaaGreat
open Go.RowKit

theorem tm_bit {v : Int} (h : U64 v) (m : Int) (k : Nat) (hm : m = 2 ^ k) : ((v / m).tmod 2 == 1) = bitB v k := by
  subst hm
  unfold bitB
  rw [Int.tmod_eq_emod_of_nonneg (Int.ediv_nonneg h.1 (Int.le_of_lt (Int.pow_pos (by decide))))]
theorem tm_31 {v : Int} (h : U64 v) : ((v / 2147483648).tmod 2 == 1) = bitB v 31 := tm_bit h _ 31 rfl
theorem tm_30 {v : Int} (h : U64 v) : ((v / 1073741824).tmod 2 == 1) = bitB v 30 := tm_bit h _ 30 rfl
theorem tm_29 {v : Int} (h : U64 v) : ((v / 536870912).tmod 2 == 1) = bitB v 29 := tm_bit h _ 29 rfl
theorem tm_28 {v : Int} (h : U64 v) : ((v / 268435456).tmod 2 == 1) = bitB v 28 := tm_bit h _ 28 rfl
theorem tm_7 {v : Int} (h : U64 v) : ((v / 128).tmod 2 == 1) = bitB v 7 := tm_bit h _ 7 rfl
/-- A number laid into a cell that is there. -/
theorem wpList_store_int {P : Program} {ops : Array Oper} {rest : List Oper} {o : Oper} {a : Act} {w : World} {Q : Exit → Act → World → Prop} (hgd : o.guard = none) (ty : TypeId) (x y : Operand) (ho : o.op = .store ty x y)
    (g j : Nat) (k : IntKind) (n : Int) (hx : a.eval x = .pointer (some ⟨g, j, none⟩)) (hy : a.eval y = .int k n) (old : Value) (hc : w.cell? ⟨g, j, none⟩ = some old) (hf : w.frozen? ⟨g, j, none⟩ = false) (hi : (P.info? ty).map (·.size) = some 1)
    (h : wpList P ops Q rest (a.put o.dst undef) (w.setCell ⟨g, j, none⟩ (.int k n))) : wpList P ops Q (o :: rest) a w := by
  refine wpList_plain hgd fun K hK => ?_
  unfold Oper.wp execOp
  have hs : (storeVar ty ⟨g, j, none⟩ (.int k n)).run P w = .ok () (w.setCell ⟨g, j, none⟩ (.int k n)) := by
    cases hq : P.info? ty with
    | none => simp [hq] at hi
    | some i =>
      have hs : i.size = 1 := by simpa [hq] using hi
      have hadd : (⟨g, j, none⟩ : Addr).add 0 = ⟨g, j, none⟩ := by unfold Addr.add; split <;> simp_all
      have hst : (store ⟨g, j, none⟩ (.int k n) .plain).run P w = .ok () (w.setCell ⟨g, j, none⟩ (.int k n)) := by
        rw [run_store P w _ _ _ rfl, hc, hf]; rfl
      simp [storeVar, sizeOf, typeInfo, hq, hs, Value.cells, storeCells, hadd, hst]
  simp only [ho, hx, hy, Instr.storeAt, Instr.sureAddr, Sem.run_bind, Sem.run_pure, Result.andThen_ok, hs]
  exact hK _ _ h
theorem put_x (c : Cor) (k : Nat) (v : Int) (h : k < 31) (Z : Obj) (w : World) : ((w.alloc (.cells c.cells 26)).alloc Z).setCell ⟨w.heap.size, k, none⟩ (vU v) = (w.alloc (.cells ({ c with x := c.x.set k v } : Cor).cells 26)).alloc Z := by
  rw [World.setCell_alloc_past Z _ _ _ (by simp), World.setCell_alloc_new, c.setX k v h]
theorem built_some : (Tryz.prog.built 26 []).isSome = true := by kernel_rfl
theorem built_nil : (Tryz.prog.built 26 []).getD #[] = nilC.cells := by kernel_rfl
theorem wpList_build_nil {ops : Array Oper} {rest : List Oper} {o : Oper} {a : Act} {w : World} {Q : Exit → Act → World → Prop} (hw : Region.wanted o (yielded ops a.tmps) = true) (ho : o.op = .build 26 #[])
    (h : wpList Tryz.prog ops Q rest (a.put o.dst nilC.val) w) : wpList Tryz.prog ops Q (o :: rest) a w := by
  have e : (Array.map (fun x : Nat × Operand => match x with | (i, x) => (i, a.eval x)) #[]).toList = [] := by simp
  refine BigFrame.wpList_want hw fun K hK => wp_build 26 #[] ho (by rw [e]; exact built_some) ?_
  refine hK _ _ ?_
  rw [e, built_nil]
  exact h
def setXV (c : Cor) (r v : Int) : Cor := bif regB r then (if h : 0 ≤ r ∧ r < 31 then { c with x := c.x.set r.toNat v (by omega) } else c) else nilC
def setSPV (c : Cor) (v : Int) : Cor := if c.el = 0 then { c with sp0 := v } else if c.el = 1 then { c with sp1 := v } else nilC
def setNzcvV (c : Cor) (u : Int) : Cor := { c with n := bitB u 31, z := bitB u 30, c := bitB u 29, v := bitB u 28 }
def newV (id pc : Int) : Cor := { nilC with id := id, pc := pc, el := 1, mask := true }
set_option maxHeartbeats 1000000 in
theorem SetX_c (c : Cor) (r v : Int) (w : World) : Calls Tryz.prog 230 #[c.val, r_vI r, vU v] w fun e w' => e = .returned (.tuple #[(setXV c r v).val, r_vI (regE r)]) ∧ Below w.heap.size w w' := by
  by_cases h0 : 0 ≤ r
  · by_cases h1 : r < 31
    · have hb : regB r = true := by simp [regB, h0]; omega
      have hne : r ≠ 31 := by omega
      have hv : setXV c r v = { c with x := c.x.set r.toNat v (by omega) } := by simp [setXV, hb, h0, h1]
      rw [hv]
      clear hv
      go_enter Tryz.func230, Tryz.ntmps230
      go_upto_region 4 with (go_at_call 247; refine (isRegister_c _ _).mono ?_; rintro e w1 ⟨rfl, rfl⟩)
      iterate 13 go_step
      refine wpList_store_int rfl 22 _ _ rfl w.heap.size r.toNat .u64 v rfl rfl (vU (xV c r)) ?_ (frozen_of_row _ _ _ _ _ (heap_alloc2_old _ _ _)) (by kernel_rfl) ?_
      focus
        rw [cell_of_row _ _ _ _ _ _ (heap_alloc2_old _ _ _), c.atX r.toNat (by omega)]
        simp [xV, h0, show r.toNat < 31 by omega]
      rw [put_x c r.toNat v (by omega)]
      go_upto_region 5 with fail
      go_step
      with_reducible refine wpList_load_row rfl 26 _ rfl _ rfl 26 _ (0, 0) _ (heap_alloc2_old _ _ _) Tryz.underlying26 rfl (Cor.info _) ?_
      simp only [Act.put, List.setIfInBounds_toArray, List.set_cons_succ, List.set_cons_zero]
      with_reducible refine wpList_store_row rfl 26 _ _ rfl _ _ rfl rfl 26 _ (heap_alloc2_new _ _ _) (Cor.info _) ?_ (Cor.one _) ?_
      focus (rw [Cor.size]; rfl)
      go_wp2
      refine bodyPost_ret (back_two rfl _ _ _ _ _ _ rfl (setRow_heap _ _ _ _ _ _ (heap_alloc2_new _ _ _))) rfl ?_
      exact ⟨by first | rfl | (rw [show regE r = 0 by simp [regE, hb]]; rfl), by repeat (first | exact Below.refl _ _ | apply r_below_more | apply below_drew | apply r_below_drewN | (refine r_below_setRow ?_ (by simp)))⟩
    · by_cases h2 : r = 31
      · subst h2
        have hv : setXV c 31 v = c := by simp [setXV, show regB 31 = true by decide]
        rw [hv]
        go_enter Tryz.func230, Tryz.ntmps230
        go_upto_region 5 with (go_at_call 247; refine (isRegister_c _ _).mono ?_; rintro e w1 ⟨rfl, rfl⟩)
        go_step
        with_reducible refine wpList_load_row rfl 26 _ rfl _ rfl 26 _ (0, 0) _ (heap_alloc2_old _ _ _) Tryz.underlying26 rfl (Cor.info _) ?_
        simp only [Act.put, List.setIfInBounds_toArray, List.set_cons_succ, List.set_cons_zero]
        with_reducible refine wpList_store_row rfl 26 _ _ rfl _ _ rfl rfl 26 _ (heap_alloc2_new _ _ _) (Cor.info _) ?_ (Cor.one _) ?_
        focus (rw [Cor.size]; rfl)
        go_wp2
        refine bodyPost_ret (back_two rfl _ _ _ _ _ _ rfl (setRow_heap _ _ _ _ _ _ (heap_alloc2_new _ _ _))) rfl ?_
        exact ⟨rfl, by repeat (first | exact Below.refl _ _ | apply r_below_more | apply below_drew | apply r_below_drewN | (refine r_below_setRow ?_ (by simp)))⟩
      · have hb : regB r = false := by simp [regB]; omega
        have hv : setXV c r v = nilC := by simp [setXV, hb]
        rw [hv]
        have h3 : 31 < r := by omega
        go_enter Tryz.func230, Tryz.ntmps230
        go_upto_region 2 with (go_at_call 247; refine (isRegister_c _ _).mono ?_; rintro e w1 ⟨rfl, rfl⟩)
        go_step
        with_reducible refine wpList_build_nil rfl rfl ?_
        simp only [Act.put, List.setIfInBounds_toArray, List.set_cons_succ, List.set_cons_zero]
        with_reducible refine wpList_store_row rfl 26 _ _ rfl _ _ rfl rfl 26 _ (heap_alloc2_new _ _ _) (Cor.info _) ?_ (Cor.one _) ?_
        focus (rw [Cor.size]; rfl)
        go_wp2
        refine bodyPost_ret (back_two rfl _ _ _ _ _ _ rfl (setRow_heap _ _ _ _ _ _ (heap_alloc2_new _ _ _))) rfl ?_
        exact ⟨by first | rfl | (rw [show regE r = 1 by simp only [regE, hb, cond_false]]; rfl), by repeat (first | exact Below.refl _ _ | apply r_below_more | apply below_drew | apply r_below_drewN | (refine r_below_setRow ?_ (by simp)))⟩
  · have hb : regB r = false := by simp [regB]; omega
    have hv : setXV c r v = nilC := by simp [setXV, hb]
    rw [hv]
    have h3 : r < 0 := by omega
    go_enter Tryz.func230, Tryz.ntmps230
    go_upto_region 2 with (go_at_call 247; refine (isRegister_c _ _).mono ?_; rintro e w1 ⟨rfl, rfl⟩)
    go_step
    with_reducible refine wpList_build_nil rfl rfl ?_
    simp only [Act.put, List.setIfInBounds_toArray, List.set_cons_succ, List.set_cons_zero]
    with_reducible refine wpList_store_row rfl 26 _ _ rfl _ _ rfl rfl 26 _ (heap_alloc2_new _ _ _) (Cor.info _) ?_ (Cor.one _) ?_
    focus (rw [Cor.size]; rfl)
    go_wp2
    refine bodyPost_ret (back_two rfl _ _ _ _ _ _ rfl (setRow_heap _ _ _ _ _ _ (heap_alloc2_new _ _ _))) rfl ?_
    exact ⟨by first | rfl | (rw [show regE r = 1 by simp only [regE, hb, cond_false]]; rfl), by repeat (first | exact Below.refl _ _ | apply r_below_more | apply below_drew | apply r_below_drewN | (refine r_below_setRow ?_ (by simp)))⟩
set_option maxHeartbeats 1000000 in
theorem SetSP_c (c : Cor) (v : Int) (w : World) : Calls Tryz.prog 248 #[c.val, vU v] w fun e w' => e = .returned (.tuple #[(setSPV c v).val, r_vI (spE c)]) ∧ Below w.heap.size w w' := by
  rcases (by omega : c.el = 0 ∨ c.el = 1 ∨ (c.el ≠ 0 ∧ c.el ≠ 1)) with h | h | ⟨h, h'⟩
  · have hv : setSPV c v = { c with sp0 := v } := by simp [setSPV, h]
    have he : spE c = 0 := by simp [spE, h]
    rw [hv, he]
    go_enter Tryz.func248, Tryz.ntmps248
    go_upto_region 4 with (go_at_call 41; refine (isLevel_c _ _).mono ?_; rintro e w1 ⟨rfl, rfl⟩)
    go_step
    with_reducible refine wpList_load_row rfl 26 _ rfl _ rfl 26 _ (0, 0) _ (heap_alloc2_old _ _ _) Tryz.underlying26 rfl (Cor.info _) ?_
    simp only [Act.put, List.setIfInBounds_toArray, List.set_cons_succ, List.set_cons_zero]
    with_reducible refine wpList_store_row rfl 26 _ _ rfl _ _ rfl rfl 26 _ (heap_alloc2_new _ _ _) (Cor.info _) ?_ (Cor.one _) ?_
    focus (rw [Cor.size]; rfl)
    go_wp2
    refine bodyPost_ret (back_two rfl _ _ _ _ _ _ rfl (setRow_heap _ _ _ _ _ _ (heap_alloc2_new _ _ _))) rfl ?_
    exact ⟨by simp [h], by repeat (first | exact Below.refl _ _ | apply r_below_more | apply below_drew | apply r_below_drewN | (refine r_below_setRow ?_ (by simp)))⟩
  · have hv : setSPV c v = { c with sp1 := v } := by simp [setSPV, h]
    have he : spE c = 0 := by simp [spE, h]
    rw [hv, he]
    go_enter Tryz.func248, Tryz.ntmps248
    go_upto_region 4 with (go_at_call 41; refine (isLevel_c _ _).mono ?_; rintro e w1 ⟨rfl, rfl⟩)
    go_step
    with_reducible refine wpList_load_row rfl 26 _ rfl _ rfl 26 _ (0, 0) _ (heap_alloc2_old _ _ _) Tryz.underlying26 rfl (Cor.info _) ?_
    simp only [Act.put, List.setIfInBounds_toArray, List.set_cons_succ, List.set_cons_zero]
    with_reducible refine wpList_store_row rfl 26 _ _ rfl _ _ rfl rfl 26 _ (heap_alloc2_new _ _ _) (Cor.info _) ?_ (Cor.one _) ?_
    focus (rw [Cor.size]; rfl)
    go_wp2
    refine bodyPost_ret (back_two rfl _ _ _ _ _ _ rfl (setRow_heap _ _ _ _ _ _ (heap_alloc2_new _ _ _))) rfl ?_
    exact ⟨by simp [h], by repeat (first | exact Below.refl _ _ | apply r_below_more | apply below_drew | apply r_below_drewN | (refine r_below_setRow ?_ (by simp)))⟩
  · have hv : setSPV c v = nilC := by simp [setSPV, h, h']
    have he : spE c = 1 := by simp [spE, h, h']
    have hb : (c.el == 0 || c.el == 1) = false := by simp [h, h']
    rw [hv, he]
    go_enter Tryz.func248, Tryz.ntmps248
    go_upto_region 2 with (go_at_call 41; refine (isLevel_c _ _).mono ?_; rw [hb]; rintro e w1 ⟨rfl, rfl⟩)
    go_step
    with_reducible refine wpList_build_nil rfl rfl ?_
    simp only [Act.put, List.setIfInBounds_toArray, List.set_cons_succ, List.set_cons_zero]
    with_reducible refine wpList_store_row rfl 26 _ _ rfl _ _ rfl rfl 26 _ (heap_alloc2_new _ _ _) (Cor.info _) ?_ (Cor.one _) ?_
    focus (rw [Cor.size]; rfl)
    go_wp2
    refine bodyPost_ret (back_two rfl _ _ _ _ _ _ rfl (setRow_heap _ _ _ _ _ _ (heap_alloc2_new _ _ _))) rfl ?_
    exact ⟨rfl, by repeat (first | exact Below.refl _ _ | apply r_below_more | apply below_drew | apply r_below_drewN | (refine r_below_setRow ?_ (by simp)))⟩
set_option maxHeartbeats 1000000 in
theorem SetNzcv_c (c : Cor) (v : Int) (hv : Hid (U64 v)) (w : World) : Calls Tryz.prog 241 #[c.val, vU v] w fun e w' => e = .returned (setNzcvV c v).val ∧ Below w.heap.size w w' := by
  have e31 := and_31 hv.out
  have e30 := and_30 hv.out
  have e29 := and_29 hv.out
  have e28 := and_28 hv.out
  go_enter Tryz.func241, Tryz.ntmps241
  go_upto_region 3 with fail
  go_step
  with_reducible refine wpList_load_row rfl 26 _ rfl _ rfl 26 _ (0, 0) _ (heap_alloc2_old _ _ _) Tryz.underlying26 rfl (Cor.info _) ?_
  simp only [Act.put, List.setIfInBounds_toArray, List.set_cons_succ, List.set_cons_zero]
  with_reducible refine wpList_store_row rfl 26 _ _ rfl _ _ rfl rfl 26 _ (heap_alloc2_new _ _ _) (Cor.info _) ?_ (Cor.one _) ?_
  focus (rw [Cor.size]; rfl)
  go_wp2
  refine bodyPost_ret (back_one rfl _ _ _ _ _ _ rfl (setRow_heap _ _ _ _ _ _ (heap_alloc2_new _ _ _))) rfl ?_
  exact ⟨rfl, by repeat (first | exact Below.refl _ _ | apply r_below_more | apply below_drew | apply r_below_drewN | (refine r_below_setRow ?_ (by simp)))⟩
theorem built_new (id pc : Int) : Tryz.prog.built 26 [(15, r_vI id), (2, vU pc), (7, r_vI 1), (8, .bool true)] = some (newV id pc).cells := by kernel_rfl
end Go.Proofs.YtbjcdpmhmebjnaaGreat
/- What is wanted, laid into variables of a call's own and read out of them: laws. -/
namespace Go.Proofs.YtbjcdpmhmebjnaaGreat
open Go.RowKit

theorem info30 : (Tryz.prog.info? 30).map (·.size) = some 10 := by kernel_rfl
theorem Wnt.info (k : Wnt) : (Tryz.prog.info? 30).map (·.size) = some k.cells.size := info30
theorem back_w {fn : Func} {p : Tmp} (h : fn.results = #[.cell p 30]) (tmps : Array Value) (w : World) (g : Nat) (k : Wnt) (fr : Nat × Nat) (t : TypeId)
    (hp : tmps.getD p undef = .pointer (some ⟨g, 0, none⟩)) (hg : w.heap[g]? = some (.cells k.cells t fr)) :
    (results fn tmps).run Tryz.prog w = .ok k.val w :=
  results_cell_row h tmps w g t k.cells fr _ hp hg Tryz.underlying30 rfl k.info
theorem back_wt {fn : Func} {p u : Tmp} (h : fn.results = #[.cell p 30, .tmp u]) (tmps : Array Value) (w : World) (g : Nat) (k : Wnt) (fr : Nat × Nat) (t : TypeId)
    (hp : tmps.getD p undef = .pointer (some ⟨g, 0, none⟩)) (hg : w.heap[g]? = some (.cells k.cells t fr)) :
    (results fn tmps).run Tryz.prog w = .ok (.tuple #[k.val, tmps.getD u undef]) w := by
  rw [results_cell_tmp h]
  simp [hp, asAddr, run_loadVar_row w g t 30 k.cells fr _ hg Tryz.underlying30 rfl k.info]
/-- The result's variable laid. -/
theorem wpList_store_w {w0 : World} {b : Nat} {Z : Array Value} {L : List (Nat × Array Value × TypeId)} {ops : Array Oper} {rest : List Oper} {o : Oper} {a : Act} {w : World} {Q : Exit → Act → World → Prop} (hgd : o.guard = none) (x y : Operand) (ho : o.op = .store 30 x y)
    (H : Has w0 ((b, Z, 30) :: L) w) (hL : ∀ p ∈ L, p.1 ≠ b) (hZ : Z.size = 10) (k : Wnt) (hx : a.eval x = .pointer (some ⟨b, 0, none⟩)) (hy : a.eval y = .agg k.cells)
    (h : ∀ w2, Has w0 ((b, k.cells, 30) :: L) w2 → wpList Tryz.prog ops Q rest (a.put o.dst undef) w2) : wpList Tryz.prog ops Q (o :: rest) a w :=
  wpList_store_over hgd 30 H hL x y ho k.cells hx hy k.info hZ k.one h
theorem no_other {b : Nat} : ∀ p ∈ ([] : List (Nat × Array Value × TypeId)), p.1 ≠ b := fun _ h => absurd h List.not_mem_nil
theorem one_other {b c : Nat} {Z : Array Value} {t : TypeId} (h : c ≠ b) : ∀ p ∈ [(c, Z, t)], p.1 ≠ b := fun p hp => by
  obtain rfl := List.mem_singleton.1 hp
  exact h
theorem wpList_built_w {ops : Array Oper} {rest : List Oper} {o : Oper} {a : Act} {w : World} {Q : Exit → Act → World → Prop} (hw : Region.wanted o (yielded ops a.tmps) = true) (parts : Array (Nat × Operand)) (ho : o.op = .build 30 parts)
    (k : Wnt) (hf : Tryz.prog.built 30 (parts.map fun (i, x) => (i, a.eval x)).toList = some k.cells)
    (h : wpList Tryz.prog ops Q rest (a.put o.dst k.val) w) : wpList Tryz.prog ops Q (o :: rest) a w :=
  wpList_builtG hw 30 parts ho k.cells hf h
theorem rel_built_w {o : Oper} {a : Act} {w : World} (parts : Array (Nat × Operand)) (ho : o.op = .build 30 parts) (k : Wnt) (hf : Tryz.prog.built 30 (parts.map fun (i, x) => (i, a.eval x)).toList = some k.cells) :
    Rel.relUpon Tryz.prog Rel.Grows (fun v _ => v = k.val) w ((execOp a.eval o).run Tryz.prog w) := by
  unfold execOp
  simp only [ho, Sem.run_bind, run_build w 30 _ k.cells hf, Result.andThen_ok]
  exact ⟨Below.refl _ _, rfl⟩
theorem Has.swap {w0 w : World} {p q : Nat × Array Value × TypeId} (h : Has w0 [p, q] w) : Has w0 [q, p] w := ⟨h.below, fun r hr => h.box r (by simp at hr ⊢; exact hr.symm)⟩
/-- One number laid into a variable. -/
theorem Has.setAt {w0 w : World} {L : List (Nat × Array Value × TypeId)} {b : Nat} {t : TypeId} {cs : Array Value} (h : Has w0 ((b, cs, t) :: L) w) (hL : ∀ p ∈ L, p.1 ≠ b) (j : Nat) (v : Value) : Has w0 ((b, cs.setIfInBounds j v, t) :: L) (w.setCell ⟨b, j, none⟩ v) := by
  obtain ⟨h1, h2⟩ := h.box (b, cs, t) List.mem_cons_self
  refine ⟨h.below.setCell h1 v, fun p hp => ?_⟩
  rcases List.mem_cons.1 hp with rfl | hp
  · exact ⟨h1, heap_setCell_same _ _ _ _ _ _ h2⟩
  · obtain ⟨h3, h4⟩ := h.box p (List.mem_cons_of_mem _ hp)
    exact ⟨h3, by rw [heap_setCell_other _ _ _ _ (hL p hp)]; exact h4⟩
/-- A truth laid into a cell that is there. -/
theorem wpList_store_bool {P : Program} {ops : Array Oper} {rest : List Oper} {o : Oper} {a : Act} {w : World} {Q : Exit → Act → World → Prop} (hgd : o.guard = none) (ty : TypeId) (x y : Operand) (ho : o.op = .store ty x y)
    (g j : Nat) (n : Bool) (hx : a.eval x = .pointer (some ⟨g, j, none⟩)) (hy : a.eval y = .bool n) (old : Value) (hc : w.cell? ⟨g, j, none⟩ = some old) (hf : w.frozen? ⟨g, j, none⟩ = false) (hi : (P.info? ty).map (·.size) = some 1)
    (h : wpList P ops Q rest (a.put o.dst undef) (w.setCell ⟨g, j, none⟩ (.bool n))) : wpList P ops Q (o :: rest) a w := by
  refine wpList_plain hgd fun K hK => ?_
  unfold Oper.wp execOp
  have hs : (storeVar ty ⟨g, j, none⟩ (.bool n)).run P w = .ok () (w.setCell ⟨g, j, none⟩ (.bool n)) := by
    cases hq : P.info? ty with
    | none => simp [hq] at hi
    | some i =>
      have hs : i.size = 1 := by simpa [hq] using hi
      have hadd : (⟨g, j, none⟩ : Addr).add 0 = ⟨g, j, none⟩ := by unfold Addr.add; split <;> simp_all
      have hst : (store ⟨g, j, none⟩ (.bool n) .plain).run P w = .ok () (w.setCell ⟨g, j, none⟩ (.bool n)) := by
        rw [run_store P w _ _ _ rfl, hc, hf]; rfl
      simp [storeVar, sizeOf, typeInfo, hq, hs, Value.cells, storeCells, hadd, hst]
  simp only [ho, hx, hy, Instr.storeAt, Instr.sureAddr, Sem.run_bind, Sem.run_pure, Result.andThen_ok, hs]
  exact hK _ _ h
/-- A field of what is wanted laid anew. -/
theorem wpList_put_w {w0 : World} {b : Nat} {k : Wnt} {L : List (Nat × Array Value × TypeId)} {ops : Array Oper} {rest : List Oper} {o : Oper} {a : Act} {w : World} {Q : Exit → Act → World → Prop} (hgd : o.guard = none) (ty : TypeId) (x y : Operand) (ho : o.op = .store ty x y)
    (H : Has w0 ((b, k.cells, 30) :: L) w) (hL : ∀ p ∈ L, p.1 ≠ b) (j : Nat) (K : IntKind) (n : Int) (hx : a.eval x = .pointer (some ⟨b, j, none⟩)) (hy : a.eval y = .int K n) (old : Value) (hold : k.cells[j]? = some old) (hi : (Tryz.prog.info? ty).map (·.size) = some 1)
    (k' : Wnt) (hk : k.cells.setIfInBounds j (.int K n) = k'.cells)
    (h : ∀ w2, Has w0 ((b, k'.cells, 30) :: L) w2 → (∀ g q, g ≠ b → w.heap[g]? = some q → w2.heap[g]? = some q) → wpList Tryz.prog ops Q rest (a.put o.dst undef) w2) : wpList Tryz.prog ops Q (o :: rest) a w := by
  refine wpList_store_int hgd ty x y ho b j K n hx hy old (H.at List.mem_cons_self j old hold) (frozen_of_row _ _ _ _ _ (H.get List.mem_cons_self)) hi (h _ ?_ ?_)
  · have := H.setAt hL j (.int K n)
    rwa [hk] at this
  · intro g q hg hq
    rw [heap_setCell_other _ _ _ _ hg]
    exact hq
theorem wpList_putB_w {w0 : World} {b : Nat} {k : Wnt} {L : List (Nat × Array Value × TypeId)} {ops : Array Oper} {rest : List Oper} {o : Oper} {a : Act} {w : World} {Q : Exit → Act → World → Prop} (hgd : o.guard = none) (ty : TypeId) (x y : Operand) (ho : o.op = .store ty x y)
    (H : Has w0 ((b, k.cells, 30) :: L) w) (hL : ∀ p ∈ L, p.1 ≠ b) (j : Nat) (n : Bool) (hx : a.eval x = .pointer (some ⟨b, j, none⟩)) (hy : a.eval y = .bool n) (old : Value) (hold : k.cells[j]? = some old) (hi : (Tryz.prog.info? ty).map (·.size) = some 1)
    (k' : Wnt) (hk : k.cells.setIfInBounds j (.bool n) = k'.cells)
    (h : ∀ w2, Has w0 ((b, k'.cells, 30) :: L) w2 → (∀ g q, g ≠ b → w.heap[g]? = some q → w2.heap[g]? = some q) → wpList Tryz.prog ops Q rest (a.put o.dst undef) w2) : wpList Tryz.prog ops Q (o :: rest) a w := by
  refine wpList_store_bool hgd ty x y ho b j n hx hy old (H.at List.mem_cons_self j old hold) (frozen_of_row _ _ _ _ _ (H.get List.mem_cons_self)) hi (h _ ?_ ?_)
  · have := H.setAt hL j (.bool n)
    rwa [hk] at this
  · intro g q hg hq
    rw [heap_setCell_other _ _ _ _ hg]
    exact hq
theorem size22 : (Tryz.prog.info? 22).map (·.size) = some 1 := by kernel_rfl
theorem size3 : (Tryz.prog.info? 3).map (·.size) = some 1 := by kernel_rfl
theorem size4 : (Tryz.prog.info? 4).map (·.size) = some 1 := by kernel_rfl
theorem stwo_start (w : World) (A B : Array Value) (t u : TypeId) : Has w [(w.heap.size + 1, B, u), (w.heap.size, A, t)] ((w.alloc (.cells A t)).alloc (.cells B u)) := by
  have H := ((has_none w).new t A).new u B
  rwa [show (w.alloc (.cells A t)).heap.size = w.heap.size + 1 from Array.size_push ..] at H
end Go.Proofs.YtbjcdpmhmebjnaaGreat
/- What an access wants, as a step reckons it: a contract. -/
namespace Go.Proofs.YtbjcdpmhmebjnaaGreat
open Go.RowKit
set_option linter.unusedVariables false

theorem sadr_in (c : Cor) (i : Ins) : 0 ≤ adrV c i := by
  unfold adrV u64
  split <;> omega
theorem tmod8 {n : Int} (h : 0 ≤ n) : n.tmod 8 = n % 8 := Int.tmod_eq_emod_of_nonneg h
set_option maxRecDepth 4000 in
set_option maxHeartbeats 2000000 in
theorem access_c (g : Nat) (s : Stp) (k : Wnt) (w : World) (h : w.heap[g]? = some (.cells s.cells 58)) (ha : s.i.op = 19 ∨ s.i.op = 20 → s.i.amount = 0 ∨ s.i.amount = 3) (hel : 0 ≤ s.c.el ∧ s.c.el ≤ 1) :
    Calls Tryz.prog 183 #[.pointer (some ⟨g, 0, none⟩), k.val] w fun e w' => e = .returned (accV s.c s.i k).val ∧ Below w.heap.size w w' := by
  have hn := sadr_in s.c s.i
  go_enter Tryz.func183, Tryz.ntmps183
  go_upto_region 1 with fail
  have H := (stwo_start w k.cells #[.int .i64 0, .int .u64 0, .int .u64 0, .int .i64 0, .bool false, .int .i64 0, .bool false, .int .i64 0, .int .i64 0, .int .i64 0] 30 30).swap
  have hs := keep_row h (r_below_more (r_below_alloc w (.cells k.cells 30)) (o := .cells #[.int .i64 0, .int .u64 0, .int .u64 0, .int .i64 0, .bool false, .int .i64 0, .bool false, .int .i64 0, .int .i64 0, .int .i64 0] 30))
  generalize hb : w.heap.size = b at H ⊢
  have hgb : g ≠ b := by have := (Array.getElem?_eq_some_iff.1 h).1; omega
  generalize (w.alloc _).alloc _ = w1 at H hs ⊢
  obtain ⟨Z, hZ, H⟩ : ∃ Z, Z.size = 10 ∧ Has w [(b, k.cells, 30), (b + 1, Z, 30)] w1 := ⟨_, rfl, H⟩
  have hne : ∀ p ∈ [(b + 1, Z, (30 : TypeId))], p.1 ≠ b := one_other (by omega)
  go_upto_region 2 with (first | (go_at_call 219; refine (address_c g s _ hs ha).mono ?_; rintro e w2 ⟨rfl, hB⟩; dsimp only; replace H := H.grow hB; replace hs := keep_row hs hB) | ((with_reducible refine wpList_put_w rfl 22 _ _ rfl H hne 1 .u64 (adrV s.c s.i) rfl rfl _ k.a1 size22 _ (k.s1 _) ?_); intro w3 H hk; replace hs := hk g _ hgb hs; simp only [Act.put]))
  have c1 := H.at List.mem_cons_self 1 (.int .u64 (adrV s.c s.i)) rfl
  by_cases h8 : adrV s.c s.i % 8 = 0
  · have e8 : ((adrV s.c s.i).tmod 8 == 0) = true := by rw [tmod8 hn]; simp [h8]
    have ev : accV s.c s.i k = { k with addr := adrV s.c s.i } := by simp [accV, h8]
    replace H := H.swap
    have hne' : ∀ p ∈ [(b, ({ k with addr := adrV s.c s.i } : Wnt).cells, (30 : TypeId))], p.1 ≠ b + 1 := one_other (by omega)
    go_wp2_with (first | ((with_reducible refine wpList_load_ifA rfl 30 _ rfl b rfl 30 _ (0, 0) _ (H.get (List.mem_cons_of_mem _ List.mem_cons_self)) Tryz.underlying30 rfl (Wnt.info _) ?_); simp only [Act.put, List.setIfInBounds_toArray, List.set_cons_succ, List.set_cons_zero]) | ((with_reducible refine wpList_store_w rfl _ _ rfl H hne' hZ _ rfl rfl ?_); intro w4 H; simp only [Act.put]))
    exact bodyPost_ret (back_w rfl _ _ _ _ _ _ rfl (H.get List.mem_cons_self)) rfl ⟨by first | rw [ev] | rfl, by first | exact H.below | (rw [← hb]; exact H.below)⟩
  · have e8 : ((adrV s.c s.i).tmod 8 == 0) = false := by rw [tmod8 hn]; simp [h8]
    have ev : accV s.c s.i k = { nilW with kind := 15, cls := 36 + s.c.el, iss := bif storeK k.kind then 97 else 33, addr := adrV s.c s.i } := by simp [accV, h8]
    go_upto_region 4 with fail
    refine Rel.wp_region_tail 12 Rel.Grows (fun x => Has w [(b, ({ k with addr := adrV s.c s.i } : Wnt).cells, 30), (b + 1, Z, 30)] x ∧ x.heap[g]? = some (.cells s.cells 58)) [.inl (.pointer (some ⟨g, 0, none⟩)), .inl (.pointer (some ⟨g, 0, none⟩)), .inl (.pointer (some ⟨g, 16, none⟩)), .inl (.pointer (some ⟨g, 54, none⟩)), .inl (.int .i64 s.c.el), .inl (.int .i64 (36 + s.c.el)), .inl (.pointer (some ⟨b, 0, none⟩)), .inl (.int .i64 k.kind), .inl (.int .i64 (bif storeK k.kind then 97 else 33)), .inl (.pointer (some ⟨b, 1, none⟩)), .inl (.int .u64 (adrV s.c s.i)), .inl (Wnt.val { nilW with kind := 15, cls := 36 + s.c.el, iss := bif storeK k.kind then 97 else 33, addr := adrV s.c s.i })] (by kernel_rfl) (by kernel_rfl) (fun _ _ hh hb => ⟨hh.1.grow hb, keep_row hh.2 hb⟩) (⟨H.grow ⟨rfl, rfl, rfl, Nat.le_refl _, fun _ _ => rfl⟩, keep_row hs ⟨rfl, rfl, rfl, Nat.le_refl _, fun _ _ => rfl⟩⟩) (by simp [Rel.upK]) ?_
    refine ⟨fun w1 hC _ => by go_simp; first | exact Below.refl _ _ | exact ⟨Below.refl _ _, rfl⟩, ?_⟩
    simp only [Act.put, List.setIfInBounds_toArray, List.set_cons_succ, List.set_cons_zero]
    refine ⟨fun w1 hC _ => by go_simp; first | exact Below.refl _ _ | exact ⟨Below.refl _ _, rfl⟩, ?_⟩
    simp only [Act.put, List.setIfInBounds_toArray, List.set_cons_succ, List.set_cons_zero]
    refine ⟨fun w1 hC _ => by go_simp; first | exact Below.refl _ _ | exact ⟨Below.refl _ _, rfl⟩, ?_⟩
    simp only [Act.put, List.setIfInBounds_toArray, List.set_cons_succ, List.set_cons_zero]
    refine ⟨fun w1 hC _ => by go_simp; first | exact Below.refl _ _ | exact ⟨Below.refl _ _, rfl⟩, ?_⟩
    simp only [Act.put, List.setIfInBounds_toArray, List.set_cons_succ, List.set_cons_zero]
    refine ⟨fun w1 hC _ => by have hq := at_c hC.2 38 (.int .i64 s.c.el) (by decide) s.c.a38; go_simp; first | exact Below.refl _ _ | exact ⟨Below.refl _ _, rfl⟩, ?_⟩
    simp only [Act.put, List.setIfInBounds_toArray, List.set_cons_succ, List.set_cons_zero]
    refine ⟨fun w1 hC _ => by go_simp; exact ⟨Below.refl _ _, by rcases (by omega : s.c.el = 0 ∨ s.c.el = 1) with e | e <;> rw [e] <;> rfl⟩, ?_⟩
    simp only [Act.put, List.setIfInBounds_toArray, List.set_cons_succ, List.set_cons_zero]
    refine ⟨fun w1 hC _ => by go_simp; first | exact Below.refl _ _ | exact ⟨Below.refl _ _, rfl⟩, ?_⟩
    simp only [Act.put, List.setIfInBounds_toArray, List.set_cons_succ, List.set_cons_zero]
    refine ⟨fun w1 hC _ => by have hq := hC.1.at List.mem_cons_self 0 (.int .i64 k.kind) rfl; go_simp; first | exact Below.refl _ _ | exact ⟨Below.refl _ _, rfl⟩, ?_⟩
    simp only [Act.put, List.setIfInBounds_toArray, List.set_cons_succ, List.set_cons_zero]
    refine ⟨fun w1 hC _ => by go_simp; refine (issOf33_c k.kind w1).mono ?_; rintro e w2 ⟨rfl, rfl⟩; exact ⟨rfl, Below.refl _ _⟩, ?_⟩
    simp only [Act.put, List.setIfInBounds_toArray, List.set_cons_succ, List.set_cons_zero]
    refine ⟨fun w1 hC _ => by go_simp; first | exact Below.refl _ _ | exact ⟨Below.refl _ _, rfl⟩, ?_⟩
    simp only [Act.put, List.setIfInBounds_toArray, List.set_cons_succ, List.set_cons_zero]
    refine ⟨fun w1 hC _ => by have hq := hC.1.at List.mem_cons_self 1 (.int .u64 (adrV s.c s.i)) rfl; go_simp; first | exact Below.refl _ _ | exact ⟨Below.refl _ _, rfl⟩, ?_⟩
    simp only [Act.put, List.setIfInBounds_toArray, List.set_cons_succ, List.set_cons_zero]
    refine ⟨fun w1 hC _ => by exact rel_built_w _ rfl { nilW with kind := 15, cls := 36 + s.c.el, iss := bif storeK k.kind then 97 else 33, addr := adrV s.c s.i } (by kernel_rfl), ?_⟩
    simp only [Act.put, List.setIfInBounds_toArray, List.set_cons_succ, List.set_cons_zero]
    intro w4 hC _
    simp only [List.drop_succ_cons, List.drop_zero]
    replace H := hC.1.swap
    have hne' : ∀ p ∈ [(b, ({ k with addr := adrV s.c s.i } : Wnt).cells, (30 : TypeId))], p.1 ≠ b + 1 := one_other (by omega)
    go_wp2_with ((with_reducible refine wpList_store_w rfl _ _ rfl H hne' hZ _ rfl rfl ?_); intro w5 H; simp only [Act.put])
    exact bodyPost_ret (back_w rfl _ _ _ _ _ _ rfl (H.get List.mem_cons_self)) rfl ⟨by first | rw [ev] | rfl, by first | exact H.below | (rw [← hb]; exact H.below)⟩
end Go.Proofs.YtbjcdpmhmebjnaaGreat
