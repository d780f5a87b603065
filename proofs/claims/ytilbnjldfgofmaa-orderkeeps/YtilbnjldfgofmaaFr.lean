/- What came in; what is left to show of a law that has turned nothing that came in. -/
import Derived.Test.YtilbnjldfgofmaaIg
import Derived.ProofKit
import Derived.OpenShut
import Derived.Stop.Joined
import Derived.Stop.LaidErr
import Derived.Lib.SmallJoins
import Derived.ChangeArms
import Derived.Carry
import Derived.ChangeSlices
namespace Go.Proofs.Ytilbnjldfgofmaa
open Go.RowKit
open Go.ChangeShapes Go.WideShapes Go.ChangeAt
set_option linter.unusedVariables false
set_option linter.unusedSimpArgs false
set_option maxRecDepth 8000

section
variable {H : Type} {enc : TypeId × Value → H} {P : Program}
theorem trodAll_stays {W W' : World} (hl : laidOutB P = true) (hB : Below W.heap.size W W') (sp : Nat → Bool) : ∀ {ts : List TypeId} {vs : List Value} {ds : List (DataW H)} {ps : List MemPlace},
    (∀ t ∈ ts, P.readableRec t = true ∧ t < P.types.size) → DataW.TrodAll enc P W 0 (fun _ => true) true ts vs ds ps → (∀ x ∈ ps, x.block < W.heap.size) → (∀ x ∈ ps, sp x.block = true) → DataW.TrodAll enc P W' 0 sp true ts vs ds ps
  | [], _, _, _, _, h, _, _ => by
    obtain ⟨rfl, rfl, rfl⟩ := trodAll_nil h
    exact trodAll_mk0
  | t :: ts, _, _, _, hr, h, hlt, hsp => by
    obtain ⟨v, vs1, d, ds1, a, b, rfl, rfl, rfl, h1, h2⟩ := trodAll_cons h
    obtain ⟨r1, r2⟩ := hr t List.mem_cons_self
    refine trodAll_cons_mk (WideElems.Trod_stays hl r1 r2 h1 (fun x hx => hB.same (hlt x (List.mem_append_left _ hx))) (fun x hx => hsp x (List.mem_append_left _ hx))) ?_
    exact trodAll_stays hl hB sp (fun t ht => hr t (List.mem_cons_of_mem _ ht)) h2 (fun x hx => hlt x (List.mem_append_right _ hx)) (fun x hx => hsp x (List.mem_append_right _ hx))
theorem post_old {f : Func} {s : ChangeSpec} {apart fresh handsOn again : Bool} {W W' : World} {args : Array Value} {v : Value} {ds : List (DataW H)} {before : List MemPlace} (hl : laidOutB P = true)
    (hW : DataW.Whole enc P f.params.toList s.vars apart W args.toList ds [] before) (hB : Below W.heap.size W W') (hA : DataW.TrodAll enc P W 0 (fun _ => true) true f.params.toList args.toList ds before)
    (hrd : ∀ t ∈ f.params.toList, P.readableRec t = true ∧ t < P.types.size)
    (hres : ∀ (b : Nat) (sp : Nat → Bool) (hd : Bool), DataW.TrodAll enc P W' b sp hd f.resultTypes.toList (v.resultList f.resultTypes.size) (s.fn H (ds ++ [])).results [])
    (hargs : (s.fn H (ds ++ [])).args = ds) (hvars : ∀ sp : Nat → Bool, DataW.TrodVars enc P W' sp s.vars (s.fn H (ds ++ [])).vars [])
    (hok : ∀ (j : Nat) (t : TypeId) (r : Value), f.resultTypes[j]? = some t → (v.resultList f.resultTypes.size)[j]? = some r → Value.okWide P W' .any 0 t r) :
    s.post enc P f apart fresh handsOn again W args v W' := by
  have hlt : ∀ x ∈ before, x.block < W.heap.size := fun p hp => hW.lt p hp
  have hold : ∀ p ∈ before, (fun b => decide (b < W.heap.size)) p.block = true := fun p hp => by simpa using hlt p hp
  have ha : ∀ sp : Nat → Bool, (∀ p ∈ before, sp p.block = true) → DataW.TrodAll enc P W' 0 sp true f.params.toList args.toList (s.fn H (ds ++ [])).args before := fun sp hsp => by
    rw [hargs]; exact trodAll_stays hl hB sp hrd hA hlt hsp
  refine ⟨ds, [], before, [], before, [], hW, hres _ _ _, ha _ hold, hvars _, World.keptBut_mono (fun p hp => ⟨hp, ?_⟩) (hB.frame (· ∈ before)), fun _ => ?_⟩
  · exact Or.inr (Or.inl hp)
  · obtain ⟨_, _, _, _, _, hz, hn⟩ := hW
    refine ⟨hok, _, _, ([] ++ before) ++ [], ⟨[] ++ before, [], trodAll_append (ha _ (fun _ _ => rfl)) (hres _ _ _), hvars _, rfl, ?_, ?_⟩, ?_⟩
    · intro b off hp
      have hp' : MemPlace.cell b off ∈ before := by simpa using hp
      have : W'.frozen? ⟨b, off, none⟩ = W.frozen? ⟨b, off, none⟩ := World.frozen?_of_block (hB.block b (hlt _ hp'))
      first | (rw [this]; exact hz b off hp') | (have h2 := hz b off hp'; simpa [World.frozen?, hB.block b (hlt _ hp')] using h2)
    · intro ha
      have := hn ha
      simpa using this
    · intro p hp _
      simpa using hp
end
theorem own : ownKnob Try.prog.godebug = none := by kernel_rfl
theorem cells3 : Try.prog.cellsOf 3 = 1 := by kernel_rfl
theorem cells4 : Try.prog.cellsOf 4 = 1 := by kernel_rfl
theorem u64_of {a : Int} (h : (Lit.int .u64 a).wf = true) : U64 a := by
  have := bounds_u64 h
  exact ⟨this.1, by omega⟩
theorem take_one {α : Type} {l : List α} {k : Nat} {v : α} (h : (l.drop k).take 1 = [v]) : l[k]? = some v := by
  have := congrArg (fun l => l[0]?) h
  simpa [List.getElem?_take, List.getElem?_drop] using this
section
variable {H : Type} {enc : TypeId × Value → H} {W : World} {b0 : Nat} {spare : Nat → Bool} {held : Bool}
theorem arr_cells {n : Nat} {t : TypeId} (ht : Try.prog.underlying t = some (.array n 22)) {fuel : Nat} {cs : List Value} {x : DataW H × List MemPlace} (h : DataW.trod enc Try.prog W b0 spare held fuel t cs = some x) (i : Nat) (hi : i < n) :
    ∃ z, cs[i]? = some (vU z) ∧ U64 z := by
  obtain ⟨xs, m, -, -, -, hl, hq⟩ := DataW.trod_array ht h
  have q := hq i hi
  rw [List.getElem?_eq_getElem (by omega)] at q
  obtain ⟨z, e, -, wz⟩ := DataW.trod_int Try.underlying22 q
  rw [cells22, Nat.mul_one] at e
  exact ⟨z, take_one e, u64_of wz⟩
end

theorem cells42 : Try.prog.cellsOf 40 = 6 := by kernel_rfl
theorem bytes42 : Try.prog.bytesOf 40 = 48 := by kernel_rfl
structure OpsIn (W : World) (v : Value) (l : List Opr) : Prop where
  ops : Ops W v l
  imm : ∀ k, U64 (opAt l k).imm
  cap : ∀ ao n c, v = .slice ao n c → n ≤ c
set_option maxRecDepth 8000 in
theorem open_ops {H : Type} {enc : TypeId × Value → H} {W : World} {fuel : Nat} {cl : List Value} {x : DataW H × List MemPlace} (h : DataW.trod enc Try.prog W 0 (fun _ => true) true fuel 23 cl = some x) :
    ∃ v l, cl = [v] ∧ OpsIn W v l ∧ (l = [] ∨ ∃ el sp, x.1 = .slice el sp ∧ el.length = l.length) := by
  rcases DataW.trod_slice Try.underlying23 h with ⟨hcs, hx⟩ | ⟨a, len', cap', elems, rest, n, _, hcs, hx, _, hl, hm, hel, hget, _, _⟩
  · exact ⟨_, [], hcs, ⟨⟨⟨none, 0, rfl⟩, Nat.zero_le _, fun h => by simp at h⟩, fun k => by unfold opAt; simp [nilO]; exact ⟨by decide, by decide⟩, fun ao n c e => by cases e; exact Nat.le_refl _⟩, .inl rfl⟩
  · have each : ∀ i, i < len' → ∃ s : Opr, U64 s.imm ∧ OpAt W (a.add (i * 6)) s := by
      intro i hi
      have hg := hget i hi
      rw [List.getElem?_eq_getElem (by omega), cells42] at hg
      obtain ⟨cs, hc, ht⟩ := Option.bind_eq_some_iff.1 hg
      obtain ⟨_, hlen, hcell⟩ := World.cells?_some hc
      obtain ⟨xs, m, _, _, _, hxl, hq⟩ := DataW.trod_struct fields42 ht
      match cs, hlen with
      | [c0, c1, c2, c3, c4, c5], _ =>
        have hfs : Try.prog.fieldsOf 40 = #[⟨ "Kind", 3, 0, false, "", "", 0⟩, ⟨ "R", 3, 1, false, "", "", 8⟩, ⟨ "A", 3, 2, false, "", "", 16⟩, ⟨ "B", 3, 3, false, "", "", 24⟩, ⟨ "Order", 3, 4, false, "", "", 32⟩, ⟨ "Imm", 22, 5, false, "", "", 40⟩] := by kernel_rfl
        have hx6 : xs.length = 6 := by rw [hxl, hfs]; rfl
        have q0 := hq 0 ⟨ "Kind", 3, 0, false, "", "", 0⟩ (by rw [hfs]; rfl)
        have q1 := hq 1 ⟨ "R", 3, 1, false, "", "", 8⟩ (by rw [hfs]; rfl)
        have q2 := hq 2 ⟨ "A", 3, 2, false, "", "", 16⟩ (by rw [hfs]; rfl)
        have q3 := hq 3 ⟨ "B", 3, 3, false, "", "", 24⟩ (by rw [hfs]; rfl)
        have q4 := hq 4 ⟨ "Order", 3, 4, false, "", "", 32⟩ (by rw [hfs]; rfl)
        have q5 := hq 5 ⟨ "Imm", 22, 5, false, "", "", 40⟩ (by rw [hfs]; rfl)
        simp only [cells3, cells22] at q0 q1 q2 q3 q4 q5
        rw [List.getElem?_eq_getElem (by omega)] at q0 q1 q2 q3 q4 q5
        obtain ⟨n0, e0, _, f0⟩ := DataW.trod_int Try.underlying3 q0
        obtain ⟨n1, e1, _, f1⟩ := DataW.trod_int Try.underlying3 q1
        obtain ⟨n2, e2, _, f2⟩ := DataW.trod_int Try.underlying3 q2
        obtain ⟨n3, e3, _, f3⟩ := DataW.trod_int Try.underlying3 q3
        obtain ⟨n4, e4, _, f4⟩ := DataW.trod_int Try.underlying3 q4
        obtain ⟨n5, e5, _, f5⟩ := DataW.trod_int Try.underlying22 q5
        simp at e0 e1 e2 e3 e4 e5
        subst e0; subst e1; subst e2; subst e3; subst e4; subst e5
        have b5 := bounds_u64 f5
        have k0 : W.cell? (a.add (i * 6)) = some (vI n0) := hcell 0 (by decide)
        exact ⟨⟨n0, n1, n2, n3, n4, n5⟩, ⟨b5.1, by have := b5.2; show n5 < _; omega⟩, ⟨World.block_lt_of_cell? W _ k0, k0, hcell 1 (by decide), hcell 2 (by decide), hcell 3 (by decide), hcell 4 (by decide), hcell 5 (by decide)⟩⟩
    let f : Nat → Opr := fun i => if h : i < len' then (each i h).choose else nilO
    have hfi : ∀ i (h : i < len'), f i = (each i h).choose := fun i h => by simp only [f, dif_pos h]
    have hlen : ((List.range len').map f).length = len' := by simp
    have hat : ∀ i s, ((List.range len').map f)[i]? = some s → ∃ h : i < len', s = (each i h).choose := fun i s hs => by
      have hi : i < len' := by have := (List.getElem?_eq_some_iff.1 hs).1; simpa using this
      rw [List.getElem?_map, List.getElem?_range hi] at hs
      cases hs
      exact ⟨hi, hfi i hi⟩
    refine ⟨_, (List.range len').map f, hcs, ⟨⟨⟨some a, cap', by rw [hlen]⟩, by rw [hlen]; omega, fun h0 => ⟨a, cap', by rw [hlen], fun i s hs => ?_⟩⟩, fun k => ?_, fun ao n c e => by cases e; exact hl⟩, .inr ⟨_, _, (by rw [hx]), by rw [List.length_map, hel, hlen]⟩⟩
    · obtain ⟨hi, rfl⟩ := hat i s hs
      exact (each i hi).choose_spec.2
    · unfold opAt
      cases hk : ((List.range len').map f)[k]? with
      | none => exact ⟨by decide, by decide⟩
      | some s =>
        obtain ⟨hi, rfl⟩ := hat k s hk
        exact (each k hi).choose_spec.1
set_option maxRecDepth 8000 in
theorem cells25 : Try.prog.cellsOf 25 = 4 := by kernel_rfl
theorem cells23 : Try.prog.cellsOf 23 = 1 := by kernel_rfl
theorem fields25 : Try.prog.underlying 25 = some (.struct (Try.prog.fieldsOf 25)) := by rw [Program.fieldsOf, Try.underlying25]
set_option maxRecDepth 8000 in
/-- A block that came in. -/
theorem open_block {H : Type} {enc : TypeId × Value → H} {W : World} {base : Nat} {v : Value} {d : DataW H} {ps : List MemPlace} (hv : Value.okWide Try.prog W .any base 25 v) (h : DataW.Trod enc Try.prog W 0 (fun _ => true) true 25 v d ps) : ∃ pc words el u l, v = blV pc words el u ∧ 0 ≤ pc ∧ OpsIn W u l ∧ ((d.weights Try.prog 25).all (· ≤ reachBytes) = true → l.length * 48 ≤ 140737488351232) := by
  obtain ⟨cs, rfl, hsz⟩ := okWide_struct Try.underlying25 hv
  rw [cells25] at hsz
  obtain ⟨fuel, hf⟩ := h
  obtain ⟨xs, n, -, hx, -, hlen, hq⟩ := DataW.trod_struct fields25 hf
  have hfs : Try.prog.fieldsOf 25 = #[⟨ "PC", 22, 0, false, "", "", 0⟩, ⟨ "Words", 3, 1, false, "", "", 8⟩, ⟨ "EL", 3, 2, false, "", "", 16⟩, ⟨ "Ops", 23, 3, false, "", "", 24⟩] := by kernel_rfl
  have hx4 : xs.length = 4 := by rw [hlen, hfs]; rfl
  obtain ⟨l0⟩ := cs
  match l0, hsz with
  | [c0, c1, c2, c3], _ =>
    have q0 := hq 0 ⟨ "PC", 22, 0, false, "", "", 0⟩ (by rw [hfs]; rfl)
    have q1 := hq 1 ⟨ "Words", 3, 1, false, "", "", 8⟩ (by rw [hfs]; rfl)
    have q2 := hq 2 ⟨ "EL", 3, 2, false, "", "", 16⟩ (by rw [hfs]; rfl)
    have q3 := hq 3 ⟨ "Ops", 23, 3, false, "", "", 24⟩ (by rw [hfs]; rfl)
    simp only [cells3, cells22, cells23, Value.cells] at q0 q1 q2 q3
    rw [List.getElem?_eq_getElem (by omega)] at q0 q1 q2 q3
    obtain ⟨n0, e0, _, f0⟩ := DataW.trod_int Try.underlying22 q0
    obtain ⟨n1, e1, _, f1⟩ := DataW.trod_int Try.underlying3 q1
    obtain ⟨n2, e2, _, f2⟩ := DataW.trod_int Try.underlying3 q2
    obtain ⟨u, l, e3, O, hw⟩ := open_ops q3
    simp at e0 e1 e2 e3
    subst e0; subst e1; subst e2; subst e3
    have b0 := bounds_u64 f0
    refine ⟨n0, n1, n2, _, l, rfl, b0.1, O, fun hall => ?_⟩
    rcases hw with rfl | ⟨els, sp, hd, he⟩
    · exact Nat.zero_le _
    · have hd1 : d = .agg (xs.map (·.1)) := (Prod.mk.inj hx).1
      rw [hd1] at hall
      unfold DataW.weights at hall
      rw [fields25, hfs] at hall
      obtain ⟨x0, x1, x2, x3, rfl⟩ : ∃ x0 x1 x2 x3, xs = [x0, x1, x2, x3] := by
        match xs, hx4 with
        | [x0, x1, x2, x3], _ => exact ⟨x0, x1, x2, x3, rfl⟩
      · simp only [List.getElem_cons_succ, List.getElem_cons_zero] at hd
        simp only [List.map_cons, List.map_nil, DataW.weightsEach, List.all_append, Bool.and_eq_true] at hall
        have h3 := hall.2.2.2.1
        rw [hd] at h3
        unfold DataW.weights at h3
        rw [Try.underlying23] at h3
        simp only [List.all_cons, Bool.and_eq_true, decide_eq_true_eq, bytes42] at h3
        have hr : reachBytes = 140737488351232 := rfl
        rw [hr] at h3
        omega

end Go.Proofs.Ytilbnjldfgofmaa
