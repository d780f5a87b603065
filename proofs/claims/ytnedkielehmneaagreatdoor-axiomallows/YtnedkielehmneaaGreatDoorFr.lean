/- What is left to show of a law that has turned nothing that came in: its arguments read as they did; a list of pairs that came in; what the table of the lowest bits reads as. -/
import Derived.Test.YtnedkielehmneaaGreatDoorEa
import Derived.Test.YtnedkielehmneaaGreatDoorRl
import Derived.Test.YtnedkielehmneaaGreatDoorRows
import Derived.ProofKit
import Derived.LaidMore
import Derived.OpenShut
import Derived.Stop.Joined
import Derived.Stop.LaidErr
import Derived.Lib.SmallJoins
import Derived.Lib.LaidTab
import Derived.ChangeArms
import Derived.Carry
import Derived.ChangeSlices
namespace Go.Proofs.YtnedkielehmneaaGreatDoor
open Go.ChangeShapes Go.WideShapes Go.ChangeAt Go.RowKit
set_option linter.unusedVariables false
set_option linter.unusedSimpArgs false

section
variable {H : Type} {enc : TypeId × Value → H} {P : Program}
theorem trodAll_stays {W W' : World} (hl : laidOutB P = true) (hB : Below W.heap.size W W') (sp : Nat → Bool) : ∀ {ts : List TypeId} {vs : List Value} {ds : List (DataW H)} {ps : List MemPlace},
    (∀ t ∈ ts, P.readableRec t = true ∧ t < P.types.size) → DataW.TrodAll enc P W 0 (fun _ => true) true ts vs ds ps → (∀ x ∈ ps, x.block < W.heap.size) → (∀ x ∈ ps, sp x.block = true) → DataW.TrodAll enc P W' 0 sp true ts vs ds ps
  | [], _, _, _, _, h, _, _ => by
    obtain ⟨rfl, rfl, rfl⟩ := trodAll_nil h
    exact trodAll_mk0
  | t :: ts, _, _, _, hr, h, hlt, hsp => by
    obtain ⟨v, vs1, d, ds1, a, b, rfl, rfl, rfl, h1, h2⟩ := trodAll_cons h
    obtain ⟨r1, r2⟩ := hr t List.mem_cons_self
    refine trodAll_cons_mk (WideElems.Trod_stays hl r1 r2 h1 (fun x hx => hB.same (hlt x (List.mem_append_left _ hx))) (fun x hx => hsp x (List.mem_append_left _ hx))) ?_
    exact trodAll_stays hl hB sp (fun t ht => hr t (List.mem_cons_of_mem _ ht)) h2 (fun x hx => hlt x (List.mem_append_right _ hx)) (fun x hx => hsp x (List.mem_append_right _ hx))
theorem post_old {f : Func} {s : ChangeSpec} {apart fresh handsOn again : Bool} {W W' : World} {args : Array Value} {v : Value} {ds : List (DataW H)} {before : List MemPlace} (hl : laidOutB P = true)
    (hW : DataW.Whole enc P f.params.toList s.vars apart W args.toList ds [] before) (hB : Below W.heap.size W W') (hA : DataW.TrodAll enc P W 0 (fun _ => true) true f.params.toList args.toList ds before)
    (hrd : ∀ t ∈ f.params.toList, P.readableRec t = true ∧ t < P.types.size)
    (hres : ∀ (b : Nat) (sp : Nat → Bool) (hd : Bool), DataW.TrodAll enc P W' b sp hd f.resultTypes.toList (v.resultList f.resultTypes.size) (s.fn H (ds ++ [])).results [])
    (hargs : (s.fn H (ds ++ [])).args = ds) (hvars : ∀ sp : Nat → Bool, DataW.TrodVars enc P W' sp s.vars (s.fn H (ds ++ [])).vars [])
    (hok : ∀ (j : Nat) (t : TypeId) (r : Value), f.resultTypes[j]? = some t → (v.resultList f.resultTypes.size)[j]? = some r → Value.okWide P W' .any 0 t r) :
    s.post enc P f apart fresh handsOn again W args v W' := by
  have hlt : ∀ x ∈ before, x.block < W.heap.size := fun p hp => hW.lt p hp
  have hold : ∀ p ∈ before, (fun b => decide (b < W.heap.size)) p.block = true := fun p hp => by simpa using hlt p hp
  have ha : ∀ sp : Nat → Bool, (∀ p ∈ before, sp p.block = true) → DataW.TrodAll enc P W' 0 sp true f.params.toList args.toList (s.fn H (ds ++ [])).args before := fun sp hsp => by
    rw [hargs]; exact trodAll_stays hl hB sp hrd hA hlt hsp
  refine ⟨ds, [], before, [], before, [], hW, hres _ _ _, ha _ hold, hvars _, World.keptBut_mono (fun p hp => ⟨hp, ?_⟩) (hB.frame (· ∈ before)), fun _ => ?_⟩
  · exact Or.inr (Or.inl hp)
  · obtain ⟨_, _, _, _, _, hz, hn⟩ := hW
    refine ⟨hok, _, _, ([] ++ before) ++ [], ⟨[] ++ before, [], trodAll_append (ha _ (fun _ _ => rfl)) (hres _ _ _), hvars _, rfl, ?_, ?_⟩, ?_⟩
    · intro b off hp
      have hp' : MemPlace.cell b off ∈ before := by simpa using hp
      have : W'.frozen? ⟨b, off, none⟩ = W.frozen? ⟨b, off, none⟩ := World.frozen?_of_block (hB.block b (hlt _ hp'))
      first | (rw [this]; exact hz b off hp') | (have h2 := hz b off hp'; simpa [World.frozen?, hB.block b (hlt _ hp')] using h2)
    · intro ha
      have := hn ha
      simpa using this
    · intro p hp _
      simpa using hp
end

theorem own : ownKnob Tryz.prog.godebug = none := by kernel_rfl
theorem cells3 : Tryz.prog.cellsOf 3 = 1 := by kernel_rfl
theorem cells4 : Tryz.prog.cellsOf 4 = 1 := by kernel_rfl
theorem cells33 : Tryz.prog.cellsOf 33 = 1 := by kernel_rfl
theorem cells34 : Tryz.prog.cellsOf 34 = 1 := by kernel_rfl
theorem field36 {j t o : Nat} (h : ((Tryz.prog.fieldsOf 36)[j]?).map (fun f => (f.type, f.offset)) = some (t, o)) : ∃ f, (Tryz.prog.fieldsOf 36)[j]? = some f ∧ f.type = t ∧ f.offset = o := by
  cases hq : (Tryz.prog.fieldsOf 36)[j]? with
  | none => rw [hq] at h; cases h
  | some f =>
    rw [hq] at h
    have := Prod.mk.inj (Option.some.inj h)
    exact ⟨f, rfl, this.1, this.2⟩
theorem fields36 : Tryz.prog.underlying 36 = some (.struct (Tryz.prog.fieldsOf 36)) := by rw [Program.fieldsOf, Tryz.underlying36]
theorem cells36 : Tryz.prog.cellsOf 36 = 13 := by kernel_rfl
set_option maxRecDepth 8000 in
/-- A slice of numbers within what came in. -/
theorem raw_of {H : Type} {enc : TypeId × Value → H} {W : World} {c : Value} {x : DataW H × List MemPlace} {fuel : Nat} (h : DataW.trod enc Tryz.prog W 0 (fun _ => true) true fuel 34 [c] = some x) : ∃ zs, RawI W c zs := by
  rcases open_ints Tryz.underlying34 Tryz.underlying3 (by kernel_rfl) h with ⟨hcs, hx⟩ | ⟨a, len', cap', zs, hcs, _, hl, hm, hz, hx, hcell, hwz⟩
  · have e : c = .slice none 0 0 := by simpa using hcs
    exact ⟨[], ⟨⟨none, 0, e⟩, Nat.zero_le _, fun h => by simp at h⟩⟩
  · have e : c = .slice (some a) len' cap' := by simpa using hcs
    rw [e]
    have hz' : zs.length = cap' := by simpa using hz
    have hlen : (zs.take len').length = len' := by rw [List.length_take]; omega
    refine ⟨zs.take len', ⟨⟨some a, cap', by rw [hlen]⟩, by rw [hlen]; omega, fun h0 => ⟨a, cap', by rw [hlen], fun i x hx => ?_⟩⟩⟩
    · have hi : i < len' := by have := (List.getElem?_eq_some_iff.1 hx).1; omega
      have hc := hcell i (by omega)
      have : zs.getD i 0 = x := by
        rw [List.getElem?_take, if_pos hi] at hx
        simp [List.getD, hx]
      rw [this] at hc
      exact ⟨World.block_lt_of_cell? W _ hc, hc⟩
set_option maxRecDepth 8000 in
/-- Events that came in. -/
theorem open_evs {H : Type} {enc : TypeId × Value → H} {W : World} {base : Nat} {v : Value} {d : DataW H} {ps : List MemPlace} (hv : Value.okWide Tryz.prog W .any base 22 v) (h : DataW.Trod enc Tryz.prog W 0 (fun _ => true) true 22 v d ps) : ∃ n x, Evs W v n x ∧ (n = 0 ∨ ∃ el sp, d = .slice el sp ∧ el.length = n) := by
  obtain ⟨a0, len, cap, rfl⟩ := okWide_slice (P := Tryz.prog) Tryz.underlying22 hv
  obtain ⟨fuel, hf⟩ := h
  rcases DataW.trod_slice Tryz.underlying22 hf with ⟨hcs, hx⟩ | ⟨a, len', cap', elems, rest, n, _, hcs, hx, _, hl, hm, hel, hget, _, _⟩
  · have e : Value.slice a0 len cap = .slice none 0 0 := by simpa [Value.cells] using hcs
    exact ⟨0, fun _ => default, ⟨⟨none, 0, e⟩, Nat.zero_le _, fun h => by omega⟩, .inl rfl⟩
  · have e : Value.slice a0 len cap = .slice (some a) len' cap' := by simpa [Value.cells] using hcs
    rw [e]
    have each : ∀ i, ∃ ev : Axm.Ev, i < len' → ∃ s0 s1 s2, EvAt W (a.add (i * 13)) ev s0 s1 s2 := by
      intro i
      by_cases hi : i < len'
      · have hg := hget i hi
        rw [List.getElem?_eq_getElem (by omega), cells36] at hg
        obtain ⟨cs, hc, ht⟩ := Option.bind_eq_some_iff.1 hg
        obtain ⟨_, hlen, hcell⟩ := World.cells?_some hc
        obtain ⟨xs, m, _, _, _, hxl, hq⟩ := DataW.trod_struct fields36 ht
        have hx13 : xs.length = 13 := by rw [hxl]; kernel_rfl
        match cs, hlen with
        | [c0, c1, c2, c3, c4, c5, c6, c7, c8, c9, c10, c11, c12], _ =>
          obtain ⟨f0, g0, t0, o0⟩ := field36 (j := 0) (t := 3) (o := 0) (by kernel_rfl)
          have q0 := hq 0 f0 g0
          rw [t0, o0, List.getElem?_eq_getElem (by omega)] at q0
          obtain ⟨f1, g1, t1, o1⟩ := field36 (j := 1) (t := 3) (o := 1) (by kernel_rfl)
          have q1 := hq 1 f1 g1
          rw [t1, o1, List.getElem?_eq_getElem (by omega)] at q1
          obtain ⟨f2, g2, t2, o2⟩ := field36 (j := 2) (t := 3) (o := 2) (by kernel_rfl)
          have q2 := hq 2 f2 g2
          rw [t2, o2, List.getElem?_eq_getElem (by omega)] at q2
          obtain ⟨f3, g3, t3, o3⟩ := field36 (j := 3) (t := 33) (o := 3) (by kernel_rfl)
          have q3 := hq 3 f3 g3
          rw [t3, o3, List.getElem?_eq_getElem (by omega)] at q3
          obtain ⟨f4, g4, t4, o4⟩ := field36 (j := 4) (t := 33) (o := 4) (by kernel_rfl)
          have q4 := hq 4 f4 g4
          rw [t4, o4, List.getElem?_eq_getElem (by omega)] at q4
          obtain ⟨f5, g5, t5, o5⟩ := field36 (j := 5) (t := 3) (o := 5) (by kernel_rfl)
          have q5 := hq 5 f5 g5
          rw [t5, o5, List.getElem?_eq_getElem (by omega)] at q5
          obtain ⟨f6, g6, t6, o6⟩ := field36 (j := 6) (t := 4) (o := 6) (by kernel_rfl)
          have q6 := hq 6 f6 g6
          rw [t6, o6, List.getElem?_eq_getElem (by omega)] at q6
          obtain ⟨f7, g7, t7, o7⟩ := field36 (j := 7) (t := 4) (o := 7) (by kernel_rfl)
          have q7 := hq 7 f7 g7
          rw [t7, o7, List.getElem?_eq_getElem (by omega)] at q7
          obtain ⟨f8, g8, t8, o8⟩ := field36 (j := 8) (t := 3) (o := 8) (by kernel_rfl)
          have q8 := hq 8 f8 g8
          rw [t8, o8, List.getElem?_eq_getElem (by omega)] at q8
          obtain ⟨f9, g9, t9, o9⟩ := field36 (j := 9) (t := 3) (o := 9) (by kernel_rfl)
          have q9 := hq 9 f9 g9
          rw [t9, o9, List.getElem?_eq_getElem (by omega)] at q9
          obtain ⟨f10, g10, t10, o10⟩ := field36 (j := 10) (t := 34) (o := 10) (by kernel_rfl)
          have q10 := hq 10 f10 g10
          rw [t10, o10, List.getElem?_eq_getElem (by omega)] at q10
          obtain ⟨f11, g11, t11, o11⟩ := field36 (j := 11) (t := 34) (o := 11) (by kernel_rfl)
          have q11 := hq 11 f11 g11
          rw [t11, o11, List.getElem?_eq_getElem (by omega)] at q11
          obtain ⟨f12, g12, t12, o12⟩ := field36 (j := 12) (t := 34) (o := 12) (by kernel_rfl)
          have q12 := hq 12 f12 g12
          rw [t12, o12, List.getElem?_eq_getElem (by omega)] at q12
          simp only [cells3, cells4, cells33, cells34] at q0 q1 q2 q3 q4 q5 q6 q7 q8 q9 q10 q11 q12
          obtain ⟨n0, e0, _, _⟩ := DataW.trod_int Tryz.underlying3 q0
          obtain ⟨n1, e1, _, _⟩ := DataW.trod_int Tryz.underlying3 q1
          obtain ⟨n2, e2, _, _⟩ := DataW.trod_int Tryz.underlying3 q2
          obtain ⟨n3, e3, _, _⟩ := DataW.trod_int Tryz.underlying33 q3
          obtain ⟨n4, e4, _, _⟩ := DataW.trod_int Tryz.underlying33 q4
          obtain ⟨n5, e5, _, _⟩ := DataW.trod_int Tryz.underlying3 q5
          obtain ⟨n6, e6, _⟩ := DataW.trod_bool Tryz.underlying4 q6
          obtain ⟨n7, e7, _⟩ := DataW.trod_bool Tryz.underlying4 q7
          obtain ⟨n8, e8, _, _⟩ := DataW.trod_int Tryz.underlying3 q8
          obtain ⟨n9, e9, _, _⟩ := DataW.trod_int Tryz.underlying3 q9
          obtain ⟨n10, e10⟩ := raw_of q10
          obtain ⟨n11, e11⟩ := raw_of q11
          obtain ⟨n12, e12⟩ := raw_of q12
          simp at e0 e1 e2 e3 e4 e5 e6 e7 e8 e9
          subst e0
          subst e1
          subst e2
          subst e3
          subst e4
          subst e5
          subst e6
          subst e7
          subst e8
          subst e9
          have k0 := hcell 0 (by decide)
          refine ⟨⟨n0, n1, n2, n3, n4, n5, n6, n7, n8, n9, n10, n11, n12⟩, fun _ => ⟨c10, c11, c12, World.block_lt_of_cell? W _ k0, hcell 0 (by decide), hcell 1 (by decide), hcell 2 (by decide), hcell 3 (by decide), hcell 4 (by decide), hcell 5 (by decide), hcell 6 (by decide), hcell 7 (by decide), hcell 8 (by decide), hcell 9 (by decide), hcell 10 (by decide), hcell 11 (by decide), hcell 12 (by decide), e10, e11, e12⟩⟩
      · exact ⟨default, fun k => absurd k hi⟩
    have h2 := (Prod.mk.inj hx).1
    exact ⟨len', fun i => (each i).choose, ⟨⟨some a, cap', rfl⟩, by omega, fun h0 => ⟨a, cap', rfl, fun i hi => (each i).choose_spec hi⟩⟩, .inr ⟨_, _, h2, by rw [List.length_map, hel]⟩⟩
theorem bytes36 : Tryz.prog.bytesOf 36 = 144 := by kernel_rfl
theorem weigh22 {H : Type} {d : DataW H} {el sp : List (DataW H)} (hd : d = .slice el sp) : (el.length + sp.length) * 144 ∈ d.weights Tryz.prog 22 := by
  subst hd
  unfold DataW.weights
  rw [Tryz.underlying22]
  simp only [bytes36]
  exact List.mem_cons_self
def laid1 : List (String × DataW Unit) := [("math/bits.deBruijn64tab", Rows.laid_math_bits_deBruijn64tab)]
theorem gTab : Tryz.prog.globalNamed "math/bits.deBruijn64tab" = some 0 := by kernel_rfl
theorem tTab : (Tryz.prog.globals[0]?).map (·.type) = some 121 := by kernel_rfl
theorem tab_of_laid {W : World} (h : laidMetH Tryz.prog laid1 W) : Tab W := by
  rw [MakeChecks.laidMetH_plain _ _ _ (by kernel_rfl)] at h
  have h' : Lib.TabIs Tryz.prog W "math/bits.deBruijn64tab" .u8 (Lib.deBruijn64tab.map Int.ofNat) := Lib.tabIs_of_head gTab tTab Tryz.underlying121 Tryz.underlying5 (by kernel_rfl) (by kernel_rfl) (zs := Lib.deBruijn64tab.map Int.ofNat) (rest := []) h
  intro j hj
  have hl : (Lib.deBruijn64tab.map Int.ofNat).length = 64 := by decide +kernel
  have hc := h'.cell gTab j (by rw [hl]; exact hj)
  have e : (Lib.deBruijn64tab.map Int.ofNat).getD j 0 = (Lib.deBruijn64tab.getD j 0 : Nat) := by
    rw [List.getD_eq_getElem?_getD, List.getD_eq_getElem?_getD, List.getElem?_map]
    cases Lib.deBruijn64tab[j]? <;> rfl
  rw [e] at hc
  exact ⟨hc, World.block_lt_of_cell? W _ hc⟩
theorem door_met (os : Os) (args : Array Value) : laidMetH Tryz.prog laid1 ((World.doorLaid Tryz.prog 400 os).forCall (fun _ _ => 0) ⟨#[], args, []⟩).memory :=
  laidMetH_of_parts3 (fuel := 8) (laidMet_of_run' 8 (by kernel_rfl) (by kernel_rfl)) (by kernel_rfl) (by kernel_rfl)
end Go.Proofs.YtnedkielehmneaaGreatDoor
