/- What came in; what is left to show of a law that has turned nothing that came in. -/
import Derived.Test.YtejlmggfeejgpaaXk
import Derived.ProofKit
import Derived.OpenShut
import Derived.Stop.Joined
import Derived.Stop.LaidErr
import Derived.Lib.SmallJoins
import Derived.ChangeArms
import Derived.Carry
import Derived.ChangeSlices
namespace Go.Proofs.Ytejlmggfeejgpaa
open Go.RowKit
open Go.ChangeShapes Go.WideShapes Go.ChangeAt
set_option linter.unusedVariables false
set_option linter.unusedSimpArgs false
set_option maxRecDepth 8000

section
variable {H : Type} {enc : TypeId × Value → H} {P : Program}
theorem trodAll_stays {W W' : World} (hl : laidOutB P = true) (hB : Below W.heap.size W W') (sp : Nat → Bool) : ∀ {ts : List TypeId} {vs : List Value} {ds : List (DataW H)} {ps : List MemPlace},
    (∀ t ∈ ts, P.readableRec t = true ∧ t < P.types.size) → DataW.TrodAll enc P W 0 (fun _ => true) true ts vs ds ps → (∀ x ∈ ps, x.block < W.heap.size) → (∀ x ∈ ps, sp x.block = true) → DataW.TrodAll enc P W' 0 sp true ts vs ds ps
  | [], _, _, _, _, h, _, _ => by
    obtain ⟨rfl, rfl, rfl⟩ := trodAll_nil h
    exact trodAll_mk0
  | t :: ts, _, _, _, hr, h, hlt, hsp => by
    obtain ⟨v, vs1, d, ds1, a, b, rfl, rfl, rfl, h1, h2⟩ := trodAll_cons h
    obtain ⟨r1, r2⟩ := hr t List.mem_cons_self
    refine trodAll_cons_mk (WideElems.Trod_stays hl r1 r2 h1 (fun x hx => hB.same (hlt x (List.mem_append_left _ hx))) (fun x hx => hsp x (List.mem_append_left _ hx))) ?_
    exact trodAll_stays hl hB sp (fun t ht => hr t (List.mem_cons_of_mem _ ht)) h2 (fun x hx => hlt x (List.mem_append_right _ hx)) (fun x hx => hsp x (List.mem_append_right _ hx))
theorem post_old {f : Func} {s : ChangeSpec} {apart fresh handsOn again : Bool} {W W' : World} {args : Array Value} {v : Value} {ds : List (DataW H)} {before : List MemPlace} (hl : laidOutB P = true)
    (hW : DataW.Whole enc P f.params.toList s.vars apart W args.toList ds [] before) (hB : Below W.heap.size W W') (hA : DataW.TrodAll enc P W 0 (fun _ => true) true f.params.toList args.toList ds before)
    (hrd : ∀ t ∈ f.params.toList, P.readableRec t = true ∧ t < P.types.size)
    (hres : ∀ (b : Nat) (sp : Nat → Bool) (hd : Bool), DataW.TrodAll enc P W' b sp hd f.resultTypes.toList (v.resultList f.resultTypes.size) (s.fn H (ds ++ [])).results [])
    (hargs : (s.fn H (ds ++ [])).args = ds) (hvars : ∀ sp : Nat → Bool, DataW.TrodVars enc P W' sp s.vars (s.fn H (ds ++ [])).vars [])
    (hok : ∀ (j : Nat) (t : TypeId) (r : Value), f.resultTypes[j]? = some t → (v.resultList f.resultTypes.size)[j]? = some r → Value.okWide P W' .any 0 t r) :
    s.post enc P f apart fresh handsOn again W args v W' := by
  have hlt : ∀ x ∈ before, x.block < W.heap.size := fun p hp => hW.lt p hp
  have hold : ∀ p ∈ before, (fun b => decide (b < W.heap.size)) p.block = true := fun p hp => by simpa using hlt p hp
  have ha : ∀ sp : Nat → Bool, (∀ p ∈ before, sp p.block = true) → DataW.TrodAll enc P W' 0 sp true f.params.toList args.toList (s.fn H (ds ++ [])).args before := fun sp hsp => by
    rw [hargs]; exact trodAll_stays hl hB sp hrd hA hlt hsp
  refine ⟨ds, [], before, [], before, [], hW, hres _ _ _, ha _ hold, hvars _, World.keptBut_mono (fun p hp => ⟨hp, ?_⟩) (hB.frame (· ∈ before)), fun _ => ?_⟩
  · exact Or.inr (Or.inl hp)
  · obtain ⟨_, _, _, _, _, hz, hn⟩ := hW
    refine ⟨hok, _, _, ([] ++ before) ++ [], ⟨[] ++ before, [], trodAll_append (ha _ (fun _ _ => rfl)) (hres _ _ _), hvars _, rfl, ?_, ?_⟩, ?_⟩
    · intro b off hp
      have hp' : MemPlace.cell b off ∈ before := by simpa using hp
      have : W'.frozen? ⟨b, off, none⟩ = W.frozen? ⟨b, off, none⟩ := World.frozen?_of_block (hB.block b (hlt _ hp'))
      first | (rw [this]; exact hz b off hp') | (have h2 := hz b off hp'; simpa [World.frozen?, hB.block b (hlt _ hp')] using h2)
    · intro ha
      have := hn ha
      simpa using this
    · intro p hp _
      simpa using hp
end
theorem own : ownKnob Try.prog.godebug = none := by kernel_rfl
theorem cells29 : Try.prog.cellsOf 43 = 49 := by kernel_rfl
theorem cells26 : Try.prog.cellsOf 40 = 31 := by kernel_rfl
theorem cells27 : Try.prog.cellsOf 41 = 2 := by kernel_rfl
theorem cells3 : Try.prog.cellsOf 3 = 1 := by kernel_rfl
theorem cells4 : Try.prog.cellsOf 4 = 1 := by kernel_rfl
theorem u64_of {a : Int} (h : (Lit.int .u64 a).wf = true) : U64 a := by
  have := bounds_u64 h
  exact ⟨this.1, by omega⟩
theorem take_one {α : Type} {l : List α} {k : Nat} {v : α} (h : (l.drop k).take 1 = [v]) : l[k]? = some v := by
  have := congrArg (fun l => l[0]?) h
  simpa [List.getElem?_take, List.getElem?_drop] using this
section
variable {H : Type} {enc : TypeId × Value → H} {W : World} {b0 : Nat} {spare : Nat → Bool} {held : Bool}
theorem arr_cells {n : Nat} {t : TypeId} (ht : Try.prog.underlying t = some (.array n 22)) {fuel : Nat} {cs : List Value} {x : DataW H × List MemPlace} (h : DataW.trod enc Try.prog W b0 spare held fuel t cs = some x) (i : Nat) (hi : i < n) :
    ∃ z, cs[i]? = some (vU z) ∧ U64 z := by
  obtain ⟨xs, m, -, -, -, hl, hq⟩ := DataW.trod_array ht h
  have q := hq i hi
  rw [List.getElem?_eq_getElem (by omega)] at q
  obtain ⟨z, e, -, wz⟩ := DataW.trod_int Try.underlying22 q
  rw [cells22, Nat.mul_one] at e
  exact ⟨z, take_one e, u64_of wz⟩
set_option maxHeartbeats 1000000 in
theorem open_core {r : Reach} {base : Nat} {v : Value} {d : DataW H} {p : List MemPlace} (hv : Value.okWide Try.prog W r base 43 v) (h : DataW.Trod enc Try.prog W b0 spare held 43 v d p) : ∃ c : Cor, v = c.val ∧ CorOk c := by
  obtain ⟨cs, rfl, hsz⟩ := okWide_struct Try.underlying43 hv
  rw [cells29] at hsz
  obtain ⟨fuel, hf⟩ := h
  obtain ⟨xs, n, -, hx, -, hlen, hq⟩ := DataW.trod_struct Try.underlying43 hf
  have hlen : xs.length = 18 := hlen
  clear hf hv hx
  simp only [Value.cells] at hq
  have U : ∀ k z, cs.toList[k]? = some z → cs[k]? = some z := fun k z h => by rwa [Array.getElem?_toList] at h
  have q0 : DataW.trod enc Try.prog W b0 spare held n 40 ((cs.toList.drop 0).take 31) = some (xs[0]'(by omega)) := by
    rw [← List.getElem?_eq_getElem, ← cells26]; exact hq 0 _ rfl
  have q1 : DataW.trod enc Try.prog W b0 spare held n 41 ((cs.toList.drop 31).take 2) = some (xs[1]'(by omega)) := by
    rw [← List.getElem?_eq_getElem, ← cells27]; exact hq 1 _ rfl
  have q2 : DataW.trod enc Try.prog W b0 spare held n 22 ((cs.toList.drop 33).take 1) = some (xs[2]'(by omega)) := by
    rw [← List.getElem?_eq_getElem, ← cells22]; exact hq 2 _ rfl
  have q3 : DataW.trod enc Try.prog W b0 spare held n 4 ((cs.toList.drop 34).take 1) = some (xs[3]'(by omega)) := by
    rw [← List.getElem?_eq_getElem, ← cells4]; exact hq 3 _ rfl
  have q4 : DataW.trod enc Try.prog W b0 spare held n 4 ((cs.toList.drop 35).take 1) = some (xs[4]'(by omega)) := by
    rw [← List.getElem?_eq_getElem, ← cells4]; exact hq 4 _ rfl
  have q5 : DataW.trod enc Try.prog W b0 spare held n 4 ((cs.toList.drop 36).take 1) = some (xs[5]'(by omega)) := by
    rw [← List.getElem?_eq_getElem, ← cells4]; exact hq 5 _ rfl
  have q6 : DataW.trod enc Try.prog W b0 spare held n 4 ((cs.toList.drop 37).take 1) = some (xs[6]'(by omega)) := by
    rw [← List.getElem?_eq_getElem, ← cells4]; exact hq 6 _ rfl
  have q7 : DataW.trod enc Try.prog W b0 spare held n 3 ((cs.toList.drop 38).take 1) = some (xs[7]'(by omega)) := by
    rw [← List.getElem?_eq_getElem, ← cells3]; exact hq 7 _ rfl
  have q8 : DataW.trod enc Try.prog W b0 spare held n 4 ((cs.toList.drop 39).take 1) = some (xs[8]'(by omega)) := by
    rw [← List.getElem?_eq_getElem, ← cells4]; exact hq 8 _ rfl
  have q9 : DataW.trod enc Try.prog W b0 spare held n 22 ((cs.toList.drop 40).take 1) = some (xs[9]'(by omega)) := by
    rw [← List.getElem?_eq_getElem, ← cells22]; exact hq 9 _ rfl
  have q10 : DataW.trod enc Try.prog W b0 spare held n 22 ((cs.toList.drop 41).take 1) = some (xs[10]'(by omega)) := by
    rw [← List.getElem?_eq_getElem, ← cells22]; exact hq 10 _ rfl
  have q11 : DataW.trod enc Try.prog W b0 spare held n 22 ((cs.toList.drop 42).take 1) = some (xs[11]'(by omega)) := by
    rw [← List.getElem?_eq_getElem, ← cells22]; exact hq 11 _ rfl
  have q12 : DataW.trod enc Try.prog W b0 spare held n 22 ((cs.toList.drop 43).take 1) = some (xs[12]'(by omega)) := by
    rw [← List.getElem?_eq_getElem, ← cells22]; exact hq 12 _ rfl
  have q13 : DataW.trod enc Try.prog W b0 spare held n 22 ((cs.toList.drop 44).take 1) = some (xs[13]'(by omega)) := by
    rw [← List.getElem?_eq_getElem, ← cells22]; exact hq 13 _ rfl
  have q14 : DataW.trod enc Try.prog W b0 spare held n 22 ((cs.toList.drop 45).take 1) = some (xs[14]'(by omega)) := by
    rw [← List.getElem?_eq_getElem, ← cells22]; exact hq 14 _ rfl
  have q15 : DataW.trod enc Try.prog W b0 spare held n 3 ((cs.toList.drop 46).take 1) = some (xs[15]'(by omega)) := by
    rw [← List.getElem?_eq_getElem, ← cells3]; exact hq 15 _ rfl
  have q16 : DataW.trod enc Try.prog W b0 spare held n 3 ((cs.toList.drop 47).take 1) = some (xs[16]'(by omega)) := by
    rw [← List.getElem?_eq_getElem, ← cells3]; exact hq 16 _ rfl
  have q17 : DataW.trod enc Try.prog W b0 spare held n 4 ((cs.toList.drop 48).take 1) = some (xs[17]'(by omega)) := by
    rw [← List.getElem?_eq_getElem, ← cells4]; exact hq 17 _ rfl
  clear hq
  have X : ∀ i, i < 31 → ∃ z, cs[i]? = some (vU z) ∧ U64 z := fun i hi => by
    obtain ⟨z, e, wz⟩ := arr_cells Try.underlying40 q0 i hi
    exact ⟨z, U _ _ (by simpa [List.getElem?_take, hi] using e), wz⟩
  obtain ⟨sp0, e31, wsp0⟩ : ∃ z, cs[31]? = some (vU z) ∧ U64 z := by
    obtain ⟨z, e, wz⟩ := arr_cells Try.underlying41 q1 0 (by decide)
    exact ⟨z, U _ _ (by simpa [List.getElem?_take, List.getElem?_drop] using e), wz⟩
  obtain ⟨sp1, e32, wsp1⟩ : ∃ z, cs[32]? = some (vU z) ∧ U64 z := by
    obtain ⟨z, e, wz⟩ := arr_cells Try.underlying41 q1 1 (by decide)
    exact ⟨z, U _ _ (by simpa [List.getElem?_take, List.getElem?_drop] using e), wz⟩
  obtain ⟨a2, e33, -, -⟩ := DataW.trod_int Try.underlying22 q2
  replace e33 := U _ _ (take_one e33)
  obtain ⟨a3, e34, -⟩ := DataW.trod_bool Try.underlying4 q3
  replace e34 := U _ _ (take_one e34)
  obtain ⟨a4, e35, -⟩ := DataW.trod_bool Try.underlying4 q4
  replace e35 := U _ _ (take_one e35)
  obtain ⟨a5, e36, -⟩ := DataW.trod_bool Try.underlying4 q5
  replace e36 := U _ _ (take_one e36)
  obtain ⟨a6, e37, -⟩ := DataW.trod_bool Try.underlying4 q6
  replace e37 := U _ _ (take_one e37)
  obtain ⟨a7, e38, -, -⟩ := DataW.trod_int Try.underlying3 q7
  replace e38 := U _ _ (take_one e38)
  obtain ⟨a8, e39, -⟩ := DataW.trod_bool Try.underlying4 q8
  replace e39 := U _ _ (take_one e39)
  obtain ⟨a9, e40, -, ww9⟩ := DataW.trod_int Try.underlying22 q9
  replace e40 := U _ _ (take_one e40)
  obtain ⟨a10, e41, -, ww10⟩ := DataW.trod_int Try.underlying22 q10
  replace e41 := U _ _ (take_one e41)
  obtain ⟨a11, e42, -, ww11⟩ := DataW.trod_int Try.underlying22 q11
  replace e42 := U _ _ (take_one e42)
  obtain ⟨a12, e43, -, ww12⟩ := DataW.trod_int Try.underlying22 q12
  replace e43 := U _ _ (take_one e43)
  obtain ⟨a13, e44, -, ww13⟩ := DataW.trod_int Try.underlying22 q13
  replace e44 := U _ _ (take_one e44)
  obtain ⟨a14, e45, -, ww14⟩ := DataW.trod_int Try.underlying22 q14
  replace e45 := U _ _ (take_one e45)
  obtain ⟨a15, e46, -, -⟩ := DataW.trod_int Try.underlying3 q15
  replace e46 := U _ _ (take_one e46)
  obtain ⟨a16, e47, -, -⟩ := DataW.trod_int Try.underlying3 q16
  replace e47 := U _ _ (take_one e47)
  obtain ⟨a17, e48, -⟩ := DataW.trod_bool Try.underlying4 q17
  replace e48 := U _ _ (take_one e48)
  clear q0 q1
  have X' : ∀ i : Nat, ∃ z, i < 31 → cs[i]? = some (vU z) ∧ U64 z := fun i => by
    by_cases hi : i < 31
    · obtain ⟨z, e⟩ := X i hi; exact ⟨z, fun _ => e⟩
    · exact ⟨0, fun h => absurd h hi⟩
  obtain ⟨f, hf⟩ := Classical.skolem.1 X'
  refine ⟨⟨Vector.ofFn (fun i => f i), sp0, sp1, a2, a3, a4, a5, a6, a7, a8, a9, a10, a11, a12, a13, a14, a15, a16, a17⟩, ?_, ⟨fun i hi => by show U64 ((Vector.ofFn (fun i : Fin 31 => f i))[i]); rw [Vector.getElem_ofFn]; exact (hf i hi).2, wsp0, wsp1⟩⟩
  show Value.agg cs = Value.agg _
  congr 1
  apply Array.ext_getElem?
  intro k
  by_cases hk : k < 31
  · rw [(hf k hk).1, Cor.atX _ k hk]; simp
  · by_cases h2 : k < 49
    · have : k = 31 ∨ k = 32 ∨ k = 33 ∨ k = 34 ∨ k = 35 ∨ k = 36 ∨ k = 37 ∨ k = 38 ∨ k = 39 ∨ k = 40 ∨ k = 41 ∨ k = 42 ∨ k = 43 ∨ k = 44 ∨ k = 45 ∨ k = 46 ∨ k = 47 ∨ k = 48 := by omega
      rcases this with rfl | rfl | rfl | rfl | rfl | rfl | rfl | rfl | rfl | rfl | rfl | rfl | rfl | rfl | rfl | rfl | rfl | rfl
      · rw [e31, Cor.a31]
      · rw [e32, Cor.a32]
      · rw [e33, Cor.a33]
      · rw [e34, Cor.a34]
      · rw [e35, Cor.a35]
      · rw [e36, Cor.a36]
      · rw [e37, Cor.a37]
      · rw [e38, Cor.a38]
      · rw [e39, Cor.a39]
      · rw [e40, Cor.a40]
      · rw [e41, Cor.a41]
      · rw [e42, Cor.a42]
      · rw [e43, Cor.a43]
      · rw [e44, Cor.a44]
      · rw [e45, Cor.a45]
      · rw [e46, Cor.a46]
      · rw [e47, Cor.a47]
      · rw [e48, Cor.a48]
    · rw [Array.getElem?_eq_none (by omega), Array.getElem?_eq_none (by rw [Cor.size]; omega)]
end

theorem cells42 : Try.prog.cellsOf 39 = 6 := by kernel_rfl
theorem bytes42 : Try.prog.bytesOf 39 = 48 := by kernel_rfl
theorem cells44 : Try.prog.cellsOf 56 = 3 := by kernel_rfl
theorem fields44 : Try.prog.underlying 56 = some (.struct (Try.prog.fieldsOf 56)) := by rw [Program.fieldsOf, Try.underlying56]
structure OpsIn (W : World) (v : Value) (l : List Opr) : Prop where
  ops : Ops W v l
  imm : ∀ k, U64 (opAt l k).imm
  cap : ∀ ao n c, v = .slice ao n c → n ≤ c
set_option maxRecDepth 8000 in
theorem open_ops {H : Type} {enc : TypeId × Value → H} {W : World} {fuel : Nat} {cl : List Value} {x : DataW H × List MemPlace} (h : DataW.trod enc Try.prog W 0 (fun _ => true) true fuel 23 cl = some x) :
    ∃ v l, cl = [v] ∧ OpsIn W v l ∧ (l = [] ∨ ∃ el sp, x.1 = .slice el sp ∧ el.length = l.length) := by
  rcases DataW.trod_slice Try.underlying23 h with ⟨hcs, hx⟩ | ⟨a, len', cap', elems, rest, n, _, hcs, hx, _, hl, hm, hel, hget, _, _⟩
  · exact ⟨_, [], hcs, ⟨⟨⟨none, 0, rfl⟩, Nat.zero_le _, fun h => by simp at h⟩, fun k => by unfold opAt; simp [nilO]; exact ⟨by decide, by decide⟩, fun ao n c e => by cases e; exact Nat.le_refl _⟩, .inl rfl⟩
  · have each : ∀ i, i < len' → ∃ s : Opr, U64 s.imm ∧ OpAt W (a.add (i * 6)) s := by
      intro i hi
      have hg := hget i hi
      rw [List.getElem?_eq_getElem (by omega), cells42] at hg
      obtain ⟨cs, hc, ht⟩ := Option.bind_eq_some_iff.1 hg
      obtain ⟨_, hlen, hcell⟩ := World.cells?_some hc
      obtain ⟨xs, m, _, _, _, hxl, hq⟩ := DataW.trod_struct fields42 ht
      match cs, hlen with
      | [c0, c1, c2, c3, c4, c5], _ =>
        have hfs : Try.prog.fieldsOf 39 = #[⟨ "Kind", 3, 0, false, "", "", 0⟩, ⟨ "R", 3, 1, false, "", "", 8⟩, ⟨ "A", 3, 2, false, "", "", 16⟩, ⟨ "B", 3, 3, false, "", "", 24⟩, ⟨ "Order", 3, 4, false, "", "", 32⟩, ⟨ "Imm", 22, 5, false, "", "", 40⟩] := by kernel_rfl
        have hx6 : xs.length = 6 := by rw [hxl, hfs]; rfl
        have q0 := hq 0 ⟨ "Kind", 3, 0, false, "", "", 0⟩ (by rw [hfs]; rfl)
        have q1 := hq 1 ⟨ "R", 3, 1, false, "", "", 8⟩ (by rw [hfs]; rfl)
        have q2 := hq 2 ⟨ "A", 3, 2, false, "", "", 16⟩ (by rw [hfs]; rfl)
        have q3 := hq 3 ⟨ "B", 3, 3, false, "", "", 24⟩ (by rw [hfs]; rfl)
        have q4 := hq 4 ⟨ "Order", 3, 4, false, "", "", 32⟩ (by rw [hfs]; rfl)
        have q5 := hq 5 ⟨ "Imm", 22, 5, false, "", "", 40⟩ (by rw [hfs]; rfl)
        simp only [cells3, cells22] at q0 q1 q2 q3 q4 q5
        rw [List.getElem?_eq_getElem (by omega)] at q0 q1 q2 q3 q4 q5
        obtain ⟨n0, e0, _, f0⟩ := DataW.trod_int Try.underlying3 q0
        obtain ⟨n1, e1, _, f1⟩ := DataW.trod_int Try.underlying3 q1
        obtain ⟨n2, e2, _, f2⟩ := DataW.trod_int Try.underlying3 q2
        obtain ⟨n3, e3, _, f3⟩ := DataW.trod_int Try.underlying3 q3
        obtain ⟨n4, e4, _, f4⟩ := DataW.trod_int Try.underlying3 q4
        obtain ⟨n5, e5, _, f5⟩ := DataW.trod_int Try.underlying22 q5
        simp at e0 e1 e2 e3 e4 e5
        subst e0; subst e1; subst e2; subst e3; subst e4; subst e5
        have b5 := bounds_u64 f5
        have k0 : W.cell? (a.add (i * 6)) = some (vI n0) := hcell 0 (by decide)
        exact ⟨⟨n0, n1, n2, n3, n4, n5⟩, ⟨b5.1, by have := b5.2; show n5 < _; omega⟩, ⟨World.block_lt_of_cell? W _ k0, k0, hcell 1 (by decide), hcell 2 (by decide), hcell 3 (by decide), hcell 4 (by decide), hcell 5 (by decide)⟩⟩
    let f : Nat → Opr := fun i => if h : i < len' then (each i h).choose else nilO
    have hfi : ∀ i (h : i < len'), f i = (each i h).choose := fun i h => by simp only [f, dif_pos h]
    have hlen : ((List.range len').map f).length = len' := by simp
    have hat : ∀ i s, ((List.range len').map f)[i]? = some s → ∃ h : i < len', s = (each i h).choose := fun i s hs => by
      have hi : i < len' := by have := (List.getElem?_eq_some_iff.1 hs).1; simpa using this
      rw [List.getElem?_map, List.getElem?_range hi] at hs
      cases hs
      exact ⟨hi, hfi i hi⟩
    refine ⟨_, (List.range len').map f, hcs, ⟨⟨⟨some a, cap', by rw [hlen]⟩, by rw [hlen]; omega, fun h0 => ⟨a, cap', by rw [hlen], fun i s hs => ?_⟩⟩, fun k => ?_, fun ao n c e => by cases e; exact hl⟩, .inr ⟨_, _, (by rw [hx]), by rw [List.length_map, hel, hlen]⟩⟩
    · obtain ⟨hi, rfl⟩ := hat i s hs
      exact (each i hi).choose_spec.2
    · unfold opAt
      cases hk : ((List.range len').map f)[k]? with
      | none => exact ⟨by decide, by decide⟩
      | some s =>
        obtain ⟨hi, rfl⟩ := hat k s hk
        exact (each k hi).choose_spec.1
/-- Answers that came in. -/
structure GtAt (w : World) (p : Addr) (t : Gt) : Prop where
  lt : p.block < w.heap.size
  c0 : w.cell? p = some (vU t.value)
  c1 : w.cell? ⟨p.block, p.off + 1, none⟩ = some (.bool t.ok)
  c2 : w.cell? ⟨p.block, p.off + 2, none⟩ = some (vI t.fault)
structure Gots (w : World) (v : Value) (z : List Gt) : Prop where
  len : ∃ ao cap, v = .slice ao z.length cap
  cell : 0 < z.length → ∃ (ra : Addr) (cap : Nat), v = .slice (some ra) z.length cap ∧ ∀ i t, z[i]? = some t → GtAt w (ra.add (i * 3)) t
  ok : ∀ t ∈ z, U64 t.value
theorem GtAt.keep {w w' : World} {p : Addr} {t : Gt} (h : GtAt w p t) (hs : w.heap.size ≤ w'.heap.size) (hb : w'.heap[p.block]? = w.heap[p.block]?) : GtAt w' p t := by
  have e : ∀ q : Addr, q.block = p.block → w'.cell? q = w.cell? q := fun q hq => by unfold World.cell?; rw [hq, hb]
  exact ⟨Nat.lt_of_lt_of_le h.lt hs, (e _ rfl).trans h.c0, (e ⟨p.block, p.off + 1, none⟩ rfl).trans h.c1, (e ⟨p.block, p.off + 2, none⟩ rfl).trans h.c2⟩
theorem Gots.grow {w w' : World} {v : Value} {z : List Gt} (h : Gots w v z) (hb : Below w.heap.size w w') : Gots w' v z :=
  ⟨h.len, fun h0 => by obtain ⟨ra, cap, e, hc⟩ := h.cell h0; exact ⟨ra, cap, e, fun i t ht => (hc i t ht).keep hb.size (hb.block _ (hc i t ht).lt)⟩, h.ok⟩
set_option maxRecDepth 8000 in
theorem open_gots {H : Type} {enc : TypeId × Value → H} {W : World} {base : Nat} {v : Value} {d : DataW H} {ps : List MemPlace} (hv : Value.okWide Try.prog W .any base 44 v) (h : DataW.Trod enc Try.prog W 0 (fun _ => true) true 44 v d ps) : ∃ z, Gots W v z := by
  obtain ⟨a0, len, cap, rfl⟩ := okWide_slice (P := Try.prog) Try.underlying44 hv
  obtain ⟨fuel, hf⟩ := h
  rcases DataW.trod_slice Try.underlying44 hf with ⟨hcs, hx⟩ | ⟨a, len', cap', elems, rest, n, _, hcs, hx, _, hl, hm, hel, hget, _, _⟩
  · have e : Value.slice a0 len cap = .slice none 0 0 := by simpa [Value.cells] using hcs
    exact ⟨[], ⟨⟨none, 0, e⟩, fun h => by simp at h, fun _ h => by cases h⟩⟩
  · have e : Value.slice a0 len cap = .slice (some a) len' cap' := by simpa [Value.cells] using hcs
    rw [e]
    have each : ∀ i, i < len' → ∃ s : Gt, U64 s.value ∧ GtAt W (a.add (i * 3)) s := by
      intro i hi
      have hg := hget i hi
      rw [List.getElem?_eq_getElem (by omega), cells44] at hg
      obtain ⟨cs, hc, ht⟩ := Option.bind_eq_some_iff.1 hg
      obtain ⟨_, hlen, hcell⟩ := World.cells?_some hc
      obtain ⟨xs, m, _, _, _, hxl, hq⟩ := DataW.trod_struct fields44 ht
      match cs, hlen with
      | [c0, c1, c2], _ =>
        have hfs : Try.prog.fieldsOf 56 = #[⟨ "Value", 22, 0, false, "", "", 0⟩, ⟨ "Ok", 4, 1, false, "", "", 8⟩, ⟨ "Fault", 3, 2, false, "", "", 16⟩] := by kernel_rfl
        have hx3 : xs.length = 3 := by rw [hxl, hfs]; rfl
        have q0 := hq 0 ⟨ "Value", 22, 0, false, "", "", 0⟩ (by rw [hfs]; rfl)
        have q1 := hq 1 ⟨ "Ok", 4, 1, false, "", "", 8⟩ (by rw [hfs]; rfl)
        have q2 := hq 2 ⟨ "Fault", 3, 2, false, "", "", 16⟩ (by rw [hfs]; rfl)
        simp only [cells3, cells22, cells4] at q0 q1 q2
        rw [List.getElem?_eq_getElem (by omega)] at q0 q1 q2
        obtain ⟨n0, e0, _, f0⟩ := DataW.trod_int Try.underlying22 q0
        obtain ⟨n1, e1, _⟩ := DataW.trod_bool Try.underlying4 q1
        obtain ⟨n2, e2, _, f2⟩ := DataW.trod_int Try.underlying3 q2
        simp at e0 e1 e2
        subst e0; subst e1; subst e2
        have b0 := bounds_u64 f0
        have k0 : W.cell? (a.add (i * 3)) = some (vU n0) := hcell 0 (by decide)
        exact ⟨⟨n0, n1, n2⟩, ⟨b0.1, by have := b0.2; show n0 < _; omega⟩, ⟨World.block_lt_of_cell? W _ k0, k0, hcell 1 (by decide), hcell 2 (by decide)⟩⟩
    let f : Nat → Gt := fun i => if h : i < len' then (each i h).choose else ⟨0, false, 0⟩
    have hfi : ∀ i (h : i < len'), f i = (each i h).choose := fun i h => by simp only [f, dif_pos h]
    have hlen : ((List.range len').map f).length = len' := by simp
    have hat : ∀ i s, ((List.range len').map f)[i]? = some s → ∃ h : i < len', s = (each i h).choose := fun i s hs => by
      have hi : i < len' := by have := (List.getElem?_eq_some_iff.1 hs).1; simpa using this
      rw [List.getElem?_map, List.getElem?_range hi] at hs
      cases hs
      exact ⟨hi, hfi i hi⟩
    refine ⟨(List.range len').map f, ⟨⟨some a, cap', by rw [hlen]⟩, fun h0 => ⟨a, cap', by rw [hlen], fun i s hs => ?_⟩, fun s hs => ?_⟩⟩
    · obtain ⟨hi, rfl⟩ := hat i s hs
      exact (each i hi).choose_spec.2
    · obtain ⟨i, hi⟩ := List.mem_iff_getElem?.1 hs
      obtain ⟨h, rfl⟩ := hat i s hi
      exact (each i h).choose_spec.1
theorem cells25 : Try.prog.cellsOf 25 = 4 := by kernel_rfl
theorem cells23 : Try.prog.cellsOf 23 = 1 := by kernel_rfl
theorem fields25 : Try.prog.underlying 25 = some (.struct (Try.prog.fieldsOf 25)) := by rw [Program.fieldsOf, Try.underlying25]
set_option maxRecDepth 8000 in
/-- A block that came in. -/
theorem open_block {H : Type} {enc : TypeId × Value → H} {W : World} {base : Nat} {v : Value} {d : DataW H} {ps : List MemPlace} (hv : Value.okWide Try.prog W .any base 25 v) (h : DataW.Trod enc Try.prog W 0 (fun _ => true) true 25 v d ps) : ∃ pc words el u l, v = blV pc words el u ∧ 0 ≤ pc ∧ OpsIn W u l ∧ ((d.weights Try.prog 25).all (· ≤ reachBytes) = true → l.length * 48 ≤ 140737488351232) := by
  obtain ⟨cs, rfl, hsz⟩ := okWide_struct Try.underlying25 hv
  rw [cells25] at hsz
  obtain ⟨fuel, hf⟩ := h
  obtain ⟨xs, n, -, hx, -, hlen, hq⟩ := DataW.trod_struct fields25 hf
  have hfs : Try.prog.fieldsOf 25 = #[⟨ "PC", 22, 0, false, "", "", 0⟩, ⟨ "Words", 3, 1, false, "", "", 8⟩, ⟨ "EL", 3, 2, false, "", "", 16⟩, ⟨ "Ops", 23, 3, false, "", "", 24⟩] := by kernel_rfl
  have hx4 : xs.length = 4 := by rw [hlen, hfs]; rfl
  obtain ⟨l0⟩ := cs
  match l0, hsz with
  | [c0, c1, c2, c3], _ =>
    have q0 := hq 0 ⟨ "PC", 22, 0, false, "", "", 0⟩ (by rw [hfs]; rfl)
    have q1 := hq 1 ⟨ "Words", 3, 1, false, "", "", 8⟩ (by rw [hfs]; rfl)
    have q2 := hq 2 ⟨ "EL", 3, 2, false, "", "", 16⟩ (by rw [hfs]; rfl)
    have q3 := hq 3 ⟨ "Ops", 23, 3, false, "", "", 24⟩ (by rw [hfs]; rfl)
    simp only [cells3, cells22, cells23, Value.cells] at q0 q1 q2 q3
    rw [List.getElem?_eq_getElem (by omega)] at q0 q1 q2 q3
    obtain ⟨n0, e0, _, f0⟩ := DataW.trod_int Try.underlying22 q0
    obtain ⟨n1, e1, _, f1⟩ := DataW.trod_int Try.underlying3 q1
    obtain ⟨n2, e2, _, f2⟩ := DataW.trod_int Try.underlying3 q2
    obtain ⟨u, l, e3, O, hw⟩ := open_ops q3
    simp at e0 e1 e2 e3
    subst e0; subst e1; subst e2; subst e3
    have b0 := bounds_u64 f0
    refine ⟨n0, n1, n2, _, l, rfl, b0.1, O, fun hall => ?_⟩
    rcases hw with rfl | ⟨els, sp, hd, he⟩
    · exact Nat.zero_le _
    · have hd1 : d = .agg (xs.map (·.1)) := (Prod.mk.inj hx).1
      rw [hd1] at hall
      unfold DataW.weights at hall
      rw [fields25, hfs] at hall
      obtain ⟨x0, x1, x2, x3, rfl⟩ : ∃ x0 x1 x2 x3, xs = [x0, x1, x2, x3] := by
        match xs, hx4 with
        | [x0, x1, x2, x3], _ => exact ⟨x0, x1, x2, x3, rfl⟩
      · simp only [List.getElem_cons_succ, List.getElem_cons_zero] at hd
        simp only [List.map_cons, List.map_nil, DataW.weightsEach, List.all_append, Bool.and_eq_true] at hall
        have h3 := hall.2.2.2.1
        rw [hd] at h3
        unfold DataW.weights at h3
        rw [Try.underlying23] at h3
        simp only [List.all_cons, Bool.and_eq_true, decide_eq_true_eq, bytes42] at h3
        have hr : reachBytes = 140737488351232 := rfl
        rw [hr] at h3
        omega

end Go.Proofs.Ytejlmggfeejgpaa
