/- Fr, Sc, Ls of the seat, joined. -/
import Derived.Test.YteklkololojamaaGreatBl
import Derived.ProofKit
import Derived.OpenShut
import Derived.ChangeArms
import Derived.Carry
import Derived.ChangeSlices
import Derived.Test.YteklkololojamaaGreatBo
import Derived.Test.YteklkololojamaaGreatXg
/- What is left to show of a law that has turned nothing that came in: its arguments read as they did; a slice of numbers that came in. -/
namespace Go.Proofs.YteklkololojamaaGreat
open Go.ChangeShapes Go.WideShapes Go.ChangeAt Go.RowKit
set_option linter.unusedVariables false
set_option linter.unusedSimpArgs false

/-- A slice of numbers that came in. -/
structure Raw (w0 : World) (v : Value) (zs : List Int) : Prop where
  len : ∃ ao cap, v = .slice ao zs.length cap
  max : zs.length ≤ maxLen
  cell : 0 < zs.length → ∃ (ra : Addr) (cap : Nat), v = .slice (some ra) zs.length cap ∧ ∀ i x, zs[i]? = some x → (ra.add i).block < w0.heap.size ∧ w0.cell? (ra.add i) = some (vU x)
  wf : ∀ x ∈ zs, U64 x
/-- A slice of numbers that came in. -/
structure RawI (w0 : World) (v : Value) (zs : List Int) : Prop where
  len : ∃ ao cap, v = .slice ao zs.length cap
  max : zs.length ≤ maxLen
  cell : 0 < zs.length → ∃ (ra : Addr) (cap : Nat), v = .slice (some ra) zs.length cap ∧ ∀ i x, zs[i]? = some x → (ra.add i).block < w0.heap.size ∧ w0.cell? (ra.add i) = some (vI x)
  wf : ∀ x ∈ zs, I64 x
section
variable {H : Type} {enc : TypeId × Value → H} {P : Program}
theorem trodAll_stays {W W' : World} (hl : laidOutB P = true) (hB : Below W.heap.size W W') (sp : Nat → Bool) : ∀ {ts : List TypeId} {vs : List Value} {ds : List (DataW H)} {ps : List MemPlace},
    (∀ t ∈ ts, P.readableRec t = true ∧ t < P.types.size) → DataW.TrodAll enc P W 0 (fun _ => true) true ts vs ds ps → (∀ x ∈ ps, x.block < W.heap.size) → (∀ x ∈ ps, sp x.block = true) → DataW.TrodAll enc P W' 0 sp true ts vs ds ps
  | [], _, _, _, _, h, _, _ => by
    obtain ⟨rfl, rfl, rfl⟩ := trodAll_nil h
    exact trodAll_mk0
  | t :: ts, _, _, _, hr, h, hlt, hsp => by
    obtain ⟨v, vs1, d, ds1, a, b, rfl, rfl, rfl, h1, h2⟩ := trodAll_cons h
    obtain ⟨r1, r2⟩ := hr t List.mem_cons_self
    refine trodAll_cons_mk (WideElems.Trod_stays hl r1 r2 h1 (fun x hx => hB.same (hlt x (List.mem_append_left _ hx))) (fun x hx => hsp x (List.mem_append_left _ hx))) ?_
    exact trodAll_stays hl hB sp (fun t ht => hr t (List.mem_cons_of_mem _ ht)) h2 (fun x hx => hlt x (List.mem_append_right _ hx)) (fun x hx => hsp x (List.mem_append_right _ hx))
theorem post_old {f : Func} {s : ChangeSpec} {apart fresh handsOn again : Bool} {W W' : World} {args : Array Value} {v : Value} {ds : List (DataW H)} {before : List MemPlace} (hl : laidOutB P = true)
    (hW : DataW.Whole enc P f.params.toList s.vars apart W args.toList ds [] before) (hB : Below W.heap.size W W') (hA : DataW.TrodAll enc P W 0 (fun _ => true) true f.params.toList args.toList ds before)
    (hrd : ∀ t ∈ f.params.toList, P.readableRec t = true ∧ t < P.types.size)
    (hres : ∀ (b : Nat) (sp : Nat → Bool) (hd : Bool), DataW.TrodAll enc P W' b sp hd f.resultTypes.toList (v.resultList f.resultTypes.size) (s.fn H (ds ++ [])).results [])
    (hargs : (s.fn H (ds ++ [])).args = ds) (hvars : ∀ sp : Nat → Bool, DataW.TrodVars enc P W' sp s.vars (s.fn H (ds ++ [])).vars [])
    (hok : ∀ (j : Nat) (t : TypeId) (r : Value), f.resultTypes[j]? = some t → (v.resultList f.resultTypes.size)[j]? = some r → Value.okWide P W' .any 0 t r) :
    s.post enc P f apart fresh handsOn again W args v W' := by
  have hlt : ∀ x ∈ before, x.block < W.heap.size := fun p hp => hW.lt p hp
  have hold : ∀ p ∈ before, (fun b => decide (b < W.heap.size)) p.block = true := fun p hp => by simpa using hlt p hp
  have ha : ∀ sp : Nat → Bool, (∀ p ∈ before, sp p.block = true) → DataW.TrodAll enc P W' 0 sp true f.params.toList args.toList (s.fn H (ds ++ [])).args before := fun sp hsp => by
    rw [hargs]; exact trodAll_stays hl hB sp hrd hA hlt hsp
  refine ⟨ds, [], before, [], before, [], hW, hres _ _ _, ha _ hold, hvars _, World.keptBut_mono (fun p hp => ⟨hp, ?_⟩) (hB.frame (· ∈ before)), fun _ => ?_⟩
  · exact Or.inr (Or.inl hp)
  · obtain ⟨_, _, _, _, _, hz, hn⟩ := hW
    refine ⟨hok, _, _, ([] ++ before) ++ [], ⟨[] ++ before, [], trodAll_append (ha _ (fun _ _ => rfl)) (hres _ _ _), hvars _, rfl, ?_, ?_⟩, ?_⟩
    · intro b off hp
      have hp' : MemPlace.cell b off ∈ before := by simpa using hp
      have : W'.frozen? ⟨b, off, none⟩ = W.frozen? ⟨b, off, none⟩ := World.frozen?_of_block (hB.block b (hlt _ hp'))
      first | (rw [this]; exact hz b off hp') | (have h2 := hz b off hp'; simpa [World.frozen?, hB.block b (hlt _ hp')] using h2)
    · intro ha
      have := hn ha
      simpa using this
    · intro p hp _
      simpa using hp
end
theorem i64_of {a : Int} (h : (Lit.int .i64 a).wf = true) : I64 a := by
  have := bounds_i64 h
  exact ⟨this.1, by have := this.2; omega⟩
theorem u64_wf {a : Int} (h : (Lit.int .u64 a).wf = true) : U64 a := by
  have := bounds_u64 h
  exact ⟨this.1, by have := this.2; omega⟩
theorem cells3 : Tryz.prog.cellsOf 3 = 1 := by kernel_rfl
set_option maxRecDepth 8000 in
/-- A slice of numbers that came in. -/
theorem open_raw {H : Type} {enc : TypeId × Value → H} {W : World} {base : Nat} {v : Value} {d : DataW H} {ps : List MemPlace} (hv : Value.okWide Tryz.prog W .any base 55 v) (h : DataW.Trod enc Tryz.prog W 0 (fun _ => true) true 55 v d ps) : ∃ zs, Raw W v zs := by
  obtain ⟨a0, len, cap, rfl⟩ := okWide_slice (P := Tryz.prog) Tryz.underlying55 hv
  obtain ⟨fuel, hf⟩ := h
  rcases open_ints Tryz.underlying55 Tryz.underlying30 (by kernel_rfl) hf with ⟨hcs, hx⟩ | ⟨a, len', cap', zs, hcs, _, hl, hm, hz, hx, hcell, hwz⟩
  · have e : Value.slice a0 len cap = .slice none 0 0 := by simpa [Value.cells] using hcs
    refine ⟨[], ⟨⟨none, 0, e⟩, Nat.zero_le _, fun h => by simp at h, fun _ h => by cases h⟩⟩
  · have e : Value.slice a0 len cap = .slice (some a) len' cap' := by simpa [Value.cells] using hcs
    rw [e]
    have hz' : zs.length = cap' := by simpa using hz
    have hlen : (zs.take len').length = len' := by rw [List.length_take]; omega
    refine ⟨zs.take len', ⟨⟨some a, cap', by rw [hlen]⟩, by rw [hlen]; omega, fun h0 => ⟨a, cap', by rw [hlen], fun i x hx => ?_⟩, fun x hx => ?_⟩⟩
    · have hi : i < len' := by have := (List.getElem?_eq_some_iff.1 hx).1; omega
      have hc := hcell i (by omega)
      have : zs.getD i 0 = x := by
        rw [List.getElem?_take, if_pos hi] at hx
        simp [List.getD, hx]
      rw [this] at hc
      exact ⟨World.block_lt_of_cell? W _ hc, hc⟩
    · have := hwz x (List.mem_of_mem_take hx)
      exact u64_wf this
set_option maxRecDepth 8000 in
/-- A slice of numbers that came in. -/
theorem open_rawI {H : Type} {enc : TypeId × Value → H} {W : World} {base : Nat} {v : Value} {d : DataW H} {ps : List MemPlace} (hv : Value.okWide Tryz.prog W .any base 63 v) (h : DataW.Trod enc Tryz.prog W 0 (fun _ => true) true 63 v d ps) : ∃ zs, RawI W v zs := by
  obtain ⟨a0, len, cap, rfl⟩ := okWide_slice (P := Tryz.prog) Tryz.underlying63 hv
  obtain ⟨fuel, hf⟩ := h
  rcases open_ints Tryz.underlying63 Tryz.underlying3 (by kernel_rfl) hf with ⟨hcs, hx⟩ | ⟨a, len', cap', zs, hcs, _, hl, hm, hz, hx, hcell, hwz⟩
  · have e : Value.slice a0 len cap = .slice none 0 0 := by simpa [Value.cells] using hcs
    refine ⟨[], ⟨⟨none, 0, e⟩, Nat.zero_le _, fun h => by simp at h, fun _ h => by cases h⟩⟩
  · have e : Value.slice a0 len cap = .slice (some a) len' cap' := by simpa [Value.cells] using hcs
    rw [e]
    have hz' : zs.length = cap' := by simpa using hz
    have hlen : (zs.take len').length = len' := by rw [List.length_take]; omega
    refine ⟨zs.take len', ⟨⟨some a, cap', by rw [hlen]⟩, by rw [hlen]; omega, fun h0 => ⟨a, cap', by rw [hlen], fun i x hx => ?_⟩, fun x hx => ?_⟩⟩
    · have hi : i < len' := by have := (List.getElem?_eq_some_iff.1 hx).1; omega
      have hc := hcell i (by omega)
      have : zs.getD i 0 = x := by
        rw [List.getElem?_take, if_pos hi] at hx
        simp [List.getD, hx]
      rw [this] at hc
      exact ⟨World.block_lt_of_cell? W _ hc, hc⟩
    · have := hwz x (List.mem_of_mem_take hx)
      exact i64_of this
set_option maxRecDepth 8000 in
theorem open_bool {H : Type} {enc : TypeId × Value → H} {W : World} {base : Nat} {v : Value} {d : DataW H} {ps : List MemPlace} (hv : Value.okWide Tryz.prog W .any base 4 v) (h : DataW.Trod enc Tryz.prog W 0 (fun _ => true) true 4 v d ps) : ∃ b, v = .bool b ∧ d = .lit (.bool b) ∧ ps = [] := by
  obtain ⟨b, rfl⟩ := okWide_bool Tryz.underlying4 hv
  obtain ⟨fuel, hf⟩ := h
  obtain ⟨b', hh, hx⟩ := DataW.trod_bool Tryz.underlying4 hf
  simp [Value.cells] at hh
  subst hh
  simp only [Prod.mk.injEq] at hx
  exact ⟨b, rfl, hx.1, hx.2⟩
end Go.Proofs.YteklkololojamaaGreat
/- A script that came in. -/
namespace Go.Proofs.YteklkololojamaaGreat
open Go.ChangeShapes Go.WideShapes Go.ChangeAt Go.RowKit
set_option linter.unusedVariables false
set_option linter.unusedSimpArgs false

structure St5 where
  k : Int
  c : Int
  l : Int
  s : Int
  v : Int
def St5.row (s : St5) : List Value := [vI s.k, vI s.c, vI s.l, vI s.s, vU s.v]
abbrev St5.val (s : St5) : Value := .agg #[vI s.k, vI s.c, vI s.l, vI s.s, vU s.v]
structure St5.Ok (o : St5) : Prop where
  k : I64 o.k
  c : I64 o.c
  l : I64 o.l
  s : I64 o.s
  v : U64 o.v
structure Scr (w0 : World) (v : Value) (ss : List St5) : Prop where
  len : ∃ ao cap, v = .slice ao ss.length cap
  max : ss.length ≤ maxLen
  cell : 0 < ss.length → ∃ (ra : Addr) (cap : Nat), v = .slice (some ra) ss.length cap ∧ ∀ (i : Nat) s, ss[i]? = some s → ∀ (j : Nat) x, s.row[j]? = some x → ((ra.add (i * 5)).add j).block < w0.heap.size ∧ w0.cell? ((ra.add (i * 5)).add j) = some x
  wf : ∀ s ∈ ss, s.Ok
theorem Scr.grow {w w' : World} {v : Value} {ss : List St5} (h : Scr w v ss) (hb : Below w.heap.size w w') : Scr w' v ss :=
  ⟨h.len, h.max, fun h0 => by
    obtain ⟨ra, cap, e, hc⟩ := h.cell h0
    exact ⟨ra, cap, e, fun i s hs j x hx => ⟨Nat.lt_of_lt_of_le (hc i s hs j x hx).1 hb.size, by rw [hb.cell (hc i s hs j x hx).1]; exact (hc i s hs j x hx).2⟩⟩, h.wf⟩
theorem cells32 : Tryz.prog.cellsOf 32 = 5 := by kernel_rfl
theorem cells30 : Tryz.prog.cellsOf 30 = 1 := by kernel_rfl
theorem inf32 : ∃ i, Tryz.prog.info? 32 = some i ∧ i.size = 5 := by
  have h : (Tryz.prog.info? 32).map (·.size) = some 5 := by kernel_rfl
  cases hq : Tryz.prog.info? 32 with
  | none => rw [hq] at h; cases h
  | some i => exact ⟨i, rfl, by simpa [hq] using h⟩
theorem fields32 : Tryz.prog.underlying 32 = some (.struct (Tryz.prog.fieldsOf 32)) := by rw [Program.fieldsOf, Tryz.underlying32]
theorem run_load32 (w : World) (a : Addr) (s : St5) (h : ∀ (j : Nat) x, s.row[j]? = some x → w.cell? (a.add j) = some x) : (loadVar 32 a).run Tryz.prog w = .ok (s.val) w := by
  obtain ⟨i, h1, h3⟩ := inf32
  have hl := run_loadCells_list (P := Tryz.prog) w a s.row h
  have e : s.row.length = 5 := rfl
  rw [e] at hl
  simp [loadVar, isAgg, run_underlying Tryz.underlying32, sizeOf, typeInfo, h1, h3, hl]
  rfl
theorem wpList_load32 {ops : Array Oper} {rest : List Oper} {o : Oper} {a : Act} {w : World} {Q : Exit → Act → World → Prop} (hw : Region.wanted o (yielded ops a.tmps) = true) (x : Operand) (ho : o.op = .load 32 x) (ad : Addr) (hx : a.eval x = .pointer (some ad)) (s : St5) (hs : ∀ (j : Nat) x, s.row[j]? = some x → w.cell? (ad.add j) = some x)
    (h : wpList Tryz.prog ops Q rest (a.put o.dst (s.val)) w) : wpList Tryz.prog ops Q (o :: rest) a w := by
  refine BigFrame.wpList_want hw fun K hK => ?_
  unfold Oper.wp execOp
  simp only [ho, hx, Instr.loadAt, Instr.sureAddr, Sem.run_bind, Sem.run_pure, Result.andThen_ok, run_load32 w ad s hs]
  exact hK _ _ h
set_option maxRecDepth 8000 in
theorem open_script {H : Type} {enc : TypeId × Value → H} {W : World} {base : Nat} {v : Value} {d : DataW H} {ps : List MemPlace} (hv : Value.okWide Tryz.prog W .any base 22 v) (h : DataW.Trod enc Tryz.prog W 0 (fun _ => true) true 22 v d ps) : ∃ ss, Scr W v ss := by
  obtain ⟨a0, len, cap, rfl⟩ := okWide_slice (P := Tryz.prog) Tryz.underlying22 hv
  obtain ⟨fuel, hf⟩ := h
  rcases DataW.trod_slice Tryz.underlying22 hf with ⟨hcs, hx⟩ | ⟨a, len', cap', elems, rest, n, _, hcs, hx, _, hl, hm, hel, hget, _, _⟩
  · have e : Value.slice a0 len cap = .slice none 0 0 := by simpa [Value.cells] using hcs
    exact ⟨[], ⟨⟨none, 0, e⟩, Nat.zero_le _, fun h => by simp at h, fun _ h => by cases h⟩⟩
  · have e : Value.slice a0 len cap = .slice (some a) len' cap' := by simpa [Value.cells] using hcs
    rw [e]
    have each : ∀ i, i < len' → ∃ s : St5, s.Ok ∧ ∀ (j : Nat) x, s.row[j]? = some x → W.cell? ((a.add (i * 5)).add j) = some x := by
      intro i hi
      have hg := hget i hi
      rw [List.getElem?_eq_getElem (by omega), cells32] at hg
      obtain ⟨cs, hc, ht⟩ := Option.bind_eq_some_iff.1 hg
      obtain ⟨_, hlen, hcell⟩ := World.cells?_some hc
      obtain ⟨xs, m, _, _, _, hxl, hq⟩ := DataW.trod_struct fields32 ht
      match cs, hlen with
      | [c0, c1, c2, c4, c3], _ =>
        have hfs : Tryz.prog.fieldsOf 32 = #[⟨"Kind", 3, 0, false, "", "", 0⟩, ⟨"Core", 3, 1, false, "", "", 8⟩, ⟨"EL", 3, 2, false, "", "", 16⟩, ⟨"At", 3, 3, false, "", "", 24⟩, ⟨"Value", 30, 4, false, "", "", 32⟩] := by kernel_rfl
        have hx5 : xs.length = 5 := by rw [hxl, hfs]; rfl
        have q0 := hq 0 ⟨"Kind", 3, 0, false, "", "", 0⟩ (by rw [hfs]; rfl)
        have q1 := hq 1 ⟨"Core", 3, 1, false, "", "", 8⟩ (by rw [hfs]; rfl)
        have q2 := hq 2 ⟨"EL", 3, 2, false, "", "", 16⟩ (by rw [hfs]; rfl)
        have q4 := hq 3 ⟨"At", 3, 3, false, "", "", 24⟩ (by rw [hfs]; rfl)
        have q3 := hq 4 ⟨"Value", 30, 4, false, "", "", 32⟩ (by rw [hfs]; rfl)
        simp only [cells3, cells30] at q0 q1 q2 q4 q3
        rw [List.getElem?_eq_getElem (by omega)] at q0 q1 q2 q4 q3
        obtain ⟨n0, e0, _, f0⟩ := DataW.trod_int Tryz.underlying3 q0
        obtain ⟨n1, e1, _, f1⟩ := DataW.trod_int Tryz.underlying3 q1
        obtain ⟨n2, e2, _, f2⟩ := DataW.trod_int Tryz.underlying3 q2
        obtain ⟨n4, e4, _, f4⟩ := DataW.trod_int Tryz.underlying3 q4
        obtain ⟨n3, e3, _, f3⟩ := DataW.trod_int Tryz.underlying30 q3
        simp at e0 e1 e2 e4 e3
        subst e0; subst e1; subst e2; subst e4; subst e3
        refine ⟨⟨n0, n1, n2, n4, n3⟩, ⟨i64_of f0, i64_of f1, i64_of f2, i64_of f4, u64_wf f3⟩, fun j x hx => ?_⟩
        have hj : j < 5 := (List.getElem?_eq_some_iff.1 hx).1
        rw [hcell j hj]
        exact hx
    let f : Nat → St5 := fun i => if h : i < len' then (each i h).choose else ⟨0, 0, 0, 0, 0⟩
    have hfi : ∀ i (h : i < len'), f i = (each i h).choose := fun i h => by simp only [f, dif_pos h]
    have hlen : ((List.range len').map f).length = len' := by simp
    have hat : ∀ i s, ((List.range len').map f)[i]? = some s → ∃ h : i < len', s = (each i h).choose := fun i s hs => by
      have hi : i < len' := by have := (List.getElem?_eq_some_iff.1 hs).1; simpa using this
      rw [List.getElem?_map, List.getElem?_range hi] at hs
      cases hs
      exact ⟨hi, hfi i hi⟩
    refine ⟨(List.range len').map f, ⟨⟨some a, cap', by rw [hlen]⟩, by rw [hlen]; omega, fun h0 => ⟨a, cap', by rw [hlen], fun i s hs j x hx => ?_⟩, fun s hs => ?_⟩⟩
    · obtain ⟨hi, rfl⟩ := hat i s hs
      have hc := (each i hi).choose_spec.2 j x hx
      exact ⟨World.block_lt_of_cell? W _ hc, hc⟩
    · obtain ⟨i, hi⟩ := List.mem_iff_getElem?.1 hs
      obtain ⟨h, rfl⟩ := hat i s hi
      exact (each i h).choose_spec.1
end Go.Proofs.YteklkololojamaaGreat
/- A script walked; strings of bytes. -/
namespace Go.Proofs.YteklkololojamaaGreat
open Go.RowKit
set_option linter.unusedVariables false
set_option linter.unusedSimpArgs false
set_option maxRecDepth 8000

def Ch2 (w : World) (R : World → Prop) : Nat → World → Prop
  | 0, w' => Below w.heap.size w w'
  | 1, w' => Below w.heap.size w w'
  | 2, w' => R w'
  | _, _ => False
theorem ch2_below {w w' : World} {R : World → Prop} {j : Nat} (hj : j ≤ 1) (h : Ch2 w R j w') : Below w.heap.size w w' := by
  match j, hj with
  | 0, _ => exact h
  | 1, _ => exact h
/-- An entry of the script in a block of one's own. -/
def StAt (q : Nat) (o : St5) (w : World) : Prop := w.heap[q]? = some (.cells o.row.toArray 32)
section
variable {q : Nat} {o : St5} {w w' : World}
theorem StAt.grow (h : StAt q o w) (hb : Below w.heap.size w w') : StAt q o w' := by
  unfold StAt
  rw [hb.block q (lt_of_some h)]
  exact h
theorem StAt.c0 (h : StAt q o w) : w.cell? ⟨q, 0, none⟩ = some (vI o.k) := by rw [cell_of_row _ _ _ _ _ _ h]; rfl
theorem StAt.c1 (h : StAt q o w) : w.cell? ⟨q, 1, none⟩ = some (vI o.c) := by rw [cell_of_row _ _ _ _ _ _ h]; rfl
theorem StAt.c2 (h : StAt q o w) : w.cell? ⟨q, 2, none⟩ = some (vI o.l) := by rw [cell_of_row _ _ _ _ _ _ h]; rfl
theorem StAt.c3 (h : StAt q o w) : w.cell? ⟨q, 3, none⟩ = some (vI o.s) := by rw [cell_of_row _ _ _ _ _ _ h]; rfl
theorem StAt.c4 (h : StAt q o w) : w.cell? ⟨q, 4, none⟩ = some (vU o.v) := by rw [cell_of_row _ _ _ _ _ _ h]; rfl
end
theorem inf32' : (Tryz.prog.info? 32).map (·.size) = some 5 := by kernel_rfl
theorem st32 {ops : Array Oper} {rest : List Oper} {o : Oper} {a : Act} {w : World} {Q : Exit → Act → World → Prop} (hgd : o.guard = none) (x y : Operand) (ho : o.op = .store 32 x y) (b : Nat) (hx : a.eval x = ptr b 0) (s : St5) (C : Array Value) (hC : C.size = 5) (hy : a.eval y = s.val) (hg : w.heap[b]? = some (.cells C 32))
    (h : wpList Tryz.prog ops Q rest (a.put o.dst undef) (w.setRow b s.row.toArray)) : wpList Tryz.prog ops Q (o :: rest) a w :=
  wpList_store_row hgd 32 x y ho b s.row.toArray hx hy 32 _ hg inf32' hC (by simp [Value.oneCell', St5.row]) h
theorem Scr.at {w0 w : World} {v : Value} {ss : List St5} (h : Scr w0 v ss) (hb : Below w0.heap.size w0 w) {i : Nat} {s : St5} (hs : ss[i]? = some s) : ∃ ra cap, v = .slice (some ra) ss.length cap ∧ ∀ (j : Nat) x, s.row[j]? = some x → w.cell? ((ra.add (i * 5)).add j) = some x := by
  have hi := (List.getElem?_eq_some_iff.1 hs).1
  obtain ⟨ra, cap, e, hc⟩ := h.cell (by omega)
  exact ⟨ra, cap, e, fun j x hx => by rw [hb.cell (hc i s hs j x hx).1]; exact (hc i s hs j x hx).2⟩
theorem str_cat (p q : List Int) : strOfNums p ++ strOfNums q = strOfNums (p ++ q) := by
  apply ByteArray.ext
  simp [strOfNums]
theorem wpList_catB {ops : Array Oper} {rest : List Oper} {o : Oper} {a : Act} {w : World} {Q : Exit → Act → World → Prop} (hw : o.guard = none) (x y : Operand) (ho : o.op = .binOp .add 9 x y 9)
    (p q : List Int) (hx : a.eval x = .string (strOfNums p)) (hy : a.eval y = .string (strOfNums q)) (hl : p.length + q.length ≤ 100000)
    (h : wpList Tryz.prog ops Q rest (a.put o.dst (.string (strOfNums (p ++ q)))) w) : wpList Tryz.prog ops Q (o :: rest) a w := by
  refine wpList_plain hw fun K hK => ?_
  have e : (execOp a.eval o).run Tryz.prog w = .ok (.value (.string (strOfNums (p ++ q)))) w := by
    unfold execOp
    simp only [ho, hx, hy]
    have hc := str_cat p q
    have h1 := strOfNums_size p
    have h2 := strOfNums_size q
    go_simp
    omega
  unfold Oper.wp
  rw [e]
  exact hK _ _ h
theorem wpList_toStr {ops : Array Oper} {rest : List Oper} {o : Oper} {a : Act} {w : World} {Q : Exit → Act → World → Prop} (hw : o.guard = none) (x : Operand) (ho : o.op = .convert 60 9 x)
    (b c : Nat) (n : Int) (hx : a.eval x = .slice (some ⟨b, 0, none⟩) 1 c) (hc : w.cell? ⟨b, 0, none⟩ = some (vB n))
    (h : wpList Tryz.prog ops Q rest (a.put o.dst (.string (strOfNums [n]))) w) : wpList Tryz.prog ops Q (o :: rest) a w := by
  have hr := run_convert_bytes_arg w 60 5 Tryz.underlying60 Tryz.underlying5 b 0 1 c [n] rfl (fun i hi => by
    have : i = 0 := by omega
    subst this
    exact hc) 9 Tryz.underlying9
  refine wpList_plain hw fun K hK => ?_
  unfold Oper.wp execOp
  simp only [ho, hx, Sem.run_bind, Result.andThen_ok, hr]
  exact hK _ _ h
/-- What only SysSet does, or a word of a device, does not reach the console. -/
theorem set_out (n : Nat) (S : Bs) (core el sys : Int) (v : Nat) : (bsetS n S core el sys v).O = S.O := by
  unfold bsetS
  split
  · rfl
  · split
    · rename_i k _ _
      unfold swS
      split <;> rfl
    · rfl
theorem find7 : findK 150994944 = some 7 := by kernel_rfl
end Go.Proofs.YteklkololojamaaGreat
