/- What came in; what is left to show of a law that has turned nothing that came in. -/
import Derived.Test.YtbdmemjenpnjgaaLb
import Derived.ProofKit
import Derived.OpenShut
import Derived.ChangeArms
import Derived.Carry
import Derived.ChangeSlices
import Derived.SizedLaws
namespace Go.Proofs.Ytbdmemjenpnjgaa
open Go.RowKit
open Go.ChangeShapes Go.WideShapes Go.ChangeAt
set_option linter.unusedVariables false
set_option linter.unusedSimpArgs false
set_option maxRecDepth 8000

open Go.Shelf
def I64 (n : Int) : Prop := -9223372036854775808 ≤ n ∧ n ≤ 9223372036854775807
/-- A slice of numbers that came in. -/
structure Raw (w0 : World) (v : Value) (zs : List Int) : Prop where
  len : ∃ ao cap, v = .slice ao zs.length cap
  max : zs.length ≤ maxLen
  cell : 0 < zs.length → ∃ (ra : Addr) (cap : Nat), v = .slice (some ra) zs.length cap ∧ ∀ i x, zs[i]? = some x → (ra.add i).block < w0.heap.size ∧ w0.cell? (ra.add i) = some (vI x)
  wf : ∀ x ∈ zs, I64 x
theorem Raw.grow {w w' : World} {v : Value} {zs : List Int} (h : Raw w v zs) (hb : Below w.heap.size w w') : Raw w' v zs :=
  ⟨h.len, h.max, fun h0 => by
    obtain ⟨ra, cap, e, hc⟩ := h.cell h0
    exact ⟨ra, cap, e, fun i x hx => ⟨Nat.lt_of_lt_of_le (hc i x hx).1 hb.size, by rw [hb.cell (hc i x hx).1]; exact (hc i x hx).2⟩⟩, h.wf⟩
section
variable {H : Type} {enc : TypeId × Value → H} {P : Program}
theorem trodAll_stays {W W' : World} (hl : laidOutB P = true) (hB : Below W.heap.size W W') (sp : Nat → Bool) : ∀ {ts : List TypeId} {vs : List Value} {ds : List (DataW H)} {ps : List MemPlace},
    (∀ t ∈ ts, P.readableRec t = true ∧ t < P.types.size) → DataW.TrodAll enc P W 0 (fun _ => true) true ts vs ds ps → (∀ x ∈ ps, x.block < W.heap.size) → (∀ x ∈ ps, sp x.block = true) → DataW.TrodAll enc P W' 0 sp true ts vs ds ps
  | [], _, _, _, _, h, _, _ => by
    obtain ⟨rfl, rfl, rfl⟩ := trodAll_nil h
    exact trodAll_mk0
  | t :: ts, _, _, _, hr, h, hlt, hsp => by
    obtain ⟨v, vs1, d, ds1, a, b, rfl, rfl, rfl, h1, h2⟩ := trodAll_cons h
    obtain ⟨r1, r2⟩ := hr t List.mem_cons_self
    refine trodAll_cons_mk (WideElems.Trod_stays hl r1 r2 h1 (fun x hx => hB.same (hlt x (List.mem_append_left _ hx))) (fun x hx => hsp x (List.mem_append_left _ hx))) ?_
    exact trodAll_stays hl hB sp (fun t ht => hr t (List.mem_cons_of_mem _ ht)) h2 (fun x hx => hlt x (List.mem_append_right _ hx)) (fun x hx => hsp x (List.mem_append_right _ hx))
theorem post_old {f : Func} {s : ChangeSpec} {apart fresh handsOn again : Bool} {W W' : World} {args : Array Value} {v : Value} {ds : List (DataW H)} {before : List MemPlace} (hl : laidOutB P = true)
    (hW : DataW.Whole enc P f.params.toList s.vars apart W args.toList ds [] before) (hB : Below W.heap.size W W') (hA : DataW.TrodAll enc P W 0 (fun _ => true) true f.params.toList args.toList ds before)
    (hrd : ∀ t ∈ f.params.toList, P.readableRec t = true ∧ t < P.types.size)
    (hres : ∀ (b : Nat) (sp : Nat → Bool) (hd : Bool), DataW.TrodAll enc P W' b sp hd f.resultTypes.toList (v.resultList f.resultTypes.size) (s.fn H (ds ++ [])).results [])
    (hargs : (s.fn H (ds ++ [])).args = ds) (hvars : ∀ sp : Nat → Bool, DataW.TrodVars enc P W' sp s.vars (s.fn H (ds ++ [])).vars [])
    (hok : ∀ (j : Nat) (t : TypeId) (r : Value), f.resultTypes[j]? = some t → (v.resultList f.resultTypes.size)[j]? = some r → Value.okWide P W' .any 0 t r) :
    s.post enc P f apart fresh handsOn again W args v W' := by
  have hlt : ∀ x ∈ before, x.block < W.heap.size := fun p hp => hW.lt p hp
  have hold : ∀ p ∈ before, (fun b => decide (b < W.heap.size)) p.block = true := fun p hp => by simpa using hlt p hp
  have ha : ∀ sp : Nat → Bool, (∀ p ∈ before, sp p.block = true) → DataW.TrodAll enc P W' 0 sp true f.params.toList args.toList (s.fn H (ds ++ [])).args before := fun sp hsp => by
    rw [hargs]; exact trodAll_stays hl hB sp hrd hA hlt hsp
  refine ⟨ds, [], before, [], before, [], hW, hres _ _ _, ha _ hold, hvars _, World.keptBut_mono (fun p hp => ⟨hp, ?_⟩) (hB.frame (· ∈ before)), fun _ => ?_⟩
  · exact Or.inr (Or.inl hp)
  · obtain ⟨_, _, _, _, _, hz, hn⟩ := hW
    refine ⟨hok, _, _, ([] ++ before) ++ [], ⟨[] ++ before, [], trodAll_append (ha _ (fun _ _ => rfl)) (hres _ _ _), hvars _, rfl, ?_, ?_⟩, ?_⟩
    · intro b off hp
      have hp' : MemPlace.cell b off ∈ before := by simpa using hp
      have : W'.frozen? ⟨b, off, none⟩ = W.frozen? ⟨b, off, none⟩ := World.frozen?_of_block (hB.block b (hlt _ hp'))
      first | (rw [this]; exact hz b off hp') | (have h2 := hz b off hp'; simpa [World.frozen?, hB.block b (hlt _ hp')] using h2)
    · intro ha
      have := hn ha
      simpa using this
    · intro p hp _
      simpa using hp
end
theorem i64_of {a : Int} (h : (Lit.int .i64 a).wf = true) : I64 a := by
  have := bounds_i64 h
  exact ⟨this.1, this.2⟩
theorem nat64 {a : Int} (h : (Lit.int .u64 a).wf = true) : ∃ n : Nat, a = n ∧ n < 18446744073709551616 := by
  have := bounds_u64 h
  exact ⟨a.toNat, by have := this.1; omega, by have := this.2; omega⟩
theorem nat32 {a : Int} (h : (Lit.int .u32 a).wf = true) : ∃ n : Nat, a = n ∧ n < 4294967296 := by
  have := bounds_u32 h
  exact ⟨a.toNat, by have := this.1; omega, by have := this.2; omega⟩
theorem cells3 : Try.prog.cellsOf 3 = 1 := by kernel_rfl
theorem cells23 : Try.prog.cellsOf 23 = 1 := by kernel_rfl
theorem cells24 : Try.prog.cellsOf 24 = 1 := by kernel_rfl
theorem cells34 : Try.prog.cellsOf 34 = 4 := by kernel_rfl
theorem bytes34 : Try.prog.bytesOf 34 = 32 := by kernel_rfl
theorem fields34 : Try.prog.underlying 34 = some (.struct (Try.prog.fieldsOf 34)) := by rw [Program.fieldsOf, Try.underlying34]
set_option maxRecDepth 8000 in
/-- A slice of numbers that came in. -/
theorem open_raw {H : Type} {enc : TypeId × Value → H} {W : World} {base : Nat} {v : Value} {d : DataW H} {ps : List MemPlace} (hv : Value.okWide Try.prog W .any base 48 v) (h : DataW.Trod enc Try.prog W 0 (fun _ => true) true 48 v d ps) : ∃ zs, Raw W v zs := by
  obtain ⟨a0, len, cap, rfl⟩ := okWide_slice (P := Try.prog) Try.underlying48 hv
  obtain ⟨fuel, hf⟩ := h
  rcases open_ints Try.underlying48 Try.underlying3 (by kernel_rfl) hf with ⟨hcs, hx⟩ | ⟨a, len', cap', zs, hcs, _, hl, hm, hz, hx, hcell, hwz⟩
  · have e : Value.slice a0 len cap = .slice none 0 0 := by simpa [Value.cells] using hcs
    refine ⟨[], ⟨⟨none, 0, e⟩, Nat.zero_le _, fun h => by simp at h, fun _ h => by cases h⟩⟩
  · have e : Value.slice a0 len cap = .slice (some a) len' cap' := by simpa [Value.cells] using hcs
    rw [e]
    have hz' : zs.length = cap' := by simpa using hz
    have hlen : (zs.take len').length = len' := by rw [List.length_take]; omega
    refine ⟨zs.take len', ⟨⟨some a, cap', by rw [hlen]⟩, by rw [hlen]; omega, fun h0 => ⟨a, cap', by rw [hlen], fun i x hx => ?_⟩, fun x hx => ?_⟩⟩
    · have hi : i < len' := by have := (List.getElem?_eq_some_iff.1 hx).1; omega
      have hc := hcell i (by omega)
      have : zs.getD i 0 = x := by
        rw [List.getElem?_take, if_pos hi] at hx
        simp [List.getD, hx]
      rw [this] at hc
      exact ⟨World.block_lt_of_cell? W _ hc, hc⟩
    · have := hwz x (List.mem_of_mem_take hx)
      exact i64_of this
set_option maxRecDepth 8000 in
theorem open_bool {H : Type} {enc : TypeId × Value → H} {W : World} {base : Nat} {v : Value} {d : DataW H} {ps : List MemPlace} (hv : Value.okWide Try.prog W .any base 4 v) (h : DataW.Trod enc Try.prog W 0 (fun _ => true) true 4 v d ps) : ∃ b, v = .bool b ∧ d = .lit (.bool b) ∧ ps = [] := by
  obtain ⟨b, rfl⟩ := okWide_bool Try.underlying4 hv
  obtain ⟨fuel, hf⟩ := h
  obtain ⟨b', hh, hx⟩ := DataW.trod_bool Try.underlying4 hf
  simp [Value.cells] at hh
  subst hh
  simp only [Prod.mk.injEq] at hx
  exact ⟨b, rfl, hx.1, hx.2⟩

/-- Notes that came in. -/
structure NtsIn (w : World) (v : Value) (tr : List Nt) : Prop where
  len : ∃ ao cap, v = .slice ao tr.length cap
  cell : 0 < tr.length → ∃ (ra : Addr) (cap : Nat), v = .slice (some ra) tr.length cap ∧ ∀ i n, tr[i]? = some n → NtAt w (ra.add (i * 4)) n
  ok : TrOk tr
theorem NtsIn.nts {w : World} {v : Value} {tr : List Nt} (h : NtsIn w v tr) (hm : tr.length ≤ 4398046511104) : Nts w v tr := ⟨h.len, hm, h.cell⟩
set_option maxRecDepth 8000 in
theorem open_notes {H : Type} {enc : TypeId × Value → H} {W : World} {base : Nat} {v : Value} {d : DataW H} {ps : List MemPlace} (hv : Value.okWide Try.prog W .any base 22 v) (h : DataW.Trod enc Try.prog W 0 (fun _ => true) true 22 v d ps) : ∃ ss, NtsIn W v ss := by
  obtain ⟨a0, len, cap, rfl⟩ := okWide_slice (P := Try.prog) Try.underlying22 hv
  obtain ⟨fuel, hf⟩ := h
  rcases DataW.trod_slice Try.underlying22 hf with ⟨hcs, hx⟩ | ⟨a, len', cap', elems, rest, n, _, hcs, hx, _, hl, hm, hel, hget, _, _⟩
  · have e : Value.slice a0 len cap = .slice none 0 0 := by simpa [Value.cells] using hcs
    exact ⟨[], ⟨⟨none, 0, e⟩, fun h => by simp at h, fun _ h => by cases h⟩⟩
  · have e : Value.slice a0 len cap = .slice (some a) len' cap' := by simpa [Value.cells] using hcs
    rw [e]
    have each : ∀ i, i < len' → ∃ s : Nt, NtOk s ∧ NtAt W (a.add (i * 4)) s := by
      intro i hi
      have hg := hget i hi
      rw [List.getElem?_eq_getElem (by omega), cells34] at hg
      obtain ⟨cs, hc, ht⟩ := Option.bind_eq_some_iff.1 hg
      obtain ⟨_, hlen, hcell⟩ := World.cells?_some hc
      obtain ⟨xs, m, _, _, _, hxl, hq⟩ := DataW.trod_struct fields34 ht
      match cs, hlen with
      | [c0, c1, c2, c3], _ =>
        have hfs : Try.prog.fieldsOf 34 = #[⟨ "Kind", 3, 0, false, "", "", 0⟩, ⟨ "Core", 3, 1, false, "", "", 8⟩, ⟨ "Addr", 23, 2, false, "", "", 16⟩, ⟨ "Word", 24, 3, false, "", "", 24⟩] := by kernel_rfl
        have hx5 : xs.length = 4 := by rw [hxl, hfs]; rfl
        have q0 := hq 0 ⟨ "Kind", 3, 0, false, "", "", 0⟩ (by rw [hfs]; rfl)
        have q1 := hq 1 ⟨ "Core", 3, 1, false, "", "", 8⟩ (by rw [hfs]; rfl)
        have q2 := hq 2 ⟨ "Addr", 23, 2, false, "", "", 16⟩ (by rw [hfs]; rfl)
        have q3 := hq 3 ⟨ "Word", 24, 3, false, "", "", 24⟩ (by rw [hfs]; rfl)
        simp only [cells3, cells23, cells24] at q0 q1 q2 q3
        rw [List.getElem?_eq_getElem (by omega)] at q0 q1 q2 q3
        obtain ⟨n0, e0, _, f0⟩ := DataW.trod_int Try.underlying3 q0
        obtain ⟨n1, e1, _, f1⟩ := DataW.trod_int Try.underlying3 q1
        obtain ⟨n2, e2, _, f2⟩ := DataW.trod_int Try.underlying23 q2
        obtain ⟨n3, e3, _, f3⟩ := DataW.trod_int Try.underlying24 q3
        have b0 := bounds_i64 f0
        have b1 := bounds_i64 f1
        obtain ⟨m2, rfl, b2⟩ := nat64 f2
        obtain ⟨m3, rfl, b3⟩ := nat32 f3
        simp at e0 e1 e2 e3
        subst e0; subst e1; subst e2; subst e3
        have k0 : W.cell? (a.add (i * 4)) = some (vI n0) := hcell 0 (by decide)
        exact ⟨⟨n0, n1, m2, m3⟩, ⟨⟨b0.1, Int.lt_of_le_of_lt b0.2 (by decide)⟩, ⟨b1.1, Int.lt_of_le_of_lt b1.2 (by decide)⟩, b2, b3⟩, ⟨World.block_lt_of_cell? W _ k0, k0, hcell 1 (by decide), hcell 2 (by decide), hcell 3 (by decide)⟩⟩
    let f : Nat → Nt := fun i => if h : i < len' then (each i h).choose else ⟨0, 0, 0, 0⟩
    have hfi : ∀ i (h : i < len'), f i = (each i h).choose := fun i h => by simp only [f, dif_pos h]
    have hlen : ((List.range len').map f).length = len' := by simp
    have hat : ∀ i s, ((List.range len').map f)[i]? = some s → ∃ h : i < len', s = (each i h).choose := fun i s hs => by
      have hi : i < len' := by have := (List.getElem?_eq_some_iff.1 hs).1; simpa using this
      rw [List.getElem?_map, List.getElem?_range hi] at hs
      cases hs
      exact ⟨hi, hfi i hi⟩
    refine ⟨(List.range len').map f, ⟨⟨some a, cap', by rw [hlen]⟩, fun h0 => ⟨a, cap', by rw [hlen], fun i s hs => ?_⟩, fun s hs => ?_⟩⟩
    · obtain ⟨hi, rfl⟩ := hat i s hs
      exact (each i hi).choose_spec.2
    · obtain ⟨i, hi⟩ := List.mem_iff_getElem?.1 hs
      obtain ⟨h, rfl⟩ := hat i s hi
      exact (each i h).choose_spec.1
theorem slice_len {H : Type} {enc : TypeId × Value → H} {W : World} {v : Value} {d : DataW H} {ps : List MemPlace} {zs : List Nt} (h : DataW.Trod enc Try.prog W 0 (fun _ => true) true 22 v d ps) (hv : NtsIn W v zs) : zs = [] ∨ ∃ el sp, d = .slice el sp ∧ el.length = zs.length := by
  obtain ⟨ao, cap, ev⟩ := hv.len
  obtain ⟨fuel, hf⟩ := h
  rcases DataW.trod_slice Try.underlying22 hf with ⟨hcs, hx⟩ | ⟨a, len', cap', elems, rest, n, _, hcs, hx, _, hl, hm, hel, hget, _, _⟩
  · left
    have e : v = .slice none 0 0 := by rw [ev] at hcs ⊢; simpa [Value.cells] using hcs
    rw [ev] at e
    have : zs.length = 0 := by injection e
    exact List.length_eq_zero_iff.1 this
  · right
    have e : v = .slice (some a) len' cap' := by rw [ev] at hcs ⊢; simpa [Value.cells] using hcs
    rw [ev] at e
    have h1 : zs.length = len' := by injection e
    have h2 := (Prod.mk.inj hx).1
    exact ⟨_, _, h2, by rw [List.length_map, hel, h1]⟩
theorem weigh {H : Type} {d : DataW H} {el sp : List (DataW H)} (hd : d = .slice el sp) : (el.length + sp.length) * 32 ∈ d.weights Try.prog 22 := by
  subst hd
  unfold DataW.weights
  rw [Try.underlying22]
  simp only [bytes34]
  exact List.mem_cons_self
end Go.Proofs.Ytbdmemjenpnjgaa
