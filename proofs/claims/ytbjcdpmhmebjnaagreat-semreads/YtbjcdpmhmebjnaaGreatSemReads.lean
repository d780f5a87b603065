/- For every state of a core, every word, whatever came of what it wanted, every other number and every register: what an instruction does not read does not matter, where nothing is an exception: SemReads returns true, whatever its arguments. -/
import Derived.Test.YtbjcdpmhmebjnaaGreatC27
import Derived.Test.YtbjcdpmhmebjnaaGreatC28
namespace Go.Proofs.YtbjcdpmhmebjnaaGreat.semReads
open Go.ChangeShapes Go.WideShapes Go.ChangeAt Go.RowKit
set_option linter.unusedVariables false

theorem w32_of {a : Int} (h : (Lit.int .u32 a).wf = true) : W32 a := by
  have := bounds_u32 h
  exact ⟨this.1, by omega⟩
theorem sys_set {i : Ins} (h : rightB i = true) (hop : i.op = 32) (ho : outB i.sys = false) (hro : roB i.sys = false) : setB i.sys = true := by
  have hs : sysB i.sys = true := by
    simp only [rightB, Bool.and_eq_true] at h
    have := h.2.1.2
    simpa [rightSysB, hop] using this
  simp only [sysB, Bool.or_eq_true, beq_iff_eq] at hs
  simp only [outB, roB, setB, Bool.or_eq_true, Bool.or_eq_false_iff, beq_iff_eq, beq_eq_false_iff_ne] at *
  omega
theorem bar_ro {c : Cor} {i : Ins} (hop : i.op = 32) (hb : barB c i = false) : roB i.sys = false := by
  unfold barB at hb
  cases hr : roB i.sys
  · rfl
  · rw [hop, hr] at hb
    cases h0 : (c.el == 0) <;> rw [h0] at hb <;> simp at hb
theorem reg_of {q : Int} (h : (Lit.int .i64 q).wf = true) : ∃ r : Nat, r < 31 ∧ Hid ((q < 0 ∧ -9223372036854775808 ≤ q ∧ (-(q + 1)).tmod 31 = (r : Int)) ∨ (0 ≤ q ∧ q.tmod 31 = (r : Int))) := by
  have hb := bounds_i64 h
  by_cases h0 : q < 0
  · refine ⟨((-(q + 1)) % 31).toNat, by omega, .inl ⟨h0, by omega, ?_⟩⟩
    rw [Int.tmod_eq_emod_of_nonneg (by omega)]
    omega
  · refine ⟨(q % 31).toNat, by omega, .inr ⟨by omega, ?_⟩⟩
    rw [Int.tmod_eq_emod_of_nonneg (by omega)]
    omega
theorem end_of (c : Cor) (word : Int) (i : Ins) (hd : ∀ w : World, Calls Tryz.prog 15 #[.int .u32 word] w fun e w' => e = .returned i.val ∧ Below w.heap.size w w') (F : Fine i) (D : Deed i) (k : Gt) (p : Int) (hp : IntKind.u64.wrap (c.pc + 4) = p) (G : Good1 c) (V : Wnt) (hV : wantV c i = V) (hk : (V.kind == 15) = false) (hf : k.fault = 0) (w : World) :
    Calls Tryz.prog 13 #[c.val, .int .u32 word, k.val] w fun e w' => e = .returned (.tuple #[(doV i { c with pc := p } k).val, .int .i64 0]) ∧ Below w.heap.size w w' := by
  have G2 : Good1 { c with pc := p } := ⟨G.x, G.sp0, G.sp1, G.spsr, G.right⟩
  have hdo : Does i { c with pc := p } k := do_c i { c with pc := p } k G2 D
  clear G2 D
  generalize hd1 : doV i { c with pc := p } k = d
  have hdo2 : ∀ (g : Nat) (w : World), w.heap[g]? = some (.cells (Stp.cells ⟨i, { c with pc := p }, k, 0⟩) 58) → Calls Tryz.prog 54 #[.pointer (some ⟨g, 0, none⟩)] w fun e w' => e = .returned (.tuple #[]) ∧ w'.heap[g]? = some (.cells (Stp.cells ⟨i, d, k, 0⟩) 58) ∧ But g w w' := by
    intro g w h
    have := hdo g w h
    rw [hd1] at this
    exact this
  clear hdo hd1
  exact End_i c d word i k p w hd F G.right V hV hk hf hp hdo2
theorem put_x_in {c : Cor} (hx : ∀ (i : Nat) (h : i < 31), U64 c.x[i]) {r : Nat} {hr : r < 31} {o : Int} (ho : U64 o) : ∀ (i : Nat) (h : i < 31), U64 (putX c r hr o).x[i] := fun i h => by
  show U64 (c.x.set r o hr)[i]
  rw [Vector.getElem_set]
  split
  · exact ho
  · exact hx i h
theorem walk (c : Cor) (wc : c.WF) (word : Int) (k : Gt) (o q : Int) (hw : (Lit.int .u32 word).wf = true) (ho : U64 o) (hq : (Lit.int .i64 q).wf = true) (w : World) :
    Calls Tryz.prog 6 #[c.val, .int .u32 word, k.val, .int .u64 o, .int .i64 q] w fun e w' => e = .returned (.bool true) ∧ Below w.heap.size w w' := by
  have hW := w32_of hw
  obtain ⟨r, hr, hR⟩ := reg_of hq
  have hd := decode_c word hW
  have hbeg : ∀ w : World, Calls Tryz.prog 9 #[c.val, .int .u32 word] w fun e w' => e = .returned (.tuple #[(beginV c (decV word)).val, .int .i64 (errC c)]) ∧ Below w.heap.size w w' := fun w => begin_c c word hW w
  cases hB1 : (setOf (decV word) (readsV (decV word))).testBit r with
  | true => exact skip_a c word _ k o q r _ _ hr hR hbeg hd hB1 _ rfl w
  | false =>
    by_cases hop : (decV word).op = 0
    · exact skip_b c word _ k o q r _ _ hr hR hbeg hd hB1 _ rfl hop w
    have hop' : ((decV word).op == 0) = false := by simpa using hop
    cases hrc : rightC c with
    | false => exact skip_c c word _ k o q r _ _ hr hR hbeg hd hB1 _ rfl hop' (by rw [errC, hrc]; rfl) w
    | true =>
      have hE : errC c = 0 := by rw [errC, hrc]; rfl
      have eV : beginV c (decV word) = wantV c (decV word) := by rw [beginV, if_pos hrc]
      by_cases hV : (wantV c (decV word)).kind = 15
      · exact skip_d c word _ k o q r _ _ hr hR hbeg hd hB1 _ rfl hop' hE (by rw [eV]; exact hV) w
      have hV' : ((wantV c (decV word)).kind == 15) = false := by simpa using hV
      cases hF : (k.fault != 0) with
      | true => exact skip_e c word _ k o q r _ _ hr hR hbeg hd hB1 _ rfl hop' hE (by rw [eV]; exact hV') hF w
      | false =>
        have hF0 : k.fault = 0 := by simpa using hF
        have hri : rightB (decV word) = true := by
          rcases dec_right hW with e | e
          · exact absurd (by rw [e]; rfl) hop
          · exact e
        have I := inR_of hri
        have hops := (right_rb hri).op
        have hs1 : (readsV (decV word)).toNat.testBit r = false := by rw [← hB1, setOf, hri, cond_true]
        have NR := no_read I hops hr hs1
        have hs2 : (setOf (decV word) (writesV (decV word))).testBit r = wrB (decV word) r := by rw [setOf, hri, cond_true]; exact wr_bits I hops hr
        have G : Good1 c := ⟨wc.x, wc.sp0, wc.sp1, wc.spsr, hrc⟩
        have G2 : Good1 (putX c r hr o) := ⟨put_x_in wc.x ho, wc.sp0, wc.sp1, wc.spsr, hrc⟩
        have ew : wantV (putX c r hr o) (decV word) = wantV c (decV word) := want_same NR
        have hbeg2 : ∀ w : World, Calls Tryz.prog 9 #[(putX c r hr o).val, .int .u32 word] w fun e w' => e = .returned (.tuple #[(beginV c (decV word)).val, .int .i64 0]) ∧ Below w.heap.size w w' := fun w => by
          have := begin_c (putX c r hr o) word hW w
          have e1 : beginV (putX c r hr o) (decV word) = beginV c (decV word) := by
            have h2 : rightC (putX c r hr o) = true := hrc
            rw [beginV, beginV, if_pos hrc, if_pos h2, ew]
          have e2 : errC (putX c r hr o) = 0 := hE
          rwa [e1, e2] at this
        have hend1 := end_of c word _ hd (dec_fine hW) (dec_deed hW) k _ rfl G _ rfl hV' hF0
        have hend2 := end_of (putX c r hr o) word _ hd (dec_fine hW) (dec_deed hW) k _ rfl G2 _ rfl (by rw [ew]; exact hV') hF0
        have hset : (decV word).op = 32 → outB (decV word).sys = false → setB (decV word).sys = true := fun h32 hout => by
          refine sys_set hri h32 hout ?_
          have hb : barB c (decV word) = false := by
            cases hb : barB c (decV word)
            · rfl
            · exact absurd (by rw [wantV, if_pos hb]; rfl) hV
          exact bar_ro h32 hb
        have hel : c.el = 0 ∨ c.el = 1 := by have := right_el hrc; omega
        have hdo := do_same (c := { c with pc := IntKind.u64.wrap (c.pc + 4) }) (hr := hr) (o := o) k NR hel hrc hset
        have hdo2 : doV (decV word) { putX c r hr o with pc := IntKind.u64.wrap ((putX c r hr o).pc + 4) } k = bif wrB (decV word) r then doV (decV word) { c with pc := IntKind.u64.wrap (c.pc + 4) } k else putX (doV (decV word) { c with pc := IntKind.u64.wrap (c.pc + 4) } k) r hr o := hdo
        cases hwr : wrB (decV word) r with
        | true =>
          rw [hwr, cond_true] at hdo2
          rw [hdo2] at hend2
          exact main_w c word _ k o q r _ _ hr hR hbeg hd hB1 (hs2.trans hwr) hop' hE (by rw [eV]; exact hV') hF _ hbeg2 hend1 hend2 w
        | false =>
          rw [hwr, cond_false] at hdo2
          rw [hdo2] at hend2
          exact main_n c word _ k o q r _ _ hr hR hbeg hd hB1 (hs2.trans hwr) hop' hE (by rw [eV]; exact hV') hF _ hbeg2 hend1 hend2 w

set_option maxRecDepth 100000 in
theorem lifted (os : Os) (started : os.Started) (H : Type) (enc : TypeId × Value → H) :
    ReturnsInHanded {} Tryz.checked os 6 .any (Rows.semReadsSpec.pre6 enc Tryz.prog Tryz.f6 Rows.semReadsRow.domain false) (Rows.semReadsSpec.post enc Tryz.prog Tryz.f6 false true false false) := by
  refine returnsInHanded_of_change (C := Tryz.checked) own started (by kernel_rfl) Tryz.func6
    (ChangeSpec.witness6 (enc := enc) (C := Tryz.checked) false ⟨#[], #[nilC.val, .int .u32 0, (⟨0, false, 0⟩ : Gt).val, .int .u64 0, .int .i64 0], []⟩ 8 (by kernel_rfl) (by kernel_rfl) (by kernel_rfl) (by kernel_rfl)) ?_
  intro W base args ds gs before hval0 hW hcnd _
  have hval : ∀ (j : Nat) t v, Tryz.f6.params[j]? = some t → args[j]? = some v → Value.okWide Tryz.prog W .any base t v := hval0
  have hW' := hW
  obtain ⟨p, q, hA0, hV, rfl, hfz, hnd⟩ := hW
  have hA : DataW.TrodAll enc Tryz.prog W 0 (fun _ => true) true Tryz.f6.params.toList args.toList ds p := hA0
  rw [Tryz.params6] at hA hval
  obtain ⟨v0, vs0, d0, ds0, p0, q0, hargs, rfl, rfl, h0, r0⟩ := trodAll_cons hA
  obtain ⟨v1, vs1, d1, ds1, p1, q1, rfl, rfl, rfl, h1, r1⟩ := trodAll_cons r0
  obtain ⟨v2, vs2, d2, ds2, p2, q2, rfl, rfl, rfl, h2, r2⟩ := trodAll_cons r1
  obtain ⟨v3, vs3, d3, ds3, p3, q3, rfl, rfl, rfl, h3, r3⟩ := trodAll_cons r2
  obtain ⟨v4, vs4, d4, ds4, p4, q4, rfl, rfl, rfl, h4, r4⟩ := trodAll_cons r3
  obtain ⟨rfl, rfl, rfl⟩ := trodAll_nil r4
  obtain rfl : args = #[v0, v1, v2, v3, v4] := by cases args; simp_all
  obtain ⟨rfl, rfl⟩ := trodVars_none hV
  obtain ⟨c, rfl, wc⟩ := open_core (hval 0 26 v0 rfl rfl) h0
  obtain rfl := (Trod_flat (w' := W) (b' := 0) (s' := fun _ => true) (h' := true) flat26 h0).1
  obtain ⟨a1, rfl, rfl, rfl, w1⟩ := open_int Tryz.underlying27 (hval 1 27 v1 rfl rfl) h1
  obtain ⟨k, rfl, wk⟩ := open_got (hval 2 40 v2 rfl rfl) h2
  obtain rfl := (Trod_flat (w' := W) (b' := 0) (s' := fun _ => true) (h' := true) flat40 h2).1
  obtain ⟨a3, rfl, rfl, rfl, w3⟩ := open_int Tryz.underlying22 (hval 3 22 v3 rfl rfl) h3
  obtain ⟨a4, rfl, rfl, rfl, w4⟩ := open_int Tryz.underlying3 (hval 4 3 v4 rfl rfl) h4
  clear hA0 hval0
  simp only [List.append_nil] at hW'
  refine (walk c wc a1 k a3 a4 w1 (u64_of w3) w4 W).mono fun e W' ⟨he, hb⟩ => ?_
  subst he
  exact ⟨_, rfl, post_flat hW' (fun _ _ _ => (trodAll_cons_mk (shut_bool Tryz.underlying4 _) trodAll_mk0)) (fun sp => (trodAll_cons_mk (Trod_flat flat26 h0 |>.2) (trodAll_cons_mk (shut_int Tryz.underlying27 w1) (trodAll_cons_mk (Trod_flat flat40 h2 |>.2) (trodAll_cons_mk (shut_int Tryz.underlying22 w3) (trodAll_cons_mk (shut_int Tryz.underlying3 w4) trodAll_mk0)))))) (fun _ => rfl) (fun may => hb.frame may) (ok_one (by kernel_rfl) rfl (okWide_bool_mk Tryz.underlying4 _))⟩

theorem over : Rows.semReadsRow.holds Tryz.pinned (OpenSpec.ofChange Rows.semReadsSpec) :=
  OpenClaim.holds_of_wide 6 Tryz.f6 rfl rfl rfl rfl rfl rfl rfl ⟨rfl, rfl, rfl, rfl, rfl⟩ rfl rfl rfl rfl rfl (by kernel_rfl) Tryz.func6 (by kernel_rfl)
    (of_decide_eq_true (by kernel_rfl)) (by unfold Func.isWrapper; first | (rw [if_pos (by decide +kernel)]; kernel_rfl) | (rw [if_neg (by decide +kernel)]; exact ⟨rfl, rfl⟩))
    (fun os started H enc _ => lifted os started H enc)

theorem proved : Rows.SemReadsSaid :=
  over
end Go.Proofs.YtbjcdpmhmebjnaaGreat.semReads

namespace Go.Proofs.YtbjcdpmhmebjnaaGreat
theorem semReads_holds : Rows.SemReadsSaid := semReads.proved
#print axioms semReads_holds
end Go.Proofs.YtbjcdpmhmebjnaaGreat
