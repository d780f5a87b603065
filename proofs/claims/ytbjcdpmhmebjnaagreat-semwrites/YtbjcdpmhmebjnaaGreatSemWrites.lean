/- For every state of a core, every word and whatever came of what it wanted: no word changes a register that it is not told to write, nor the core's number, nor flags that it does not write; and the PC goes on by 4, or is a branch's, or a vector's: SemWrites returns true, whatever its arguments. -/
import Derived.Test.YtbjcdpmhmebjnaaGreatD29
import Derived.Test.YtbjcdpmhmebjnaaGreatD32
import Derived.Test.YtbjcdpmhmebjnaaGreatD33
import Derived.Test.YtbjcdpmhmebjnaaGreatD30
namespace Go.Proofs.YtbjcdpmhmebjnaaGreat.semWrites
open Go.ChangeShapes Go.WideShapes Go.ChangeAt Go.RowKit
set_option linter.unusedVariables false

theorem w32_of {a : Int} (h : (Lit.int .u32 a).wf = true) : W32 a := by
  have := bounds_u32 h
  exact ⟨this.1, by omega⟩
theorem sys_set {i : Ins} (h : rightB i = true) (hop : i.op = 32) (ho : outB i.sys = false) (hro : roB i.sys = false) : setB i.sys = true := by
  have hs : sysB i.sys = true := by
    simp only [rightB, Bool.and_eq_true] at h
    have := h.2.1.2
    simpa [rightSysB, hop] using this
  simp only [sysB, Bool.or_eq_true, beq_iff_eq] at hs
  simp only [outB, roB, setB, Bool.or_eq_true, Bool.or_eq_false_iff, beq_iff_eq, beq_eq_false_iff_ne] at *
  omega
theorem bar_ro {c : Cor} {i : Ins} (hop : i.op = 32) (hb : barB c i = false) : roB i.sys = false := by
  unfold barB at hb
  cases hr : roB i.sys
  · rfl
  · rw [hop, hr] at hb
    cases h0 : (c.el == 0) <;> rw [h0] at hb <;> simp at hb
/-- What the walk asks. -/
structure Kept (c d : Cor) (i : Ins) : Prop where
  x : ∀ (r : Nat) (h : r < 31), (setOf i (writesV i)).testBit r = false → d.x[r] = c.x[r]
  id : d.id = c.id
  f : (rightB i && flag2 i) = false → i.op ≠ 36 → SameF c d
  pc : ((i.op < 12 ∨ 16 < i.op) ∧ i.op ≠ 36) → IntKind.u64.wrap (c.pc + 4) = d.pc ∨ IntKind.u64.wrap (c.vbar + 512) = d.pc ∨ IntKind.u64.wrap (c.vbar + 1024) = d.pc
theorem ent_kept (c : Cor) (i : Ins) (a b f : Int) (h : entB c a b = true) : Kept c (enterV c a b f) i := by
  rw [enterV, h, cond_true]
  have hp : (entC c a b f).pc = vecV c := rfl
  refine ⟨fun r hr _ => rfl, rfl, fun _ _ => ⟨rfl, rfl, rfl, rfl⟩, fun _ => ?_⟩
  rw [hp, IntKind.wrap_u64, IntKind.wrap_u64, IntKind.wrap_u64]
  unfold vecV
  split
  · exact .inr (.inr rfl)
  · exact .inr (.inl rfl)
theorem do_kept (c : Cor) (i : Ins) (k : Gt) (hri : rightB i = true) (hrc : rightC c = true) (hset : i.op = 32 → outB i.sys = false → setB i.sys = true) : Kept c (doV i (nextC c) k) i := by
  have I := inR_of hri
  have hops := (right_rb hri).op
  have hel : c.el = 0 ∨ c.el = 1 := by have := right_el hrc; omega
  have K := do_keeps i (nextC c) k ⟨I.d0, I.d1⟩ ⟨I.m0, I.m1⟩ hel hrc hset
  generalize doV i (nextC c) k = d at K ⊢
  refine ⟨fun r hr hn => K.x r hr ?_, K.id, fun hB ho => ?_, fun hh => .inl (K.pc hh).symm⟩
  · rw [← wr_bits I hops hr, ← hn, setOf, hri, cond_true]
  · rw [hri, Bool.true_and, flag2, Bool.or_eq_false_iff] at hB
    have := K.f ⟨hB.1, fun q => by rw [q.1, q.2] at hB; simp at hB, ho⟩
    exact ⟨this.nn, this.zz, this.cc, this.vv⟩
theorem walk_k (c d : Cor) (word : Int) (i : Ins) (k : Gt) (hend : ∀ w : World, Calls Tryz.prog 13 #[c.val, .int .u32 word, k.val] w fun e w' => e = .returned (.tuple #[d.val, .int .i64 0]) ∧ Below w.heap.size w w') (hdec : ∀ w : World, Calls Tryz.prog 15 #[.int .u32 word] w fun e w' => e = .returned i.val ∧ Below w.heap.size w w') (K : Kept c d i) (w : World) :
    Calls Tryz.prog 5 #[c.val, .int .u32 word, k.val] w fun e w' => e = .returned (.bool true) ∧ Below w.heap.size w w' := by
  have hpc : i.op < 12 → IntKind.u64.wrap (c.pc + 4) = d.pc ∨ IntKind.u64.wrap (c.vbar + 512) = d.pc ∨ IntKind.u64.wrap (c.vbar + 1024) = d.pc := fun h => K.pc ⟨.inl h, by omega⟩
  have hpc2 : 16 < i.op → (i.op == 36) = false → IntKind.u64.wrap (c.pc + 4) = d.pc ∨ IntKind.u64.wrap (c.vbar + 512) = d.pc ∨ IntKind.u64.wrap (c.vbar + 1024) = d.pc := fun h h2 => K.pc ⟨.inr h, by simpa using h2⟩
  have hcl : i.op ≠ 36 → (12 ≤ i.op ∧ i.op ≤ 16) ∨ i.op < 12 ∨ (16 < i.op ∧ (i.op == 36) = false) := fun h => by
    have h' : (i.op == 36) = false := by simpa using h
    by_cases h1 : i.op < 12
    · exact .inr (.inl h1)
    · by_cases h2 : i.op ≤ 16
      · exact .inl ⟨by omega, h2⟩
      · exact .inr (.inr ⟨by omega, h'⟩)
  cases hB : (rightB i && flag2 i) with
  | true =>
    have ho : i.op ≠ 36 := fun e => by
      rw [Bool.and_eq_true] at hB
      have hf := no_flags hB.1 (show flagsR i.op i.sub = false by rw [e]; rfl)
      have := hB.2
      rw [flag2, hf, e] at this
      simp at this
    exact walk_a c d word i k hend hdec K.x K.id hB (hcl ho) hpc hpc2 w
  | false =>
    by_cases ho : i.op = 36
    · exact walk_b c d word i k hend hdec K.x K.id hB ho w
    · exact walk_c c d word i k hend hdec K.x K.id hB (by simpa using ho) (K.f hB ho) (hcl ho) hpc hpc2 w
theorem walk (c : Cor) (wc : c.WF) (word : Int) (k : Gt) (hw : (Lit.int .u32 word).wf = true) (w : World) :
    Calls Tryz.prog 5 #[c.val, .int .u32 word, k.val] w fun e w' => e = .returned (.bool true) ∧ Below w.heap.size w w' := by
  have hW := w32_of hw
  have hd := decode_c word hW
  have hend : ∀ w : World, Calls Tryz.prog 13 #[c.val, .int .u32 word, k.val] w fun e w' => e = .returned (.tuple #[(endV c (decV word) k).val, .int .i64 (endE c (decV word) k)]) ∧ Below w.heap.size w w' := fun w => End_c c word _ hd (dec_fine hW) (dec_deed hW) k wc.x wc.sp0 wc.sp1 wc.spsr w
  have hdr := dec_right hW
  generalize decV word = i at hd hend hdr
  unfold endV endE at hend
  cases hrc : rightC c with
  | false => rw [hrc] at hend; exact walk_no c word k hend w
  | true =>
    rw [hrc] at hend
    simp only [cond_true] at hend
    cases he : excV (wantV c i) k c.el with
    | some t =>
      obtain ⟨a, b, f⟩ := t
      rw [he] at hend
      simp only at hend
      cases hb : entB c a b with
      | false =>
        rw [enterV, hb] at hend
        exact walk_no c word k hend w
      | true =>
        have e0 : errB (entB c a b) = 0 := by rw [hb]; rfl
        rw [e0] at hend
        exact walk_k c _ word i k hend hd (ent_kept c i a b f hb) w
    | none =>
      rw [he] at hend
      simp only at hend
      have hk : ¬ (wantV c i).kind = 15 := fun e => by rw [excV, if_pos e] at he; cases he
      have hbar : barB c i = false := by
        cases hb : barB c i
        · rfl
        · exact absurd (by rw [wantV, if_pos hb]; rfl) hk
      have hri : rightB i = true := by
        rcases hdr with e | e
        · exact absurd (by rw [wantV, if_neg (by rw [hbar]; decide), e]; rfl) hk
        · exact e
      exact walk_k c _ word i k hend hd (do_kept c i k hri hrc (fun h32 hout => sys_set hri h32 hout (bar_ro h32 hbar))) w

set_option maxRecDepth 100000 in
theorem lifted (os : Os) (started : os.Started) (H : Type) (enc : TypeId × Value → H) :
    ReturnsInHanded {} Tryz.checked os 5 .any (Rows.semWritesSpec.pre6 enc Tryz.prog Tryz.f5 Rows.semWritesRow.domain false) (Rows.semWritesSpec.post enc Tryz.prog Tryz.f5 false true false false) := by
  refine returnsInHanded_of_change (C := Tryz.checked) own started (by kernel_rfl) Tryz.func5
    (ChangeSpec.witness6 (enc := enc) (C := Tryz.checked) false ⟨#[], #[nilC.val, .int .u32 0, (⟨0, false, 0⟩ : Gt).val], []⟩ 8 (by kernel_rfl) (by kernel_rfl) (by kernel_rfl) (by kernel_rfl)) ?_
  intro W base args ds gs before hval0 hW hcnd _
  have hval : ∀ (j : Nat) t v, Tryz.f5.params[j]? = some t → args[j]? = some v → Value.okWide Tryz.prog W .any base t v := hval0
  have hW' := hW
  obtain ⟨p, q, hA0, hV, rfl, hfz, hnd⟩ := hW
  have hA : DataW.TrodAll enc Tryz.prog W 0 (fun _ => true) true Tryz.f5.params.toList args.toList ds p := hA0
  rw [Tryz.params5] at hA hval
  obtain ⟨v0, vs0, d0, ds0, p0, q0, hargs, rfl, rfl, h0, r0⟩ := trodAll_cons hA
  obtain ⟨v1, vs1, d1, ds1, p1, q1, rfl, rfl, rfl, h1, r1⟩ := trodAll_cons r0
  obtain ⟨v2, vs2, d2, ds2, p2, q2, rfl, rfl, rfl, h2, r2⟩ := trodAll_cons r1
  obtain ⟨rfl, rfl, rfl⟩ := trodAll_nil r2
  obtain rfl : args = #[v0, v1, v2] := by cases args; simp_all
  obtain ⟨rfl, rfl⟩ := trodVars_none hV
  obtain ⟨c, rfl, wc⟩ := open_core (hval 0 26 v0 rfl rfl) h0
  obtain rfl := (Trod_flat (w' := W) (b' := 0) (s' := fun _ => true) (h' := true) flat26 h0).1
  obtain ⟨a1, rfl, rfl, rfl, w1⟩ := open_int Tryz.underlying27 (hval 1 27 v1 rfl rfl) h1
  obtain ⟨k, rfl, wk⟩ := open_got (hval 2 40 v2 rfl rfl) h2
  obtain rfl := (Trod_flat (w' := W) (b' := 0) (s' := fun _ => true) (h' := true) flat40 h2).1
  clear hA0 hval0
  simp only [List.append_nil] at hW'
  refine (walk c wc a1 k w1 W).mono fun e W' ⟨he, hb⟩ => ?_
  subst he
  exact ⟨_, rfl, post_flat hW' (fun _ _ _ => (trodAll_cons_mk (shut_bool Tryz.underlying4 _) trodAll_mk0)) (fun sp => (trodAll_cons_mk (Trod_flat flat26 h0 |>.2) (trodAll_cons_mk (shut_int Tryz.underlying27 w1) (trodAll_cons_mk (Trod_flat flat40 h2 |>.2) trodAll_mk0)))) (fun _ => rfl) (fun may => hb.frame may) (ok_one (by kernel_rfl) rfl (okWide_bool_mk Tryz.underlying4 _))⟩

theorem over : Rows.semWritesRow.holds Tryz.pinned (OpenSpec.ofChange Rows.semWritesSpec) :=
  OpenClaim.holds_of_wide 5 Tryz.f5 rfl rfl rfl rfl rfl rfl rfl ⟨rfl, rfl, rfl, rfl, rfl⟩ rfl rfl rfl rfl rfl (by kernel_rfl) Tryz.func5 (by kernel_rfl)
    (of_decide_eq_true (by kernel_rfl)) (by unfold Func.isWrapper; first | (rw [if_pos (by decide +kernel)]; kernel_rfl) | (rw [if_neg (by decide +kernel)]; exact ⟨rfl, rfl⟩))
    (fun os started H enc _ => lifted os started H enc)

theorem proved : Rows.SemWritesSaid :=
  over
end Go.Proofs.YtbjcdpmhmebjnaaGreat.semWrites

namespace Go.Proofs.YtbjcdpmhmebjnaaGreat
theorem semWrites_holds : Rows.SemWritesSaid := semWrites.proved
#print axioms semWrites_holds
end Go.Proofs.YtbjcdpmhmebjnaaGreat
