/- For every state of a core and every word: SemAccess returns true: what Begin wants of an access is eight bytes at a multiple of eight, of the address that its registers say, wherever the PC stands, and the only thing that it wants; else it is an exception that names the address. -/
import Derived.Test.YtbjcdpmhmebjnaaGreatA14
namespace Go.Proofs.YtbjcdpmhmebjnaaGreat.semAccess
open Go.ChangeShapes Go.WideShapes Go.ChangeAt Go.RowKit
set_option linter.unusedVariables false

theorem w32_of {a : Int} (h : (Lit.int .u32 a).wf = true) : W32 a := by
  have := bounds_u32 h
  exact ⟨this.1, by omega⟩
theorem wrap_el {n : Int} (h : 0 ≤ n ∧ n ≤ 1) : wrap64 (36 + n) = 36 + n := by
  unfold wrap64
  omega
theorem walk (c : Cor) (wc : c.WF) (word : Int) (hw : (Lit.int .u32 word).wf = true) (w : World) :
    Calls Tryz.prog 7 #[c.val, .int .u32 word] w fun e w' => e = .returned (.bool true) ∧ Below w.heap.size w w' := by
  have hW := w32_of hw
  cases hr : rightC c
  · exact walk_no c word (begin_no c word hr) w
  · have hb := begin_yes c word hW hr
    have hd := decode_c word hW
    have F := dec_fine hW
    have hel := right_el hr
    generalize decV word = i at hb hd F
    by_cases hop : 17 ≤ i.op ∧ i.op ≤ 24
    · obtain ⟨k, hk1, hk4, hV⟩ := mem_want (c := c) hop
      have hn := sadr_in c i
      by_cases h8 : adrV c i % 8 = 0
      · have ev : wantV c i = { k with addr := adrV c i } := by rw [hV]; simp [accV, h8]
        have hr2 : rightC { c with pc := IntKind.u64.wrap (c.pc + 400) } = true := hr
        have hb2 : ∀ w : World, Calls Tryz.prog 9 #[({ c with pc := IntKind.u64.wrap (c.pc + 400) } : Cor).val, .int .u32 word] w fun e w' => e = .returned (.tuple #[(wantV c i).val, .int .i64 0]) ∧ Below w.heap.size w w' := fun w => begin_i _ word i hd F hr2 w
        refine walk_acc c word i (wantV c i) _ 0 hb hd rfl hb2 hop.1 hop.2 ?_ ?_ ?_ ?_ w
        · rw [ev]; simp; omega
        · rw [ev]; exact hk1
        · rw [ev]; exact hk4
        · rw [ev]; show ((adrV c i).tmod 8 == 0) = true; rw [tmod8 hn]; simp [h8]
      · have ev : wantV c i = { nilW with kind := 15, cls := 36 + c.el, iss := bif storeK k.kind then 97 else 33, addr := adrV c i } := by rw [hV]; simp [accV, h8]
        refine walk_trap c word i (wantV c i) hb hd hop.1 hop.2 ?_ ?_ ?_ w
        · rw [ev]
        · rw [ev]; show ((adrV c i).tmod 8 != 0) = true; rw [tmod8 hn]; simp [h8]
        · rw [ev]; show (36 + c.el == wrap64 (36 + c.el)) = true; rw [wrap_el hel]; simp
    · exact walk_other c word i (wantV c i) hb hd (by omega) (no_acc F hop) w

set_option maxRecDepth 100000 in
theorem lifted (os : Os) (started : os.Started) (H : Type) (enc : TypeId × Value → H) :
    ReturnsInHanded {} Tryz.checked os 7 .any (Rows.semAccessSpec.pre6 enc Tryz.prog Tryz.f7 Rows.semAccessRow.domain false) (Rows.semAccessSpec.post enc Tryz.prog Tryz.f7 false true false false) := by
  refine returnsInHanded_of_change (C := Tryz.checked) own started (by kernel_rfl) Tryz.func7
    (ChangeSpec.witness6 (enc := enc) (C := Tryz.checked) false ⟨#[], #[nilC.val, .int .u32 0], []⟩ 8 (by kernel_rfl) (by kernel_rfl) (by kernel_rfl) (by kernel_rfl)) ?_
  intro W base args ds gs before hval0 hW hcnd _
  have hval : ∀ (j : Nat) t v, Tryz.f7.params[j]? = some t → args[j]? = some v → Value.okWide Tryz.prog W .any base t v := hval0
  have hW' := hW
  obtain ⟨p, q, hA0, hV, rfl, hfz, hnd⟩ := hW
  have hA : DataW.TrodAll enc Tryz.prog W 0 (fun _ => true) true Tryz.f7.params.toList args.toList ds p := hA0
  rw [Tryz.params7] at hA hval
  obtain ⟨v0, vs0, d0, ds0, p0, q0, hargs, rfl, rfl, h0, r0⟩ := trodAll_cons hA
  obtain ⟨v1, vs1, d1, ds1, p1, q1, rfl, rfl, rfl, h1, r1⟩ := trodAll_cons r0
  obtain ⟨rfl, rfl, rfl⟩ := trodAll_nil r1
  obtain rfl : args = #[v0, v1] := by cases args; simp_all
  obtain ⟨rfl, rfl⟩ := trodVars_none hV
  obtain ⟨c, rfl, wc⟩ := open_core (hval 0 26 v0 rfl rfl) h0
  obtain rfl := (Trod_flat (w' := W) (b' := 0) (s' := fun _ => true) (h' := true) flat26 h0).1
  obtain ⟨a1, rfl, rfl, rfl, w1⟩ := open_int Tryz.underlying27 (hval 1 27 v1 rfl rfl) h1
  clear hA0 hval0
  simp only [List.append_nil] at hW'
  refine (walk c wc a1 w1 W).mono fun e W' ⟨he, hb⟩ => ?_
  subst he
  exact ⟨_, rfl, post_flat hW' (fun _ _ _ => (trodAll_cons_mk (shut_bool Tryz.underlying4 _) trodAll_mk0)) (fun sp => (trodAll_cons_mk (Trod_flat flat26 h0 |>.2) (trodAll_cons_mk (shut_int Tryz.underlying27 w1) trodAll_mk0))) (fun _ => rfl) (fun may => hb.frame may) (ok_one (by kernel_rfl) rfl (okWide_bool_mk Tryz.underlying4 _))⟩

theorem over : Rows.semAccessRow.holds Tryz.pinned (OpenSpec.ofChange Rows.semAccessSpec) :=
  OpenClaim.holds_of_wide 7 Tryz.f7 rfl rfl rfl rfl rfl rfl rfl ⟨rfl, rfl, rfl, rfl, rfl⟩ rfl rfl rfl rfl rfl (by kernel_rfl) Tryz.func7 (by kernel_rfl)
    (of_decide_eq_true (by kernel_rfl)) (by unfold Func.isWrapper; first | (rw [if_pos (by decide +kernel)]; kernel_rfl) | (rw [if_neg (by decide +kernel)]; exact ⟨rfl, rfl⟩))
    (fun os started H enc _ => lifted os started H enc)

theorem proved : Rows.SemAccessSaid :=
  over
end Go.Proofs.YtbjcdpmhmebjnaaGreat.semAccess

namespace Go.Proofs.YtbjcdpmhmebjnaaGreat
theorem semAccess_holds : Rows.SemAccessSaid := semAccess.proved
#print axioms semAccess_holds
end Go.Proofs.YtbjcdpmhmebjnaaGreat
