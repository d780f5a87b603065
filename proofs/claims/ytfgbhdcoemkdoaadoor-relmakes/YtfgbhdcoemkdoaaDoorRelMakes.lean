/- Any relation of any pairs is made or refused, told pair by pair, turned, closed and put in order as the document's own answer has it: RelMakes returns true, whatever its arguments (the row, and the card that ties its table to the program's text). -/
import Derived.Test.YtfgbhdcoemkdoaaDoorWg
import Derived.Test.YtfgbhdcoemkdoaaDoorFr
import Derived.Test.YtfgbhdcoemkdoaaDoorCards
import Derived.Test.YtfgbhdcoemkdoaaDoorTie
namespace Go.Proofs.YtfgbhdcoemkdoaaDoor.relMakes
open Go.ChangeShapes Go.WideShapes Go.ChangeAt Go.RowKit
set_option linter.unusedVariables false
set_option linter.unusedSimpArgs false

theorem i64_of {a : Int} (h : (Lit.int .i64 a).wf = true) : I64 a := by
  have := bounds_i64 h
  exact ⟨this.1, by have := this.2; omega⟩
theorem slice_len {H : Type} {enc : TypeId × Value → H} {W : World} {v : Value} {d : DataW H} {ps : List MemPlace} {zs : List (Int × Int)} (h : DataW.Trod enc Tryd.prog W 0 (fun _ => true) true 22 v d ps) (hv : Prs W v zs) : zs = [] ∨ ∃ el sp, d = .slice el sp ∧ el.length = zs.length := by
  obtain ⟨ao, cap, ev⟩ := hv.len
  obtain ⟨fuel, hf⟩ := h
  rcases DataW.trod_slice Tryd.underlying22 hf with ⟨hcs, hx⟩ | ⟨a, len', cap', elems, rest, n, _, hcs, hx, _, hl, hm, hel, hget, _, _⟩
  · left
    have e : v = .slice none 0 0 := by rw [ev] at hcs ⊢; simpa [Value.cells] using hcs
    rw [ev] at e
    have : zs.length = 0 := by injection e
    exact List.length_eq_zero_iff.1 this
  · right
    have e : v = .slice (some a) len' cap' := by rw [ev] at hcs ⊢; simpa [Value.cells] using hcs
    rw [ev] at e
    have h1 : zs.length = len' := by injection e
    have h2 := (Prod.mk.inj hx).1
    exact ⟨_, _, h2, by rw [List.length_map, hel, h1]⟩
theorem bytes60 : Tryd.prog.bytesOf 60 = 16 := by kernel_rfl
theorem weigh {H : Type} {d : DataW H} {el sp : List (DataW H)} (hd : d = .slice el sp) : (el.length + sp.length) * 16 ∈ d.weights Tryd.prog 22 := by
  subst hd
  unfold DataW.weights
  rw [Tryd.underlying22]
  simp only [bytes60]
  exact List.mem_cons_self

set_option maxRecDepth 100000 in
theorem lifted (os : Os) (started : os.Started) (H : Type) (enc : TypeId × Value → H) :
    ReturnsInHanded {} Tryd.checked os 3 .any (fun w args => (Rows.relMakesSpec.pre enc Tryd.prog Tryd.f3 [] false w args ∧ laidMetH Tryd.prog laid1 w) ∧ sizedMet enc Tryd.prog Tryd.f3 (OpenSpec.ofChange Rows.relMakesSpec) false w args)
      (Rows.relMakesSpec.post enc Tryd.prog Tryd.f3 false true false false) := by
  refine returnsInHanded_of_change_and (C := Tryd.checked) (X := fun w _ => laidMetH Tryd.prog laid1 w) (fun _ _ _ hh h => h.of_heap hh) own started (by kernel_rfl) Tryd.func3
    (ChangeSpec.witness_shaped (enc := enc) (C := Tryd.checked) (os := os) (X := fun w _ => laidMetH Tryd.prog laid1 w) false (World.doorLaid Tryd.prog 400 os) #[.int .i64 0, .slice none 0 0, .int .i64 0, .int .i64 0] 8 rfl (World.shaped_of_RefB (by kernel_rfl) (by kernel_rfl)) (by kernel_rfl) (by kernel_rfl) (by kernel_rfl) (door_met os _)) ?_
  intro W base args ds gs before hval0 hW _ hsize hL _
  have hval : ∀ (j : Nat) t v, Tryd.f3.params[j]? = some t → args[j]? = some v → Value.okWide Tryd.prog W .any base t v := hval0
  have hW' := hW
  obtain ⟨p, q, hA0, hV, rfl, hfz, hnd⟩ := hW
  have hA : DataW.TrodAll enc Tryd.prog W 0 (fun _ => true) true Tryd.f3.params.toList args.toList ds p := hA0
  have hAll := hA
  rw [Tryd.params3] at hA hval
  obtain ⟨v0, vs0, d0, ds0, p0, q0, hargs, rfl, rfl, h0, r0⟩ := trodAll_cons hA
  obtain ⟨v1, vs1, d1, ds1, p1, q1, rfl, rfl, rfl, h1, r1⟩ := trodAll_cons r0
  obtain ⟨v2, vs2, d2, ds2, p2, q2, rfl, rfl, rfl, h2, r2⟩ := trodAll_cons r1
  obtain ⟨v3, vs3, d3, ds3, p3, q3, rfl, rfl, rfl, h3, r3⟩ := trodAll_cons r2
  obtain ⟨rfl, rfl, rfl⟩ := trodAll_nil r3
  obtain rfl : args = #[v0, v1, v2, v3] := by cases args; simp_all
  obtain ⟨rfl, rfl⟩ := trodVars_none hV
  obtain ⟨a0, rfl, rfl, rfl, w0⟩ := open_int Tryd.underlying3 (hval 0 3 v0 rfl rfl) h0
  obtain ⟨z1, R1⟩ := open_prs (hval 1 22 v1 rfl rfl) h1
  obtain ⟨a2, rfl, rfl, rfl, w2⟩ := open_int Tryd.underlying3 (hval 2 3 v2 rfl rfl) h2
  obtain ⟨a3, rfl, rfl, rfl, w3⟩ := open_int Tryd.underlying3 (hval 3 3 v3 rfl rfl) h3
  have hlen : z1.length * 16 ≤ 140737488355328 := by
    rcases slice_len h1 R1 with rfl | ⟨el, sp, hd, he⟩
    · exact Nat.zero_le _
    · rw [Tryd.params3] at hsize
      have hmem : (el.length + sp.length) * 16 ≤ reachBytes := by
        have := List.all_eq_true.1 hsize _ (List.mem_append_right _ (List.mem_append_left _ (weigh hd)))
        simpa using this
      have hr : reachBytes = 140737488351232 := rfl
      rw [hr] at hmem
      omega
  have T := tab_of_laid hL
  clear hA0 hval0
  simp only [List.append_nil] at hW' hAll
  refine (makes_walk a0 a2 a3 hlen R1 T).mono fun e W' ⟨he, hb⟩ => ?_
  subst he
  refine ⟨_, rfl, post_old (P := Tryd.prog) (by kernel_rfl) hW' hb hAll ?_ (fun _ _ _ => (trodAll_cons_mk (shut_bool Tryd.underlying4 _) trodAll_mk0)) rfl (fun _ => rfl) (ok_one (by kernel_rfl) rfl (okWide_bool_mk Tryd.underlying4 _))⟩
  intro t ht
  rw [Tryd.params3] at ht
  have ht' : t = 3 ∨ t = 22 := by
    have : t = 3 ∨ t = 22 ∨ t = 3 ∨ t = 3 := by simpa using ht
    rcases this with rfl | rfl | rfl | rfl <;> first | exact Or.inl rfl | exact Or.inr rfl
  rcases ht' with rfl | rfl <;> exact ⟨by kernel_rfl, of_decide_eq_true (by kernel_rfl)⟩

theorem said : Rows.RelMakesSaid :=
  OpenClaim.holds_of_wide 3 Tryd.f3 rfl rfl rfl rfl rfl rfl rfl ⟨rfl, rfl, rfl, rfl, rfl⟩ rfl rfl rfl rfl rfl (by kernel_rfl) Tryd.func3 (by kernel_rfl)
    (of_decide_eq_true (by kernel_rfl)) (by unfold Func.isWrapper; first | (rw [if_pos (by decide +kernel)]; kernel_rfl) | (rw [if_neg (by decide +kernel)]; exact ⟨rfl, rfl⟩))
    (fun os started H enc _ => lifted os started H enc)
end Go.Proofs.YtfgbhdcoemkdoaaDoor.relMakes
namespace Go.Proofs.YtfgbhdcoemkdoaaDoor
open Go.ChangeShapes Go.WideShapes Go.ChangeAt Go.RowKit
theorem relMakes_holds : Rows.RelMakesCardSaid :=
  Claim7.holds_tied_plain_at .later [] [.data] true (true, "02e0bf0ce31d1c69dd9e326a6f0dbfed814f85b8831d70f4164e1ff60e036f9e") true
    relMakes.said (fun _ h => by cases h) (by kernel_rfl) (fun _ h => by cases h) relMakes_row_tie rfl ⟨rfl, rfl⟩ (by kernel_rfl) rfl
    (fun f fn hf hfn => by
      obtain rfl : f = 3 := Option.some.inj ((show Tryd.prog.funcNamed "understudy/understudylaw13.RelMakes" = some 3 by kernel_rfl).symm.trans hf) |>.symm
      obtain rfl : fn = Tryd.f3 := (Option.some.inj (Tryd.func3.symm.trans hfn)).symm
      exact ⟨by kernel_rfl, fun j t ht => by
        rw [Tryd.params3] at ht
        have ht' : t = 3 ∨ t = 22 := by
          rcases j with _ | _ | _ | _ | j
          · have : 3 = t := by simpa using ht
            exact Or.inl this.symm
          · have : 22 = t := by simpa using ht
            exact Or.inr this.symm
          · have : 3 = t := by simpa using ht
            exact Or.inl this.symm
          · have : 3 = t := by simpa using ht
            exact Or.inl this.symm
          · simp at ht
        rcases ht' with rfl | rfl
        · exact (show Tryd.prog.wantsStandIn 3 = false by kernel_rfl)
        · exact (show Tryd.prog.wantsStandIn 22 = false by kernel_rfl)⟩)
    (by kernel_rfl)
#print axioms relMakes_holds
end Go.Proofs.YtfgbhdcoemkdoaaDoor
