/- Any block, run on any state, with any answers to what it wants, wants just what the document says, in that order, and leaves that state, in that way: IrRuns returns true, whatever its arguments (the row, and the card that ties its table to the program's text). -/
import Derived.Test.YtccmncecpmemaaaGreatDoorDw
import Derived.Test.YtccmncecpmemaaaGreatDoorFr
import Derived.Test.YtccmncecpmemaaaGreatDoorCards
import Derived.Test.YtccmncecpmemaaaGreatDoorTie
namespace Go.Proofs.YtccmncecpmemaaaGreatDoor
open Go.RowKit
set_option linter.unusedVariables false
set_option linter.unusedSimpArgs false
set_option maxRecDepth 8000

theorem runs_walk {w : World} {pc words el : Int} {v : Value} {l : List Opr} {c : Cor} {vz : Value} {z : List Gt} (G : Gots w vz z) (hpc : 0 ≤ pc) (O : OpsIn w v l) (hl : l.length * 48 ≤ 140737488351232) (hc : CorOk c) : Calls Tryz.prog 4 #[blV pc words el v, c.val, vz] w fun e w' => e = .returned (.bool true) ∧ Below w.heap.size w w' := by
  obtain ⟨ao, cap, rfl⟩ := O.ops.len
  rcases newE_or (pc := pc) (words := words) (el := el) (l := l) (c := c) with hE | hE | hE
  · have h0 : 0 < l.length := by
      have hR : rightB pc words el l = true := by
        cases h : rightB pc words el l with
        | true => rfl
        | false => unfold newE at hE; rw [h] at hE; simp at hE
      unfold rightB at hR
      rw [Bool.and_eq_true] at hR
      exact (headB_len hR.1).1
    obtain ⟨ra, cap', e, _⟩ := O.ops.cell h0
    cases e
    obtain ⟨zo, zc, rfl⟩ := G.len
    exact runs_yes G hpc O hl hc hE
  · exact runs_no hpc O hl hc hE (.inl rfl)
  · exact runs_no hpc O hl hc hE (.inr rfl)
def wit29 : Value := nilC.val
end Go.Proofs.YtccmncecpmemaaaGreatDoor
namespace Go.Proofs.YtccmncecpmemaaaGreatDoor.irRuns
open Go.ChangeShapes Go.WideShapes Go.ChangeAt Go.RowKit
set_option linter.unusedVariables false
set_option linter.unusedSimpArgs false

set_option maxRecDepth 100000 in
theorem lifted (os : Os) (started : os.Started) (H : Type) (enc : TypeId × Value → H) :
    ReturnsInHanded {} Tryz.checked os 4 .any (fun w args => (Rows.irRunsSpec.pre enc Tryz.prog Tryz.f4 [] false w args ∧ laidMetH Tryz.prog laid1 w) ∧ sizedMet enc Tryz.prog Tryz.f4 (OpenSpec.ofChange Rows.irRunsSpec) false w args)
      (Rows.irRunsSpec.post enc Tryz.prog Tryz.f4 false true false false) := by
  refine returnsInHanded_of_change_and (C := Tryz.checked) (X := fun w _ => laidMetH Tryz.prog laid1 w) (fun _ _ _ hh h => h.of_heap hh) own started (by kernel_rfl) Tryz.func4
    (ChangeSpec.witness_shaped (enc := enc) (C := Tryz.checked) (os := os) (X := fun w _ => laidMetH Tryz.prog laid1 w) false (World.doorLaid Tryz.prog 400 os) #[blV 0 0 0 (.slice none 0 0), wit29, .slice none 0 0] 8 rfl (World.shaped_of_RefB (by kernel_rfl) (by kernel_rfl)) (by kernel_rfl) (by kernel_rfl) (by kernel_rfl) (door_met os _)) ?_
  intro W base args ds gs before hval0 hW _ hsize hL _
  have hval : ∀ (j : Nat) t v, Tryz.f4.params[j]? = some t → args[j]? = some v → Value.okWide Tryz.prog W .any base t v := hval0
  have hW' := hW
  obtain ⟨p, q, hA0, hV, rfl, hfz, hnd⟩ := hW
  have hA : DataW.TrodAll enc Tryz.prog W 0 (fun _ => true) true Tryz.f4.params.toList args.toList ds p := hA0
  have hAll := hA
  rw [Tryz.params4] at hA hval
  obtain ⟨v0, vs0, d0, ds0, p0, q0, hargs, rfl, rfl, h0, r0⟩ := trodAll_cons hA
  obtain ⟨v1, vs1, d1, ds1, p1, q1, rfl, rfl, rfl, h1, r1⟩ := trodAll_cons r0
  obtain ⟨v2, vs2, d2, ds2, p2, q2, rfl, rfl, rfl, h2, r2⟩ := trodAll_cons r1
  obtain ⟨rfl, rfl, rfl⟩ := trodAll_nil r2
  obtain rfl : args = #[v0, v1, v2] := by cases args; simp_all
  obtain ⟨rfl, rfl⟩ := trodVars_none hV
  obtain ⟨pc, words, el, u, l, rfl, hpc, O, hlw⟩ := open_block (hval 0 25 v0 rfl rfl) h0
  obtain ⟨c, rfl, hc⟩ := open_core (hval 1 42 v1 rfl rfl) h1
  obtain ⟨z, G⟩ := open_gots (hval 2 43 v2 rfl rfl) h2
  have hl : l.length * 48 ≤ 140737488351232 := hlw (by
    rw [Tryz.params4] at hsize
    exact List.all_eq_true.2 (fun x hx => List.all_eq_true.1 hsize x (List.mem_append_left _ hx)))
  clear hlw
  clear hA0 hval0
  simp only [List.append_nil] at hW' hAll
  refine (runs_walk G hpc O hl hc).mono fun e W' ⟨he, hb⟩ => ?_
  subst he
  refine ⟨_, rfl, post_old (P := Tryz.prog) (by kernel_rfl) hW' hb hAll ?_ (fun _ _ _ => (trodAll_cons_mk (shut_bool Tryz.underlying4 _) trodAll_mk0)) rfl (fun _ => rfl) (ok_one (by kernel_rfl) rfl (okWide_bool_mk Tryz.underlying4 _))⟩
  intro t ht
  rw [Tryz.params4] at ht
  have ht' : t = 25 ∨ t = 42 ∨ t = 43 := by simpa using ht
  rcases ht' with rfl | rfl | rfl <;> exact ⟨by kernel_rfl, of_decide_eq_true (by kernel_rfl)⟩

theorem said : Rows.IrRunsSaid :=
  OpenClaim.holds_of_wide 4 Tryz.f4 rfl rfl rfl rfl rfl rfl rfl ⟨rfl, rfl, rfl, rfl, rfl⟩ rfl rfl rfl rfl rfl (by kernel_rfl) Tryz.func4 (by kernel_rfl)
    (of_decide_eq_true (by kernel_rfl)) (by unfold Func.isWrapper; first | (rw [if_pos (by decide +kernel)]; kernel_rfl) | (rw [if_neg (by decide +kernel)]; exact ⟨rfl, rfl⟩))
    (fun os started H enc _ => lifted os started H enc)
end Go.Proofs.YtccmncecpmemaaaGreatDoor.irRuns
namespace Go.Proofs.YtccmncecpmemaaaGreatDoor
open Go.ChangeShapes Go.WideShapes Go.ChangeAt Go.RowKit
theorem irRuns_holds : Rows.IrRunsCardSaid :=
  Claim7.holds_tied_plain_at .later [] [.data, .data, .data] true (true, "98e09bfff4b9f77e58ca2c0deda96b98908b46bb034cb5343bc78d8d207d4abe") false
    irRuns.said (fun _ h => by cases h) (by kernel_rfl) (fun _ h => by cases h) irRuns_row_tie rfl ⟨rfl, rfl⟩ (by kernel_rfl) rfl
    (fun f fn hf hfn => by
      obtain rfl : f = 4 := Option.some.inj ((show Tryz.prog.funcNamed "understudy/understudylaw16.IrRuns" = some 4 by kernel_rfl).symm.trans hf) |>.symm
      obtain rfl : fn = Tryz.f4 := (Option.some.inj (Tryz.func4.symm.trans hfn)).symm
      exact ⟨by kernel_rfl, fun j t ht => by
        rw [Tryz.params4] at ht
        have ht' : t = 25 ∨ t = 42 ∨ t = 43 := by
          rcases j with _ | _ | _ | j
          · have : 25 = t := by simpa using ht
            exact Or.inl this.symm
          · have : 42 = t := by simpa using ht
            exact Or.inr (Or.inl this.symm)
          · have : 43 = t := by simpa using ht
            exact Or.inr (Or.inr this.symm)
          · simp at ht
        rcases ht' with rfl | rfl | rfl
        · exact (show Tryz.prog.wantsStandIn 25 = false by kernel_rfl)
        · exact (show Tryz.prog.wantsStandIn 42 = false by kernel_rfl)
        · exact (show Tryz.prog.wantsStandIn 43 = false by kernel_rfl)⟩)
    (by kernel_rfl)
#print axioms irRuns_holds
end Go.Proofs.YtccmncecpmemaaaGreatDoor
