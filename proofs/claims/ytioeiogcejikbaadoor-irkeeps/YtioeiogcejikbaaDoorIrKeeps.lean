/- A run changes no register for which the block has none that sets it: IrKeeps returns true, whatever its arguments (the row, and the card that ties its table to the program's text). -/
import Derived.Test.YtioeiogcejikbaaDoorKb
import Derived.Test.YtioeiogcejikbaaDoorFr
import Derived.Test.YtioeiogcejikbaaDoorCards
import Derived.Test.YtioeiogcejikbaaDoorTie
namespace Go.Proofs.YtioeiogcejikbaaDoor
open Go.RowKit
set_option linter.unusedVariables false
set_option linter.unusedSimpArgs false
set_option maxRecDepth 8000

theorem newE_el {pc words el : Int} {l : List Opr} {c : Cor} (hE : newE pc words el l c = 0) : 0 < l.length ∧ (el = 0 ∨ el = 1) ∧ c.el = el := by
  have hR : rightB pc words el l = true := by
    cases h : rightB pc words el l with
    | true => rfl
    | false => unfold newE at hE; rw [h] at hE; simp at hE
  unfold newE at hE
  rw [hR, if_pos rfl] at hE
  unfold rightB at hR
  rw [Bool.and_eq_true] at hR
  have hH := hR.1
  refine ⟨(headB_len hH).1, ?_, ?_⟩
  · unfold headB at hH
    simp only [Bool.and_eq_true, Bool.or_eq_true, beq_iff_eq] at hH
    exact hH.1.1.1.2
  · by_cases h : rightC c = true ∧ c.el = el
    · exact h.2
    · rw [if_neg h] at hE; exact absurd hE (by decide)
theorem keeps_walk {w : World} {pc words el : Int} {v : Value} {l : List Opr} {c : Cor} {vz : Value} {z : List Gt} (G : Gots w vz z) (hpc : 0 ≤ pc) (O : OpsIn w v l) (hl : l.length * 48 ≤ 140737488351232) (hc : CorOk c) : Calls Tryd.prog 4 #[blV pc words el v, c.val, vz] w fun e w' => e = .returned (.bool true) ∧ Below w.heap.size w w' := by
  rcases newE_or (pc := pc) (words := words) (el := el) (l := l) (c := c) with hE | hE | hE
  · obtain ⟨h0, he, hce⟩ := newE_el hE
    obtain ⟨ra, cap, rfl, hops⟩ := O.ops.cell h0
    obtain ⟨zo, zc, rfl⟩ := G.len
    exact keeps_yes G hpc O hc hE he hce hops
  · exact keeps_no1 vz hpc O hc hE
  · exact keeps_no4 vz hpc O hc hE
def wit29 : Value := nilC.val
end Go.Proofs.YtioeiogcejikbaaDoor
namespace Go.Proofs.YtioeiogcejikbaaDoor.irKeeps
open Go.ChangeShapes Go.WideShapes Go.ChangeAt Go.RowKit
set_option linter.unusedVariables false
set_option linter.unusedSimpArgs false

set_option maxRecDepth 100000 in
theorem lifted (os : Os) (started : os.Started) (H : Type) (enc : TypeId × Value → H) :
    ReturnsInHanded {} Tryd.checked os 4 .any (fun w args => (Rows.irKeepsSpec.pre enc Tryd.prog Tryd.f4 [] false w args ∧ laidMetH Tryd.prog laid1 w) ∧ sizedMet enc Tryd.prog Tryd.f4 (OpenSpec.ofChange Rows.irKeepsSpec) false w args)
      (Rows.irKeepsSpec.post enc Tryd.prog Tryd.f4 false true false false) := by
  refine returnsInHanded_of_change_and (C := Tryd.checked) (X := fun w _ => laidMetH Tryd.prog laid1 w) (fun _ _ _ hh h => h.of_heap hh) own started (by kernel_rfl) Tryd.func4
    (ChangeSpec.witness_shaped (enc := enc) (C := Tryd.checked) (os := os) (X := fun w _ => laidMetH Tryd.prog laid1 w) false (World.doorLaid Tryd.prog 400 os) #[blV 0 0 0 (.slice none 0 0), wit29, .slice none 0 0] 8 rfl (World.shaped_of_RefB (by kernel_rfl) (by kernel_rfl)) (by kernel_rfl) (by kernel_rfl) (by kernel_rfl) (door_met os _)) ?_
  intro W base args ds gs before hval0 hW _ hsize hL _
  have hval : ∀ (j : Nat) t v, Tryd.f4.params[j]? = some t → args[j]? = some v → Value.okWide Tryd.prog W .any base t v := hval0
  have hW' := hW
  obtain ⟨p, q, hA0, hV, rfl, hfz, hnd⟩ := hW
  have hA : DataW.TrodAll enc Tryd.prog W 0 (fun _ => true) true Tryd.f4.params.toList args.toList ds p := hA0
  have hAll := hA
  rw [Tryd.params4] at hA hval
  obtain ⟨v0, vs0, d0, ds0, p0, q0, hargs, rfl, rfl, h0, r0⟩ := trodAll_cons hA
  obtain ⟨v1, vs1, d1, ds1, p1, q1, rfl, rfl, rfl, h1, r1⟩ := trodAll_cons r0
  obtain ⟨v2, vs2, d2, ds2, p2, q2, rfl, rfl, rfl, h2, r2⟩ := trodAll_cons r1
  obtain ⟨rfl, rfl, rfl⟩ := trodAll_nil r2
  obtain rfl : args = #[v0, v1, v2] := by cases args; simp_all
  obtain ⟨rfl, rfl⟩ := trodVars_none hV
  obtain ⟨pc, words, el, u, l, rfl, hpc, O, hlw⟩ := open_block (hval 0 25 v0 rfl rfl) h0
  obtain ⟨c, rfl, hc⟩ := open_core (hval 1 29 v1 rfl rfl) h1
  obtain ⟨z, G⟩ := open_gots (hval 2 30 v2 rfl rfl) h2
  have hl : l.length * 48 ≤ 140737488351232 := hlw (by
    rw [Tryd.params4] at hsize
    exact List.all_eq_true.2 (fun x hx => List.all_eq_true.1 hsize x (List.mem_append_left _ hx)))
  clear hlw
  clear hA0 hval0
  simp only [List.append_nil] at hW' hAll
  refine (keeps_walk G hpc O hl hc).mono fun e W' ⟨he, hb⟩ => ?_
  subst he
  refine ⟨_, rfl, post_old (P := Tryd.prog) (by kernel_rfl) hW' hb hAll ?_ (fun _ _ _ => (trodAll_cons_mk (shut_bool Tryd.underlying4 _) trodAll_mk0)) rfl (fun _ => rfl) (ok_one (by kernel_rfl) rfl (okWide_bool_mk Tryd.underlying4 _))⟩
  intro t ht
  rw [Tryd.params4] at ht
  have ht' : t = 25 ∨ t = 29 ∨ t = 30 := by simpa using ht
  rcases ht' with rfl | rfl | rfl <;> exact ⟨by kernel_rfl, of_decide_eq_true (by kernel_rfl)⟩

theorem said : Rows.IrKeepsSaid :=
  OpenClaim.holds_of_wide 4 Tryd.f4 rfl rfl rfl rfl rfl rfl rfl ⟨rfl, rfl, rfl, rfl, rfl⟩ rfl rfl rfl rfl rfl (by kernel_rfl) Tryd.func4 (by kernel_rfl)
    (of_decide_eq_true (by kernel_rfl)) (by unfold Func.isWrapper; first | (rw [if_pos (by decide +kernel)]; kernel_rfl) | (rw [if_neg (by decide +kernel)]; exact ⟨rfl, rfl⟩))
    (fun os started H enc _ => lifted os started H enc)
end Go.Proofs.YtioeiogcejikbaaDoor.irKeeps
namespace Go.Proofs.YtioeiogcejikbaaDoor
open Go.ChangeShapes Go.WideShapes Go.ChangeAt Go.RowKit
theorem irKeeps_holds : Rows.IrKeepsCardSaid :=
  Claim7.holds_tied_plain_at .later [] [.data, .data, .data] true (true, "4f944609f33c25bba00ae955626126a9e61e2fbe3091a48c859c62d90dd5bfaa") false
    irKeeps.said (fun _ h => by cases h) (by kernel_rfl) (fun _ h => by cases h) irKeeps_row_tie rfl ⟨rfl, rfl⟩ (by kernel_rfl) rfl
    (fun f fn hf hfn => by
      obtain rfl : f = 4 := Option.some.inj ((show Tryd.prog.funcNamed "understudy/understudylaw16.IrKeeps" = some 4 by kernel_rfl).symm.trans hf) |>.symm
      obtain rfl : fn = Tryd.f4 := (Option.some.inj (Tryd.func4.symm.trans hfn)).symm
      exact ⟨by kernel_rfl, fun j t ht => by
        rw [Tryd.params4] at ht
        have ht' : t = 25 ∨ t = 29 ∨ t = 30 := by
          rcases j with _ | _ | _ | j
          · have : 25 = t := by simpa using ht
            exact Or.inl this.symm
          · have : 29 = t := by simpa using ht
            exact Or.inr (Or.inl this.symm)
          · have : 30 = t := by simpa using ht
            exact Or.inr (Or.inr this.symm)
          · simp at ht
        rcases ht' with rfl | rfl | rfl
        · exact (show Tryd.prog.wantsStandIn 25 = false by kernel_rfl)
        · exact (show Tryd.prog.wantsStandIn 29 = false by kernel_rfl)
        · exact (show Tryd.prog.wantsStandIn 30 = false by kernel_rfl)⟩)
    (by kernel_rfl)
#print axioms irKeeps_holds
end Go.Proofs.YtioeiogcejikbaaDoor
