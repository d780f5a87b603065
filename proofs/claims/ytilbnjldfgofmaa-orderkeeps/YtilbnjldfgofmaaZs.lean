/- All that is to be done. -/
import Derived.Test.YtilbnjldfgofmaaZr
namespace Go.Proofs.Ytilbnjldfgofmaa
open Go.RowKit
set_option linter.unusedVariables false
set_option linter.unusedSimpArgs false
set_option maxRecDepth 8000

/-- While there is something to be done. -/
structure DoI (pc words el : Int) (R : RuleL) (mu : List Opr → Nat) (w : World) (p g cap rg : Nat) (rs : List (Nat × RuleL)) (ids : List Nat) (fin : List Opr) (n : Nat) (v : Value) (W : World) : Prop where
  ex : ∃ (l1 : List Opr) (ids1 : List Nat), mu l1 = n ∧ rightB pc words el l1 = true ∧ LG W p g cap ids1 l1 ∧ (∀ i ∈ ids1, i ∈ ids) ∧ runF R n l1 = fin ∧ ((stepL R l1 = none ∧ v = .nilFunc) ∨ ∃ l', stepL R l1 = some l' ∧ DeedAt W p g cap ids1 l' v)
  rls : Rls W rg rs
  goes : Goes (OwnL p g ids) w W
section
variable {pc words el : Int} {l : List Opr} {ids : List Nat} {w : World} {p g cap rg : Nat} {rs : List (Nat × RuleL)} {mu : List Opr → Nat}
theorem Rls.goes {W W' : World} {ids1 : List Nat} {l1 : List Opr} (h : Rls W rg rs) (H : LG W p g cap ids1 l1) (hg : Goes (OwnL p g ids1) W W') : Rls W' rg rs := by
  unfold Rls
  rw [hg.block _ (lt_of_some h) (fun hm => by
    obtain ⟨R, hR, -⟩ := H.ls.row
    rcases hm with e | e | e
    · subst e; exact ne_of_type h H.ls.box (by decide) rfl
    · subst e; exact ne_of_type h hR (by decide) rfl
    · obtain ⟨d, nd⟩ := H.is _ e
      exact ne_of_type h nd (by decide) rfl)]
  exact h
set_option maxHeartbeats 4000000 in
theorem doAll_c (hG : GoodR pc words el (allR rs) mu) (h : rightB pc words el l = true) (H : LG w p g cap ids l) (hr : Rls w rg rs) (hrs : ∀ r ∈ rs, Tells pc words el r.1 r.2) (hrl : rs.length ≤ 2) :
    Calls Try.prog 40 #[ptr p 0, .slice (some ⟨rg, 0, none⟩) rs.length rs.length] w fun e w' => (∃ u, e = .returned u) ∧ ∃ ids', LG w' p g cap ids' (runF (allR rs) (mu l) l) ∧ (∀ i ∈ ids', i ∈ ids) ∧ Goes (OwnL p g ids) w w' := by
  have k1 := first_c h H hr hrs hrl
  have hf := fun (fn : Fn) (a b : Array Value) w => neq_func Try.underlying1 fn a b w
  have hn := fun w => neq_nil Try.underlying1 w
  go_enter Try.func40, Try.ntmps40
  go_wp2_with (first | (go_at_call 67; (with_reducible refine k1.mono ?_); clear k1; rintro e w2 ⟨B, v, rfl, hv⟩; dsimp only))
  have hI : DoI pc words el (allR rs) mu w p g cap rg rs ids (runF (allR rs) (mu l) l) (mu l) v w2 := ⟨⟨l, ids, rfl, h, H.grow B, fun _ q => q, rfl, hv⟩, hr.grow B, goes_of_below B⟩
  clear B hv
  go_loopw [4] (fun s4 wr => ∃ n, DoI pc words el (allR rs) mu w p g cap rg rs ids (runF (allR rs) (mu l) l) n s4 wr) (fun s4 wr => Rg.meas fun n => DoI pc words el (allR rs) mu w p g cap rg rs ids (runF (allR rs) (mu l) l) n s4 wr)
  case atStart => exact ⟨_, hI⟩
  case round =>
    clear hI
    obtain ⟨n0, hn0⟩ := hrel
    have hsp := (Rg.meas_spec (p := fun n => DoI pc words el (allR rs) mu w p g cap rg rs ids (runF (allR rs) (mu l) l) n u4 wr) hn0).1
    generalize hK : (Rg.meas fun n => DoI pc words el (allR rs) mu w p g cap rg rs ids (runF (allR rs) (mu l) l) n u4 wr) = K at hsp
    clear hn0
    obtain ⟨⟨l1, ids1, hmu, h1, H1, hsub, hfin, hv⟩, hr1, hg1⟩ := hsp
    replace hK := show Hid _ from hK
    replace hmu := show Hid _ from hmu
    replace hfin := show Hid _ from hfin
    rcases hv with ⟨hs, rfl⟩ | ⟨l2, hs, f, cs, rfl, he, hd⟩
    · go_wp2
      go_end0
      have hf1 := hfin.out
      rw [run_none hs] at hf1
      exact ⟨⟨_, rfl⟩, ids1, by rw [← hf1]; exact H1, hsub, hg1⟩
    · obtain ⟨k, hk, ek⟩ := step_from hs
      have h2 := hG.right l1 k l2 h1 hk ek
      have hless := hG.less l1 k l2 h1 hk ek
      unfold Ent at he
      have k2 : ∀ W ids2, LG W p g cap ids2 l2 → Rls W rg rs → _ := fun W ids2 H2 hr2 => first_c (pc := pc) (words := words) (el := el) h2 H2 hr2 hrs hrl
      go_wp2_with (first | ((refine hd.mono ?_); clear hd; rintro e w5 ⟨⟨u, rfl⟩, ids2, H2, hs2, hg2⟩; have hr2 := hr1.goes H1 hg2; replace k2 := k2 w5 ids2 H2 hr2; dsimp only) | (go_at_call 67; (with_reducible refine k2.mono ?_); clear k2; rintro e w6 ⟨B, v6, rfl, hv6⟩; dsimp only))
      have hnew : DoI pc words el (allR rs) mu w p g cap rg rs ids (runF (allR rs) (mu l) l) (mu l2) v6 w6 := ⟨⟨l2, ids2, rfl, h2, H2.grow B, fun i hi => hsub i (hs2 i hi), by
        have hf1 := hfin.out
        have hm1 := hmu.out
        cases K with
        | zero => omega
        | succ K0 =>
          rw [run_some hs] at hf1
          rw [← hf1]
          exact run_fuel hG _ _ _ h2 (Nat.le_refl _) (by omega), hv6⟩, hr2.grow B, (hg1.trans (hg2.mono (fun b _ q => by rcases q with q | q | q; exact .inl q; exact .inr (.inl q); exact .inr (.inr (hsub _ q))) : Goes (OwnL p g ids) _ _) (fun _ _ q => q)).grow B⟩
      go_roundw
      case rel => exact ⟨_, hnew⟩
      case measure =>
        have hle := (Rg.meas_spec (p := fun n => DoI pc words el (allR rs) mu w p g cap rg rs ids (runF (allR rs) (mu l) l) n v6 w6) hnew).2
        have hK1 := hK.out
        have hm1 := hmu.out
        show (Rg.meas fun n => DoI pc words el (allR rs) mu w p g cap rg rs ids (runF (allR rs) (mu l) l) n v6 w6) < Rg.meas fun n => DoI pc words el (allR rs) mu w p g cap rg rs ids (runF (allR rs) (mu l) l) n (.func (.func f) #[] cs) wr
        rw [hK1]
        omega
end
end Go.Proofs.Ytilbnjldfgofmaa
