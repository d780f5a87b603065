/- sel and tbz: two numbers of one field: contracts. -/
import Derived.Test.YtcmilajlngnibaaSpec
namespace Go.Proofs.Ytcmilajlngnibaa
open Go.RowKit

theorem wrapK_in (x : Int) : I64 (IntKind.i64.wrap x) := by rw [IntKind.wrap_i64]; unfold I64; omega
def sel0T : Tr := fun lay s => (crossW lay (crossW lay s.1 (s.2.sub.tdiv 2) 30 1) (s.2.sub.tmod 2) 10 1, { s.2 with sub := IntKind.i64.wrap (IntKind.i64.wrap (crossG lay s.1 (s.2.sub.tdiv 2) 30 1 * 2) + crossG lay (crossW lay s.1 (s.2.sub.tdiv 2) 30 1) (s.2.sub.tmod 2) 10 1) })
theorem sel0_ok : OkT sel0T := fun lay s h => ok_set (s := (crossW lay (crossW lay s.1 (s.2.sub.tdiv 2) 30 1) (s.2.sub.tmod 2) 10 1, s.2)) (ok_word h (cross_lt (cross_lt h.w))) .sub (wrapK_in _)
def selT : Tr := thenT sel0T (thenT (numT .cond 1 12 4) rdRnRmT)
theorem sel_ok : OkT selT := ok_then sel0_ok (ok_then (ok_num .cond 1 12 4 (by decide) (by decide)) rdRnRm_ok)
set_option maxRecDepth 4000 in
set_option maxHeartbeats 4000000 in
theorem sel_c : FC 33 selT := by
  intro b s lay w O hp
  have H := pr_start hp
  have c2 : w.cell? ⟨b, 2, none⟩ = some (.int .i64 s.2.sub) := H.at (pair_f .sub s lay)
  have hd : IntKind.i64.wrap (s.2.sub.tdiv 2) = s.2.sub.tdiv 2 := wrapK_i64 (tdiv_in (O.f .sub) (by decide))
  have O1 : Ok (crossW lay s.1 (s.2.sub.tdiv 2) 30 1, s.2) := ok_word O (cross_lt O.w)
  have O2 := sel0_ok lay s O
  go_enter Try.func33, Try.ntmps33
  go_upto_region 0 with fail
  go_region_with ((go_at_call 70; (try simp only [hd]); refine (cross_p H (by first | exact O | exact O1) _ _ _ _ (by rfl)).mono ?_; rintro e w1 ⟨rfl, H1⟩; replace H := H.more H1 rfl rfl rfl rfl; clear H1; have c2 : w1.cell? ⟨b, 2, none⟩ = some (.int .i64 s.2.sub) := H.at (pair_f .sub (_, s.2) lay); have fz := H.frozen 2; dsimp only))
  all_goals
    generalize hw2 : w1.setCell _ _ = w2
    replace H : Pr w b (pairS (sel0T lay s) lay) w2 := by rw [← hw2]; exact H.set 2 _
    clear hw2
    clear c2 fz
    go_upto_region 2 with (go_at_call 63; refine (number_t .cond 1 12 4 (by decide) (by decide) b _ lay O2 _ H.row).mono ?_; rintro e w1 ⟨rfl, H1⟩; replace H := H.then H1; clear H1; dsimp only)
    replace O2 := (ok_num .cond 1 12 4 (by decide) (by decide)) lay _ O2
    go_wp2_with (go_at_call 68; refine (rdRnRm_c b _ lay _ O2 H.row).mono ?_; rintro e w1 ⟨rfl, H1⟩; replace H := H.then H1; clear H1; dsimp only)
    go_end0
    exact ⟨rfl, H⟩
end Go.Proofs.Ytcmilajlngnibaa
