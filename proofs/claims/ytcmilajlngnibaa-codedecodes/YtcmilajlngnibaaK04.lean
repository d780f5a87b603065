/- tbz: two numbers of one field, behind a sign: the contract. -/
import Derived.Test.YtcmilajlngnibaaK03
import Derived.Test.YtcmilajlngnibaaK02
namespace Go.Proofs.Ytcmilajlngnibaa
open Go.RowKit

def tbz0T : Tr := fun lay s => (crossW lay (crossW lay s.1 (s.2.amount.tdiv 32) 31 1) (s.2.amount.tmod 32) 19 5, { s.2 with amount := IntKind.i64.wrap (IntKind.i64.wrap (crossG lay s.1 (s.2.amount.tdiv 32) 31 1 * 32) + crossG lay (crossW lay s.1 (s.2.amount.tdiv 32) 31 1) (s.2.amount.tmod 32) 19 5) })
theorem tbz0_ok : OkT tbz0T := fun lay s h => ok_set (s := (crossW lay (crossW lay s.1 (s.2.amount.tdiv 32) 31 1) (s.2.amount.tmod 32) 19 5, s.2)) (ok_word h (cross_lt (cross_lt h.w))) .amount (wrapK_in _)
def tbzT : Tr := thenT (sgnT .not 24) (thenT tbz0T (thenT (wordsT 5 14) rdT))
theorem tbz_ok : OkT tbzT := ok_then (ok_sgn .not 24) (ok_then tbz0_ok (ok_then (words_ok 5 14) rd_ok))
set_option maxRecDepth 4000 in
set_option maxHeartbeats 4000000 in
theorem tbz_c : FC 38 tbzT := by
  intro b s0 lay w O0 hp
  have H := pr_start hp
  go_enter Try.func38, Try.ntmps38
  go_upto_region 1 with (go_at_call 66; refine (sign_t .not 24 b s0 lay O0 _ hp).mono ?_; rintro e w1 ⟨rfl, H1⟩; replace H := H.then H1; clear H1; dsimp only)
  have O := ok_sgn .not 24 lay s0 O0
  have hT : Hid (tbzT lay s0 = rdT lay (wordsT 5 14 lay (tbz0T lay (sgnT .not 24 lay s0)))) := rfl
  generalize sgnT .not 24 lay s0 = s at H O hT
  have c2 : w1.cell? ⟨b, 9, none⟩ = some (.int .i64 s.2.amount) := H.at (pair_f .amount s lay)
  have hd : IntKind.i64.wrap (s.2.amount.tdiv 32) = s.2.amount.tdiv 32 := wrapK_i64 (tdiv_in (O.f .amount) (by decide))
  have O1 : Ok (crossW lay s.1 (s.2.amount.tdiv 32) 31 1, s.2) := ok_word O (cross_lt O.w)
  have O2 := tbz0_ok lay s O
  go_region_with ((go_at_call 70; (try simp only [hd]); refine (cross_p H (by first | exact O | exact O1) _ _ _ _ (by rfl)).mono ?_; rintro e w1 ⟨rfl, H1⟩; replace H := H.more H1 rfl rfl rfl rfl; clear H1; have c2 : w1.cell? ⟨b, 9, none⟩ = some (.int .i64 s.2.amount) := H.at (pair_f .amount (_, s.2) lay); have fz := H.frozen 9; dsimp only))
  all_goals
    generalize hw2 : w1.setCell _ _ = w2
    replace H : Pr w b (pairS (tbz0T lay s) lay) w2 := by rw [← hw2]; exact H.set 9 _
    clear hw2
    clear c2 fz
    go_upto_region 3 with (go_at_call 72; refine (words_c 5 14 b _ lay O2 _ H.row).mono ?_; rintro e w1 ⟨rfl, H1⟩; replace H := H.then H1; clear H1; dsimp only)
    replace O2 := words_ok 5 14 lay _ O2
    go_wp2_with (go_at_call 47; refine (rd_c b _ lay _ O2 H.row).mono ?_; rintro e w1 ⟨rfl, H1⟩; replace H := H.then H1; clear H1; dsimp only)
    go_end0
    refine ⟨rfl, ?_⟩
    rw [hT.out]
    exact H
end Go.Proofs.Ytcmilajlngnibaa
/- logReg, logImm, b, bCond, cbz, adr: contracts. -/
namespace Go.Proofs.Ytcmilajlngnibaa
open Go.RowKit

def logRegT : Tr := thenT (logicT) (thenT (sgnT .not 21) (shiftedT))
theorem logReg_ok : OkT logRegT := ok_then (logic_ok) (ok_then (ok_sgn .not 21) (shifted_ok))
set_option maxHeartbeats 1000000 in
theorem logReg_c : FC 26 logRegT := by
  intro b s lay w O hp
  have H := pr_start hp
  go_enter Try.func26, Try.ntmps26
  go_upto_region 1 with (go_at_call 65; refine (logic_c b _ lay _ O H.row).mono ?_; rintro e w1 ⟨rfl, H1⟩; replace H := H.then H1; replace O := logic_ok lay _ O; clear H1; dsimp only)
  go_upto_region 2 with (go_at_call 66; refine (sign_t .not 21 b _ lay O _ H.row).mono ?_; rintro e w1 ⟨rfl, H1⟩; replace H := H.then H1; replace O := (ok_sgn .not 21) lay _ O; clear H1; dsimp only)
  go_wp2_with (go_at_call 64; refine (shifted_c b _ lay _ O H.row).mono ?_; rintro e w1 ⟨rfl, H1⟩; replace H := H.then H1; replace O := shifted_ok lay _ O; clear H1; dsimp only)
  go_end0
  exact ⟨rfl, H⟩
def logImmT : Tr := thenT (logicT) (thenT (numT .amount 1 22 1) (boundsT))
theorem logImm_ok : OkT logImmT := ok_then (logic_ok) (ok_then (ok_num .amount 1 22 1 (by decide) (by decide)) (bounds_ok))
set_option maxHeartbeats 1000000 in
theorem logImm_c : FC 27 logImmT := by
  intro b s lay w O hp
  have H := pr_start hp
  go_enter Try.func27, Try.ntmps27
  go_upto_region 1 with (go_at_call 65; refine (logic_c b _ lay _ O H.row).mono ?_; rintro e w1 ⟨rfl, H1⟩; replace H := H.then H1; replace O := logic_ok lay _ O; clear H1; dsimp only)
  go_upto_region 2 with (go_at_call 63; refine (number_t .amount 1 22 1 (by decide) (by decide) b _ lay O _ H.row).mono ?_; rintro e w1 ⟨rfl, H1⟩; replace H := H.then H1; replace O := (ok_num .amount 1 22 1 (by decide) (by decide)) lay _ O; clear H1; dsimp only)
  go_wp2_with (go_at_call 67; refine (bounds_c b _ lay _ O H.row).mono ?_; rintro e w1 ⟨rfl, H1⟩; replace H := H.then H1; replace O := bounds_ok lay _ O; clear H1; dsimp only)
  go_end0
  exact ⟨rfl, H⟩
def bT : Tr := thenT (sgnT .link 31) (wordsT 0 26)
theorem b_ok : OkT bT := ok_then (ok_sgn .link 31) (words_ok 0 26)
set_option maxHeartbeats 1000000 in
theorem b_c : FC 35 bT := by
  intro b s lay w O hp
  have H := pr_start hp
  go_enter Try.func35, Try.ntmps35
  go_upto_region 1 with (go_at_call 66; refine (sign_t .link 31 b _ lay O _ H.row).mono ?_; rintro e w1 ⟨rfl, H1⟩; replace H := H.then H1; replace O := (ok_sgn .link 31) lay _ O; clear H1; dsimp only)
  go_wp2_with (go_at_call 72; refine (words_c 0 26 b _ lay O _ H.row).mono ?_; rintro e w1 ⟨rfl, H1⟩; replace H := H.then H1; replace O := (words_ok 0 26) lay _ O; clear H1; dsimp only)
  go_end0
  exact ⟨rfl, H⟩
def bCondT : Tr := thenT (wordsT 5 19) (numT .cond 1 0 4)
theorem bCond_ok : OkT bCondT := ok_then (words_ok 5 19) (ok_num .cond 1 0 4 (by decide) (by decide))
set_option maxHeartbeats 1000000 in
theorem bCond_c : FC 36 bCondT := by
  intro b s lay w O hp
  have H := pr_start hp
  go_enter Try.func36, Try.ntmps36
  go_upto_region 1 with (go_at_call 72; refine (words_c 5 19 b _ lay O _ H.row).mono ?_; rintro e w1 ⟨rfl, H1⟩; replace H := H.then H1; replace O := (words_ok 5 19) lay _ O; clear H1; dsimp only)
  go_wp2_with (go_at_call 63; refine (number_t .cond 1 0 4 (by decide) (by decide) b _ lay O _ H.row).mono ?_; rintro e w1 ⟨rfl, H1⟩; replace H := H.then H1; replace O := (ok_num .cond 1 0 4 (by decide) (by decide)) lay _ O; clear H1; dsimp only)
  go_end0
  exact ⟨rfl, H⟩
def cbzT : Tr := thenT (sgnT .not 24) (thenT (wordsT 5 19) (rdT))
theorem cbz_ok : OkT cbzT := ok_then (ok_sgn .not 24) (ok_then (words_ok 5 19) (rd_ok))
set_option maxHeartbeats 1000000 in
theorem cbz_c : FC 37 cbzT := by
  intro b s lay w O hp
  have H := pr_start hp
  go_enter Try.func37, Try.ntmps37
  go_upto_region 1 with (go_at_call 66; refine (sign_t .not 24 b _ lay O _ H.row).mono ?_; rintro e w1 ⟨rfl, H1⟩; replace H := H.then H1; replace O := (ok_sgn .not 24) lay _ O; clear H1; dsimp only)
  go_upto_region 2 with (go_at_call 72; refine (words_c 5 19 b _ lay O _ H.row).mono ?_; rintro e w1 ⟨rfl, H1⟩; replace H := H.then H1; replace O := (words_ok 5 19) lay _ O; clear H1; dsimp only)
  go_wp2_with (go_at_call 47; refine (rd_c b _ lay _ O H.row).mono ?_; rintro e w1 ⟨rfl, H1⟩; replace H := H.then H1; replace O := rd_ok lay _ O; clear H1; dsimp only)
  go_end0
  exact ⟨rfl, H⟩
end Go.Proofs.Ytcmilajlngnibaa
