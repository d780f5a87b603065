/- logReg, logImm, b, bCond, cbz, adr: contracts. -/
import Derived.Test.YtcmilajlngnibaaSpec
namespace Go.Proofs.Ytcmilajlngnibaa
open Go.RowKit

def logRegT : Tr := thenT (logicT) (thenT (sgnT .not 21) (shiftedT))
theorem logReg_ok : OkT logRegT := ok_then (logic_ok) (ok_then (ok_sgn .not 21) (shifted_ok))
set_option maxHeartbeats 1000000 in
theorem logReg_c : FC 26 logRegT := by
  intro b s lay w O hp
  have H := pr_start hp
  go_enter Try.func26, Try.ntmps26
  go_upto_region 1 with (go_at_call 65; refine (logic_c b _ lay _ O H.row).mono ?_; rintro e w1 ⟨rfl, H1⟩; replace H := H.then H1; replace O := logic_ok lay _ O; clear H1; dsimp only)
  go_upto_region 2 with (go_at_call 66; refine (sign_t .not 21 b _ lay O _ H.row).mono ?_; rintro e w1 ⟨rfl, H1⟩; replace H := H.then H1; replace O := (ok_sgn .not 21) lay _ O; clear H1; dsimp only)
  go_wp2_with (go_at_call 64; refine (shifted_c b _ lay _ O H.row).mono ?_; rintro e w1 ⟨rfl, H1⟩; replace H := H.then H1; replace O := shifted_ok lay _ O; clear H1; dsimp only)
  go_end0
  exact ⟨rfl, H⟩
def logImmT : Tr := thenT (logicT) (thenT (numT .amount 1 22 1) (boundsT))
theorem logImm_ok : OkT logImmT := ok_then (logic_ok) (ok_then (ok_num .amount 1 22 1 (by decide) (by decide)) (bounds_ok))
set_option maxHeartbeats 1000000 in
theorem logImm_c : FC 27 logImmT := by
  intro b s lay w O hp
  have H := pr_start hp
  go_enter Try.func27, Try.ntmps27
  go_upto_region 1 with (go_at_call 65; refine (logic_c b _ lay _ O H.row).mono ?_; rintro e w1 ⟨rfl, H1⟩; replace H := H.then H1; replace O := logic_ok lay _ O; clear H1; dsimp only)
  go_upto_region 2 with (go_at_call 63; refine (number_t .amount 1 22 1 (by decide) (by decide) b _ lay O _ H.row).mono ?_; rintro e w1 ⟨rfl, H1⟩; replace H := H.then H1; replace O := (ok_num .amount 1 22 1 (by decide) (by decide)) lay _ O; clear H1; dsimp only)
  go_wp2_with (go_at_call 67; refine (bounds_c b _ lay _ O H.row).mono ?_; rintro e w1 ⟨rfl, H1⟩; replace H := H.then H1; replace O := bounds_ok lay _ O; clear H1; dsimp only)
  go_end0
  exact ⟨rfl, H⟩
def bT : Tr := thenT (sgnT .link 31) (wordsT 0 26)
theorem b_ok : OkT bT := ok_then (ok_sgn .link 31) (words_ok 0 26)
set_option maxHeartbeats 1000000 in
theorem b_c : FC 35 bT := by
  intro b s lay w O hp
  have H := pr_start hp
  go_enter Try.func35, Try.ntmps35
  go_upto_region 1 with (go_at_call 66; refine (sign_t .link 31 b _ lay O _ H.row).mono ?_; rintro e w1 ⟨rfl, H1⟩; replace H := H.then H1; replace O := (ok_sgn .link 31) lay _ O; clear H1; dsimp only)
  go_wp2_with (go_at_call 72; refine (words_c 0 26 b _ lay O _ H.row).mono ?_; rintro e w1 ⟨rfl, H1⟩; replace H := H.then H1; replace O := (words_ok 0 26) lay _ O; clear H1; dsimp only)
  go_end0
  exact ⟨rfl, H⟩
def bCondT : Tr := thenT (wordsT 5 19) (numT .cond 1 0 4)
theorem bCond_ok : OkT bCondT := ok_then (words_ok 5 19) (ok_num .cond 1 0 4 (by decide) (by decide))
set_option maxHeartbeats 1000000 in
theorem bCond_c : FC 36 bCondT := by
  intro b s lay w O hp
  have H := pr_start hp
  go_enter Try.func36, Try.ntmps36
  go_upto_region 1 with (go_at_call 72; refine (words_c 5 19 b _ lay O _ H.row).mono ?_; rintro e w1 ⟨rfl, H1⟩; replace H := H.then H1; replace O := (words_ok 5 19) lay _ O; clear H1; dsimp only)
  go_wp2_with (go_at_call 63; refine (number_t .cond 1 0 4 (by decide) (by decide) b _ lay O _ H.row).mono ?_; rintro e w1 ⟨rfl, H1⟩; replace H := H.then H1; replace O := (ok_num .cond 1 0 4 (by decide) (by decide)) lay _ O; clear H1; dsimp only)
  go_end0
  exact ⟨rfl, H⟩
def cbzT : Tr := thenT (sgnT .not 24) (thenT (wordsT 5 19) (rdT))
theorem cbz_ok : OkT cbzT := ok_then (ok_sgn .not 24) (ok_then (words_ok 5 19) (rd_ok))
set_option maxHeartbeats 1000000 in
theorem cbz_c : FC 37 cbzT := by
  intro b s lay w O hp
  have H := pr_start hp
  go_enter Try.func37, Try.ntmps37
  go_upto_region 1 with (go_at_call 66; refine (sign_t .not 24 b _ lay O _ H.row).mono ?_; rintro e w1 ⟨rfl, H1⟩; replace H := H.then H1; replace O := (ok_sgn .not 24) lay _ O; clear H1; dsimp only)
  go_upto_region 2 with (go_at_call 72; refine (words_c 5 19 b _ lay O _ H.row).mono ?_; rintro e w1 ⟨rfl, H1⟩; replace H := H.then H1; replace O := (words_ok 5 19) lay _ O; clear H1; dsimp only)
  go_wp2_with (go_at_call 47; refine (rd_c b _ lay _ O H.row).mono ?_; rintro e w1 ⟨rfl, H1⟩; replace H := H.then H1; replace O := rd_ok lay _ O; clear H1; dsimp only)
  go_end0
  exact ⟨rfl, H⟩
end Go.Proofs.Ytcmilajlngnibaa
