/- sel and tbz: two numbers of one field: contracts. -/
import Derived.Test.YtcmilajlngnibaaK02
namespace Go.Proofs.Ytcmilajlngnibaa
open Go.RowKit

theorem wrapK_in (x : Int) : I64 (IntKind.i64.wrap x) := by rw [IntKind.wrap_i64]; unfold I64; omega
def sel0T : Tr := fun lay s => (crossW lay (crossW lay s.1 (s.2.sub.tdiv 2) 30 1) (s.2.sub.tmod 2) 10 1, { s.2 with sub := IntKind.i64.wrap (IntKind.i64.wrap (crossG lay s.1 (s.2.sub.tdiv 2) 30 1 * 2) + crossG lay (crossW lay s.1 (s.2.sub.tdiv 2) 30 1) (s.2.sub.tmod 2) 10 1) })
theorem sel0_ok : OkT sel0T := fun lay s h => ok_set (s := (crossW lay (crossW lay s.1 (s.2.sub.tdiv 2) 30 1) (s.2.sub.tmod 2) 10 1, s.2)) (ok_word h (cross_lt (cross_lt h.w))) .sub (wrapK_in _)
def selT : Tr := thenT sel0T (thenT (numT .cond 1 12 4) rdRnRmT)
theorem sel_ok : OkT selT := ok_then sel0_ok (ok_then (ok_num .cond 1 12 4 (by decide) (by decide)) rdRnRm_ok)
set_option maxRecDepth 4000 in
set_option maxHeartbeats 4000000 in
theorem sel_c : FC 33 selT := by
  intro b s lay w O hp
  have H := pr_start hp
  have c2 : w.cell? ⟨b, 2, none⟩ = some (.int .i64 s.2.sub) := H.at (pair_f .sub s lay)
  have hd : IntKind.i64.wrap (s.2.sub.tdiv 2) = s.2.sub.tdiv 2 := wrapK_i64 (tdiv_in (O.f .sub) (by decide))
  have O1 : Ok (crossW lay s.1 (s.2.sub.tdiv 2) 30 1, s.2) := ok_word O (cross_lt O.w)
  have O2 := sel0_ok lay s O
  go_enter Try.func33, Try.ntmps33
  go_upto_region 0 with fail
  go_region_with ((go_at_call 70; (try simp only [hd]); refine (cross_p H (by first | exact O | exact O1) _ _ _ _ (by rfl)).mono ?_; rintro e w1 ⟨rfl, H1⟩; replace H := H.more H1 rfl rfl rfl rfl; clear H1; have c2 : w1.cell? ⟨b, 2, none⟩ = some (.int .i64 s.2.sub) := H.at (pair_f .sub (_, s.2) lay); have fz := H.frozen 2; dsimp only))
  all_goals
    generalize hw2 : w1.setCell _ _ = w2
    replace H : Pr w b (pairS (sel0T lay s) lay) w2 := by rw [← hw2]; exact H.set 2 _
    clear hw2
    clear c2 fz
    go_upto_region 2 with (go_at_call 63; refine (number_t .cond 1 12 4 (by decide) (by decide) b _ lay O2 _ H.row).mono ?_; rintro e w1 ⟨rfl, H1⟩; replace H := H.then H1; clear H1; dsimp only)
    replace O2 := (ok_num .cond 1 12 4 (by decide) (by decide)) lay _ O2
    go_wp2_with (go_at_call 68; refine (rdRnRm_c b _ lay _ O2 H.row).mono ?_; rintro e w1 ⟨rfl, H1⟩; replace H := H.then H1; clear H1; dsimp only)
    go_end0
    exact ⟨rfl, H⟩
end Go.Proofs.Ytcmilajlngnibaa
/- adr: the contract. -/
namespace Go.Proofs.Ytcmilajlngnibaa
open Go.RowKit

theorem cross_q {w0 w1 : World} {b : Nat} {s : St} {lay : Bool} (H : Pr w0 b (pairS s lay) w1) (h : Ok s) (n a m : Int) (w : World) (hw : w.heap[b]? = w1.heap[b]?) :
    Calls Try.prog 70 #[.pointer (some ⟨b, 0, none⟩), .int .i64 n, .int .i64 a, .int .i64 m] w fun e w' => e = .returned (.int .i64 (crossG lay s.1 n a m)) ∧ Pr w b (pairS (crossW lay s.1 n a m, s.2) lay) w' ∧ Ok (crossW lay s.1 n a m, s.2) := by
  refine (cross_p H h n a m w hw).mono ?_
  rintro e w' ⟨he, hP⟩
  exact ⟨he, hP, ok_word h (cross_lt h.w)⟩
theorem field_small {word a m : Int} : 0 ≤ fieldV word a m ∧ fieldV word a m < 2 ^ m.toNat := by
  unfold fieldV
  have hp : (0 : Int) < 2 ^ m.toNat := Int.pow_pos (by decide)
  split
  · have h := Nat.mod_lt (word.toNat / 2 ^ a.toNat) (Nat.two_pow_pos m.toNat)
    have e : ((2 ^ m.toNat : Nat) : Int) = 2 ^ m.toNat := by simp
    omega
  · omega
theorem got2 (lay : Bool) (W n a : Int) : 0 ≤ crossG lay W n a 2 ∧ crossG lay W n a 2 < 4 := field_small
theorem got19 (lay : Bool) (W n a : Int) : 0 ≤ crossG lay W n a 19 ∧ crossG lay W n a 19 < 524288 := field_small
def adrN (i : Ins) : Int := bif i.sub == 1 then i.imm.tdiv 4096 else i.imm
def adrU (i : Ins) : Int := bif i.sub == 1 then 4096 else 1
def adrG (lay : Bool) (s : St) : Int := crossG lay s.1 (adrN s.2) 29 2 + crossG lay (crossW lay s.1 (adrN s.2) 29 2) (adrN s.2 / 4) 5 19 * 4
def adr0T : Tr := fun lay s => (crossW lay (crossW lay s.1 (adrN s.2) 29 2) (adrN s.2 / 4) 5 19, { s.2 with imm := wrap64 (sgV (adrG lay s) 21 * adrU s.2) })
theorem adr0_ok : OkT adr0T := fun lay s h => ok_set (s := (crossW lay (crossW lay s.1 (adrN s.2) 29 2) (adrN s.2 / 4) 5 19, s.2)) (ok_word h (cross_lt (cross_lt h.w))) .imm (wrap_in _)
def adrT : Tr := thenT (numT .sub 1 31 1) (thenT adr0T rdT)
theorem adr_ok : OkT adrT := ok_then (ok_num .sub 1 31 1 (by decide) (by decide)) (ok_then adr0_ok rd_ok)
set_option maxRecDepth 4000 in
set_option maxHeartbeats 4000000 in
theorem adr_page (b : Nat) (s0 : St) (lay : Bool) (w : World) (O0 : Ok s0) (hp : w.heap[b]? = some (.cells (pairS s0 lay) 52)) (hs : ((numT .sub 1 31 1 lay s0).2.sub == 1) = true) : Calls Try.prog 34 #[.pointer (some ⟨b, 0, none⟩)] w fun e w' => e = .returned (.tuple #[]) ∧ Pr w b (pairS (adrT lay s0) lay) w' := by
  have H := pr_start hp
  go_enter Try.func34, Try.ntmps34
  go_upto_region 1 with (go_at_call 63; refine (number_t .sub 1 31 1 (by decide) (by decide) b s0 lay O0 _ hp).mono ?_; rintro e w1 ⟨rfl, H1⟩; replace H := H.then H1; clear H1; dsimp only)
  have O := ok_num .sub 1 31 1 (by decide) (by decide) lay s0 O0
  have hT : Hid (adrT lay s0 = rdT lay (adr0T lay (numT .sub 1 31 1 lay s0))) := rfl
  generalize numT .sub 1 31 1 lay s0 = s at H O hs hT
  have O2 := adr0_ok lay s O
  have hA : Hid (adr0T lay s = (crossW lay (crossW lay s.1 (s.2.imm.tdiv 4096) 29 2) (s.2.imm.tdiv 4096 / 4) 5 19, { s.2 with imm := wrap64 (sgV (crossG lay s.1 (s.2.imm.tdiv 4096) 29 2 + crossG lay (crossW lay s.1 (s.2.imm.tdiv 4096) 29 2) (s.2.imm.tdiv 4096 / 4) 5 19 * 4) 21 * 4096) })) := by
    show _ = _
    unfold adr0T adrG adrU adrN
    rw [hs]; rfl
  have c2 : w1.cell? ⟨b, 2, none⟩ = some (.int .i64 s.2.sub) := H.at (pair_f .sub s lay)
  have c7 : w1.cell? ⟨b, 7, none⟩ = some (.int .i64 s.2.imm) := H.at (pair_f .imm s lay)
  have hd : wrap64 (s.2.imm.tdiv 4096) = s.2.imm.tdiv 4096 := wrap_i64 (tdiv_in (O.f .imm) (by decide))
  have k1 := got2 lay s.1 (s.2.imm.tdiv 4096) 29
  have k2 := got19 lay (crossW lay s.1 (s.2.imm.tdiv 4096) 29 2) (s.2.imm.tdiv 4096 / 4) 5
  have hd2 : wrap64 (crossG lay (crossW lay s.1 (s.2.imm.tdiv 4096) 29 2) (s.2.imm.tdiv 4096 / 4) 5 19 * 4) = crossG lay (crossW lay s.1 (s.2.imm.tdiv 4096) 29 2) (s.2.imm.tdiv 4096 / 4) 5 19 * 4 := by unfold wrap64; omega
  have hd3 : wrap64 (crossG lay s.1 (s.2.imm.tdiv 4096) 29 2 + crossG lay (crossW lay s.1 (s.2.imm.tdiv 4096) 29 2) (s.2.imm.tdiv 4096 / 4) 5 19 * 4) = crossG lay s.1 (s.2.imm.tdiv 4096) 29 2 + crossG lay (crossW lay s.1 (s.2.imm.tdiv 4096) 29 2) (s.2.imm.tdiv 4096 / 4) 5 19 * 4 := by unfold wrap64; omega
  have hw3 : Hid (W32 (crossG lay s.1 (s.2.imm.tdiv 4096) 29 2 + crossG lay (crossW lay s.1 (s.2.imm.tdiv 4096) 29 2) (s.2.imm.tdiv 4096 / 4) 5 19 * 4)) := ⟨by omega, by omega⟩
  clear k1 k2
  go_upto_region 6 with (go_at_call 70; refine (cross_q H O _ _ _ _ (by rfl)).mono ?_; rintro e w1 ⟨rfl, H1, O1⟩; replace H := H.more H1 rfl rfl rfl rfl; replace O := O1; clear H1 O1; dsimp only)
  have c7 : w1.cell? ⟨b, 7, none⟩ = some (.int .i64 s.2.imm) := H.at (pair_f .imm (_, s.2) lay)
  have fz := H.frozen 7
  go_upto_region 7 with (go_at_call 71; refine (csigned_c _ _ hw3.out _).mono ?_; rintro e w1 ⟨rfl, rfl⟩)
  generalize hw2 : w1.setCell _ _ = w2
  replace H : Pr w b (pairS (adr0T lay s) lay) w2 := by rw [← hw2, hA.out]; exact H.set 7 _
  clear hw2 c7 fz
  go_wp2_with (go_at_call 47; refine (rd_c b _ lay _ O2 H.row).mono ?_; rintro e w1 ⟨rfl, H1⟩; replace H := H.then H1; clear H1; dsimp only)
  go_end0
  refine ⟨rfl, ?_⟩
  rw [hT.out]
  exact H
set_option maxRecDepth 4000 in
set_option maxHeartbeats 4000000 in
theorem adr_near (b : Nat) (s0 : St) (lay : Bool) (w : World) (O0 : Ok s0) (hp : w.heap[b]? = some (.cells (pairS s0 lay) 52)) (hs : ((numT .sub 1 31 1 lay s0).2.sub == 1) = false) : Calls Try.prog 34 #[.pointer (some ⟨b, 0, none⟩)] w fun e w' => e = .returned (.tuple #[]) ∧ Pr w b (pairS (adrT lay s0) lay) w' := by
  have H := pr_start hp
  go_enter Try.func34, Try.ntmps34
  go_upto_region 1 with (go_at_call 63; refine (number_t .sub 1 31 1 (by decide) (by decide) b s0 lay O0 _ hp).mono ?_; rintro e w1 ⟨rfl, H1⟩; replace H := H.then H1; clear H1; dsimp only)
  have O := ok_num .sub 1 31 1 (by decide) (by decide) lay s0 O0
  have hT : Hid (adrT lay s0 = rdT lay (adr0T lay (numT .sub 1 31 1 lay s0))) := rfl
  generalize numT .sub 1 31 1 lay s0 = s at H O hs hT
  have O2 := adr0_ok lay s O
  have hA : Hid (adr0T lay s = (crossW lay (crossW lay s.1 (s.2.imm) 29 2) (s.2.imm / 4) 5 19, { s.2 with imm := wrap64 (sgV (crossG lay s.1 (s.2.imm) 29 2 + crossG lay (crossW lay s.1 (s.2.imm) 29 2) (s.2.imm / 4) 5 19 * 4) 21) })) := by
    show _ = _
    unfold adr0T adrG adrU adrN
    rw [hs, cond_false, cond_false, Int.mul_one]
  have c2 : w1.cell? ⟨b, 2, none⟩ = some (.int .i64 s.2.sub) := H.at (pair_f .sub s lay)
  have c7 : w1.cell? ⟨b, 7, none⟩ = some (.int .i64 s.2.imm) := H.at (pair_f .imm s lay)
  have hd : wrap64 (s.2.imm) = s.2.imm := wrap_i64 (O.f .imm)
  have k1 := got2 lay s.1 (s.2.imm) 29
  have k2 := got19 lay (crossW lay s.1 (s.2.imm) 29 2) (s.2.imm / 4) 5
  have hd2 : wrap64 (crossG lay (crossW lay s.1 (s.2.imm) 29 2) (s.2.imm / 4) 5 19 * 4) = crossG lay (crossW lay s.1 (s.2.imm) 29 2) (s.2.imm / 4) 5 19 * 4 := by unfold wrap64; omega
  have hd3 : wrap64 (crossG lay s.1 (s.2.imm) 29 2 + crossG lay (crossW lay s.1 (s.2.imm) 29 2) (s.2.imm / 4) 5 19 * 4) = crossG lay s.1 (s.2.imm) 29 2 + crossG lay (crossW lay s.1 (s.2.imm) 29 2) (s.2.imm / 4) 5 19 * 4 := by unfold wrap64; omega
  have hw3 : Hid (W32 (crossG lay s.1 (s.2.imm) 29 2 + crossG lay (crossW lay s.1 (s.2.imm) 29 2) (s.2.imm / 4) 5 19 * 4)) := ⟨by omega, by omega⟩
  clear k1 k2
  go_upto_region 6 with (go_at_call 70; refine (cross_q H O _ _ _ _ (by rfl)).mono ?_; rintro e w1 ⟨rfl, H1, O1⟩; replace H := H.more H1 rfl rfl rfl rfl; replace O := O1; clear H1 O1; dsimp only)
  have c7 : w1.cell? ⟨b, 7, none⟩ = some (.int .i64 s.2.imm) := H.at (pair_f .imm (_, s.2) lay)
  have fz := H.frozen 7
  go_upto_region 7 with (go_at_call 71; refine (csigned_c _ _ hw3.out _).mono ?_; rintro e w1 ⟨rfl, rfl⟩)
  generalize hw2 : w1.setCell _ _ = w2
  replace H : Pr w b (pairS (adr0T lay s) lay) w2 := by rw [← hw2, hA.out]; exact H.set 7 _
  clear hw2 c7 fz
  go_wp2_with (go_at_call 47; refine (rd_c b _ lay _ O2 H.row).mono ?_; rintro e w1 ⟨rfl, H1⟩; replace H := H.then H1; clear H1; dsimp only)
  go_end0
  refine ⟨rfl, ?_⟩
  rw [hT.out]
  exact H
theorem adr_c : FC 34 adrT := by
  intro b s lay w O hp
  cases h : ((numT .sub 1 31 1 lay s).2.sub == 1)
  · exact adr_near b s lay w O hp h
  · exact adr_page b s lay w O hp h
end Go.Proofs.Ytcmilajlngnibaa
