/- The forms' functions that do more than cross numbers: branches, logic, sel, adr, tbz: contracts. -/
import Derived.Test.YtbjcdpmhmebjnaaGreatD08
import Derived.Deep.RegionHeld3
import Derived.Deep.MidRow
import Derived.Laws.ResultCell
import Derived.Test.YtbjcdpmhmebjnaaGreatD02
import Derived.BigQuiet
import Derived.Laws.Tables
import Derived.Test.YtbjcdpmhmebjnaaGreatD07
import Derived.Test.YtbjcdpmhmebjnaaGreatD03
namespace Go.Proofs.YtbjcdpmhmebjnaaGreat
open Go.RowKit

def sgV (n m : Int) : Int := wrap64 (signedV n m)
set_option maxHeartbeats 400000 in
theorem csigned_c (n m : Int) (hn : W32 n) (w : World) : Calls Tryz.prog 170 #[.int .i64 n, .int .i64 m] w fun e w' => e = .returned (.int .i64 (sgV n m)) ∧ w' = w := by
  have h1 : IntKind.u64.wrap n = n := by rw [IntKind.wrap_u64]; have := hn.1; have := hn.2; omega
  have h2 : n % 18446744073709551616 = n := by have := hn.1; have := hn.2; omega
  have h3 : Hid (0 ≤ n ∧ n < 18446744073709551616) := ⟨hn.1, by have := hn.2; omega⟩
  go_enter Tryz.func170, Tryz.ntmps170
  go_wp2_with (go_at_call 216; refine (signed_c _ _ h3 _).mono ?_; rintro e w1 ⟨rfl, rfl⟩)
  go_ret
  exact ⟨rfl, rfl⟩
theorem wrapK_i64 {n : Int} (h : I64 n) : IntKind.i64.wrap n = n := by
  obtain ⟨h0, h1⟩ := h
  rw [IntKind.wrap_i64]; omega
theorem wrap_in (x : Int) : I64 (wrap64 x) := by unfold wrap64 I64; omega
def wordsT (a m : Int) : Tr := fun lay s => (crossW lay s.1 (s.2.imm.tdiv 4) a m, { s.2 with imm := wrap64 (sgV (crossG lay s.1 (s.2.imm.tdiv 4) a m) m * 4) })
theorem words_ok (a m : Int) : OkT (wordsT a m) := fun _ _ h => ok_set (ok_word h (cross_lt h.w)) .imm (wrap_in _)
theorem cross_t (n a m : Int) (b : Nat) (s : St) (lay : Bool) (h : Ok s) (w : World) (hp : w.heap[b]? = some (.cells (pairS s lay) 103)) :
    Calls Tryz.prog 169 #[.pointer (some ⟨b, 0, none⟩), .int .i64 n, .int .i64 a, .int .i64 m] w fun e w' => e = .returned (.int .i64 (crossG lay s.1 n a m)) ∧ Pr w b (pairS (crossW lay s.1 n a m, s.2) lay) w' :=
  cross_c b (pairS s lay) s.1 lay n a m (pair_0 s lay) (pair_17 s lay) h.w w hp
theorem cross_p {w0 w1 : World} {b : Nat} {s : St} {lay : Bool} (H : Pr w0 b (pairS s lay) w1) (h : Ok s) (n a m : Int) (w : World) (hw : w.heap[b]? = w1.heap[b]?) :
    Calls Tryz.prog 169 #[.pointer (some ⟨b, 0, none⟩), .int .i64 n, .int .i64 a, .int .i64 m] w fun e w' => e = .returned (.int .i64 (crossG lay s.1 n a m)) ∧ Pr w b (pairS (crossW lay s.1 n a m, s.2) lay) w' :=
  cross_t n a m b s lay h w (hw.trans H.row)
theorem Pr.more {w0 w1 w w' : World} {b : Nat} {cs cs' : Array Value} (H : Pr w0 b cs w1) (H1 : Pr w b cs' w') (ho : w.os = w1.os) (ht : w.tape = w1.tape) (hu : w.output = w1.output) (hh : w.heap = w1.heap) : Pr w0 b cs' w' :=
  H.then ⟨⟨H1.keep.os.trans ho, H1.keep.tape.trans ht, H1.keep.output.trans hu, by rw [← hh]; exact H1.keep.size, fun k hk hl => by rw [← hh] at hl ⊢; exact H1.keep.block k hk hl⟩, H1.row⟩
set_option maxHeartbeats 1000000 in
theorem words_c (a m : Int) (b : Nat) (s : St) (lay : Bool) (O : Ok s) (w : World) (hp : w.heap[b]? = some (.cells (pairS s lay) 103)) :
    Calls Tryz.prog 171 #[.pointer (some ⟨b, 0, none⟩), .int .i64 a, .int .i64 m] w fun e w' => e = .returned (.tuple #[]) ∧ Pr w b (pairS (wordsT a m lay s) lay) w' := by
  have H := pr_start hp
  have c7 : w.cell? ⟨b, 7, none⟩ = some (.int .i64 s.2.imm) := H.at (pair_f .imm s lay)
  have hd : wrap64 (s.2.imm.tdiv 4) = s.2.imm.tdiv 4 := wrap_i64 (tdiv_in (O.f .imm) (by decide))
  have hg : Hid (W32 (crossG lay s.1 (s.2.imm.tdiv 4) a m)) := got_lt O.w
  go_enter Tryz.func171, Tryz.ntmps171
  go_wp2_with (first | (go_at_call 169; refine (cross_t _ _ _ b s lay O _ hp).mono ?_; rintro e w1 ⟨rfl, H1⟩; replace H := H.then H1; clear H1 c7; have c7 : w1.cell? ⟨b, 7, none⟩ = some (.int .i64 s.2.imm) := H.at (pair_f .imm _ lay); have fz := H.frozen 7; dsimp only) | (go_at_call 170; refine (csigned_c _ _ hg.out _).mono ?_; rintro e w1 ⟨rfl, rfl⟩))
  go_end0
  exact ⟨rfl, H.set 7 _⟩
def nothingT : Tr := fun _ s => s
theorem nothing_ok : OkT nothingT := fun _ _ h => h
theorem nothing_c : FC 85 nothingT := by
  intro b s lay w O hp
  go_enter Tryz.func85, Tryz.ntmps85
  go_wp2
  go_end0
  exact ⟨rfl, pr_start hp⟩
def logN (i : Ins) : Int := bif i.flags then 3 else i.sub
def logicT : Tr := fun lay s => (crossW lay s.1 (logN s.2) 29 2, { s.2 with sub := (crossG lay s.1 (logN s.2) 29 2).tmod 3, flags := crossG lay s.1 (logN s.2) 29 2 == 3 })
theorem tmod_in {g : Int} (h : W32 g) (u : Int) (hu : 1 ≤ u) (hu2 : u ≤ 4096) : I64 (g.tmod u) := by
  obtain ⟨h0, h1⟩ := h
  rw [Int.tmod_eq_emod_of_nonneg h0]
  have := Int.emod_nonneg g (show u ≠ 0 by omega)
  have := Int.emod_lt_of_pos g (show 0 < u by omega)
  exact ⟨by omega, by omega⟩
theorem logic_ok : OkT logicT := fun lay s h =>
  ok_setB (s := (crossW lay s.1 (logN s.2) 29 2, Fl.sub.set ((crossG lay s.1 (logN s.2) 29 2).tmod 3) s.2)) (ok_set (s := (crossW lay s.1 (logN s.2) 29 2, s.2)) (ok_word h (cross_lt h.w)) .sub (tmod_in (got_lt h.w) 3 (by decide) (by decide))) .flags (crossG lay s.1 (logN s.2) 29 2 == 3)
set_option maxHeartbeats 1000000 in
theorem logic_c : FC 164 logicT := by
  intro b s lay w O hp
  have H := pr_start hp
  have c2 : w.cell? ⟨b, 2, none⟩ = some (.int .i64 s.2.sub) := H.at (pair_f .sub s lay)
  have c13 : w.cell? ⟨b, 13, none⟩ = some (.bool s.2.flags) := H.at (pair_b .flags s lay)
  have hN : Hid (logN s.2 = bif s.2.flags then 3 else s.2.sub) := rfl
  cases hf : s.2.flags
  all_goals
    rw [hf] at c13 hN
    go_enter Tryz.func164, Tryz.ntmps164
    go_upto_region 4 with (go_at_call 169; refine (cross_t _ _ _ b s lay O _ hp).mono ?_; rintro e w1 ⟨rfl, H1⟩; replace H := H.then H1; clear H1; dsimp only)
    clear c2 c13
    have c2 : w1.cell? ⟨b, 2, none⟩ = some (.int .i64 s.2.sub) := H.at (pair_f .sub (_, s.2) lay)
    have c13 : w1.cell? ⟨b, 13, none⟩ = some (.bool s.2.flags) := H.at (pair_b .flags (_, s.2) lay)
    have f2 := H.frozen 2
    have f13 := H.frozen 13
    go_wp2
    go_end0
    refine ⟨rfl, ?_⟩
    unfold logicT
    rw [hN.out]
    exact (H.set 2 _).set 13 _
end Go.Proofs.YtbjcdpmhmebjnaaGreat
/- sel and tbz: two numbers of one field: contracts. -/
namespace Go.Proofs.YtbjcdpmhmebjnaaGreat
open Go.RowKit

theorem wrapK_in (x : Int) : I64 (IntKind.i64.wrap x) := by rw [IntKind.wrap_i64]; unfold I64; omega
def sel0T : Tr := fun lay s => (crossW lay (crossW lay s.1 (s.2.sub.tdiv 2) 30 1) (s.2.sub.tmod 2) 10 1, { s.2 with sub := IntKind.i64.wrap (IntKind.i64.wrap (crossG lay s.1 (s.2.sub.tdiv 2) 30 1 * 2) + crossG lay (crossW lay s.1 (s.2.sub.tdiv 2) 30 1) (s.2.sub.tmod 2) 10 1) })
theorem sel0_ok : OkT sel0T := fun lay s h => ok_set (s := (crossW lay (crossW lay s.1 (s.2.sub.tdiv 2) 30 1) (s.2.sub.tmod 2) 10 1, s.2)) (ok_word h (cross_lt (cross_lt h.w))) .sub (wrapK_in _)
def selT : Tr := thenT sel0T (thenT (numT .cond 1 12 4) rdRnRmT)
theorem sel_ok : OkT selT := ok_then sel0_ok (ok_then (ok_num .cond 1 12 4 (by decide) (by decide)) rdRnRm_ok)
set_option maxRecDepth 4000 in
set_option maxHeartbeats 4000000 in
theorem sel_c : FC 73 selT := by
  intro b s lay w O hp
  have H := pr_start hp
  have c2 : w.cell? ⟨b, 2, none⟩ = some (.int .i64 s.2.sub) := H.at (pair_f .sub s lay)
  have hd : IntKind.i64.wrap (s.2.sub.tdiv 2) = s.2.sub.tdiv 2 := wrapK_i64 (tdiv_in (O.f .sub) (by decide))
  have O1 : Ok (crossW lay s.1 (s.2.sub.tdiv 2) 30 1, s.2) := ok_word O (cross_lt O.w)
  have O2 := sel0_ok lay s O
  go_enter Tryz.func73, Tryz.ntmps73
  go_upto_region 0 with fail
  go_region_with ((go_at_call 169; (try simp only [hd]); refine (cross_p H (by first | exact O | exact O1) _ _ _ _ (by rfl)).mono ?_; rintro e w1 ⟨rfl, H1⟩; replace H := H.more H1 rfl rfl rfl rfl; clear H1; have c2 : w1.cell? ⟨b, 2, none⟩ = some (.int .i64 s.2.sub) := H.at (pair_f .sub (_, s.2) lay); have fz := H.frozen 2; dsimp only))
  all_goals
    generalize hw2 : w1.setCell _ _ = w2
    replace H : Pr w b (pairS (sel0T lay s) lay) w2 := by rw [← hw2]; exact H.set 2 _
    clear hw2
    clear c2 fz
    go_upto_region 2 with (go_at_call 162; refine (number_t .cond 1 12 4 (by decide) (by decide) b _ lay O2 _ H.row).mono ?_; rintro e w1 ⟨rfl, H1⟩; replace H := H.then H1; clear H1; dsimp only)
    replace O2 := (ok_num .cond 1 12 4 (by decide) (by decide)) lay _ O2
    go_wp2_with (go_at_call 167; refine (rdRnRm_c b _ lay _ O2 H.row).mono ?_; rintro e w1 ⟨rfl, H1⟩; replace H := H.then H1; clear H1; dsimp only)
    go_end0
    exact ⟨rfl, H⟩
end Go.Proofs.YtbjcdpmhmebjnaaGreat
/- adr: the contract. -/
namespace Go.Proofs.YtbjcdpmhmebjnaaGreat
open Go.RowKit

theorem cross_q {w0 w1 : World} {b : Nat} {s : St} {lay : Bool} (H : Pr w0 b (pairS s lay) w1) (h : Ok s) (n a m : Int) (w : World) (hw : w.heap[b]? = w1.heap[b]?) :
    Calls Tryz.prog 169 #[.pointer (some ⟨b, 0, none⟩), .int .i64 n, .int .i64 a, .int .i64 m] w fun e w' => e = .returned (.int .i64 (crossG lay s.1 n a m)) ∧ Pr w b (pairS (crossW lay s.1 n a m, s.2) lay) w' ∧ Ok (crossW lay s.1 n a m, s.2) := by
  refine (cross_p H h n a m w hw).mono ?_
  rintro e w' ⟨he, hP⟩
  exact ⟨he, hP, ok_word h (cross_lt h.w)⟩
theorem field_small {word a m : Int} : 0 ≤ fieldV word a m ∧ fieldV word a m < 2 ^ m.toNat := by
  unfold fieldV
  have hp : (0 : Int) < 2 ^ m.toNat := Int.pow_pos (by decide)
  split
  · have h := Nat.mod_lt (word.toNat / 2 ^ a.toNat) (Nat.two_pow_pos m.toNat)
    have e : ((2 ^ m.toNat : Nat) : Int) = 2 ^ m.toNat := by simp
    omega
  · omega
theorem got2 (lay : Bool) (W n a : Int) : 0 ≤ crossG lay W n a 2 ∧ crossG lay W n a 2 < 4 := field_small
theorem got19 (lay : Bool) (W n a : Int) : 0 ≤ crossG lay W n a 19 ∧ crossG lay W n a 19 < 524288 := field_small
def adrN (i : Ins) : Int := bif i.sub == 1 then i.imm.tdiv 4096 else i.imm
def adrU (i : Ins) : Int := bif i.sub == 1 then 4096 else 1
def adrG (lay : Bool) (s : St) : Int := crossG lay s.1 (adrN s.2) 29 2 + crossG lay (crossW lay s.1 (adrN s.2) 29 2) (adrN s.2 / 4) 5 19 * 4
def adr0T : Tr := fun lay s => (crossW lay (crossW lay s.1 (adrN s.2) 29 2) (adrN s.2 / 4) 5 19, { s.2 with imm := wrap64 (sgV (adrG lay s) 21 * adrU s.2) })
theorem adr0_ok : OkT adr0T := fun lay s h => ok_set (s := (crossW lay (crossW lay s.1 (adrN s.2) 29 2) (adrN s.2 / 4) 5 19, s.2)) (ok_word h (cross_lt (cross_lt h.w))) .imm (wrap_in _)
def adrT : Tr := thenT (numT .sub 1 31 1) (thenT adr0T rdT)
theorem adr_ok : OkT adrT := ok_then (ok_num .sub 1 31 1 (by decide) (by decide)) (ok_then adr0_ok rd_ok)
set_option maxRecDepth 4000 in
set_option maxHeartbeats 4000000 in
theorem adr_page (b : Nat) (s0 : St) (lay : Bool) (w : World) (O0 : Ok s0) (hp : w.heap[b]? = some (.cells (pairS s0 lay) 103)) (hs : ((numT .sub 1 31 1 lay s0).2.sub == 1) = true) : Calls Tryz.prog 74 #[.pointer (some ⟨b, 0, none⟩)] w fun e w' => e = .returned (.tuple #[]) ∧ Pr w b (pairS (adrT lay s0) lay) w' := by
  have H := pr_start hp
  go_enter Tryz.func74, Tryz.ntmps74
  go_upto_region 1 with (go_at_call 162; refine (number_t .sub 1 31 1 (by decide) (by decide) b s0 lay O0 _ hp).mono ?_; rintro e w1 ⟨rfl, H1⟩; replace H := H.then H1; clear H1; dsimp only)
  have O := ok_num .sub 1 31 1 (by decide) (by decide) lay s0 O0
  have hT : Hid (adrT lay s0 = rdT lay (adr0T lay (numT .sub 1 31 1 lay s0))) := rfl
  generalize numT .sub 1 31 1 lay s0 = s at H O hs hT
  have O2 := adr0_ok lay s O
  have hA : Hid (adr0T lay s = (crossW lay (crossW lay s.1 (s.2.imm.tdiv 4096) 29 2) (s.2.imm.tdiv 4096 / 4) 5 19, { s.2 with imm := wrap64 (sgV (crossG lay s.1 (s.2.imm.tdiv 4096) 29 2 + crossG lay (crossW lay s.1 (s.2.imm.tdiv 4096) 29 2) (s.2.imm.tdiv 4096 / 4) 5 19 * 4) 21 * 4096) })) := by
    show _ = _
    unfold adr0T adrG adrU adrN
    rw [hs]; rfl
  have c2 : w1.cell? ⟨b, 2, none⟩ = some (.int .i64 s.2.sub) := H.at (pair_f .sub s lay)
  have c7 : w1.cell? ⟨b, 7, none⟩ = some (.int .i64 s.2.imm) := H.at (pair_f .imm s lay)
  have hd : wrap64 (s.2.imm.tdiv 4096) = s.2.imm.tdiv 4096 := wrap_i64 (tdiv_in (O.f .imm) (by decide))
  have k1 := got2 lay s.1 (s.2.imm.tdiv 4096) 29
  have k2 := got19 lay (crossW lay s.1 (s.2.imm.tdiv 4096) 29 2) (s.2.imm.tdiv 4096 / 4) 5
  have hd2 : wrap64 (crossG lay (crossW lay s.1 (s.2.imm.tdiv 4096) 29 2) (s.2.imm.tdiv 4096 / 4) 5 19 * 4) = crossG lay (crossW lay s.1 (s.2.imm.tdiv 4096) 29 2) (s.2.imm.tdiv 4096 / 4) 5 19 * 4 := by unfold wrap64; omega
  have hd3 : wrap64 (crossG lay s.1 (s.2.imm.tdiv 4096) 29 2 + crossG lay (crossW lay s.1 (s.2.imm.tdiv 4096) 29 2) (s.2.imm.tdiv 4096 / 4) 5 19 * 4) = crossG lay s.1 (s.2.imm.tdiv 4096) 29 2 + crossG lay (crossW lay s.1 (s.2.imm.tdiv 4096) 29 2) (s.2.imm.tdiv 4096 / 4) 5 19 * 4 := by unfold wrap64; omega
  have hw3 : Hid (W32 (crossG lay s.1 (s.2.imm.tdiv 4096) 29 2 + crossG lay (crossW lay s.1 (s.2.imm.tdiv 4096) 29 2) (s.2.imm.tdiv 4096 / 4) 5 19 * 4)) := ⟨by omega, by omega⟩
  clear k1 k2
  go_upto_region 6 with (go_at_call 169; refine (cross_q H O _ _ _ _ (by rfl)).mono ?_; rintro e w1 ⟨rfl, H1, O1⟩; replace H := H.more H1 rfl rfl rfl rfl; replace O := O1; clear H1 O1; dsimp only)
  have c7 : w1.cell? ⟨b, 7, none⟩ = some (.int .i64 s.2.imm) := H.at (pair_f .imm (_, s.2) lay)
  have fz := H.frozen 7
  go_upto_region 7 with (go_at_call 170; refine (csigned_c _ _ hw3.out _).mono ?_; rintro e w1 ⟨rfl, rfl⟩)
  generalize hw2 : w1.setCell _ _ = w2
  replace H : Pr w b (pairS (adr0T lay s) lay) w2 := by rw [← hw2, hA.out]; exact H.set 7 _
  clear hw2 c7 fz
  go_wp2_with (go_at_call 87; refine (rd_c b _ lay _ O2 H.row).mono ?_; rintro e w1 ⟨rfl, H1⟩; replace H := H.then H1; clear H1; dsimp only)
  go_end0
  refine ⟨rfl, ?_⟩
  rw [hT.out]
  exact H
set_option maxRecDepth 4000 in
set_option maxHeartbeats 4000000 in
theorem adr_near (b : Nat) (s0 : St) (lay : Bool) (w : World) (O0 : Ok s0) (hp : w.heap[b]? = some (.cells (pairS s0 lay) 103)) (hs : ((numT .sub 1 31 1 lay s0).2.sub == 1) = false) : Calls Tryz.prog 74 #[.pointer (some ⟨b, 0, none⟩)] w fun e w' => e = .returned (.tuple #[]) ∧ Pr w b (pairS (adrT lay s0) lay) w' := by
  have H := pr_start hp
  go_enter Tryz.func74, Tryz.ntmps74
  go_upto_region 1 with (go_at_call 162; refine (number_t .sub 1 31 1 (by decide) (by decide) b s0 lay O0 _ hp).mono ?_; rintro e w1 ⟨rfl, H1⟩; replace H := H.then H1; clear H1; dsimp only)
  have O := ok_num .sub 1 31 1 (by decide) (by decide) lay s0 O0
  have hT : Hid (adrT lay s0 = rdT lay (adr0T lay (numT .sub 1 31 1 lay s0))) := rfl
  generalize numT .sub 1 31 1 lay s0 = s at H O hs hT
  have O2 := adr0_ok lay s O
  have hA : Hid (adr0T lay s = (crossW lay (crossW lay s.1 (s.2.imm) 29 2) (s.2.imm / 4) 5 19, { s.2 with imm := wrap64 (sgV (crossG lay s.1 (s.2.imm) 29 2 + crossG lay (crossW lay s.1 (s.2.imm) 29 2) (s.2.imm / 4) 5 19 * 4) 21) })) := by
    show _ = _
    unfold adr0T adrG adrU adrN
    rw [hs, cond_false, cond_false, Int.mul_one]
  have c2 : w1.cell? ⟨b, 2, none⟩ = some (.int .i64 s.2.sub) := H.at (pair_f .sub s lay)
  have c7 : w1.cell? ⟨b, 7, none⟩ = some (.int .i64 s.2.imm) := H.at (pair_f .imm s lay)
  have hd : wrap64 (s.2.imm) = s.2.imm := wrap_i64 (O.f .imm)
  have k1 := got2 lay s.1 (s.2.imm) 29
  have k2 := got19 lay (crossW lay s.1 (s.2.imm) 29 2) (s.2.imm / 4) 5
  have hd2 : wrap64 (crossG lay (crossW lay s.1 (s.2.imm) 29 2) (s.2.imm / 4) 5 19 * 4) = crossG lay (crossW lay s.1 (s.2.imm) 29 2) (s.2.imm / 4) 5 19 * 4 := by unfold wrap64; omega
  have hd3 : wrap64 (crossG lay s.1 (s.2.imm) 29 2 + crossG lay (crossW lay s.1 (s.2.imm) 29 2) (s.2.imm / 4) 5 19 * 4) = crossG lay s.1 (s.2.imm) 29 2 + crossG lay (crossW lay s.1 (s.2.imm) 29 2) (s.2.imm / 4) 5 19 * 4 := by unfold wrap64; omega
  have hw3 : Hid (W32 (crossG lay s.1 (s.2.imm) 29 2 + crossG lay (crossW lay s.1 (s.2.imm) 29 2) (s.2.imm / 4) 5 19 * 4)) := ⟨by omega, by omega⟩
  clear k1 k2
  go_upto_region 6 with (go_at_call 169; refine (cross_q H O _ _ _ _ (by rfl)).mono ?_; rintro e w1 ⟨rfl, H1, O1⟩; replace H := H.more H1 rfl rfl rfl rfl; replace O := O1; clear H1 O1; dsimp only)
  have c7 : w1.cell? ⟨b, 7, none⟩ = some (.int .i64 s.2.imm) := H.at (pair_f .imm (_, s.2) lay)
  have fz := H.frozen 7
  go_upto_region 7 with (go_at_call 170; refine (csigned_c _ _ hw3.out _).mono ?_; rintro e w1 ⟨rfl, rfl⟩)
  generalize hw2 : w1.setCell _ _ = w2
  replace H : Pr w b (pairS (adr0T lay s) lay) w2 := by rw [← hw2, hA.out]; exact H.set 7 _
  clear hw2 c7 fz
  go_wp2_with (go_at_call 87; refine (rd_c b _ lay _ O2 H.row).mono ?_; rintro e w1 ⟨rfl, H1⟩; replace H := H.then H1; clear H1; dsimp only)
  go_end0
  refine ⟨rfl, ?_⟩
  rw [hT.out]
  exact H
theorem adr_c : FC 74 adrT := by
  intro b s lay w O hp
  cases h : ((numT .sub 1 31 1 lay s).2.sub == 1)
  · exact adr_near b s lay w O hp h
  · exact adr_page b s lay w O hp h
end Go.Proofs.YtbjcdpmhmebjnaaGreat
/- tbz: two numbers of one field, behind a sign: the contract. -/
namespace Go.Proofs.YtbjcdpmhmebjnaaGreat
open Go.RowKit

def tbz0T : Tr := fun lay s => (crossW lay (crossW lay s.1 (s.2.amount.tdiv 32) 31 1) (s.2.amount.tmod 32) 19 5, { s.2 with amount := IntKind.i64.wrap (IntKind.i64.wrap (crossG lay s.1 (s.2.amount.tdiv 32) 31 1 * 32) + crossG lay (crossW lay s.1 (s.2.amount.tdiv 32) 31 1) (s.2.amount.tmod 32) 19 5) })
theorem tbz0_ok : OkT tbz0T := fun lay s h => ok_set (s := (crossW lay (crossW lay s.1 (s.2.amount.tdiv 32) 31 1) (s.2.amount.tmod 32) 19 5, s.2)) (ok_word h (cross_lt (cross_lt h.w))) .amount (wrapK_in _)
def tbzT : Tr := thenT (sgnT .not 24) (thenT tbz0T (thenT (wordsT 5 14) rdT))
theorem tbz_ok : OkT tbzT := ok_then (ok_sgn .not 24) (ok_then tbz0_ok (ok_then (words_ok 5 14) rd_ok))
set_option maxRecDepth 4000 in
set_option maxHeartbeats 4000000 in
theorem tbz_c : FC 78 tbzT := by
  intro b s0 lay w O0 hp
  have H := pr_start hp
  go_enter Tryz.func78, Tryz.ntmps78
  go_upto_region 1 with (go_at_call 165; refine (sign_t .not 24 b s0 lay O0 _ hp).mono ?_; rintro e w1 ⟨rfl, H1⟩; replace H := H.then H1; clear H1; dsimp only)
  have O := ok_sgn .not 24 lay s0 O0
  have hT : Hid (tbzT lay s0 = rdT lay (wordsT 5 14 lay (tbz0T lay (sgnT .not 24 lay s0)))) := rfl
  generalize sgnT .not 24 lay s0 = s at H O hT
  have c2 : w1.cell? ⟨b, 9, none⟩ = some (.int .i64 s.2.amount) := H.at (pair_f .amount s lay)
  have hd : IntKind.i64.wrap (s.2.amount.tdiv 32) = s.2.amount.tdiv 32 := wrapK_i64 (tdiv_in (O.f .amount) (by decide))
  have O1 : Ok (crossW lay s.1 (s.2.amount.tdiv 32) 31 1, s.2) := ok_word O (cross_lt O.w)
  have O2 := tbz0_ok lay s O
  go_region_with ((go_at_call 169; (try simp only [hd]); refine (cross_p H (by first | exact O | exact O1) _ _ _ _ (by rfl)).mono ?_; rintro e w1 ⟨rfl, H1⟩; replace H := H.more H1 rfl rfl rfl rfl; clear H1; have c2 : w1.cell? ⟨b, 9, none⟩ = some (.int .i64 s.2.amount) := H.at (pair_f .amount (_, s.2) lay); have fz := H.frozen 9; dsimp only))
  all_goals
    generalize hw2 : w1.setCell _ _ = w2
    replace H : Pr w b (pairS (tbz0T lay s) lay) w2 := by rw [← hw2]; exact H.set 9 _
    clear hw2
    clear c2 fz
    go_upto_region 3 with (go_at_call 171; refine (words_c 5 14 b _ lay O2 _ H.row).mono ?_; rintro e w1 ⟨rfl, H1⟩; replace H := H.then H1; clear H1; dsimp only)
    replace O2 := words_ok 5 14 lay _ O2
    go_wp2_with (go_at_call 87; refine (rd_c b _ lay _ O2 H.row).mono ?_; rintro e w1 ⟨rfl, H1⟩; replace H := H.then H1; clear H1; dsimp only)
    go_end0
    refine ⟨rfl, ?_⟩
    rw [hT.out]
    exact H
end Go.Proofs.YtbjcdpmhmebjnaaGreat
/- logReg, logImm, b, bCond, cbz, adr: contracts. -/
namespace Go.Proofs.YtbjcdpmhmebjnaaGreat
open Go.RowKit

def logRegT : Tr := thenT (logicT) (thenT (sgnT .not 21) (shiftedT))
theorem logReg_ok : OkT logRegT := ok_then (logic_ok) (ok_then (ok_sgn .not 21) (shifted_ok))
set_option maxHeartbeats 1000000 in
theorem logReg_c : FC 66 logRegT := by
  intro b s lay w O hp
  have H := pr_start hp
  go_enter Tryz.func66, Tryz.ntmps66
  go_upto_region 1 with (go_at_call 164; refine (logic_c b _ lay _ O H.row).mono ?_; rintro e w1 ⟨rfl, H1⟩; replace H := H.then H1; replace O := logic_ok lay _ O; clear H1; dsimp only)
  go_upto_region 2 with (go_at_call 165; refine (sign_t .not 21 b _ lay O _ H.row).mono ?_; rintro e w1 ⟨rfl, H1⟩; replace H := H.then H1; replace O := (ok_sgn .not 21) lay _ O; clear H1; dsimp only)
  go_wp2_with (go_at_call 163; refine (shifted_c b _ lay _ O H.row).mono ?_; rintro e w1 ⟨rfl, H1⟩; replace H := H.then H1; replace O := shifted_ok lay _ O; clear H1; dsimp only)
  go_end0
  exact ⟨rfl, H⟩
def logImmT : Tr := thenT (logicT) (thenT (numT .amount 1 22 1) (boundsT))
theorem logImm_ok : OkT logImmT := ok_then (logic_ok) (ok_then (ok_num .amount 1 22 1 (by decide) (by decide)) (bounds_ok))
set_option maxHeartbeats 1000000 in
theorem logImm_c : FC 67 logImmT := by
  intro b s lay w O hp
  have H := pr_start hp
  go_enter Tryz.func67, Tryz.ntmps67
  go_upto_region 1 with (go_at_call 164; refine (logic_c b _ lay _ O H.row).mono ?_; rintro e w1 ⟨rfl, H1⟩; replace H := H.then H1; replace O := logic_ok lay _ O; clear H1; dsimp only)
  go_upto_region 2 with (go_at_call 162; refine (number_t .amount 1 22 1 (by decide) (by decide) b _ lay O _ H.row).mono ?_; rintro e w1 ⟨rfl, H1⟩; replace H := H.then H1; replace O := (ok_num .amount 1 22 1 (by decide) (by decide)) lay _ O; clear H1; dsimp only)
  go_wp2_with (go_at_call 166; refine (bounds_c b _ lay _ O H.row).mono ?_; rintro e w1 ⟨rfl, H1⟩; replace H := H.then H1; replace O := bounds_ok lay _ O; clear H1; dsimp only)
  go_end0
  exact ⟨rfl, H⟩
def bT : Tr := thenT (sgnT .link 31) (wordsT 0 26)
theorem b_ok : OkT bT := ok_then (ok_sgn .link 31) (words_ok 0 26)
set_option maxHeartbeats 1000000 in
theorem b_c : FC 75 bT := by
  intro b s lay w O hp
  have H := pr_start hp
  go_enter Tryz.func75, Tryz.ntmps75
  go_upto_region 1 with (go_at_call 165; refine (sign_t .link 31 b _ lay O _ H.row).mono ?_; rintro e w1 ⟨rfl, H1⟩; replace H := H.then H1; replace O := (ok_sgn .link 31) lay _ O; clear H1; dsimp only)
  go_wp2_with (go_at_call 171; refine (words_c 0 26 b _ lay O _ H.row).mono ?_; rintro e w1 ⟨rfl, H1⟩; replace H := H.then H1; replace O := (words_ok 0 26) lay _ O; clear H1; dsimp only)
  go_end0
  exact ⟨rfl, H⟩
def bCondT : Tr := thenT (wordsT 5 19) (numT .cond 1 0 4)
theorem bCond_ok : OkT bCondT := ok_then (words_ok 5 19) (ok_num .cond 1 0 4 (by decide) (by decide))
set_option maxHeartbeats 1000000 in
theorem bCond_c : FC 76 bCondT := by
  intro b s lay w O hp
  have H := pr_start hp
  go_enter Tryz.func76, Tryz.ntmps76
  go_upto_region 1 with (go_at_call 171; refine (words_c 5 19 b _ lay O _ H.row).mono ?_; rintro e w1 ⟨rfl, H1⟩; replace H := H.then H1; replace O := (words_ok 5 19) lay _ O; clear H1; dsimp only)
  go_wp2_with (go_at_call 162; refine (number_t .cond 1 0 4 (by decide) (by decide) b _ lay O _ H.row).mono ?_; rintro e w1 ⟨rfl, H1⟩; replace H := H.then H1; replace O := (ok_num .cond 1 0 4 (by decide) (by decide)) lay _ O; clear H1; dsimp only)
  go_end0
  exact ⟨rfl, H⟩
def cbzT : Tr := thenT (sgnT .not 24) (thenT (wordsT 5 19) (rdT))
theorem cbz_ok : OkT cbzT := ok_then (ok_sgn .not 24) (ok_then (words_ok 5 19) (rd_ok))
set_option maxHeartbeats 1000000 in
theorem cbz_c : FC 77 cbzT := by
  intro b s lay w O hp
  have H := pr_start hp
  go_enter Tryz.func77, Tryz.ntmps77
  go_upto_region 1 with (go_at_call 165; refine (sign_t .not 24 b _ lay O _ H.row).mono ?_; rintro e w1 ⟨rfl, H1⟩; replace H := H.then H1; replace O := (ok_sgn .not 24) lay _ O; clear H1; dsimp only)
  go_upto_region 2 with (go_at_call 171; refine (words_c 5 19 b _ lay O _ H.row).mono ?_; rintro e w1 ⟨rfl, H1⟩; replace H := H.then H1; replace O := (words_ok 5 19) lay _ O; clear H1; dsimp only)
  go_wp2_with (go_at_call 87; refine (rd_c b _ lay _ O H.row).mono ?_; rintro e w1 ⟨rfl, H1⟩; replace H := H.then H1; replace O := rd_ok lay _ O; clear H1; dsimp only)
  go_end0
  exact ⟨rfl, H⟩
end Go.Proofs.YtbjcdpmhmebjnaaGreat
/- A form: a kind of words; what apart, together and holds make of it: contracts. -/
namespace Go.Proofs.YtbjcdpmhmebjnaaGreat
open Go.RowKit

structure Fm where
  op : Int
  sub : Int
  mask : Int
  base : Int
  f : Nat
  t : Tr
def Fm.cells (F : Fm) : List Value := [.int .i64 F.op, .int .i64 F.sub, .int .u32 F.mask, .int .u32 F.base, .func (.func F.f) #[] #[]]
/-- A form lies in a block, from an offset on. -/
structure FmAt (F : Fm) (g o : Nat) (w : World) : Prop where
  c0 : w.cell? ⟨g, o, none⟩ = some (.int .i64 F.op)
  c1 : w.cell? ⟨g, o + 1, none⟩ = some (.int .i64 F.sub)
  c2 : w.cell? ⟨g, o + 2, none⟩ = some (.int .u32 F.mask)
  c3 : w.cell? ⟨g, o + 3, none⟩ = some (.int .u32 F.base)
  c4 : w.cell? ⟨g, o + 4, none⟩ = some (.func (.func F.f) #[] #[])
theorem FmAt.keep {F : Fm} {g o : Nat} {w w' : World} (h : FmAt F g o w) (hk : w'.heap[g]? = w.heap[g]?) : FmAt F g o w' := by
  have e : ∀ k, w'.cell? ⟨g, k, none⟩ = w.cell? ⟨g, k, none⟩ := fun k => World.cell?_of_block (w := w) hk
  exact ⟨by rw [e]; exact h.c0, by rw [e]; exact h.c1, by rw [e]; exact h.c2, by rw [e]; exact h.c3, by rw [e]; exact h.c4⟩
theorem below_alloc (w : World) (o : Obj) : Below w.heap.size w (w.alloc o) := (Below.refl _ w).alloc (Nat.le_refl _) o
theorem below_more {w x : World} {o : Obj} (h : Below w.heap.size w x) : Below w.heap.size w (x.alloc o) := h.alloc h.size o
theorem zero_in : I64 0 := ⟨by decide, by decide⟩
def nilI : Ins := ⟨0, 0, 0, 0, 0, 0, 0, 0, 0, 0, 0, 0, false, false, false, false⟩
def startI (F : Fm) : Ins := { nilI with op := F.op, sub := F.sub }
def Ins.listV (i : Ins) : List Value := [vI i.op, vI i.sub, vI i.rd, vI i.rn, vI i.rm, vI i.ra, vI i.imm, vI i.imm2, vI i.amount, vI i.shift, vI i.cond, vI i.sys, .bool i.flags, .bool i.minus, .bool i.not, .bool i.link]
theorem info25 : (Tryz.prog.info? 47).map (·.size) = some 16 := by kernel_rfl
theorem Ins.info (i : Ins) : (Tryz.prog.info? 47).map (·.size) = some i.listV.length := info25
theorem Ins.info' (i : Ins) : (Tryz.prog.info? 47).map (·.size) = some i.listV.toArray.size := info25
theorem Ins.one (i : Ins) : i.listV.toArray.all (·.oneCell') = true := by simp [Ins.listV, Value.oneCell']
theorem pair_range {s : St} {lay : Bool} {b : Nat} {w : World} (h : w.heap[b]? = some (.cells (pairS s lay) 103)) : w.rangeAt b 1 s.2.listV := by
  intro j v hv
  rw [cell_of_row _ _ _ _ _ _ h]
  obtain ⟨hj, -⟩ := List.getElem?_eq_some_iff.1 hv
  have hj : j < 16 := hj
  have : j = 0 ∨ j = 1 ∨ j = 2 ∨ j = 3 ∨ j = 4 ∨ j = 5 ∨ j = 6 ∨ j = 7 ∨ j = 8 ∨ j = 9 ∨ j = 10 ∨ j = 11 ∨ j = 12 ∨ j = 13 ∨ j = 14 ∨ j = 15 := by omega
  rcases this with rfl | rfl | rfl | rfl | rfl | rfl | rfl | rfl | rfl | rfl | rfl | rfl | rfl | rfl | rfl | rfl <;> exact hv
theorem below_setRow {w x : World} {g : Nat} {cs : Array Value} (h : Below w.heap.size w x) (hg : w.heap.size ≤ g) : Below w.heap.size w (x.setRow g cs) :=
  h.trans ⟨rfl, rfl, rfl, by rw [size_setRow]; exact Nat.le_refl _, fun k hk => setRow_other _ _ _ _ (by omega)⟩
set_option maxRecDepth 4000 in
set_option maxHeartbeats 4000000 in
theorem apart_c (F : Fm) (hF : FC F.f F.t) (hE : ∀ (args : Array Value) (w : World), (callFunc F.f args).run Tryz.prog w = .ok (.enter F.f args) w) (g o : Nat) (word : Int) (hW' : W32 word) (hs : I64 F.sub) (w : World) (h : FmAt F g o w) :
    Calls Tryz.prog 36 #[.pointer (some ⟨g, o, none⟩), .int .u32 word] w fun e w' => e = .returned (F.t false (word, startI F)).2.val ∧ Below w.heap.size w w' := by
  have c0 := h.c0
  have c1 := h.c1
  have c4 := h.c4
  go_enter Tryz.func36, Tryz.ntmps36
  have hg : g < w.heap.size := block_lt_of_cell c0
  have hne := World.new_ne w ⟨g, o, none⟩ c0
  go_upto_region 1 with fail
  go_region_held3 (fun x : World => x.cell? ⟨g, o, none⟩ = some (.int .i64 F.op) ∧ x.cell? ⟨g, o + 1, none⟩ = some (.int .i64 F.sub)) (go_keep) (fail)
  all_goals
    generalize hW : World.drew _ = w1
    have HB : Below w.heap.size w w1 := by
      rw [← hW]
      exact Below.drew (below_more (below_alloc _ _))
    have hrow : w1.heap[w.heap.size + 1]? = some (.cells (pairS (word, startI F) false) 103) := by
      rw [← hW]
      exact heap_alloc2_new _ _ _
    have hres : ∃ Z, w1.heap[w.heap.size]? = some (.cells Z 47) ∧ Z.size = 16 := ⟨_, by rw [← hW]; exact heap_alloc2_old _ _ _, rfl⟩
    obtain ⟨Z, hres, hZ⟩ := hres
    have hfm : FmAt F g o w1 := h.keep (HB.block g hg)
    clear hW c0 c1 c4 hne
    have c4 := hfm.c4
    have O : Ok (word, startI F) := ⟨hW', fun k => by cases k <;> first | exact hs | exact zero_in⟩
    go_upto_region 3 with (first | (refine (hF (w.heap.size + 1) (word, startI F) false _ O hrow).mono ?_; rintro e w2 ⟨rfl, H1⟩; dsimp only))
    have H2 : Below w.heap.size w w2 := ⟨H1.keep.os.trans HB.os, H1.keep.tape.trans HB.tape, H1.keep.output.trans HB.output, Nat.le_trans HB.size H1.keep.size, fun k hk => (H1.keep.block k (by omega) (Nat.lt_of_lt_of_le hk HB.size)).trans (HB.block k hk)⟩
    have hres2 : w2.heap[w.heap.size]? = some (.cells Z 47) := (H1.keep.block _ (by omega) (Array.getElem?_eq_some_iff.1 hres).1).trans hres
    iterate 4 go_step
    with_reducible refine wpList_load_mid rfl 47 _ rfl (w.heap.size + 1) 1 rfl (Ins.listV _) _ (pair_range H1.row) Tryz.underlying47 rfl (Ins.info _) ?_
    simp only [Act.put, List.setIfInBounds_toArray, List.set_cons_succ, List.set_cons_zero]
    with_reducible refine wpList_store_row rfl 47 _ _ rfl w.heap.size _ rfl rfl 47 _ hres2 (Ins.info' _) ?_ (Ins.one _) ?_
    focus (rw [hZ]; rfl)
    go_wp2
    refine bodyPost_ret (results_cell_row rfl _ _ _ 47 _ (0, 0) _ rfl (setRow_heap _ _ _ _ _ _ hres2) Tryz.underlying47 rfl (Ins.info' _)) rfl ?_
    exact ⟨rfl, below_setRow H2 (Nat.le_refl _)⟩
end Go.Proofs.YtbjcdpmhmebjnaaGreat
/- What together and holds make of a form and an instruction: contracts. -/
namespace Go.Proofs.YtbjcdpmhmebjnaaGreat
open Go.RowKit Go.Rel

theorem rel_load_insn {o : Oper} {a : Act} {w : World} {i : Ins} (x : Operand) (ho : o.op = .load 47 x) (g : Nat) (hx : a.eval x = .pointer (some ⟨g, 0, none⟩)) (hg : w.heap[g]? = some (.cells i.cells 47)) :
    relUpon Tryz.prog Grows (fun v _ => v = i.val) w ((execOp a.eval o).run Tryz.prog w) := by
  unfold execOp
  simp only [ho, hx, Instr.loadAt, Instr.sureAddr, Sem.run_bind, Sem.run_pure, Result.andThen_ok, run_loadVar_row w g 47 47 i.cells (0, 0) _ hg Tryz.underlying47 rfl info25]
  exact ⟨Below.refl _ _, rfl⟩
/-- The form, and the instruction's box. -/
structure Tg (F : Fm) (g o : Nat) (i : Ins) (w0 w : World) : Prop where
  below : Below w0.heap.size w0 w
  box : w.heap[w0.heap.size]? = some (.cells i.cells 47)
  fm : FmAt F g o w
theorem Tg.grow {F : Fm} {g o : Nat} {i : Ins} {w0 w w' : World} (h : Tg F g o i w0 w) (hb : Below w.heap.size w w') : Tg F g o i w0 w' :=
  ⟨h.below.trans (hb.mono h.below.size), by rw [hb.block _ (Array.getElem?_eq_some_iff.1 h.box).1]; exact h.box, h.fm.keep (hb.block g (block_lt_of_cell h.fm.c0))⟩
theorem tg_start {F : Fm} {g o : Nat} (i : Ins) {w : World} (h : FmAt F g o w) : Tg F g o i w (w.alloc (.cells i.cells 47)) :=
  ⟨Go.Proofs.YtbjcdpmhmebjnaaGreat.below_alloc _ _, heap_alloc_new _ _, h.keep (Below.heap_alloc _ _ _ (block_lt_of_cell h.c0))⟩
theorem tg_up (F : Fm) (g o : Nat) (i : Ins) (w0 : World) : Up Grows (fun w => Tg F g o i w0 w) := fun _ _ h hb => h.grow hb
/-- A new variable of the pair's type. -/
def Fresh (n : Nat) (v : Value) (w : World) : Prop := ∃ b Z, v = .pointer (some ⟨b, 0, none⟩) ∧ n < b ∧ w.heap[b]? = some (.cells Z 103) ∧ Z.size = 18
theorem fresh_up (n : Nat) (v : Value) : Up Grows (Fresh n v) := fun _ _ ⟨b, Z, e, hn, hh, hz⟩ hb => ⟨b, Z, e, hn, by rw [hb.block _ (Array.getElem?_eq_some_iff.1 hh).1]; exact hh, hz⟩
theorem info52 : (Tryz.prog.info? 103).map (·.size) = some 18 := by kernel_rfl
theorem pair_info (s : St) (lay : Bool) : (Tryz.prog.info? 103).map (·.size) = some (pairS s lay).size := info52
theorem pair_one (s : St) (lay : Bool) : (pairS s lay).all (·.oneCell') = true := by simp [pairS, Value.oneCell']
end Go.Proofs.YtbjcdpmhmebjnaaGreat
/- What holds makes of a form and an instruction: its contract. -/
namespace Go.Proofs.YtbjcdpmhmebjnaaGreat
open Go.RowKit

def isForm (F : Fm) (i : Ins) : Bool := (F.op == i.op) && (F.sub == i.sub || F.sub == -1)
theorem below_drewN {B : Nat} {a w : World} (h : Below B a w) : ∀ n, Below B a (w.drewN n) := fun _ => ⟨h.os, h.tape, h.output, h.size, h.block⟩
theorem ins_c0 {i : Ins} {b : Nat} {w : World} (h : w.heap[b]? = some (.cells i.cells 47)) : w.cell? ⟨b, 0, none⟩ = some (.int .i64 i.op) := by
  rw [cell_of_row _ _ _ _ _ _ h]; rfl
theorem ins_c1 {i : Ins} {b : Nat} {w : World} (h : w.heap[b]? = some (.cells i.cells 47)) : w.cell? ⟨b, 1, none⟩ = some (.int .i64 i.sub) := by
  rw [cell_of_row _ _ _ _ _ _ h]; rfl
end Go.Proofs.YtbjcdpmhmebjnaaGreat
/- The table of forms, and what allForms makes: a contract. -/
namespace Go.Proofs.YtbjcdpmhmebjnaaGreat
open Go.RowKit

def fm0 : Fm := ⟨1, 0, 2675965952, 2432696320, 64, addImmT⟩
def fm1 : Fm := ⟨2, 0, 2669674496, 2332033024, 65, addRegT⟩
def fm2 : Fm := ⟨3, (-1), 2667577344, 2315255808, 66, logRegT⟩
def fm3 : Fm := ⟨4, (-1), 2675965952, 2449473536, 67, logImmT⟩
def fm4 : Fm := ⟨5, (-1), 2675965952, 2457862144, 68, movWideT⟩
def fm5 : Fm := ⟨6, (-1), 2680160256, 2470445056, 69, bitfieldT⟩
def fm6 : Fm := ⟨7, (-1), 4292931584, 2596282368, 70, shiftRegT⟩
def fm7 : Fm := ⟨8, 0, 4292870144, 2600468480, 71, mulT⟩
def fm8 : Fm := ⟨9, (-1), 4292933632, 2596276224, 72, divT⟩
def fm9 : Fm := ⟨10, (-1), 3219130368, 2592079872, 73, selT⟩
def fm10 : Fm := ⟨11, (-1), 520093696, 268435456, 74, adrT⟩
def fm11 : Fm := ⟨12, 0, 2080374784, 335544320, 75, bT⟩
def fm12 : Fm := ⟨13, 0, 4278190096, 1409286144, 76, bCondT⟩
def fm13 : Fm := ⟨14, 0, 4261412864, 3019898880, 77, cbzT⟩
def fm14 : Fm := ⟨15, 0, 2113929216, 905969664, 78, tbzT⟩
def fm15 : Fm := ⟨16, (-1), 4288674847, 3592355840, 79, brT⟩
def fm16 : Fm := ⟨17, 0, 4290772992, 4181721088, 80, atImmT⟩
def fm17 : Fm := ⟨18, 0, 4290772992, 4177526784, 80, atImmT⟩
def fm18 : Fm := ⟨19, 0, 4292930560, 4167067648, 81, atRegT⟩
def fm19 : Fm := ⟨20, 0, 4292930560, 4162873344, 81, atRegT⟩
def fm20 : Fm := ⟨21, 0, 4294966272, 3370122240, 82, rdRnT⟩
def fm21 : Fm := ⟨21, 1, 4294966272, 4173316096, 82, rdRnT⟩
def fm22 : Fm := ⟨22, 0, 4294966272, 3365927936, 82, rdRnT⟩
def fm23 : Fm := ⟨23, (-1), 4294933504, 3361700864, 83, ldxrT⟩
def fm24 : Fm := ⟨24, (-1), 4292901888, 3355474944, 84, stxrT⟩
def fm25 : Fm := ⟨25, 0, 4294967295, 3573759839, 85, nothingT⟩
def fm26 : Fm := ⟨26, 0, 4294966527, 3573759167, 86, dmbT⟩
def fm27 : Fm := ⟨26, 1, 4294966527, 3573759135, 86, dmbT⟩
def fm28 : Fm := ⟨27, 0, 4294967295, 3573759967, 85, nothingT⟩
def fm29 : Fm := ⟨28, 0, 4294967264, 3574297888, 87, rdT⟩
def fm30 : Fm := ⟨30, 0, 4294967264, 3574299424, 87, rdT⟩
def fm31 : Fm := ⟨29, 0, 4294967295, 3574101279, 85, nothingT⟩
def fm32 : Fm := ⟨31, 0, 4293918720, 3576692736, 88, systemT⟩
def fm33 : Fm := ⟨32, 0, 4293918720, 3574595584, 88, systemT⟩
def fm34 : Fm := ⟨33, 0, 4294963455, 3573760223, 89, msrMaskT⟩
def fm35 : Fm := ⟨33, 1, 4294963455, 3573760255, 89, msrMaskT⟩
def fm36 : Fm := ⟨34, 0, 4292870175, 3556769793, 90, callT⟩
def fm37 : Fm := ⟨35, 0, 4292870175, 3558866944, 90, callT⟩
def fm38 : Fm := ⟨36, 0, 4294967295, 3600745440, 85, nothingT⟩
def fm39 : Fm := ⟨37, 0, 4294967071, 3573751839, 91, hintT⟩
def formsA : List Fm := [fm0, fm1, fm2, fm3, fm4, fm5, fm6, fm7, fm8, fm9, fm10, fm11, fm12, fm13, fm14, fm15, fm16, fm17, fm18, fm19]
def formsB : List Fm := [fm20, fm21, fm22, fm23, fm24, fm25, fm26, fm27, fm28, fm29, fm30, fm31, fm32, fm33, fm34, fm35, fm36, fm37, fm38, fm39]
def forms : List Fm := formsA ++ formsB
def formCells : List Value := forms.flatMap Fm.cells
theorem wpList_built {P : Program} {ops : Array Oper} {rest : List Oper} {o : Oper} {a : Act} {w : World} {Q : Exit → Act → World → Prop} (hg : o.guard = none) (t : TypeId) (parts : Array (Nat × Operand)) (ho : o.op = .build t parts)
    (cs : Array Value) (hf : P.built t (parts.map fun (i, x) => (i, a.eval x)).toList = some cs)
    (h : wpList P ops Q rest (a.put o.dst (.agg cs)) w) : wpList P ops Q (o :: rest) a w :=
  wpList_build hg t parts ho (by rw [hf]; rfl) (by rw [hf]; exact h)
theorem info40 : (Tryz.prog.info? 76).map (·.size) = some formCells.toArray.size := by kernel_rfl
theorem forms_len : formCells.toArray.size = 200 := by kernel_rfl
theorem forms_one : formCells.toArray.all (·.oneCell') = true := by kernel_rfl

set_option maxRecDepth 10000 in
set_option maxHeartbeats 4000000 in
theorem allForms_c (w : World) :
    Calls Tryz.prog 35 #[] w fun e w' => e = .returned (.agg formCells.toArray) ∧ Below w.heap.size w w' := by
  go_enter Tryz.func35, Tryz.ntmps35
  go_upto_region 1 with fail
  have hrow := heap_alloc_new w (.cells Tryz.zeroCells76 76)
  have HB := Go.Proofs.YtbjcdpmhmebjnaaGreat.below_alloc w (.cells Tryz.zeroCells76 76)
  generalize w.alloc (.cells Tryz.zeroCells76 76) = w1 at hrow HB ⊢
  refine wp_region_lit ?_

  with_reducible refine wpList_built rfl 75 _ rfl fm0.cells.toArray (by kernel_rfl) ?_
  simp only [Act.put, List.setIfInBounds_toArray, List.set_cons_succ, List.set_cons_zero]
  with_reducible refine wpList_built rfl 75 _ rfl fm1.cells.toArray (by kernel_rfl) ?_
  simp only [Act.put, List.setIfInBounds_toArray, List.set_cons_succ, List.set_cons_zero]
  with_reducible refine wpList_built rfl 75 _ rfl fm2.cells.toArray (by kernel_rfl) ?_
  simp only [Act.put, List.setIfInBounds_toArray, List.set_cons_succ, List.set_cons_zero]
  with_reducible refine wpList_built rfl 75 _ rfl fm3.cells.toArray (by kernel_rfl) ?_
  simp only [Act.put, List.setIfInBounds_toArray, List.set_cons_succ, List.set_cons_zero]
  with_reducible refine wpList_built rfl 75 _ rfl fm4.cells.toArray (by kernel_rfl) ?_
  simp only [Act.put, List.setIfInBounds_toArray, List.set_cons_succ, List.set_cons_zero]
  with_reducible refine wpList_built rfl 75 _ rfl fm5.cells.toArray (by kernel_rfl) ?_
  simp only [Act.put, List.setIfInBounds_toArray, List.set_cons_succ, List.set_cons_zero]
  with_reducible refine wpList_built rfl 75 _ rfl fm6.cells.toArray (by kernel_rfl) ?_
  simp only [Act.put, List.setIfInBounds_toArray, List.set_cons_succ, List.set_cons_zero]
  with_reducible refine wpList_built rfl 75 _ rfl fm7.cells.toArray (by kernel_rfl) ?_
  simp only [Act.put, List.setIfInBounds_toArray, List.set_cons_succ, List.set_cons_zero]
  with_reducible refine wpList_built rfl 75 _ rfl fm8.cells.toArray (by kernel_rfl) ?_
  simp only [Act.put, List.setIfInBounds_toArray, List.set_cons_succ, List.set_cons_zero]
  with_reducible refine wpList_built rfl 75 _ rfl fm9.cells.toArray (by kernel_rfl) ?_
  simp only [Act.put, List.setIfInBounds_toArray, List.set_cons_succ, List.set_cons_zero]
  with_reducible refine wpList_built rfl 75 _ rfl fm10.cells.toArray (by kernel_rfl) ?_
  simp only [Act.put, List.setIfInBounds_toArray, List.set_cons_succ, List.set_cons_zero]
  with_reducible refine wpList_built rfl 75 _ rfl fm11.cells.toArray (by kernel_rfl) ?_
  simp only [Act.put, List.setIfInBounds_toArray, List.set_cons_succ, List.set_cons_zero]
  with_reducible refine wpList_built rfl 75 _ rfl fm12.cells.toArray (by kernel_rfl) ?_
  simp only [Act.put, List.setIfInBounds_toArray, List.set_cons_succ, List.set_cons_zero]
  with_reducible refine wpList_built rfl 75 _ rfl fm13.cells.toArray (by kernel_rfl) ?_
  simp only [Act.put, List.setIfInBounds_toArray, List.set_cons_succ, List.set_cons_zero]
  with_reducible refine wpList_built rfl 75 _ rfl fm14.cells.toArray (by kernel_rfl) ?_
  simp only [Act.put, List.setIfInBounds_toArray, List.set_cons_succ, List.set_cons_zero]
  with_reducible refine wpList_built rfl 75 _ rfl fm15.cells.toArray (by kernel_rfl) ?_
  simp only [Act.put, List.setIfInBounds_toArray, List.set_cons_succ, List.set_cons_zero]
  with_reducible refine wpList_built rfl 75 _ rfl fm16.cells.toArray (by kernel_rfl) ?_
  simp only [Act.put, List.setIfInBounds_toArray, List.set_cons_succ, List.set_cons_zero]
  with_reducible refine wpList_built rfl 75 _ rfl fm17.cells.toArray (by kernel_rfl) ?_
  simp only [Act.put, List.setIfInBounds_toArray, List.set_cons_succ, List.set_cons_zero]
  with_reducible refine wpList_built rfl 75 _ rfl fm18.cells.toArray (by kernel_rfl) ?_
  simp only [Act.put, List.setIfInBounds_toArray, List.set_cons_succ, List.set_cons_zero]
  with_reducible refine wpList_built rfl 75 _ rfl fm19.cells.toArray (by kernel_rfl) ?_
  simp only [Act.put, List.setIfInBounds_toArray, List.set_cons_succ, List.set_cons_zero]
  with_reducible refine wpList_built rfl 75 _ rfl fm20.cells.toArray (by kernel_rfl) ?_
  simp only [Act.put, List.setIfInBounds_toArray, List.set_cons_succ, List.set_cons_zero]
  with_reducible refine wpList_built rfl 75 _ rfl fm21.cells.toArray (by kernel_rfl) ?_
  simp only [Act.put, List.setIfInBounds_toArray, List.set_cons_succ, List.set_cons_zero]
  with_reducible refine wpList_built rfl 75 _ rfl fm22.cells.toArray (by kernel_rfl) ?_
  simp only [Act.put, List.setIfInBounds_toArray, List.set_cons_succ, List.set_cons_zero]
  with_reducible refine wpList_built rfl 75 _ rfl fm23.cells.toArray (by kernel_rfl) ?_
  simp only [Act.put, List.setIfInBounds_toArray, List.set_cons_succ, List.set_cons_zero]
  with_reducible refine wpList_built rfl 75 _ rfl fm24.cells.toArray (by kernel_rfl) ?_
  simp only [Act.put, List.setIfInBounds_toArray, List.set_cons_succ, List.set_cons_zero]
  with_reducible refine wpList_built rfl 75 _ rfl fm25.cells.toArray (by kernel_rfl) ?_
  simp only [Act.put, List.setIfInBounds_toArray, List.set_cons_succ, List.set_cons_zero]
  with_reducible refine wpList_built rfl 75 _ rfl fm26.cells.toArray (by kernel_rfl) ?_
  simp only [Act.put, List.setIfInBounds_toArray, List.set_cons_succ, List.set_cons_zero]
  with_reducible refine wpList_built rfl 75 _ rfl fm27.cells.toArray (by kernel_rfl) ?_
  simp only [Act.put, List.setIfInBounds_toArray, List.set_cons_succ, List.set_cons_zero]
  with_reducible refine wpList_built rfl 75 _ rfl fm28.cells.toArray (by kernel_rfl) ?_
  simp only [Act.put, List.setIfInBounds_toArray, List.set_cons_succ, List.set_cons_zero]
  with_reducible refine wpList_built rfl 75 _ rfl fm29.cells.toArray (by kernel_rfl) ?_
  simp only [Act.put, List.setIfInBounds_toArray, List.set_cons_succ, List.set_cons_zero]
  with_reducible refine wpList_built rfl 75 _ rfl fm30.cells.toArray (by kernel_rfl) ?_
  simp only [Act.put, List.setIfInBounds_toArray, List.set_cons_succ, List.set_cons_zero]
  with_reducible refine wpList_built rfl 75 _ rfl fm31.cells.toArray (by kernel_rfl) ?_
  simp only [Act.put, List.setIfInBounds_toArray, List.set_cons_succ, List.set_cons_zero]
  with_reducible refine wpList_built rfl 75 _ rfl fm32.cells.toArray (by kernel_rfl) ?_
  simp only [Act.put, List.setIfInBounds_toArray, List.set_cons_succ, List.set_cons_zero]
  with_reducible refine wpList_built rfl 75 _ rfl fm33.cells.toArray (by kernel_rfl) ?_
  simp only [Act.put, List.setIfInBounds_toArray, List.set_cons_succ, List.set_cons_zero]
  with_reducible refine wpList_built rfl 75 _ rfl fm34.cells.toArray (by kernel_rfl) ?_
  simp only [Act.put, List.setIfInBounds_toArray, List.set_cons_succ, List.set_cons_zero]
  with_reducible refine wpList_built rfl 75 _ rfl fm35.cells.toArray (by kernel_rfl) ?_
  simp only [Act.put, List.setIfInBounds_toArray, List.set_cons_succ, List.set_cons_zero]
  with_reducible refine wpList_built rfl 75 _ rfl fm36.cells.toArray (by kernel_rfl) ?_
  simp only [Act.put, List.setIfInBounds_toArray, List.set_cons_succ, List.set_cons_zero]
  with_reducible refine wpList_built rfl 75 _ rfl fm37.cells.toArray (by kernel_rfl) ?_
  simp only [Act.put, List.setIfInBounds_toArray, List.set_cons_succ, List.set_cons_zero]
  with_reducible refine wpList_built rfl 75 _ rfl fm38.cells.toArray (by kernel_rfl) ?_
  simp only [Act.put, List.setIfInBounds_toArray, List.set_cons_succ, List.set_cons_zero]
  with_reducible refine wpList_built rfl 75 _ rfl fm39.cells.toArray (by kernel_rfl) ?_
  simp only [Act.put, List.setIfInBounds_toArray, List.set_cons_succ, List.set_cons_zero]
  with_reducible refine wpList_built rfl 76 _ rfl formCells.toArray (by kernel_rfl) ?_
  simp only [Act.put, List.setIfInBounds_toArray, List.set_cons_succ, List.set_cons_zero]
  with_reducible refine wpList_store_row rfl 76 _ _ rfl w.heap.size formCells.toArray rfl rfl 76 _ hrow info40 (by kernel_rfl) forms_one ?_
  go_wp2
  refine bodyPost_ret (results_cell_row rfl _ _ _ 76 _ (0, 0) _ rfl (setRow_heap _ _ _ _ _ _ hrow) Tryz.underlying76 rfl info40) rfl ?_
  exact ⟨rfl, below_setRow HB (Nat.le_refl _)⟩
end Go.Proofs.YtbjcdpmhmebjnaaGreat
/- Every form of the table is a good one; where it lies; what Decode and Encode answer: plain. -/
namespace Go.Proofs.YtbjcdpmhmebjnaaGreat
open Go.RowKit

structure Good (F : Fm) : Prop where
  fc : FC F.f F.t
  ok : OkT F.t
  enters : ∀ (args : Array Value) (w : World), (callFunc F.f args).run Tryz.prog w = .ok (.enter F.f args) w
  op : I64 F.op
  sub : I64 F.sub
  mask : W32 F.mask
  base : W32 F.base
theorem good0 : Good fm0 := ⟨addImm_c, addImm_ok, enters Tryz.func64 (by kernel_rfl) (by kernel_rfl), ⟨by decide, by decide⟩, ⟨by decide, by decide⟩, ⟨by decide, by decide⟩, ⟨by decide, by decide⟩⟩
theorem good1 : Good fm1 := ⟨addReg_c, addReg_ok, enters Tryz.func65 (by kernel_rfl) (by kernel_rfl), ⟨by decide, by decide⟩, ⟨by decide, by decide⟩, ⟨by decide, by decide⟩, ⟨by decide, by decide⟩⟩
theorem good2 : Good fm2 := ⟨logReg_c, logReg_ok, enters Tryz.func66 (by kernel_rfl) (by kernel_rfl), ⟨by decide, by decide⟩, ⟨by decide, by decide⟩, ⟨by decide, by decide⟩, ⟨by decide, by decide⟩⟩
theorem good3 : Good fm3 := ⟨logImm_c, logImm_ok, enters Tryz.func67 (by kernel_rfl) (by kernel_rfl), ⟨by decide, by decide⟩, ⟨by decide, by decide⟩, ⟨by decide, by decide⟩, ⟨by decide, by decide⟩⟩
theorem good4 : Good fm4 := ⟨movWide_c, movWide_ok, enters Tryz.func68 (by kernel_rfl) (by kernel_rfl), ⟨by decide, by decide⟩, ⟨by decide, by decide⟩, ⟨by decide, by decide⟩, ⟨by decide, by decide⟩⟩
theorem good5 : Good fm5 := ⟨bitfield_c, bitfield_ok, enters Tryz.func69 (by kernel_rfl) (by kernel_rfl), ⟨by decide, by decide⟩, ⟨by decide, by decide⟩, ⟨by decide, by decide⟩, ⟨by decide, by decide⟩⟩
theorem good6 : Good fm6 := ⟨shiftReg_c, shiftReg_ok, enters Tryz.func70 (by kernel_rfl) (by kernel_rfl), ⟨by decide, by decide⟩, ⟨by decide, by decide⟩, ⟨by decide, by decide⟩, ⟨by decide, by decide⟩⟩
theorem good7 : Good fm7 := ⟨mul_c, mul_ok, enters Tryz.func71 (by kernel_rfl) (by kernel_rfl), ⟨by decide, by decide⟩, ⟨by decide, by decide⟩, ⟨by decide, by decide⟩, ⟨by decide, by decide⟩⟩
theorem good8 : Good fm8 := ⟨div_c, div_ok, enters Tryz.func72 (by kernel_rfl) (by kernel_rfl), ⟨by decide, by decide⟩, ⟨by decide, by decide⟩, ⟨by decide, by decide⟩, ⟨by decide, by decide⟩⟩
theorem good9 : Good fm9 := ⟨sel_c, sel_ok, enters Tryz.func73 (by kernel_rfl) (by kernel_rfl), ⟨by decide, by decide⟩, ⟨by decide, by decide⟩, ⟨by decide, by decide⟩, ⟨by decide, by decide⟩⟩
theorem good10 : Good fm10 := ⟨adr_c, adr_ok, enters Tryz.func74 (by kernel_rfl) (by kernel_rfl), ⟨by decide, by decide⟩, ⟨by decide, by decide⟩, ⟨by decide, by decide⟩, ⟨by decide, by decide⟩⟩
theorem good11 : Good fm11 := ⟨b_c, b_ok, enters Tryz.func75 (by kernel_rfl) (by kernel_rfl), ⟨by decide, by decide⟩, ⟨by decide, by decide⟩, ⟨by decide, by decide⟩, ⟨by decide, by decide⟩⟩
theorem good12 : Good fm12 := ⟨bCond_c, bCond_ok, enters Tryz.func76 (by kernel_rfl) (by kernel_rfl), ⟨by decide, by decide⟩, ⟨by decide, by decide⟩, ⟨by decide, by decide⟩, ⟨by decide, by decide⟩⟩
theorem good13 : Good fm13 := ⟨cbz_c, cbz_ok, enters Tryz.func77 (by kernel_rfl) (by kernel_rfl), ⟨by decide, by decide⟩, ⟨by decide, by decide⟩, ⟨by decide, by decide⟩, ⟨by decide, by decide⟩⟩
theorem good14 : Good fm14 := ⟨tbz_c, tbz_ok, enters Tryz.func78 (by kernel_rfl) (by kernel_rfl), ⟨by decide, by decide⟩, ⟨by decide, by decide⟩, ⟨by decide, by decide⟩, ⟨by decide, by decide⟩⟩
theorem good15 : Good fm15 := ⟨br_c, br_ok, enters Tryz.func79 (by kernel_rfl) (by kernel_rfl), ⟨by decide, by decide⟩, ⟨by decide, by decide⟩, ⟨by decide, by decide⟩, ⟨by decide, by decide⟩⟩
theorem good16 : Good fm16 := ⟨atImm_c, atImm_ok, enters Tryz.func80 (by kernel_rfl) (by kernel_rfl), ⟨by decide, by decide⟩, ⟨by decide, by decide⟩, ⟨by decide, by decide⟩, ⟨by decide, by decide⟩⟩
theorem good17 : Good fm17 := ⟨atImm_c, atImm_ok, enters Tryz.func80 (by kernel_rfl) (by kernel_rfl), ⟨by decide, by decide⟩, ⟨by decide, by decide⟩, ⟨by decide, by decide⟩, ⟨by decide, by decide⟩⟩
theorem good18 : Good fm18 := ⟨atReg_c, atReg_ok, enters Tryz.func81 (by kernel_rfl) (by kernel_rfl), ⟨by decide, by decide⟩, ⟨by decide, by decide⟩, ⟨by decide, by decide⟩, ⟨by decide, by decide⟩⟩
theorem good19 : Good fm19 := ⟨atReg_c, atReg_ok, enters Tryz.func81 (by kernel_rfl) (by kernel_rfl), ⟨by decide, by decide⟩, ⟨by decide, by decide⟩, ⟨by decide, by decide⟩, ⟨by decide, by decide⟩⟩
theorem good20 : Good fm20 := ⟨rdRn_c, rdRn_ok, enters Tryz.func82 (by kernel_rfl) (by kernel_rfl), ⟨by decide, by decide⟩, ⟨by decide, by decide⟩, ⟨by decide, by decide⟩, ⟨by decide, by decide⟩⟩
theorem good21 : Good fm21 := ⟨rdRn_c, rdRn_ok, enters Tryz.func82 (by kernel_rfl) (by kernel_rfl), ⟨by decide, by decide⟩, ⟨by decide, by decide⟩, ⟨by decide, by decide⟩, ⟨by decide, by decide⟩⟩
theorem good22 : Good fm22 := ⟨rdRn_c, rdRn_ok, enters Tryz.func82 (by kernel_rfl) (by kernel_rfl), ⟨by decide, by decide⟩, ⟨by decide, by decide⟩, ⟨by decide, by decide⟩, ⟨by decide, by decide⟩⟩
theorem good23 : Good fm23 := ⟨ldxr_c, ldxr_ok, enters Tryz.func83 (by kernel_rfl) (by kernel_rfl), ⟨by decide, by decide⟩, ⟨by decide, by decide⟩, ⟨by decide, by decide⟩, ⟨by decide, by decide⟩⟩
theorem good24 : Good fm24 := ⟨stxr_c, stxr_ok, enters Tryz.func84 (by kernel_rfl) (by kernel_rfl), ⟨by decide, by decide⟩, ⟨by decide, by decide⟩, ⟨by decide, by decide⟩, ⟨by decide, by decide⟩⟩
theorem good25 : Good fm25 := ⟨nothing_c, nothing_ok, enters Tryz.func85 (by kernel_rfl) (by kernel_rfl), ⟨by decide, by decide⟩, ⟨by decide, by decide⟩, ⟨by decide, by decide⟩, ⟨by decide, by decide⟩⟩
theorem good26 : Good fm26 := ⟨dmb_c, dmb_ok, enters Tryz.func86 (by kernel_rfl) (by kernel_rfl), ⟨by decide, by decide⟩, ⟨by decide, by decide⟩, ⟨by decide, by decide⟩, ⟨by decide, by decide⟩⟩
theorem good27 : Good fm27 := ⟨dmb_c, dmb_ok, enters Tryz.func86 (by kernel_rfl) (by kernel_rfl), ⟨by decide, by decide⟩, ⟨by decide, by decide⟩, ⟨by decide, by decide⟩, ⟨by decide, by decide⟩⟩
theorem good28 : Good fm28 := ⟨nothing_c, nothing_ok, enters Tryz.func85 (by kernel_rfl) (by kernel_rfl), ⟨by decide, by decide⟩, ⟨by decide, by decide⟩, ⟨by decide, by decide⟩, ⟨by decide, by decide⟩⟩
theorem good29 : Good fm29 := ⟨rd_c, rd_ok, enters Tryz.func87 (by kernel_rfl) (by kernel_rfl), ⟨by decide, by decide⟩, ⟨by decide, by decide⟩, ⟨by decide, by decide⟩, ⟨by decide, by decide⟩⟩
theorem good30 : Good fm30 := ⟨rd_c, rd_ok, enters Tryz.func87 (by kernel_rfl) (by kernel_rfl), ⟨by decide, by decide⟩, ⟨by decide, by decide⟩, ⟨by decide, by decide⟩, ⟨by decide, by decide⟩⟩
theorem good31 : Good fm31 := ⟨nothing_c, nothing_ok, enters Tryz.func85 (by kernel_rfl) (by kernel_rfl), ⟨by decide, by decide⟩, ⟨by decide, by decide⟩, ⟨by decide, by decide⟩, ⟨by decide, by decide⟩⟩
theorem good32 : Good fm32 := ⟨system_c, system_ok, enters Tryz.func88 (by kernel_rfl) (by kernel_rfl), ⟨by decide, by decide⟩, ⟨by decide, by decide⟩, ⟨by decide, by decide⟩, ⟨by decide, by decide⟩⟩
theorem good33 : Good fm33 := ⟨system_c, system_ok, enters Tryz.func88 (by kernel_rfl) (by kernel_rfl), ⟨by decide, by decide⟩, ⟨by decide, by decide⟩, ⟨by decide, by decide⟩, ⟨by decide, by decide⟩⟩
theorem good34 : Good fm34 := ⟨msrMask_c, msrMask_ok, enters Tryz.func89 (by kernel_rfl) (by kernel_rfl), ⟨by decide, by decide⟩, ⟨by decide, by decide⟩, ⟨by decide, by decide⟩, ⟨by decide, by decide⟩⟩
theorem good35 : Good fm35 := ⟨msrMask_c, msrMask_ok, enters Tryz.func89 (by kernel_rfl) (by kernel_rfl), ⟨by decide, by decide⟩, ⟨by decide, by decide⟩, ⟨by decide, by decide⟩, ⟨by decide, by decide⟩⟩
theorem good36 : Good fm36 := ⟨call_c, call_ok, enters Tryz.func90 (by kernel_rfl) (by kernel_rfl), ⟨by decide, by decide⟩, ⟨by decide, by decide⟩, ⟨by decide, by decide⟩, ⟨by decide, by decide⟩⟩
theorem good37 : Good fm37 := ⟨call_c, call_ok, enters Tryz.func90 (by kernel_rfl) (by kernel_rfl), ⟨by decide, by decide⟩, ⟨by decide, by decide⟩, ⟨by decide, by decide⟩, ⟨by decide, by decide⟩⟩
theorem good38 : Good fm38 := ⟨nothing_c, nothing_ok, enters Tryz.func85 (by kernel_rfl) (by kernel_rfl), ⟨by decide, by decide⟩, ⟨by decide, by decide⟩, ⟨by decide, by decide⟩, ⟨by decide, by decide⟩⟩
theorem good39 : Good fm39 := ⟨hint_c, hint_ok, enters Tryz.func91 (by kernel_rfl) (by kernel_rfl), ⟨by decide, by decide⟩, ⟨by decide, by decide⟩, ⟨by decide, by decide⟩, ⟨by decide, by decide⟩⟩
theorem good_all : ∀ F ∈ forms, Good F := by
  intro F h
  simp only [forms, formsA, formsB, List.cons_append, List.nil_append, List.mem_cons, List.not_mem_nil, or_false] at h
  rcases h with rfl | rfl | rfl | rfl | rfl | rfl | rfl | rfl | rfl | rfl | rfl | rfl | rfl | rfl | rfl | rfl | rfl | rfl | rfl | rfl | rfl | rfl | rfl | rfl | rfl | rfl | rfl | rfl | rfl | rfl | rfl | rfl | rfl | rfl | rfl | rfl | rfl | rfl | rfl | rfl
  · exact good0
  · exact good1
  · exact good2
  · exact good3
  · exact good4
  · exact good5
  · exact good6
  · exact good7
  · exact good8
  · exact good9
  · exact good10
  · exact good11
  · exact good12
  · exact good13
  · exact good14
  · exact good15
  · exact good16
  · exact good17
  · exact good18
  · exact good19
  · exact good20
  · exact good21
  · exact good22
  · exact good23
  · exact good24
  · exact good25
  · exact good26
  · exact good27
  · exact good28
  · exact good29
  · exact good30
  · exact good31
  · exact good32
  · exact good33
  · exact good34
  · exact good35
  · exact good36
  · exact good37
  · exact good38
  · exact good39
theorem flat_at : ∀ (l : List Fm) (k j : Nat) (F : Fm), l[k]? = some F → j < 5 → (l.flatMap Fm.cells)[5 * k + j]? = F.cells[j]?
  | [], _, _, _, h, _ => by simp at h
  | G :: l, 0, j, F, h, hj => by
    obtain rfl : G = F := by simpa using h
    rw [List.flatMap_cons, Nat.mul_zero, Nat.zero_add, List.getElem?_append_left (show j < G.cells.length from hj)]
  | G :: l, k + 1, j, F, h, hj => by
    have e : 5 * (k + 1) + j = G.cells.length + (5 * k + j) := by show _ = 5 + _; omega
    rw [List.flatMap_cons, e, List.getElem?_append_right (by omega), Nat.add_sub_cancel_left]
    exact flat_at l k j F (by simpa using h) hj
theorem fm_at {g : Nat} {w : World} {k : Nat} {F : Fm} (h : w.heap[g]? = some (.cells formCells.toArray 76)) (hk : forms[k]? = some F) : FmAt F g (k * 5) w := by
  rw [Nat.mul_comm]
  have e : ∀ j v, j < 5 → F.cells[j]? = some v → w.cell? ⟨g, 5 * k + j, none⟩ = some v := fun j v hj hv => by
    rw [cell_of_row _ _ _ _ _ _ h, List.getElem?_toArray]
    exact (flat_at forms k j F hk hj).trans hv
  exact ⟨e 0 _ (by decide) rfl, e 1 _ (by decide) rfl, e 2 _ (by decide) rfl, e 3 _ (by decide) rfl, e 4 _ (by decide) rfl⟩
theorem forms_count : forms.length = 40 := rfl
/-- What Decode answers, from a rest of the table. -/
def decL (word : Int) : List Fm → Ins
  | [] => nilI
  | F :: l => if bits .and .u32 word F.mask = F.base ∧ rightB (F.t false (word, startI F)).2 = true then (F.t false (word, startI F)).2 else decL word l
def decV (word : Int) : Ins := decL word forms
/-- What Encode answers, from a rest of the table: the word and the error. -/
def encL (i : Ins) : List Fm → Int × Int
  | [] => (0, 3)
  | F :: l => if isForm F i = true then ((F.t true (F.base, i)).1, 0) else encL i l
def encV (i : Ins) : Int × Int := if rightB i = true then encL i forms else (0, 3)
theorem drop_at {k : Nat} (hk : k < 40) : ∃ F, forms[k]? = some F ∧ Good F ∧ forms.drop k = F :: forms.drop (k + 1) := by
  have h : k < forms.length := hk
  exact ⟨forms[k], List.getElem?_eq_getElem h, good_all _ (List.getElem_mem h), List.drop_eq_getElem_cons h⟩
end Go.Proofs.YtbjcdpmhmebjnaaGreat
