/- The forms' functions that do more than cross numbers: branches, logic, sel, adr, tbz: contracts. -/
import Derived.Test.YtcmilajlngnibaaFlds
import Derived.Deep.RegionHeld3
namespace Go.Proofs.Ytcmilajlngnibaa
open Go.RowKit

def sgV (n m : Int) : Int := wrap64 (signedV n m)
set_option maxHeartbeats 400000 in
theorem csigned_c (n m : Int) (hn : W32 n) (w : World) : Calls Try.prog 71 #[.int .i64 n, .int .i64 m] w fun e w' => e = .returned (.int .i64 (sgV n m)) ∧ w' = w := by
  have h1 : IntKind.u64.wrap n = n := by rw [IntKind.wrap_u64]; have := hn.1; have := hn.2; omega
  have h2 : n % 18446744073709551616 = n := by have := hn.1; have := hn.2; omega
  have h3 : Hid (0 ≤ n ∧ n < 18446744073709551616) := ⟨hn.1, by have := hn.2; omega⟩
  go_enter Try.func71, Try.ntmps71
  go_wp2_with (go_at_call 86; refine (signed_c _ _ h3 _).mono ?_; rintro e w1 ⟨rfl, rfl⟩)
  go_ret
  exact ⟨rfl, rfl⟩
theorem wrapK_i64 {n : Int} (h : I64 n) : IntKind.i64.wrap n = n := by
  obtain ⟨h0, h1⟩ := h
  rw [IntKind.wrap_i64]; omega
theorem wrap_in (x : Int) : I64 (wrap64 x) := by unfold wrap64 I64; omega
def wordsT (a m : Int) : Tr := fun lay s => (crossW lay s.1 (s.2.imm.tdiv 4) a m, { s.2 with imm := wrap64 (sgV (crossG lay s.1 (s.2.imm.tdiv 4) a m) m * 4) })
theorem words_ok (a m : Int) : OkT (wordsT a m) := fun _ _ h => ok_set (ok_word h (cross_lt h.w)) .imm (wrap_in _)
theorem cross_t (n a m : Int) (b : Nat) (s : St) (lay : Bool) (h : Ok s) (w : World) (hp : w.heap[b]? = some (.cells (pairS s lay) 52)) :
    Calls Try.prog 70 #[.pointer (some ⟨b, 0, none⟩), .int .i64 n, .int .i64 a, .int .i64 m] w fun e w' => e = .returned (.int .i64 (crossG lay s.1 n a m)) ∧ Pr w b (pairS (crossW lay s.1 n a m, s.2) lay) w' :=
  cross_c b (pairS s lay) s.1 lay n a m (pair_0 s lay) (pair_17 s lay) h.w w hp
theorem cross_p {w0 w1 : World} {b : Nat} {s : St} {lay : Bool} (H : Pr w0 b (pairS s lay) w1) (h : Ok s) (n a m : Int) (w : World) (hw : w.heap[b]? = w1.heap[b]?) :
    Calls Try.prog 70 #[.pointer (some ⟨b, 0, none⟩), .int .i64 n, .int .i64 a, .int .i64 m] w fun e w' => e = .returned (.int .i64 (crossG lay s.1 n a m)) ∧ Pr w b (pairS (crossW lay s.1 n a m, s.2) lay) w' :=
  cross_t n a m b s lay h w (hw.trans H.row)
theorem Pr.more {w0 w1 w w' : World} {b : Nat} {cs cs' : Array Value} (H : Pr w0 b cs w1) (H1 : Pr w b cs' w') (ho : w.os = w1.os) (ht : w.tape = w1.tape) (hu : w.output = w1.output) (hh : w.heap = w1.heap) : Pr w0 b cs' w' :=
  H.then ⟨⟨H1.keep.os.trans ho, H1.keep.tape.trans ht, H1.keep.output.trans hu, by rw [← hh]; exact H1.keep.size, fun k hk hl => by rw [← hh] at hl ⊢; exact H1.keep.block k hk hl⟩, H1.row⟩
set_option maxHeartbeats 1000000 in
theorem words_c (a m : Int) (b : Nat) (s : St) (lay : Bool) (O : Ok s) (w : World) (hp : w.heap[b]? = some (.cells (pairS s lay) 52)) :
    Calls Try.prog 72 #[.pointer (some ⟨b, 0, none⟩), .int .i64 a, .int .i64 m] w fun e w' => e = .returned (.tuple #[]) ∧ Pr w b (pairS (wordsT a m lay s) lay) w' := by
  have H := pr_start hp
  have c7 : w.cell? ⟨b, 7, none⟩ = some (.int .i64 s.2.imm) := H.at (pair_f .imm s lay)
  have hd : wrap64 (s.2.imm.tdiv 4) = s.2.imm.tdiv 4 := wrap_i64 (tdiv_in (O.f .imm) (by decide))
  have hg : Hid (W32 (crossG lay s.1 (s.2.imm.tdiv 4) a m)) := got_lt O.w
  go_enter Try.func72, Try.ntmps72
  go_wp2_with (first | (go_at_call 70; refine (cross_t _ _ _ b s lay O _ hp).mono ?_; rintro e w1 ⟨rfl, H1⟩; replace H := H.then H1; clear H1 c7; have c7 : w1.cell? ⟨b, 7, none⟩ = some (.int .i64 s.2.imm) := H.at (pair_f .imm _ lay); have fz := H.frozen 7; dsimp only) | (go_at_call 71; refine (csigned_c _ _ hg.out _).mono ?_; rintro e w1 ⟨rfl, rfl⟩))
  go_end0
  exact ⟨rfl, H.set 7 _⟩
def nothingT : Tr := fun _ s => s
theorem nothing_ok : OkT nothingT := fun _ _ h => h
theorem nothing_c : FC 45 nothingT := by
  intro b s lay w O hp
  go_enter Try.func45, Try.ntmps45
  go_wp2
  go_end0
  exact ⟨rfl, pr_start hp⟩
def logN (i : Ins) : Int := bif i.flags then 3 else i.sub
def logicT : Tr := fun lay s => (crossW lay s.1 (logN s.2) 29 2, { s.2 with sub := (crossG lay s.1 (logN s.2) 29 2).tmod 3, flags := crossG lay s.1 (logN s.2) 29 2 == 3 })
theorem tmod_in {g : Int} (h : W32 g) (u : Int) (hu : 1 ≤ u) (hu2 : u ≤ 4096) : I64 (g.tmod u) := by
  obtain ⟨h0, h1⟩ := h
  rw [Int.tmod_eq_emod_of_nonneg h0]
  have := Int.emod_nonneg g (show u ≠ 0 by omega)
  have := Int.emod_lt_of_pos g (show 0 < u by omega)
  exact ⟨by omega, by omega⟩
theorem logic_ok : OkT logicT := fun lay s h =>
  ok_setB (s := (crossW lay s.1 (logN s.2) 29 2, Fl.sub.set ((crossG lay s.1 (logN s.2) 29 2).tmod 3) s.2)) (ok_set (s := (crossW lay s.1 (logN s.2) 29 2, s.2)) (ok_word h (cross_lt h.w)) .sub (tmod_in (got_lt h.w) 3 (by decide) (by decide))) .flags (crossG lay s.1 (logN s.2) 29 2 == 3)
set_option maxHeartbeats 1000000 in
theorem logic_c : FC 65 logicT := by
  intro b s lay w O hp
  have H := pr_start hp
  have c2 : w.cell? ⟨b, 2, none⟩ = some (.int .i64 s.2.sub) := H.at (pair_f .sub s lay)
  have c13 : w.cell? ⟨b, 13, none⟩ = some (.bool s.2.flags) := H.at (pair_b .flags s lay)
  have hN : Hid (logN s.2 = bif s.2.flags then 3 else s.2.sub) := rfl
  cases hf : s.2.flags
  all_goals
    rw [hf] at c13 hN
    go_enter Try.func65, Try.ntmps65
    go_upto_region 4 with (go_at_call 70; refine (cross_t _ _ _ b s lay O _ hp).mono ?_; rintro e w1 ⟨rfl, H1⟩; replace H := H.then H1; clear H1; dsimp only)
    clear c2 c13
    have c2 : w1.cell? ⟨b, 2, none⟩ = some (.int .i64 s.2.sub) := H.at (pair_f .sub (_, s.2) lay)
    have c13 : w1.cell? ⟨b, 13, none⟩ = some (.bool s.2.flags) := H.at (pair_b .flags (_, s.2) lay)
    have f2 := H.frozen 2
    have f13 := H.frozen 13
    go_wp2
    go_end0
    refine ⟨rfl, ?_⟩
    unfold logicT
    rw [hN.out]
    exact (H.set 2 _).set 13 _
end Go.Proofs.Ytcmilajlngnibaa
