/- A monitor of a call's own; pick; the chapter's example. -/
import Derived.Test.YtgloemlbkkjcaaaMf
namespace Go.Proofs.Ytgloemlbkkjcaaa
open Go.RowKit
set_option linter.unusedVariables false
set_option linter.unusedSimpArgs false

def pickV (c n : Int) : Int := (if c < 0 then -(c + 1) else c) % n
theorem pick_in (c : Int) {n : Int} (hn : 0 < n) : 0 ≤ pickV c n ∧ pickV c n < n := ⟨Int.emod_nonneg _ (by omega), Int.emod_lt_of_pos _ hn⟩
theorem pick_c (c n : Int) (w : World) (hc : I64 c) (hn : 0 < n) (hn2 : n < 1000000) : Calls Try.prog 18 #[vI c, vI n] w fun e w' => e = .returned (vI (pickV c n)) ∧ w' = w := by
  have h1 := hc.1
  have h2 := hc.2
  have hn0 : ¬ n = 0 := by omega
  unfold pickV
  by_cases h : c < 0
  · rw [if_pos h]
    have e1 : IntKind.i64.wrap (c + 1) = c + 1 := by rw [IntKind.wrap_i64]; omega
    have e2 : IntKind.i64.wrap (-(c + 1)) = -(c + 1) := by rw [IntKind.wrap_i64]; omega
    have hm : (-(c + 1)).tmod n = (-(c + 1)) % n := Int.tmod_eq_emod_of_nonneg (by omega)
    have e3 : IntKind.i64.wrap ((-(c + 1)) % n) = (-(c + 1)) % n := by
      have := Int.emod_nonneg (-(c + 1)) hn0
      have := Int.emod_lt_of_pos (-(c + 1)) hn
      rw [IntKind.wrap_i64]; omega
    have key : -((c + 1).tmod n) = (-(c + 1)) % n := by rw [← Int.neg_tmod]; exact hm
    clear hm e3
    go_enter Try.func18, Try.ntmps18
    go_wp2
    go_ret
    exact ⟨rfl, rfl⟩
  · rw [if_neg h]
    have hm : c.tmod n = c % n := Int.tmod_eq_emod_of_nonneg (by omega)
    have e3 : IntKind.i64.wrap (c % n) = c % n := by
      have := Int.emod_nonneg c hn0
      have := Int.emod_lt_of_pos c hn
      rw [IntKind.wrap_i64]; omega
    go_enter Try.func18, Try.ntmps18
    go_wp2
    go_ret
    exact ⟨rfl, rfl⟩
/-- Marks that are there or are nothing, of lines that there are. -/
def OkM (ms : List Mk) : Prop := ∀ s ∈ ms, (0 ≤ s.2 ∧ s.2 * 64 < 18446744073709551616) ∧ (s.1 = false → s = (false, 0))
theorem ok_set {ms : List Mk} (h : OkM ms) (k : Nat) {s : Mk} (hs : (0 ≤ s.2 ∧ s.2 * 64 < 18446744073709551616) ∧ (s.1 = false → s = (false, 0))) : OkM (ms.set k s) := fun t ht => by
  rcases List.mem_or_eq_of_mem_set ht with h1 | rfl
  · exact h t h1
  · exact hs
theorem ok_nil : (0 ≤ ((false, 0) : Mk).2 ∧ ((false, 0) : Mk).2 * 64 < 18446744073709551616) ∧ (((false, 0) : Mk).1 = false → ((false, 0) : Mk) = (false, 0)) := ⟨⟨by decide, by decide⟩, fun _ => rfl⟩
theorem ok_of {addr : Int} (h : U64 addr) : (0 ≤ (ofV addr).2 ∧ (ofV addr).2 * 64 < 18446744073709551616) ∧ ((ofV addr).1 = false → ofV addr = (false, 0)) := by
  have h1 := h.1
  have h2 := h.2
  exact ⟨⟨by show 0 ≤ addr / 64; omega, by show addr / 64 * 64 < _; omega⟩, fun e => by cases e⟩
theorem ok_wip {ms : List Mk} (h : OkM ms) (c : Int) (s : Mk) (j : Nat) : OkM (wip ms c s j) := by
  induction j with
  | zero => exact h
  | succ j ih => rw [wip]; split
                 · exact ok_set ih _ ok_nil
                 · exact ih
theorem ok_nilM : OkM nilM := fun s hs => by
  obtain rfl : s = (false, 0) := (List.mem_replicate.1 hs).2
  exact ok_nil
/-- A monitor of a call's own. -/
structure LM (w0 : World) (g : Nat) (n : Int) (ms : List Mk) (w : World) : Prop where
  at_ : MonAt g n ms w
  low : w0.heap.size ≤ g
  below : Below w0.heap.size w0 w
  ok : OkM ms
  n8 : n ≤ 8
theorem LM.turn {w0 w w' : World} {g : Nat} {n : Int} {ms ns : List Mk} (h : LM w0 g n ms w) (t : MTurn g n ns w w') (ho : OkM ns) : LM w0 g n ns w' :=
  ⟨t.1, h.low, h.below.trans (t.2.below h.below.size fun k e => e ▸ h.low), ho, h.n8⟩
theorem LM.grow {w0 w w' : World} {g : Nat} {n : Int} {ms : List Mk} (h : LM w0 g n ms w) (hb : Below w.heap.size w w') : LM w0 g n ms w' := h.turn (mturn_below h.at_ hb) h.ok
theorem LM.put {w0 w : World} {g b k : Nat} {n : Int} {ms : List Mk} (h : LM w0 g n ms w) (hb : w0.heap.size ≤ b) (hg : b ≠ g) (v : Value) : LM w0 g n ms (w.setCell ⟨b, k, none⟩ v) :=
  ⟨h.at_.keep (Below.heap_setCell _ _ _ _ (fun e => hg (by have e : g = b := e; exact e.symm))), h.low, h.below.setCell hb _, h.ok, h.n8⟩
/-- Blocks beside that stay. -/
def Sts (g : Nat) (w w' : World) : Prop := w.heap.size ≤ w'.heap.size ∧ ∀ b, b < w.heap.size → b ≠ g → w'.heap[b]? = w.heap[b]?
theorem sts_of {g : Nat} {F : Nat → Prop} {w w' : World} (h : Goes F w w') (hF : ∀ k, F k → k = g) : Sts g w w' := ⟨h.size, fun b hb hg => h.block b hb (fun f => hg (hF b f))⟩
theorem Sts.get {g : Nat} {w w' : World} (h : Sts g w w') {b : Nat} {o : Obj} (hb : w.heap[b]? = some o) (hg : b ≠ g) : w'.heap[b]? = some o := by rw [h.2 b (lt_of_some hb) hg]; exact hb
theorem Sts.cell {g : Nat} {w w' : World} (h : Sts g w w') {b k : Nat} {v : Value} (hb : w.cell? ⟨b, k, none⟩ = some v) (hg : b ≠ g) : w'.cell? ⟨b, k, none⟩ = some v := by
  have hlt : b < w.heap.size := World.block_lt_of_cell? w _ hb
  have e := h.2 b hlt hg
  rw [← hb]
  simp only [World.cell?, e]
def errE (b : Bool) : Int := if b then 0 else 1
def markS (n : Int) (ms : List Mk) (core addr : Int) : List Mk := if hasB n core then ms.set core.toNat (ofV addr) else ms
def clearS (n : Int) (ms : List Mk) (core : Int) : List Mk := if hasB n core then ms.set core.toNat (false, 0) else ms
def takeB (n : Int) (ms : List Mk) (core addr : Int) : Bool := hasB n core && eqM (mkAt ms core) (ofV addr)
section
variable {w0 w : World} {g : Nat} {n : Int} {ms : List Mk}
theorem mark_m (H : LM w0 g n ms w) (core addr : Int) (hA : U64 addr) : Calls Try.prog 10 #[ptr g 0, vI core, vU addr] w fun e w' => e = .returned (vI (errE (hasB n core))) ∧ LM w0 g n (markS n ms core addr) w' ∧ Sts g w w' := by
  refine (mark_c g n ms core addr w H.at_ H.n8 hA).mono ?_
  rintro e w' ⟨rfl, T⟩
  refine ⟨rfl, H.turn T ?_, sts_of T.2 fun _ h => h⟩
  unfold markS
  split
  · exact ok_set H.ok _ (ok_of hA)
  · exact H.ok
theorem clear_m (H : LM w0 g n ms w) (core : Int) : Calls Try.prog 12 #[ptr g 0, vI core] w fun e w' => e = .returned (vI (errE (hasB n core))) ∧ LM w0 g n (clearS n ms core) w' ∧ Sts g w w' := by
  refine (clear_c g n ms core w H.at_ H.n8).mono ?_
  rintro e w' ⟨rfl, T⟩
  refine ⟨rfl, H.turn T ?_, sts_of T.2 fun _ h => h⟩
  unfold clearS
  split
  · exact ok_set H.ok _ ok_nil
  · exact H.ok
theorem take_m (H : LM w0 g n ms w) (core addr : Int) (hA : U64 addr) : Calls Try.prog 15 #[ptr g 0, vI core, vU addr] w fun e w' => e = .returned (.tuple #[.bool (takeB n ms core addr), vI (errE (hasB n core))]) ∧ LM w0 g n (clearS n ms core) w' ∧ Sts g w w' := by
  refine (take_c g n ms core addr w H.at_ H.n8 hA).mono ?_
  rintro e w' ⟨rfl, T⟩
  refine ⟨rfl, H.turn T ?_, sts_of T.2 fun _ h => h⟩
  unfold clearS
  split
  · exact ok_set H.ok _ ok_nil
  · exact H.ok
theorem wrote_m (H : LM w0 g n ms w) (core addr : Int) (hA : U64 addr) : Calls Try.prog 13 #[ptr g 0, vI core, vU addr] w fun e w' => ∃ ha hc, e = .returned (.tuple #[.slice ha (wroteL n ms core addr).length hc, vI (errE (hasB n core))]) ∧ LM w0 g n (wroteS n ms core addr) w' ∧ Sts g w w' ∧ w'.ownsRow w.heap.size 3 1 (.slice ha (wroteL n ms core addr).length hc) (wroteL n ms core addr).length ((wroteL n ms core addr).map vI) := by
  refine (wrote_c g n ms core addr w H.at_ H.n8 hA).mono ?_
  rintro e w' ⟨ha, hc, rfl, T, R⟩
  refine ⟨ha, hc, rfl, H.turn T ?_, sts_of T.2 fun _ h => h, R⟩
  unfold wroteS
  split
  · exact ok_wip H.ok _ _ _
  · exact H.ok
def markedP (n : Int) (ms : List Mk) (core : Int) : Int × Bool := if hasB n core then ((mkAt ms core).2 * 64, (mkAt ms core).1) else (0, false)
theorem marked_m (H : LM w0 g n ms w) (core : Int) : Calls Try.prog 17 #[ptr g 0, vI core] w fun e w' => e = .returned (.tuple #[vU (markedP n ms core).1, .bool (markedP n ms core).2, vI (errE (hasB n core))]) ∧ LM w0 g n ms w' ∧ Sts g w w' := by
  refine (marked_c g n ms core w H.at_ H.n8 (fun s hs => (H.ok s hs).1)).mono ?_
  rintro e w' ⟨rfl, hb⟩
  refine ⟨?_, H.grow hb, sts_of (goes_of_below (F := fun k => k = g) hb) fun _ h => h⟩
  unfold markedP errE
  split <;> rfl
theorem new_m (n : Int) (w : World) (h : newB n = true) : Calls Try.prog 8 #[vI n] w fun e w' => e = .returned (.tuple #[ptr w.heap.size 0, vI 0]) ∧ LM w w.heap.size n nilM w' := by
  refine (new_yes n w h).mono ?_
  rintro e w' ⟨rfl, H, hb⟩
  simp only [newB, Bool.and_eq_true, decide_eq_true_eq] at h
  exact ⟨rfl, H, Nat.le_refl _, hb, ok_nilM, h.2⟩
end
theorem own_addr {w : World} {base size n : Nat} {e : TypeId} {v : Value} {xs : List Value} (h : w.ownsRow base e size v n xs) (hn : 0 < n) : ∃ g cap, v = .slice (some ⟨g, 0, none⟩) n cap ∧ n ≤ cap ∧ cap ≤ maxLen ∧ g < w.heap.size ∧ (∀ j, j < n * size → w.cell? ⟨g, j, none⟩ = xs[j]?) ∧ ∀ j, w.frozen? ⟨g, j, none⟩ = false := by
  have h0 := h
  rcases h.2 with ⟨rfl, rfl⟩ | ⟨g, cap, cur, rfl, _, hg, h1, h2, _⟩
  · omega
  · exact ⟨g, cap, rfl, h1, h2, lt_of_some hg, h0.cellAt, h0.frozenAt⟩
def k1 : List Mk := [(true, 1), (false, 0), (false, 0), (false, 0), (false, 0), (false, 0), (false, 0), (false, 0)]
def k2 : List Mk := [(true, 1), (true, 1), (false, 0), (false, 0), (false, 0), (false, 0), (false, 0), (false, 0)]
def k3 : List Mk := [(false, 0), (true, 1), (false, 0), (false, 0), (false, 0), (false, 0), (false, 0), (false, 0)]
theorem u64_of {n : Int} (h : (decide (0 ≤ n) && decide (n < 18446744073709551616)) = true) : U64 n := by simpa [U64] using h
set_option maxRecDepth 8000 in
theorem known_c (w : World) : Calls Try.prog 7 #[] w fun e w' => e = .returned (.bool true) ∧ Below w.heap.size w w' := by
  have f1 : markS 2 nilM 0 100 = k1 := by decide
  have f2 : markS 2 k1 1 127 = k2 := by decide
  have f3 : wroteS 2 k2 1 64 = k3 := by decide
  have f4 : wroteL 2 k2 1 64 = [0] := by decide
  have f5 : markedP 2 k3 1 = (64, true) := by decide
  have f6 : clearS 2 k3 0 = k3 := by decide
  have f7 : clearS 2 k3 1 = nilM := by decide
  have f8 : takeB 2 k3 0 64 = false := by decide
  have f9 : takeB 2 k3 1 64 = true := by decide
  have fa : takeB 2 nilM 1 64 = false := by decide
  have e0 : errE (hasB 2 0) = 0 := by decide
  have e1 : errE (hasB 2 1) = 0 := by decide
  go_enter Try.func7, Try.ntmps7
  go_upto_region 11 with (first
    | (go_at_call 8; refine (new_m 2 _ (by decide)).mono ?_; rintro e wa ⟨rfl, Ha⟩; dsimp only; generalize w.heap.size = g at Ha ⊢)
    | (go_at_call 10; refine (mark_m Hb 1 127 (u64_of (by decide))).mono ?_; rintro e wc ⟨rfl, Hc, -⟩; dsimp only; rw [f2] at Hc; rw [e1])
    | (go_at_call 10; refine (mark_m Ha 0 100 (u64_of (by decide))).mono ?_; rintro e wb ⟨rfl, Hb, -⟩; dsimp only; rw [f1] at Hb; rw [e0])
    | (go_at_call 13; refine (wrote_m Hc 1 64 (u64_of (by decide))).mono ?_; rintro e wd ⟨ha, hc, rfl, Hd, -, R⟩; dsimp only; rw [f3] at Hd; rw [f4] at R ⊢; rw [e1]; have hlow := Hc.at_.lt; obtain ⟨lb, lc, hle, _, _, _, hcl, _⟩ := own_addr R (by decide); cases hle; have x0 : wd.cell? ⟨lb, 0, none⟩ = some (vI 0) := hcl 0 (by decide); have hgl : lb ≠ g := (by have := (R.lt lb rfl).1; omega); clear hcl R)
    | (go_at_call 17; refine (marked_m Hd 1).mono ?_; rintro e we ⟨rfl, He, S1⟩; dsimp only; rw [f5, e1]; have y0 : we.cell? ⟨lb, 0, none⟩ = some (vI 0) := S1.cell x0 hgl; clear x0)
    | (go_at_call 15; refine (take_m Hg 1 64 (u64_of (by decide))).mono ?_; rintro e wh ⟨rfl, Hh, S4⟩; dsimp only; rw [fa, e1]; have t0 : wh.cell? ⟨lb, 0, none⟩ = some (vI 0) := S4.cell r0 hgl; clear r0)
    | (go_at_call 15; refine (take_m Hf 1 64 (u64_of (by decide))).mono ?_; rintro e wg ⟨rfl, Hg, S3⟩; dsimp only; rw [f7] at Hg; rw [f9, e1]; have r0 : wg.cell? ⟨lb, 0, none⟩ = some (vI 0) := S3.cell z0 hgl; clear z0)
    | (go_at_call 15; refine (take_m He 0 64 (u64_of (by decide))).mono ?_; rintro e wf ⟨rfl, Hf, S2⟩; dsimp only; rw [f6] at Hf; rw [f8, e0]; have z0 : wf.cell? ⟨lb, 0, none⟩ = some (vI 0) := S2.cell y0 hgl; clear y0))
  have hB := Hh.below
  clear Ha Hb Hc Hd He Hf Hg Hh
  go_wp2
  go_ret
  exact ⟨rfl, hB⟩
end Go.Proofs.Ytgloemlbkkjcaaa
