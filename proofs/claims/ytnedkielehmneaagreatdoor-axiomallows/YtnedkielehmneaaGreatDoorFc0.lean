/- What AxiomTests asks of Check. -/
import Derived.Test.YtnedkielehmneaaGreatDoorFb
namespace Go.Proofs.YtnedkielehmneaaGreatDoor
open Go.RowKit
open Go.Shelf
set_option linter.unusedVariables false
set_option linter.unusedSimpArgs false
set_option maxRecDepth 8000

open Axm
theorem add_block (a : Addr) (i : Nat) : (a.add i).block = a.block := by unfold Addr.add; split <;> rfl
theorem cell_block {w w' : World} {p : Addr} (h : w'.heap[p.block]? = w.heap[p.block]?) : w'.cell? p = w.cell? p := by
  simp only [World.cell?, h]
theorem RawI.goes {w w' : World} {v : Value} {zs : List Int} {F : Nat → Prop} (h : RawI w v zs) (G : Goes F w w') (hF : ∀ k, F k → v.ownBlock ≠ some k) : RawI w' v zs :=
  ⟨h.len, h.max, fun h0 => by
    obtain ⟨ra, cap, e, hc⟩ := h.cell h0
    refine ⟨ra, cap, e, fun i x hx => ?_⟩
    obtain ⟨h1, h2⟩ := hc i x hx
    refine ⟨Nat.lt_of_lt_of_le h1 G.size, ?_⟩
    rw [cell_block (G.block _ h1 (fun hf => hF _ hf (by rw [e, add_block]; rfl)))]
    exact h2⟩
theorem wpList_app2 {ops : Array Oper} {rest : List Oper} {o : Oper} {a : Act} {w : World} {Q : Exit → Act → World → Prop} (hg : o.guard = none) (s x : Operand) (ho : o.op = .call { callee := .builtin .append, args := #[s, x], argTypes := #[22, 22] }) {ga gb : Nat} {va vb : Value} {ls ms : List EvX} (hs : a.eval s = va) (hx : a.eval x = vb) (A : EvO w ga va ls) (B : EvO w gb vb ms) (h0 : 0 < ms.length) (hl : (ls.length + ms.length) * 144 ≤ 140737488355328) (hbase : ga ≤ w.heap.size)
    (hda : ∀ t ∈ ls ++ ms, ∀ b, (t.s0.ownBlock = some b ∨ t.s1.ownBlock = some b ∨ t.s2.ownBlock = some b) → va.ownBlock ≠ some b)
    (h : ∀ v' w', EvO w' ga v' (ls ++ ms) → Below ga w w' → wpList Tryz.prog ops Q rest (a.put o.dst v') w') : wpList Tryz.prog ops Q (o :: rest) a w := by
  obtain ⟨i, hi, hz, hsz, hby⟩ := info_parts info36
  rcases B.row.2 with ⟨h1, h2⟩ | ⟨g, cap, cur, h1, _⟩
  · omega
  · refine wpList_append_own _ hg s x 22 ho ga 36 i (.agg zA) 13 144 Tryz.underlying22 hi hz hsz hby rfl (by decide) va ls.length (evF ls) hs A.row ⟨g, 0, none⟩ ms.length cap (evF ms) (hx.trans h1) (evF_len ms) (B.row.cells (g := g) (by rw [h1]; rfl)) B.deps.one (by simp only [maxLen]; omega) hl hbase ?_
    intro v' w' hR hgr _
    have hG : Goes (fun k => va.ownBlock = some k) w w' := goes_grown hgr (fun k hk => hk)
    refine h v' w' ⟨by rw [evF_append, List.length_append]; exact hR, ⟨fun t ht => ?_⟩⟩ (hG.below hbase (fun k hk => (A.row.lt k hk).1))
    have D := (A.deps.append B.deps).all t ht
    have hd := hda t ht
    exact ⟨D.1.goes hG (fun k hk e => hd k (.inl e) hk), D.2.1.goes hG (fun k hk e => hd k (.inr (.inl e)) hk), D.2.2.goes hG (fun k hk e => hd k (.inr (.inr e)) hk)⟩
/-- Lists of events, plain. -/
def tE (l : List Ev) : Nat → Ev := fun i => (l[i]?).getD zE
theorem xs_tE (es : List EvX) : xs es = tE (es.map EvX.e) := by funext i; simp [xs, tE]
theorem check_tE {w : World} {base : Nat} {v : Value} {es : List EvX} {l : List Ev} (L : EvO w base v es) (hl : es.map EvX.e = l) (T : Tab w) {i e t : Bool} (h0 : rightE l.length (tE l) = 0) (h1 : Rlw.ordB l.length (inbR l.length (tE l)) = i) (h2 : Rlw.ordB l.length (allR l.length (tE l)) = e) (h3 : atoV l.length (tE l) = t) : Calls Tryz.prog 12 #[v] w fun r w' => r = .returned (.tuple #[.agg (verV i e t), vI 0]) ∧ Below w.heap.size w w' := by
  subst hl
  rw [← xs_tE, List.length_map] at h0 h1 h2 h3
  exact check_list L T h0 h1 h2 h3
def strongB (k : Nat) : Bool := decide (k = 3) || decide (k = 6)
def sendsB (k : Nat) : Bool := decide (k = 2) || decide (k = 3) || decide (k ≥ 5)
def takesB (k : Nat) : Bool := decide (k = 1) || decide (k ≥ 3)
def sbL (i j : Nat) : List Ev := btw i (wE 0 0 8 1 1) (rE 0 9 16 0 0) ++ btw j (wE 1 0 16 1 2) (rE 1 9 8 0 0)
def mpL (i j : Nat) : List Ev := btw i (wE 0 0 8 1 1) (wE 0 9 16 1 2) ++ btw j (rE 1 0 16 1 2) (rE 1 9 8 0 0)
def okL (l : List Ev) (e : Bool) : Bool := decide (rightE l.length (tE l) = 0) && Rlw.ordB l.length (inbR l.length (tE l)) && (Rlw.ordB l.length (allR l.length (tE l)) == e) && atoV l.length (tE l)
theorem sb_all : ((List.range 7).all fun i => (List.range 7).all fun j => okL (sbL i j) (!(strongB i && strongB j))) = true := by decide +kernel
theorem mp_all : ((List.range 7).all fun i => (List.range 7).all fun j => okL (mpL i j) (!(sendsB i && takesB j))) = true := by decide +kernel
theorem okL_at {f : Nat → Nat → List Ev} {g : Nat → Nat → Bool} (h : ((List.range 7).all fun i => (List.range 7).all fun j => okL (f i j) (g i j)) = true) {i j : Nat} (hi : i < 7) (hj : j < 7) : rightE (f i j).length (tE (f i j)) = 0 ∧ Rlw.ordB (f i j).length (inbR (f i j).length (tE (f i j))) = true ∧ Rlw.ordB (f i j).length (allR (f i j).length (tE (f i j))) = g i j ∧ atoV (f i j).length (tE (f i j)) = true := by
  have h1 := List.all_eq_true.1 (List.all_eq_true.1 h i (List.mem_range.2 hi)) j (List.mem_range.2 hj)
  simp only [okL, Bool.and_eq_true, decide_eq_true_eq, beq_iff_eq] at h1
  exact ⟨h1.1.1.1, h1.1.1.2, h1.1.2, h1.2⟩
theorem chk_pair {f : Nat → Nat → List Ev} {g : Nat → Nat → Bool} (h : ((List.range 7).all fun i => (List.range 7).all fun j => okL (f i j) (g i j)) = true) {i j : Nat} (hi : i < 7) (hj : j < 7) {w : World} {base : Nat} {v : Value} {es : List EvX} (L : EvO w base v es) (hl : es.map EvX.e = f i j) (T : Tab w) : Calls Tryz.prog 12 #[v] w fun r w' => r = .returned (.tuple #[.agg (verV true (g i j) true), vI 0]) ∧ Below w.heap.size w w' := by
  obtain ⟨h0, h1, h2, h3⟩ := okL_at h hi hj
  exact check_tE L hl T h0 h1 h2 h3
theorem strong_c {k : Int} (hk : I64 k) (w : World) : Calls Tryz.prog 26 #[vI k] w fun e w' => e = .returned (.bool (strongB (pickV k 7))) ∧ w' = w := by
  have hp : ∀ w, Calls Tryz.prog 22 #[vI k, vI 7] w fun e w' => e = .returned (vI (pickV k 7 : Nat)) ∧ w' = w := pick_c k 7 (by decide) (by decide) hk
  generalize pickV k 7 = p at hp
  unfold strongB
  by_cases h : p = 3
  · subst h
    go_enter Tryz.func26, Tryz.ntmps26
    go_wp2_with (first | (go_at_call 22; with_reducible refine (hp _).mono ?_; rintro e w ⟨rfl, rfl⟩; dsimp only))
    go_ret
    exact ⟨rfl, rfl⟩
  · have h' : ¬ ((p : Int) = 3) := by omega
    have e6 : decide (p = 6) = ((p : Int) == 6) := by rw [Bool.eq_iff_iff, decide_eq_true_eq, beq_iff_eq]; omega
    have e3 : decide (p = 3) = ((p : Int) == 3) := by rw [Bool.eq_iff_iff, decide_eq_true_eq, beq_iff_eq]; omega
    rw [e6, e3]
    go_enter Tryz.func26, Tryz.ntmps26
    go_wp2_with (first | (go_at_call 22; with_reducible refine (hp _).mono ?_; rintro e w ⟨rfl, rfl⟩; dsimp only))
    go_ret
    exact ⟨rfl, rfl⟩
theorem btw_wr {how : Int} (hh : I64 how) (c0 p0 a0 v0 t0 c1 p1 a1 v1 t1 : Int) {g : Nat} {w : World} (H : LocE g (evF [nilX (wE c0 p0 a0 v0 t0), nilX (rE c1 p1 a1 v1 t1)]).toArray w) : Calls Tryz.prog 23 #[vI how, .slice (some ⟨g, 0, none⟩) 2 2] w (BtwP (pickV how 7) g (wE c0 p0 a0 v0 t0) (rE c1 p1 a1 v1 t1) w) := by
  have hlt : pickV how 7 < 7 := pick_lt (by decide)
  match hk : pickV how 7, hlt with
  | 0, _ => exact btw_wr0 hk hh c0 p0 a0 v0 t0 c1 p1 a1 v1 t1 H
  | 1, _ => exact btw_wr1 hk hh c0 p0 a0 v0 t0 c1 p1 a1 v1 t1 H
  | 2, _ => exact btw_wr2 hk hh c0 p0 a0 v0 t0 c1 p1 a1 v1 t1 H
  | 3, _ => exact btw_wr3 hk hh c0 p0 a0 v0 t0 c1 p1 a1 v1 t1 H
  | 4, _ => exact btw_wr4 hk hh c0 p0 a0 v0 t0 c1 p1 a1 v1 t1 H
  | 5, _ => exact btw_wr5 hk hh c0 p0 a0 v0 t0 c1 p1 a1 v1 t1 H
  | 6, _ => exact btw_wr6 hk hh c0 p0 a0 v0 t0 c1 p1 a1 v1 t1 H
theorem btw_ww {how : Int} (hh : I64 how) (c0 p0 a0 v0 t0 c1 p1 a1 v1 t1 : Int) {g : Nat} {w : World} (H : LocE g (evF [nilX (wE c0 p0 a0 v0 t0), nilX (wE c1 p1 a1 v1 t1)]).toArray w) : Calls Tryz.prog 23 #[vI how, .slice (some ⟨g, 0, none⟩) 2 2] w (BtwP (pickV how 7) g (wE c0 p0 a0 v0 t0) (wE c1 p1 a1 v1 t1) w) := by
  have hlt : pickV how 7 < 7 := pick_lt (by decide)
  match hk : pickV how 7, hlt with
  | 0, _ => exact btw_ww0 hk hh c0 p0 a0 v0 t0 c1 p1 a1 v1 t1 H
  | 1, _ => exact btw_ww1 hk hh c0 p0 a0 v0 t0 c1 p1 a1 v1 t1 H
  | 2, _ => exact btw_ww2 hk hh c0 p0 a0 v0 t0 c1 p1 a1 v1 t1 H
  | 3, _ => exact btw_ww3 hk hh c0 p0 a0 v0 t0 c1 p1 a1 v1 t1 H
  | 4, _ => exact btw_ww4 hk hh c0 p0 a0 v0 t0 c1 p1 a1 v1 t1 H
  | 5, _ => exact btw_ww5 hk hh c0 p0 a0 v0 t0 c1 p1 a1 v1 t1 H
  | 6, _ => exact btw_ww6 hk hh c0 p0 a0 v0 t0 c1 p1 a1 v1 t1 H
theorem btw_rr {how : Int} (hh : I64 how) (c0 p0 a0 v0 t0 c1 p1 a1 v1 t1 : Int) {g : Nat} {w : World} (H : LocE g (evF [nilX (rE c0 p0 a0 v0 t0), nilX (rE c1 p1 a1 v1 t1)]).toArray w) : Calls Tryz.prog 23 #[vI how, .slice (some ⟨g, 0, none⟩) 2 2] w (BtwP (pickV how 7) g (rE c0 p0 a0 v0 t0) (rE c1 p1 a1 v1 t1) w) := by
  have hlt : pickV how 7 < 7 := pick_lt (by decide)
  match hk : pickV how 7, hlt with
  | 0, _ => exact btw_rr0 hk hh c0 p0 a0 v0 t0 c1 p1 a1 v1 t1 H
  | 1, _ => exact btw_rr1 hk hh c0 p0 a0 v0 t0 c1 p1 a1 v1 t1 H
  | 2, _ => exact btw_rr2 hk hh c0 p0 a0 v0 t0 c1 p1 a1 v1 t1 H
  | 3, _ => exact btw_rr3 hk hh c0 p0 a0 v0 t0 c1 p1 a1 v1 t1 H
  | 4, _ => exact btw_rr4 hk hh c0 p0 a0 v0 t0 c1 p1 a1 v1 t1 H
  | 5, _ => exact btw_rr5 hk hh c0 p0 a0 v0 t0 c1 p1 a1 v1 t1 H
  | 6, _ => exact btw_rr6 hk hh c0 p0 a0 v0 t0 c1 p1 a1 v1 t1 H
end Go.Proofs.YtnedkielehmneaaGreatDoor
