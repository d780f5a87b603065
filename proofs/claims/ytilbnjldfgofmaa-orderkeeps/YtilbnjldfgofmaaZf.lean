/- What an access finds. -/
import Derived.Test.YtilbnjldfgofmaaZe
namespace Go.Proofs.Ytilbnjldfgofmaa
open Go.RowKit
set_option linter.unusedVariables false
set_option linter.unusedSimpArgs false
set_option maxRecDepth 8000

open Go.Shelf
attribute [local go_sem] Oper.semAt_some
def ptrO (ids : List Nat) : Option Nat → Value
  | some v => ptr (idAt ids v) 0
  | none => .pointer none
/-- While it is looked for. -/
structure KnI (w : World) (p g cap : Nat) (ids : List Nat) (l : List Opr) (k : Nat) (a : Int) (rb ab bb : Nat) (j : Nat) (W : World) : Prop where
  ls : Ls W p g cap ids
  gr : Gr ids l W
  rb : Boxed W rb 62 (.pointer none)
  ab : Boxed W ab 62 (ptr (idAt ids a.toNat) 0)
  bb : Boxed W bb 63 (.slice (some ⟨g, 0, none⟩) k cap)
  low : Below w.heap.size w W
  same : knownL l a k = knownL l a (k - j)
structure KnX (w : World) (v : Value) (rb : Nat) (W : World) : Prop where
  rb : Boxed W rb 62 v
  low : Below w.heap.size w W
section
variable {pc words el : Int} {l : List Opr} {ids : List Nat} {w W W' : World} {p g cap k rb ab bb j : Nat} {a : Int} {v : Value}
theorem KnI.grow (h : KnI w p g cap ids l k a rb ab bb j W) (hb : Below W.heap.size W W') : KnI w p g cap ids l k a rb ab bb j W' :=
  ⟨h.ls.grow hb, h.gr.grow hb, h.rb.grow hb, h.ab.grow hb, h.bb.grow hb, below_then h.low (Nat.le_refl _) hb, h.same⟩
theorem KnI.turn (h : KnI w p g cap ids l k a rb ab bb j W) {B : Nat} (hB : w.heap.size ≤ B) (t : Rg.Turn B W W') : KnI w p g cap ids l k a rb ab bb j W' := by
  obtain ⟨R, e, q⟩ := h.ls.row
  exact ⟨⟨t.cells h.ls.box, ⟨R, t.cells e, q⟩, h.ls.max⟩, ⟨h.gr.len, h.gr.nd, fun i hi => by obtain ⟨d, n, f⟩ := h.gr.node i hi; exact ⟨d, t.cells n, f⟩⟩, t.cells h.rb, t.cells h.ab, t.cells h.bb, h.low.trans (t.below hB h.low.size), h.same⟩
theorem KnX.turn (h : KnX w v rb W) {B : Nat} (hB : w.heap.size ≤ B) (t : Rg.Turn B W W') : KnX w v rb W' := ⟨t.cells h.rb, h.low.trans (t.below hB h.low.size)⟩
theorem KnI.put (h : KnI w p g cap ids l k a rb ab bb j W) (hr : w.heap.size ≤ rb) (v : Value) : KnX w v rb (W.setCell ⟨rb, 0, none⟩ v) := by
  refine ⟨?_, below_cell h.low hr⟩
  have := heap_setCell_same W rb 0 _ 62 v h.rb
  exact this
theorem KnI.others (h : KnI w p g cap ids l k a rb ab bb j W) (v : Value) {B : Nat} : KeepsFrom B W (W.setCell ⟨rb, 0, none⟩ v) := (KeepsOthers.setCell W _ _).from _
end
theorem cell_grow {W W' : World} {q : Addr} {v : Value} (h : W.cell? q = some v) (hb : Below W.heap.size W W') : W'.cell? q = some v := by
  have hl : q.block < W.heap.size := by
    rcases Nat.lt_or_ge q.block W.heap.size with r | r
    · exact r
    · unfold World.cell? at h
      rw [Array.getElem?_eq_none r] at h
      cases h
  rw [hb.cell hl]; exact h
theorem frz_grow {W W' : World} {q : Addr} {v : Value} (h : W.cell? q = some v) (f : W.frozen? q = false) (hb : Below W.heap.size W W') : W'.frozen? q = false := by
  have hl : q.block < W.heap.size := by
    rcases Nat.lt_or_ge q.block W.heap.size with r | r
    · exact r
    · unfold World.cell? at h
      rw [Array.getElem?_eq_none r] at h
      cases h
  rw [hb.frozen hl]; exact f
section
variable {pc words el : Int} {l : List Opr} {ids : List Nat} {w : World} {p g cap : Nat}
set_option maxHeartbeats 4000000 in
theorem known_c (h : rightB pc words el l = true) (L : Ls w p g cap ids) (G : Gr ids l w) {k : Nat} (hk : k < l.length) :
    Calls Try.prog 47 #[ptr p 0, vI k] w fun e w' => e = .returned (ptrO ids (knownL l (opAt l k).a k)) ∧ Below w.heap.size w w' := by
  have hlen : Hid (ids.length = l.length) := G.len
  have h512 := (right_lens h).2.1
  have hab := ab_lt h hk
  have hb0 := below_alloc w (.cells #[.pointer none] 62)
  have r0 := Boxed.new w 62 (.pointer none)
  have L0 := L.grow hb0
  have G0 := G.grow hb0
  obtain ⟨d, hd, fd⟩ := G0.node k hk
  have z := L0.boxc
  have zk := L0.cell (k := k) (by have := hlen.out; omega)
  have d6 := hd.c6
  rw [fd.a] at d6
  have hi : (k : Int) < ids.length := by have := hlen.out; omega
  refine Rg.calls_marks Try.func47 rfl ?_
  simp only [Try.ntmps47, List.size_toArray, List.length_cons, List.length_nil, Nat.reduceAdd, Nat.reduceSub, Array.replicate_succ, Array.replicate_zero, List.push_toArray, List.append_toArray, List.nil_append, List.cons_append]
  go_upto_region 1 with fail
  generalize w.alloc (.cells #[.pointer none] 62) = w1 at *
  go_upto_region 2 with fail
  have hb1 := below_alloc w1 (.cells #[ptr (idAt ids (opAt l k).a.toNat) 0] 62)
  have a2 := Boxed.new w1 62 (ptr (idAt ids (opAt l k).a.toNat) 0)
  have r2 := r0.grow hb1
  have L2 := L0.grow hb1
  have G2 := G0.grow hb1
  have hw2 := below_then hb0 (Nat.le_refl _) hb1
  have hlt1 : w.heap.size < w1.heap.size := lt_of_some r0
  clear hd z zk d6 L0 G0 r0 L G hb1
  generalize w1.alloc (.cells #[ptr (idAt ids (opAt l k).a.toNat) 0] 62) = w2 at *
  obtain ⟨rb, hrb⟩ : ∃ rb, rb = w.heap.size := ⟨_, rfl⟩
  obtain ⟨ab, hab1⟩ : ∃ ab, ab = w1.heap.size := ⟨_, rfl⟩
  rw [← hrb] at r2 ⊢
  rw [← hab1] at a2 ⊢
  have hrw : w.heap.size ≤ rb := by omega
  clear hrb hab1 hlt1 hb0 w1
  have z := L2.boxc
  have hi2 : (k : Int) ≤ cap := by
    obtain ⟨R, -, q⟩ := L2.row
    have := hlen.out
    omega
  have kb := back_c (some ⟨g, 0, none⟩) k cap w2
  go_wp2_with (first | (go_at_call 71; (with_reducible refine kb.mono ?_); clear kb; rintro e w3 ⟨rfl, hbx, B⟩; dsimp only))
  have hI0 : KnI w p g cap ids l k (opAt l k).a rb ab w2.heap.size 0 w3 := ⟨L2.grow B, G2.grow B, r2.grow B, a2.grow B, hbx, below_then hw2 (Nat.le_refl _) B, rfl⟩
  have hw3 : w.heap.size ≤ w3.heap.size := hI0.low.size
  clear L2 G2 a2 r2 hbx B z hw2
  generalize w2.heap.size = bb at *
  refine Rg.wp_range2 (w := w3) rfl (enters_of Try.func84 (by kernel_rfl) rfl) (fun j => vI ((k - 1 - j : Nat) : Int)) (fun j => ptr (idAt ids (k - 1 - j)) 0)
    (fun j W => KnI w p g cap ids l k (opAt l k).a rb ab bb j W) (fun j W => j < k ∧ KnI w p g cap ids l k (opAt l k).a rb ab bb j W)
    (fun j W => KnX w (ptrO ids (knownL l (opAt l k).a k)) rb W)
    (fun j W => j = k ∧ KnI w p g cap ids l k (opAt l k).a rb ab bb j W)
    (fun j a W => (j < k ∧ KnI w p g cap ids l k (opAt l k).a rb ab bb j W) ∧ ∃ u2 u3 u6 u8 u9 u10 u11 u12 u13 u14 u15 u16 u17 u18 u19 u20 u21 u22 u23 u24 u25 u26 u27 u28 u29 u30 u31 u32 u33 u34 u35 u36 u37 u38 u39 u40 u41 u42 u43 u44 u45 u46 u47 u48 u49 u50 u51 u52 u53 u54 u55 u56 u57 u58 u59 u60 u61 u62 u63 u64 u65 u66 u67, a = { tmps := List.toArray (ptr p 0 :: vI k :: u2 :: u3 :: ptr rb 0 :: ptr ab 0 :: u6 :: ptr (idAt ids (k - 1 - j)) 0 :: u8 :: u9 :: u10 :: u11 :: u12 :: u13 :: u14 :: u15 :: u16 :: u17 :: u18 :: u19 :: u20 :: u21 :: u22 :: u23 :: u24 :: u25 :: u26 :: u27 :: u28 :: u29 :: u30 :: u31 :: u32 :: u33 :: u34 :: u35 :: u36 :: u37 :: u38 :: u39 :: u40 :: u41 :: u42 :: u43 :: u44 :: u45 :: u46 :: u47 :: u48 :: u49 :: u50 :: u51 :: u52 :: u53 :: u54 :: u55 :: u56 :: u57 :: u58 :: u59 :: u60 :: u61 :: u62 :: u63 :: u64 :: u65 :: u66 :: u67 :: []), defers := [] })
    ?seq (fun j X Y h t => h.turn hw3 t) (fun j X Y h t => h.turn hw3 t) (fun j X Y h t => ⟨h.1, h.2.turn hw3 t⟩) (fun j a X Y h t => ⟨⟨h.1.1, h.1.2.turn hw3 t⟩, h.2⟩) hI0 ?assign ?body ?done ?stop
  case seq =>
    intro L X Y W _ hY h0' hx
    have hkl : k ≤ ids.length := by omega
    refine (back_in (ids := ids) (by omega) (fun j W => KnI w p g cap ids l k (opAt l k).a rb ab bb j W) (fun j W => KnX w (ptrO ids (knownL l (opAt l k).a k)) rb W) (fun j W h => ⟨h.bb, fun _ => ⟨g, cap, rfl, fun i hi => h.ls.cell (by omega)⟩⟩) ⟨_, _, rfl⟩ L X Y W (fun j W1 hj hI hx1 => hY j W1 ⟨hj, hI⟩ hx1) h0' hx).mono ?_
    rintro e W' ⟨hv, h1 | h1⟩
    · exact ⟨hv, .inl ⟨k, ⟨rfl, h1.1⟩, h1.2⟩⟩
    · exact ⟨hv, .inr h1⟩
  case assign =>
    intro L j W K h hK
    gi_wp2
    exact hK _ _ (KeepsFrom.refl _ _) ⟨h, _, _, _, _, _, _, _, _, _, _, _, _, _, _, _, _, _, _, _, _, _, _, _, _, _, _, _, _, _, _, _, _, _, _, _, _, _, _, _, _, _, _, _, _, _, _, _, _, _, _, _, _, _, _, _, _, _, _, _, _, _, _, _, rfl⟩
  case body =>
    rintro L j a' W ⟨⟨hj, h1⟩, u2, u3, u6, u8, u9, u10, u11, u12, u13, u14, u15, u16, u17, u18, u19, u20, u21, u22, u23, u24, u25, u26, u27, u28, u29, u30, u31, u32, u33, u34, u35, u36, u37, u38, u39, u40, u41, u42, u43, u44, u45, u46, u47, u48, u49, u50, u51, u52, u53, u54, u55, u56, u57, u58, u59, u60, u61, u62, u63, u64, u65, u66, u67, rfl⟩
    obtain ⟨i, hi1⟩ : ∃ i, i = k - 1 - j := ⟨_, rfl⟩
    rw [← hi1]
    have hil : i < l.length := by omega
    have hki : k - j = i + 1 := by omega
    have hki2 : k - (j + 1) = i := by omega
    obtain ⟨d, hd, fd⟩ := h1.gr.node i hil
    have hai := ab_lt h hil
    have ka := isK_cases (kind_at (right_at h hil))
    have kk := kind_at (right_at h hil)
    have hsame := h1.same
    rw [hki] at hsame
    have e1 : ∀ n, (binOp .eql 62 (ptr d.pa 0) (ptr (idAt ids (opAt l k).a.toNat) 0)).run Try.prog (W.drewN n) = .ok (.bool (decide ((opAt l i).a = (opAt l k).a))) (W.drewN n) := fun n => by
      have q := run_eqP (w := W.drewN n) (a := d.pa) (b := idAt ids (opAt l k).a.toNat) (by rw [fd.a]; exact (h1.gr.is hai.2.1).drew n) ((h1.gr.is hab.2.1).drew n)
      have e : decide (d.pa = idAt ids (opAt l k).a.toNat) = decide ((opAt l i).a = (opAt l k).a) := by
        rw [fd.a]
        have := id_beq h1.gr hai.1 hai.2.1 hab.1 hab.2.1
        simpa [Bool.beq_eq_decide_eq] using this
      rwa [e] at q
    have c0 := hd.c0
    have c6 := hd.c6
    have c7 := hd.c7
    have ca := h1.ab.cell
    have cr := h1.rb.cell
    have fr := h1.rb.frz 0
    rw [fd.kind] at c0
    have kf : ∀ w1, Calls Try.prog 72 #[.agg #[vI (opAt l i).kind, vI d.op.r, vI d.op.a, vI d.op.b, vI d.op.order, vU d.op.imm]] w1 fun e w' => e = .returned (.bool (forgetB (opAt l i))) ∧ Below w1.heap.size w1 w' := fun w1 => by
      have q := forgets_c d.op (by rw [fd.kind]; exact kk) w1
      have ef : forgetB d.op = forgetB (opAt l i) := by unfold forgetB; rw [fd.kind, fd.order]
      rw [ef] at q
      rw [← fd.kind]
      exact q
    have hX : ∀ W', Below W.heap.size W W' → ∀ v, KeepsFrom w3.heap.size W (W'.setCell ⟨rb, 0, none⟩ v) ∧ KnX w v rb (W'.setCell ⟨rb, 0, none⟩ v) := fun W' hb v =>
      ⟨(Rg.keeps_goes (F := fun _ => False) (goes_of_below hb) (fun _ q => q.elim)).trans ((h1.grow hb).others v), (h1.grow hb).put hrw v⟩
    have hN : ∀ W', Below W.heap.size W W' → knownL l (opAt l k).a k = knownL l (opAt l k).a i → KeepsFrom w3.heap.size W W' ∧ KnI w p g cap ids l k (opAt l k).a rb ab bb (j + 1) W' := fun W' hb e =>
      ⟨Rg.keeps_goes (F := fun _ => False) (goes_of_below hb) (fun _ q => q.elim), by have q := h1.grow hb; exact ⟨q.ls, q.gr, q.rb, q.ab, q.bb, q.low, by rw [hki2]; exact e⟩⟩
    have hdr : ∀ n, Below W.heap.size W (W.drewN n) := fun n => below_drewN (Below.refl _ W)
    have c1 := hd.c1
    have c2 := hd.c2
    have c3 := hd.c3
    have c4 := hd.c4
    have c5 := hd.c5
    have fb := fd.b
    clear h1 hd fd ka hI0 hi1 hki hki2
    by_cases k9 : (opAt l i).kind = 9
    · rw [k9] at c0 kf
      by_cases ha : (opAt l i).a = (opAt l k).a
      · rw [decide_eq_true ha] at e1
        have hkn : knownL l (opAt l k).a (i + 1) = some i := by
          show (if _ then _ else _) = _
          rw [if_pos ⟨k9, ha⟩]
        clear ha k9
        refine wpIn_block ?_
        refine wpIn_block ?_
        refine wpIn_seq_k fun K hK => ?_
        replace hK := show Hid _ from hK
        refine Rg.region_quiet_round (by kernel_rfl) (by kernel_rfl) (by rintro ⟨_, _, h⟩; exact h) (by kernel_rfl) ?_
        repeat (go_big_quiet_step (fail))
        refine wpQuiet_nil ?_
        rintro _ ⟨nq, rfl⟩
        refine hK.out _ _ ?_
        clear hK
        gi_wp2
        rw [hsame, hkn]
        exact hX _ (hdr _) _
      · rw [decide_eq_false ha] at e1
        have hkn : knownL l (opAt l k).a (i + 1) = if forgetB (opAt l i) = true then none else knownL l (opAt l k).a i := by
          show (if _ then _ else if _ then _ else if _ then _ else _) = _
          rw [if_neg (fun q => ha q.2), if_neg (fun q => ha q.2)]
        clear ha k9
        refine wpIn_block ?_
        refine wpIn_block ?_
        refine wpIn_seq_k fun K hK => ?_
        replace hK := show Hid _ from hK
        refine Rg.region_quiet_round (by kernel_rfl) (by kernel_rfl) (by rintro ⟨_, _, h⟩; exact h) (by kernel_rfl) ?_
        repeat (go_big_quiet_step (fail))
        refine wpQuiet_nil ?_
        rintro _ ⟨nq, rfl⟩
        refine hK.out _ _ ?_
        clear hK
        refine wpIn_cond_false rfl ?_
        refine wpIn_seq_k fun K hK => ?_
        replace hK := show Hid _ from hK
        refine Rg.region_quiet_round (by kernel_rfl) (by kernel_rfl) (by rintro ⟨_, _, h⟩; exact h) (by kernel_rfl) ?_
        repeat (go_big_quiet_step (fail))
        refine wpQuiet_nil ?_
        rintro _ ⟨nq, rfl⟩
        refine hK.out _ _ ?_
        clear hK
        cases hf : forgetB (opAt l i) with
        | true =>
          rw [hf] at kf
          gi_wp2_with (first | (refine ⟨trivial, ?_⟩; gi_at_call 72; refine (Rg.calls_round L _ (kf _)).mono ?_; rintro e W5 ⟨rfl, B5⟩; dsimp only; have B6 := below_then (hdr _) (Nat.le_refl _) B5; have cr5 := cell_grow cr B6; have fr5 := frz_grow cr fr B6))
          rw [hsame, hkn, if_pos hf]
          exact hX _ B6 _
        | false =>
          rw [hf] at kf
          gi_wp2_with (first | (refine ⟨trivial, ?_⟩; gi_at_call 72; refine (Rg.calls_round L _ (kf _)).mono ?_; rintro e W5 ⟨rfl, B5⟩; dsimp only; have B6 := below_then (hdr _) (Nat.le_refl _) B5; have cr5 := cell_grow cr B6; have fr5 := frz_grow cr fr B6))
          exact hN _ B6 (by rw [hsame, hkn, if_neg (by rw [hf]; decide)])
    · have q9 : ((opAt l i).kind == 9) = false := by simpa using k9
      by_cases k10 : (opAt l i).kind = 10
      · rw [k10] at c0 kf
        clear q9
        by_cases ha : (opAt l i).a = (opAt l k).a
        · rw [decide_eq_true ha] at e1
          have hkn : knownL l (opAt l k).a (i + 1) = some (opAt l i).b.toNat := by
            show (if _ then _ else if _ then _ else _) = _
            rw [if_neg (fun q => k9 q.1), if_pos ⟨k10, ha⟩]
          clear ha k9 k10
          refine wpIn_block ?_
          refine wpIn_block ?_
          refine wpIn_seq_k fun K hK => ?_
          replace hK := show Hid _ from hK
          refine Rg.region_quiet_round (by kernel_rfl) (by kernel_rfl) (by rintro ⟨_, _, h⟩; exact h) (by kernel_rfl) ?_
          repeat (go_big_quiet_step (fail))
          refine wpQuiet_nil ?_
          rintro _ ⟨nq, rfl⟩
          refine hK.out _ _ ?_
          clear hK
          refine wpIn_cond_false rfl ?_
          refine wpIn_seq_k fun K hK => ?_
          replace hK := show Hid _ from hK
          refine Rg.region_quiet_round (by kernel_rfl) (by kernel_rfl) (by rintro ⟨_, _, h⟩; exact h) (by kernel_rfl) ?_
          repeat (go_big_quiet_step (fail))
          refine wpQuiet_nil ?_
          rintro _ ⟨nq, rfl⟩
          refine hK.out _ _ ?_
          clear hK
          gi_wp2
          rw [hsame, hkn]
          exact hX _ (hdr _) _
        · rw [decide_eq_false ha] at e1
          have hkn : knownL l (opAt l k).a (i + 1) = if forgetB (opAt l i) = true then none else knownL l (opAt l k).a i := by
            show (if _ then _ else if _ then _ else if _ then _ else _) = _
            rw [if_neg (fun q => ha q.2), if_neg (fun q => ha q.2)]
          clear ha k9 k10
          refine wpIn_block ?_
          refine wpIn_block ?_
          refine wpIn_seq_k fun K hK => ?_
          replace hK := show Hid _ from hK
          refine Rg.region_quiet_round (by kernel_rfl) (by kernel_rfl) (by rintro ⟨_, _, h⟩; exact h) (by kernel_rfl) ?_
          repeat (go_big_quiet_step (fail))
          refine wpQuiet_nil ?_
          rintro _ ⟨nq, rfl⟩
          refine hK.out _ _ ?_
          clear hK
          refine wpIn_cond_false rfl ?_
          refine wpIn_seq_k fun K hK => ?_
          replace hK := show Hid _ from hK
          refine Rg.region_quiet_round (by kernel_rfl) (by kernel_rfl) (by rintro ⟨_, _, h⟩; exact h) (by kernel_rfl) ?_
          repeat (go_big_quiet_step (fail))
          refine wpQuiet_nil ?_
          rintro _ ⟨nq, rfl⟩
          refine hK.out _ _ ?_
          clear hK
          cases hf : forgetB (opAt l i) with
          | true =>
            rw [hf] at kf
            gi_wp2_with (first | (refine ⟨trivial, ?_⟩; gi_at_call 72; refine (Rg.calls_round L _ (kf _)).mono ?_; rintro e W5 ⟨rfl, B5⟩; dsimp only; have B6 := below_then (hdr _) (Nat.le_refl _) B5; have cr5 := cell_grow cr B6; have fr5 := frz_grow cr fr B6))
            rw [hsame, hkn, if_pos hf]
            exact hX _ B6 _
          | false =>
            rw [hf] at kf
            gi_wp2_with (first | (refine ⟨trivial, ?_⟩; gi_at_call 72; refine (Rg.calls_round L _ (kf _)).mono ?_; rintro e W5 ⟨rfl, B5⟩; dsimp only; have B6 := below_then (hdr _) (Nat.le_refl _) B5; have cr5 := cell_grow cr B6; have fr5 := frz_grow cr fr B6))
            exact hN _ B6 (by rw [hsame, hkn, if_neg (by rw [hf]; decide)])
      · have q10 : ((opAt l i).kind == 10) = false := by simpa using k10
        have hkn : knownL l (opAt l k).a (i + 1) = if forgetB (opAt l i) = true then none else knownL l (opAt l k).a i := by
          show (if _ then _ else if _ then _ else if _ then _ else _) = _
          rw [if_neg (fun q => k9 q.1), if_neg (fun q => k10 q.1)]
        clear k9 k10
        refine wpIn_block ?_
        refine wpIn_block ?_
        refine wpIn_seq_k fun K hK => ?_
        replace hK := show Hid _ from hK
        refine Rg.region_quiet_round (by kernel_rfl) (by kernel_rfl) (by rintro ⟨_, _, h⟩; exact h) (by kernel_rfl) ?_
        repeat (go_big_quiet_step (fail))
        refine wpQuiet_nil ?_
        rintro _ ⟨nq, rfl⟩
        refine hK.out _ _ ?_
        clear hK
        refine wpIn_cond_false rfl ?_
        refine wpIn_seq_k fun K hK => ?_
        replace hK := show Hid _ from hK
        refine Rg.region_quiet_round (by kernel_rfl) (by kernel_rfl) (by rintro ⟨_, _, h⟩; exact h) (by kernel_rfl) ?_
        repeat (go_big_quiet_step (fail))
        refine wpQuiet_nil ?_
        rintro _ ⟨nq, rfl⟩
        refine hK.out _ _ ?_
        clear hK
        cases hf : forgetB (opAt l i) with
        | true =>
          rw [hf] at kf
          gi_wp2_with (first | (refine ⟨trivial, ?_⟩; gi_at_call 72; refine (Rg.calls_round L _ (kf _)).mono ?_; rintro e W5 ⟨rfl, B5⟩; dsimp only; have B6 := below_then (hdr _) (Nat.le_refl _) B5; have cr5 := cell_grow cr B6; have fr5 := frz_grow cr fr B6))
          rw [hsame, hkn, if_pos hf]
          exact hX _ B6 _
        | false =>
          rw [hf] at kf
          gi_wp2_with (first | (refine ⟨trivial, ?_⟩; gi_at_call 72; refine (Rg.calls_round L _ (kf _)).mono ?_; rintro e W5 ⟨rfl, B5⟩; dsimp only; have B6 := below_then (hdr _) (Nat.le_refl _) B5; have cr5 := cell_grow cr B6; have fr5 := frz_grow cr fr B6))
          exact hN _ B6 (by rw [hsame, hkn, if_neg (by rw [hf]; decide)])
  case done =>
    rintro D j W hD ⟨rfl, h1⟩ hm
    dsimp only
    have c0 := h1.rb.cell
    have f0 := h1.rb.frz 0
    have hres : knownL l (opAt l j).a j = none := by rw [h1.same, Nat.sub_self]; rfl
    have hK := h1.put hrw (.pointer none)
    have hm' : (W.setCell ⟨rb, 0, none⟩ (.pointer none)).heap[D]? = some (.deferred (some [])) := by
      rw [Below.heap_setCell _ _ _ _ (fun e => by have e : D = rb := e; subst e; rw [h1.rb] at hm; cases hm)]; exact hm
    clear h1 hI0
    go_wp2
    refine Rg.ret_marks_c (v := .pointer none) (Ds := [D]) w3.heap.size ((Rg.Marks.nil _).cons hm' (by simp)) (fun E hE => by obtain rfl := List.mem_singleton.1 hE; exact hD) (fun w' ht => ?_) ?_
    · have zq := (Boxed.cell (ht.cells hK.rb))
      simp [results, Try.results47, go_sem, zq]
    · intro w' ht
      rw [hres]
      exact ⟨rfl, hK.low.trans (ht.below hw3 hK.low.size)⟩
  case stop =>
    rintro D j W hD h1 hm
    dsimp only
    go_wp2
    refine Rg.ret_marks_c (v := ptrO ids (knownL l (opAt l k).a k)) (Ds := [D]) w3.heap.size ((Rg.Marks.nil _).cons hm (by simp)) (fun E hE => by obtain rfl := List.mem_singleton.1 hE; exact hD) (fun w' ht => ?_) ?_
    · have zq := (Boxed.cell (ht.cells h1.rb))
      simp [results, Try.results47, go_sem, zq]
    · intro w' ht
      exact ⟨rfl, h1.low.trans (ht.below hw3 h1.low.size)⟩
end
end Go.Proofs.Ytilbnjldfgofmaa
