/- The document's own Flush. -/
import Derived.Test.YtjkjbcnafpljoaaUi
namespace Go.Proofs.Ytjkjbcnafpljoaa
open Go.RowKit
set_option linter.unusedVariables false
set_option linter.unusedSimpArgs false

theorem DocTurn.trans {h : Nat} {L : DocLay} {X Y : Doc} {w w1 w2 : World} (t : DocTurn h L X w w1) (u : ∀ L1, DocAt h X L1 w1 → DocTurn h L1 Y w1 w2) : DocTurn h L Y w w2 := by
  obtain ⟨L1, m1, g1, f1⟩ := t
  obtain ⟨L2, m2, g2, f2⟩ := u L1 m1
  refine ⟨L2, m2, g1.trans g2 fun k hk hf => ?_, fun k hk => ?_⟩
  · rcases f1 k hf with e | e
    · exact e
    · omega
  · rcases f2 k hk with e | e
    · exact f1 k e
    · exact .inr (Nat.le_trans g1.size e)
/-- The types of its blocks. -/
theorem DocAt.kind {h : Nat} {X : Doc} {L : DocLay} {w : World} (H : DocAt h X L w) {k : Nat} (hk : DocFoot h L k) : ∃ C t f, w.heap[k]? = some (.cells C t f) ∧ (t = 47 ∨ t = 28 ∨ t = 102) := by
  rcases hk with rfl | rfl | e
  · exact ⟨_, _, _, H.top, .inl rfl⟩
  · rcases H.first.2 with ⟨h0, _⟩ | ⟨q', cap', cur, h0, hb, hq, _⟩
    · cases h0
    · simp only [Value.slice.injEq, Option.some.injEq, Addr.mk.injEq] at h0
      obtain ⟨⟨rfl, _⟩, _, _⟩ := h0
      exact ⟨_, _, _, hq, .inr (.inl rfl)⟩
  · rcases H.all.2 with ⟨h0, _⟩ | ⟨q', cap', cur, h0, hb, hq, _⟩
    · rw [h0] at e; cases e
    · rw [h0] at e
      obtain rfl : q' = k := by simpa [Value.ownBlock] using e
      exact ⟨_, _, _, hq, .inr (.inr rfl)⟩
theorem DocAt.notRow {h : Nat} {X : Doc} {L : DocLay} {w : World} (H : DocAt h X L w) {base size n : Nat} {e : TypeId} {v : Value} {xs : List Value} (R : w.ownsRow base e size v n xs) (he : e ≠ 47 ∧ e ≠ 28 ∧ e ≠ 102) {k : Nat} (hk : v.ownBlock = some k) : ¬ DocFoot h L k := fun hf => by
  obtain ⟨C, t, f, hb, ht⟩ := H.kind hf
  refine own_ne hb R ?_ hk
  rcases ht with rfl | rfl | rfl
  · exact he.1.symm
  · exact he.2.1.symm
  · exact he.2.2.symm
theorem DocAt.notBlock {h : Nat} {X : Doc} {L : DocLay} {w : World} (H : DocAt h X L w) {b : Nat} {C : Array Value} {t : TypeId} {f : Nat × Nat} (hb : w.heap[b]? = some (.cells C t f)) (he : t ≠ 47 ∧ t ≠ 28 ∧ t ≠ 102) : ¬ DocFoot h L b := fun hf => by
  obtain ⟨C', t', f', hb', ht⟩ := H.kind hf
  rw [hb] at hb'
  cases hb'
  rcases ht with rfl | rfl | rfl
  · exact he.1 rfl
  · exact he.2.1 rfl
  · exact he.2.2 rfl
def drD (X : Doc) (c : Int) : Nat → Doc
  | 0 => X
  | n + 1 => drainDS (drD X c n) c
theorem drainDS_len (X : Doc) (c : Int) : (drainDS X c).all.length = X.all.length ∧ X.stamps ≤ (drainDS X c).stamps ∧ (drainDS X c).stamps ≤ X.stamps + 1 ∧ (drainDS X c).first = X.first ∧ (drainDS X c).cores = X.cores ∧ (drainDS X c).depth = X.depth := by
  unfold drainDS
  split
  · exact ⟨rfl, by omega, by omega, rfl, rfl, rfl⟩
  · refine ⟨by simp, ?_, ?_, rfl, rfl, rfl⟩ <;> dsimp only <;> omega
theorem drD_len (X : Doc) (c : Int) (n : Nat) : (drD X c n).all.length = X.all.length ∧ X.stamps ≤ (drD X c n).stamps ∧ (drD X c n).stamps ≤ X.stamps + n ∧ (drD X c n).first = X.first ∧ (drD X c n).cores = X.cores ∧ (drD X c n).depth = X.depth := by
  induction n with
  | zero => exact ⟨rfl, by show X.stamps ≤ X.stamps; omega, by show X.stamps ≤ X.stamps + ((0 : Nat) : Int); omega, rfl, rfl, rfl⟩
  | succ n ih =>
    obtain ⟨h1, h2, h3, h4, h5, h6⟩ := drainDS_len (drD X c n) c
    obtain ⟨i1, i2, i3, i4, i5, i6⟩ := ih
    exact ⟨h1.trans i1, by rw [drD]; omega, by rw [drD]; omega, h4.trans i4, h5.trans i5, h6.trans i6⟩
def flushDS (X : Doc) (c : Int) : Doc := drD X c (heldD X c).length
set_option maxRecDepth 4000 in
theorem flushD_c (h : Nat) (X : Doc) (L : DocLay) (core : Int) (w : World) (H : DocAt h X L w) (hn : X.all.length < 500000) (hs0 : 0 ≤ X.stamps) (hs1 : X.stamps < 500000) : Calls Try.prog 42 #[ptr h 0, vI core] w fun e w' => ∃ ha hc, e = .returned (.slice ha (heldD X core).length hc) ∧ DocTurn h L (flushDS X core) w w' ∧ w'.ownsRow w.heap.size 3 1 (.slice ha (heldD X core).length hc) (heldD X core).length ((heldD X core).map vI) := by
  have hhl : (heldD X core).length ≤ X.all.length := heldF_len _ _ _
  rw [flushDS]
  generalize hl : heldD X core = l at hhl
  go_enter Try.func42, Try.ntmps42
  go_wp2_with (go_at_call 47; refine (heldD_c h X L core _ H (by omega)).mono ?_; rintro e w1 ⟨ha, hc, rfl, T⟩; dsimp only; rw [hl] at T ⊢)
  have T0 : DocTurn h L X w w1 := docTurn_of_below H T.below
  have R0 := T.row
  clear T
  go_loopw [6] (fun s6 wr => ∃ i : Nat, i ≤ l.length ∧ s6 = .int .i64 i ∧ Hid (DocTurn h L (drD X core i) w wr ∧ wr.ownsRow w.heap.size 3 1 (.slice ha l.length hc) l.length (l.map vI))) (fun s6 _ => l.length - (intOf s6).toNat)
  case atStart => exact ⟨0, Nat.zero_le _, rfl, T0, R0⟩
  case round =>
    obtain ⟨i, hi, rfl, hH⟩ := hrel
    obtain ⟨T, R⟩ := hH.out
    clear hH T0 R0
    by_cases hlt : (i : Int) < l.length
    · obtain ⟨L1, M1, G1, F1⟩ := id T
      obtain ⟨d1, d2, d3, _, _, _⟩ := drD_len X core i
      go_wp2_with (go_at_call 40; refine (drainD_c h (drD X core i) L1 core _ M1 (by omega) (by omega) (by omega)).mono ?_; rintro e w2 ⟨rfl, T2⟩; dsimp only)
      have R2 : w2.ownsRow w.heap.size 3 1 (.slice ha l.length hc) l.length (l.map vI) := by
        obtain ⟨_, _, G2, _⟩ := T2
        exact own_of_block R fun k hk => G2.block k (R.lt k hk).2 (M1.notRow R (by decide) hk)
      have T3 : DocTurn h L (drD X core (i + 1)) w w2 := by
        obtain ⟨L2, M2, G2, F2⟩ := T2
        refine ⟨L2, M2, G1.trans G2 fun k hk hf => ?_, fun k hk => ?_⟩
        · rcases F1 k hf with e | e
          · exact e
          · omega
        · rcases F2 k hk with e | e
          · exact F1 k e
          · exact .inr (Nat.le_trans G1.size e)
      go_roundw
      case rel => exact ⟨i + 1, by omega, by go_num, T3, R2⟩
      case measure => simp [intOf]; omega
    · obtain rfl : i = l.length := by omega
      go_wp2
      go_ret
      exact ⟨ha, hc, rfl, T, R⟩
end Go.Proofs.Ytjkjbcnafpljoaa
