/- Vh, W0, Vi of the seat, joined. -/
import Derived.Test.YtjkjbcnafpljoaaVg
import Derived.Test.YtjkjbcnafpljoaaRelJ
import Derived.Test.YtjkjbcnafpljoaaSc
/- Both memories, and a step's own copy of its entry. -/
namespace Go.Proofs.Ytjkjbcnafpljoaa
open Go.RowKit
set_option linter.unusedVariables false
set_option linter.unusedSimpArgs false

theorem MemAt.kind {g : Nat} {S : Sta} {L : Lay} {w : World} (H : MemAt g S L w) {k : Nat} (hk : Foot g L k) : ∃ C t f, w.heap[k]? = some (.cells C t f) ∧ (t = 75 ∨ t = 104 ∨ t = 77 ∨ t = 3 ∨ t = 59) := by
  rcases hk with rfl | rfl | rfl | e | ⟨v, hv, e⟩
  · exact ⟨_, _, _, H.top, .inl rfl⟩
  · exact ⟨_, _, _, H.words, .inr (.inl rfl)⟩
  · exact ⟨_, _, _, H.bufs, .inr (.inr (.inl rfl))⟩
  · obtain ⟨C, _, h⟩ := own_kind H.stamps e
    exact ⟨_, _, _, h, .inr (.inr (.inr (.inl rfl)))⟩
  · obtain ⟨i, hi⟩ := List.mem_iff_getElem?.1 hv
    have hl : i < S.bufs.length := by rw [← H.len]; exact (List.getElem?_eq_some_iff.1 hi).1
    obtain ⟨C, _, h⟩ := own_kind (H.held i v S.bufs[i] hi (List.getElem?_eq_getElem hl)) e
    exact ⟨_, _, _, h, .inr (.inr (.inr (.inr rfl)))⟩
theorem MemAt.notBlock {g : Nat} {S : Sta} {L : Lay} {w : World} (H : MemAt g S L w) {b : Nat} {C : Array Value} {t : TypeId} {f : Nat × Nat} (hb : w.heap[b]? = some (.cells C t f)) (he : t ≠ 75 ∧ t ≠ 104 ∧ t ≠ 77 ∧ t ≠ 3 ∧ t ≠ 59) : ¬ Foot g L b := fun hf => by
  obtain ⟨C', t', f', hb', ht⟩ := H.kind hf
  rw [hb] at hb'
  cases hb'
  rcases ht with rfl | rfl | rfl | rfl | rfl
  · exact he.1 rfl
  · exact he.2.1 rfl
  · exact he.2.2.1 rfl
  · exact he.2.2.2.1 rfl
  · exact he.2.2.2.2 rfl
theorem DocAt.notFoot {g h : Nat} {S : Sta} {L : Lay} {X : Doc} {D : DocLay} {w : World} (H : DocAt h X D w) (M : MemAt g S L w) {k : Nat} (hk : DocFoot h D k) : ¬ Foot g L k := by
  obtain ⟨C, t, f, hb, ht⟩ := H.kind hk
  refine M.notBlock hb ?_
  rcases ht with rfl | rfl | rfl <;> decide
structure SW (w0 : World) (wb g h ob : Nat) (o : St4) (S : Sta) (X : Doc) (w : World) : Prop where
  mem : ∃ L, MemAt g S L w ∧ ∀ k, Foot g L k → w0.heap.size ≤ k
  doc : ∃ L, DocAt h X L w ∧ ∀ k, DocFoot h L k → w0.heap.size ≤ k
  wb : WB wb g h w
  box : w.heap[ob]? = some (.cells #[vI o.k, vI o.c, vU o.a, vU o.v] 43)
  below : Below w0.heap.size w0 w
section
variable {w0 w w' : World} {wb g h ob : Nat} {o : St4} {S S' : Sta} {X X' : Doc}
theorem SW.cells (H : SW w0 wb g h ob o S X w) : w.cell? ⟨wb, 0, none⟩ = some (ptr g 0) ∧ w.cell? ⟨wb, 1, none⟩ = some (ptr h 0) ∧ w.cell? ⟨ob, 0, none⟩ = some (vI o.k) ∧ w.cell? ⟨ob, 1, none⟩ = some (vI o.c) ∧ w.cell? ⟨ob, 2, none⟩ = some (vU o.a) ∧ w.cell? ⟨ob, 3, none⟩ = some (vU o.v) := by
  refine ⟨H.wb.c0, H.wb.c1, ?_, ?_, ?_, ?_⟩ <;> rw [cell_of_row _ _ _ _ _ _ H.box] <;> rfl
theorem SW.memTurn (H : SW w0 wb g h ob o S X w) {L : Lay} (M : MemAt g S L w) (low : ∀ k, Foot g L k → w0.heap.size ≤ k) (T : Turn g L S' w w') : SW w0 wb g h ob o S' X w' := by
  obtain ⟨L', M', G, F⟩ := T
  obtain ⟨D, hD, lowD⟩ := H.doc
  refine ⟨⟨L', M', fun k hk => ?_⟩, ⟨D, hD.keep fun k hk => G.block k (hD.lt hk) (hD.notFoot M hk), lowD⟩, ?_, ?_, H.below.trans (G.below H.below.size low)⟩
  · rcases F k hk with e | e
    · exact low k e
    · exact Nat.le_trans H.below.size e
  · unfold WB
    rw [G.block wb (lt_of_some H.wb) (M.notBlock H.wb (by decide))]; exact H.wb
  · rw [G.block ob (lt_of_some H.box) (M.notBlock H.box (by decide))]; exact H.box
theorem SW.docTurn (H : SW w0 wb g h ob o S X w) {D : DocLay} (hD : DocAt h X D w) (low : ∀ k, DocFoot h D k → w0.heap.size ≤ k) (T : DocTurn h D X' w w') : SW w0 wb g h ob o S X' w' := by
  obtain ⟨D', hD', G, F⟩ := T
  obtain ⟨L, M, lowM⟩ := H.mem
  refine ⟨⟨L, M.keep fun k hk => G.block k (M.lt hk) (fun hf => hD.notFoot M hf hk), lowM⟩, ⟨D', hD', fun k hk => ?_⟩, ?_, ?_, H.below.trans (G.below H.below.size low)⟩
  · rcases F k hk with e | e
    · exact low k e
    · exact Nat.le_trans H.below.size e
  · unfold WB
    rw [G.block wb (lt_of_some H.wb) (hD.notBlock H.wb (by decide))]; exact H.wb
  · rw [G.block ob (lt_of_some H.box) (hD.notBlock H.box (by decide))]; exact H.box
theorem SW.grow (H : SW w0 wb g h ob o S X w) (hb : Below w.heap.size w w') : SW w0 wb g h ob o S X w' := by
  obtain ⟨L, M, low⟩ := H.mem
  exact H.memTurn M low (turn_of_below M hb)
theorem SW.drew (H : SW w0 wb g h ob o S X w) (n : Nat) : SW w0 wb g h ob o S X (w.drewN n) := H.grow ⟨rfl, rfl, rfl, Nat.le_refl _, fun _ _ => rfl⟩
theorem SW.drew1 (H : SW w0 wb g h ob o S X w) : SW w0 wb g h ob o S X { w with drawn := w.drawn + 1 } := H.grow ⟨rfl, rfl, rfl, Nat.le_refl _, fun _ _ => rfl⟩
/-- A row of stores of a call's own beside. -/
structure RowB (w0 : World) (g : Nat) (v : Value) (l : List Lt) (w : World) : Prop where
  row : w.ownsRow w0.heap.size 59 3 v l.length (flatL l)
  len : ∃ ao cap, v = .slice ao l.length cap
  foot : ∀ S L, MemAt g S L w → ∀ b, v.ownBlock = some b → ¬ Foot g L b
/-- The row is turned. -/
theorem SW.rowTurn (H : SW w0 wb g h ob o S X w) {L : Lay} (M : MemAt g S L w) (low : ∀ k, Foot g L k → w0.heap.size ≤ k) {v : Value} {n : Nat} {xs : List Value} (R : w.ownsRow w0.heap.size 59 3 v n xs) (hf : ∀ b, v.ownBlock = some b → ¬ Foot g L b) (G : Goes (fun k => v.ownBlock = some k) w w') : SW w0 wb g h ob o S X w' := by
  obtain ⟨D, hD, lowD⟩ := H.doc
  refine ⟨⟨L, M.keep fun k hk => G.block k (M.lt hk) (fun e => hf k e hk), low⟩, ⟨D, hD.keep fun k hk => G.block k (hD.lt hk) (fun e => hD.notRow R (by decide) e hk), lowD⟩, ?_, ?_, H.below.trans (G.below H.below.size fun k e => (R.lt k e).1)⟩
  · unfold WB
    rw [G.block wb (lt_of_some H.wb) (own_ne H.wb R (by decide))]; exact H.wb
  · rw [G.block ob (lt_of_some H.box) (own_ne H.box R (by decide))]; exact H.box
end
theorem upon_of_call {P : Program} {F : Value → World → Prop} {w : World} {r : Result Next} {f : FuncId} {args : Array Value} {R : Ending → World → Prop} (hc : Calls P f args w R) (hR : ∀ e w', R e w' → ∃ v, e = .returned v ∧ F v w')
    (h : ∀ F' : Value → World → Prop, Calls P f args w (fun e w'' => ∃ v, e = .returned v ∧ F' v w'') → Chn.upon P F' w r) : Chn.upon P F w r := h F (hc.mono hR)
/-- The state of a step whose two memories are alike. -/
structure SL (w0 : World) (wb g h ob : Nat) (o : St4) (S : Sta) (X : Doc) (w : World) : Prop where
  sw : SW w0 wb g h ob o S X w
  lk : Lk S X
  small : S.stamps.length ≤ 300
end Go.Proofs.Ytjkjbcnafpljoaa
/- A step of the play: nothing to do. -/
namespace Go.Proofs.Ytjkjbcnafpljoaa
open Go.RowKit
set_option linter.unusedVariables false
set_option linter.unusedSimpArgs false

structure PS (w0 : World) (wb g h : Nat) (S : Sta) (X : Doc) (w : World) : Prop where
  mem : ∃ L, MemAt g S L w ∧ ∀ k, Foot g L k → w0.heap.size ≤ k
  doc : ∃ L, DocAt h X L w ∧ ∀ k, DocFoot h L k → w0.heap.size ≤ k
  wb : WB wb g h w
  below : Below w0.heap.size w0 w
theorem PS.box {w0 w : World} {wb g h : Nat} {S : Sta} {X : Doc} (H : PS w0 wb g h S X w) (o : St4) : SW w0 wb g h w.heap.size o S X (w.alloc (.cells #[vI o.k, vI o.c, vU o.a, vU o.v] 43)) := by
  obtain ⟨L, M, low⟩ := H.mem
  obtain ⟨D, hD, lowD⟩ := H.doc
  have hb := below_alloc w (.cells #[vI o.k, vI o.c, vU o.a, vU o.v] 43)
  exact ⟨⟨L, M.grow hb, low⟩, ⟨D, hD.grow hb, lowD⟩, H.wb.grow hb, heap_alloc_new _ _, below_then H.below (Nat.le_refl _) hb⟩
theorem SW.ps {w0 w : World} {wb g h ob : Nat} {o : St4} {S : Sta} {X : Doc} (H : SW w0 wb g h ob o S X w) : PS w0 wb g h S X w := ⟨H.mem, H.doc, H.wb, H.below⟩
/-- What a step leaves. -/
def Done (w0 : World) (wb g h : Nat) (n : Nat) (w' : World) : Prop := ∃ S' X', PS w0 wb g h S' X' w' ∧ Lk S' X' ∧ S'.stamps.length ≤ n + 1
set_option maxRecDepth 8000 in
set_option maxHeartbeats 2000000 in
theorem step_0 (w0 : World) (wb g h : Nat) (o : St4) (S : Sta) (X : Doc) (w : World) (H0 : PS w0 wb g h S X w) (K : Lk S X) (hn : S.stamps.length ≤ 300) (ho : o.Ok) (hk : ¬ (o.k = 1 ∨ o.k = 2 ∨ o.k = 3 ∨ o.k = 4 ∨ o.k = 5 ∨ o.k = 6 ∨ o.k = 7 ∨ o.k = 8 ∨ o.k = 9)) : Calls Try.prog 20 #[ptr wb 0, .agg #[vI o.k, vI o.c, vU o.a, vU o.v]] w fun e w' => e = .returned (.bool true) ∧ Done w0 wb g h S.stamps.length w' := by
  have hA := ho.a
  have a0 := hA.1
  have a1 := hA.2
  have hU0 : U64 0 := ⟨by decide, by decide⟩
  have hl := K.len
  have hst := K.reached
  have hr1 : S.reached ≤ S.stamps.length := by have := K.ok.cnt; omega
  have hr0 := K.st2.pos
  have hfl : X.first.length < 1000000000 := by rw [K.first]; have := K.ok.w2; omega
  have hb0 := K.bad0 o.c
  have hb1 := K.bad o.c o.a a0
  go_enter Try.func20, Try.ntmps20
  go_upto_region 1 with fail
  have H := H0.box o
  generalize w.heap.size = ob at H ⊢
  generalize hy : World.alloc w _ = y0
  have hy' : w.alloc (.cells #[vI o.k, vI o.c, vU o.a, vU o.v] 43) = y0 := hy
  rw [hy'] at H
  clear hy hy' H0
  obtain ⟨zg, zh, zk, zc, za, zv⟩ := H.cells
  obtain ⟨D, hD, lowD⟩ := H.doc
  go_quiet ((go_at_call 37; exact Calls.quiet_of_same (bad_c h X D o.c 0 _ (hD.keep fun _ _ => rfl) hU0 hfl)))
  replace H := H.drew nq
  replace hD := hD.grow (w' := y0.drewN nq) ⟨rfl, rfl, rfl, Nat.le_refl _, fun _ _ => rfl⟩
  generalize y0.drewN nq = y1 at H hD ⊢
  clear zg zh zk zc za zv
  obtain ⟨zg, zh, zk, zc, za, zv⟩ := H.cells
  go_upto_region 2 with fail
  go_quiet ((go_at_call 37; exact Calls.quiet_of_same (bad_c h X D o.c o.a _ (hD.keep fun _ _ => rfl) hA hfl)))
  replace H := H.drew nq
  generalize y1.drewN nq = y2 at H ⊢
  clear zg zh zk zc za zv hD lowD
  obtain ⟨zg, zh, zk, zc, za, zv⟩ := H.cells
  have k1 : (o.k == 1) = false := by simpa using fun e => hk (.inl e)
  have k2 : (o.k == 2) = false := by simpa using fun e => hk (.inr (.inl e))
  have k3 : (o.k == 3) = false := by simpa using fun e => hk (.inr (.inr (.inl e)))
  have k4 : (o.k == 4) = false := by simpa using fun e => hk (.inr (.inr (.inr (.inl e))))
  have k5 : (o.k == 5) = false := by simpa using fun e => hk (.inr (.inr (.inr (.inr (.inl e)))))
  have k6 : (o.k == 6) = false := by simpa using fun e => hk (.inr (.inr (.inr (.inr (.inr (.inl e))))))
  have k7 : (o.k == 7) = false := by simpa using fun e => hk (.inr (.inr (.inr (.inr (.inr (.inr (.inl e)))))))
  have k8 : (o.k == 8) = false := by simpa using fun e => hk (.inr (.inr (.inr (.inr (.inr (.inr (.inr (.inl e))))))))
  have k9 : (o.k == 9) = false := by simpa using fun e => hk (.inr (.inr (.inr (.inr (.inr (.inr (.inr (.inr e))))))))
  go_wp2
  go_ret
  exact ⟨rfl, S, X, H.ps, K, by omega⟩
end Go.Proofs.Ytjkjbcnafpljoaa
/- Rows of stores beside both memories. -/
namespace Go.Proofs.Ytjkjbcnafpljoaa
open Go.RowKit
set_option linter.unusedVariables false
set_option linter.unusedSimpArgs false

def ext (v : Value) (k : Nat) : Value := match v with
  | .tuple xs => xs.getD k undef
  | _ => undef
structure FR (w0 : World) (wb g h ob : Nat) (o : St4) (S : Sta) (X : Doc) (l : List Lt) (L : Lay) (lv : Value) (w : World) : Prop where
  sw : SW w0 wb g h ob o S X w
  mem : MemAt g S L w
  low : ∀ k, Foot g L k → w0.heap.size ≤ k
  row : w.ownsRow w0.heap.size 59 3 lv l.length (flatL l)
  nf : ∀ b, lv.ownBlock = some b → ¬ Foot g L b
section
variable {w0 w w' : World} {wb g h ob : Nat} {o : St4} {S S' : Sta} {X X' : Doc} {l : List Lt} {L : Lay} {lv : Value}
theorem FR.slice (H : FR w0 wb g h ob o S X l L lv w) : ∃ ao cap, lv = .slice ao l.length cap := by
  obtain ⟨ao, cap, e, _⟩ := own_len H.row
  exact ⟨ao, cap, e⟩
theorem FR.grow (H : FR w0 wb g h ob o S X l L lv w) (hb : Below w.heap.size w w') : FR w0 wb g h ob o S X l L lv w' :=
  ⟨H.sw.grow hb, H.mem.grow hb, H.low, own_of_block H.row fun k hk => hb.block k (H.row.lt k hk).2, H.nf⟩
theorem FR.drew1 (H : FR w0 wb g h ob o S X l L lv w) : FR w0 wb g h ob o S X l L lv { w with drawn := w.drawn + 1 } := H.grow ⟨rfl, rfl, rfl, Nat.le_refl _, fun _ _ => rfl⟩
theorem SW.turnR (H : SW w0 wb g h ob o S X w) (M : MemAt g S L w) (low : ∀ k, Foot g L k → w0.heap.size ≤ k) (T : TurnR g L S' lv l w w') : ∃ L', FR w0 wb g h ob o S' X l L' lv w' := by
  obtain ⟨L', M', G, F, R, nf⟩ := T
  refine ⟨L', H.memTurn M low ⟨L', M', G, F⟩, M', fun k hk => ?_, own_mono R H.below.size, nf⟩
  rcases F k hk with e | e
  · exact low k e
  · exact Nat.le_trans H.below.size e
theorem FR.docTurn (H : FR w0 wb g h ob o S X l L lv w) {D : DocLay} (hD : DocAt h X D w) (lowD : ∀ k, DocFoot h D k → w0.heap.size ≤ k) (T : DocTurn h D X' w w') : FR w0 wb g h ob o S X' l L lv w' := by
  have h1 := H.sw.docTurn hD lowD T
  obtain ⟨D', hD', G, F⟩ := T
  exact ⟨h1, H.mem.keep fun k hk => G.block k (H.mem.lt hk) (fun hf => hD.notFoot H.mem hf hk), H.low, own_of_block H.row fun k hk => G.block k (H.row.lt k hk).2 (hD.notRow H.row (by decide) hk), H.nf⟩
theorem FR.lated (H : FR w0 wb g h ob o S X l L lv w) (G : Goes (fun k => lv.ownBlock = some k) w w') : SW w0 wb g h ob o S X w' := H.sw.rowTurn H.mem H.low H.row H.nf G
theorem FR.held (H : SW w0 wb g h ob o S X w) (M : MemAt g S L w) (low : ∀ k, Foot g L k → w0.heap.size ≤ k) (hB : Below w.heap.size w w') (R : w'.ownsRow w.heap.size 59 3 lv l.length (flatL l)) : FR w0 wb g h ob o S X l L lv w' :=
  ⟨H.grow hB, M.grow hB, low, own_mono R H.below.size, fun b hb hf => by have := (R.lt b hb).1; have := M.lt hf; omega⟩
end
/-- What a store was stays told. -/
theorem drainDS_all {X : Doc} {c : Int} {k : Nat} {x : R4} (hx : X.all[k]? = some x) : ∃ x', (drainDS X c).all[k]? = some x' ∧ x'.a = x.a ∧ x'.v = x.v := by
  unfold drainDS
  split
  · exact ⟨x, hx, rfl, rfl⟩
  · rename_i t tl hh
    dsimp only
    rw [List.getElem?_set]
    split
    · rename_i e
      have hk : k < X.all.length := (List.getElem?_eq_some_iff.1 hx).1
      rw [if_pos (by omega), e]
      refine ⟨_, rfl, ?_, ?_⟩ <;> simp [List.getD_eq_getElem?_getD, hx]
    · exact ⟨x, hx, rfl, rfl⟩
theorem drD_all {X : Doc} {c : Int} {k : Nat} {x : R4} (hx : X.all[k]? = some x) (n : Nat) : ∃ x', (drD X c n).all[k]? = some x' ∧ x'.a = x.a ∧ x'.v = x.v := by
  induction n with
  | zero => exact ⟨x, hx, rfl, rfl⟩
  | succ n ih =>
    obtain ⟨y, hy, e1, e2⟩ := ih
    obtain ⟨z, hz, e3, e4⟩ := drainDS_all (c := c) hy
    exact ⟨z, hz, e3.trans e1, e4.trans e2⟩
theorem Lk.latesF {S : Sta} {X : Doc} (h : Lk S X) {c : Int} (hc : hasCoreB S c = true) : ∀ (i : Nat) (s : Lt), (bufOf S c)[i]? = some s → ∃ (k : Nat) (x : R4), (heldD X c)[i]? = some ((k : Int) + 1) ∧ (flushDS X c).all[k]? = some x ∧ s = (⟨x.a, x.v, (k : Int) + 1⟩ : Lt) := by
  intro i s hs
  obtain ⟨k, x, h1, h2, h3⟩ := h.lates hc i s hs
  obtain ⟨y, hy, e1, e2⟩ := drD_all (c := c) h2 (heldD X c).length
  exact ⟨k, y, h1, hy, by rw [h3, e1, e2]⟩
theorem Lk.latesP {S : Sta} {X : Doc} (h : Lk S X) {c : Int} (a v : Int) (hc : hasCoreB S c = true) : ∀ (i : Nat) (s : Lt), (bufOf S c)[i]? = some s → ∃ (k : Nat) (x : R4), (heldD X c)[i]? = some ((k : Int) + 1) ∧ (putDS X c a v).all[k]? = some x ∧ s = (⟨x.a, x.v, (k : Int) + 1⟩ : Lt) := by
  intro i s hs
  obtain ⟨k, x, h1, h2, h3⟩ := h.latesF hc i s hs
  refine ⟨k, x, h1, ?_, h3⟩
  show ((flushDS X c).all ++ _)[k]? = _
  rw [List.getElem?_append_left (List.getElem?_eq_some_iff.1 h2).1]; exact h2
end Go.Proofs.Ytjkjbcnafpljoaa
