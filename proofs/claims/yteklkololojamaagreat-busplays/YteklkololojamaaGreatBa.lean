/- The program's bus, as the machine's blocks hold it. -/
import Derived.Test.YteklkololojamaaGreatLh
import Derived.Test.YteklkololojamaaGreatWy
import Derived.Test.YteklkololojamaaGreatBb
import Derived.Laws.BytesArg
namespace Go.Proofs.YteklkololojamaaGreat
open Go.RowKit
set_option linter.unusedVariables false
set_option linter.unusedSimpArgs false
set_option maxRecDepth 8000

abbrev vB (n : Int) : Value := .int .u8 n
/-- The bus: its controller, its timer, what the console was told. -/
structure Bs where
  P : Pg
  T : Tim.Tm
  O : List Int
structure BLay where
  L : GLay
  tb : Nat
  ov : Value
structure BusAt (b g t n : Nat) (S : Bs) (Y : BLay) (w : World) : Prop where
  top : w.heap[b]? = some (.cells #[vI n, ptr g 0, ptr t 0, Y.ov] 74)
  gic : GicAt g n S.P Y.L w
  tim : Tmr.TimAt t Y.tb n S.T w
  out : w.ownsRow 0 5 1 Y.ov S.O.length (S.O.map vB)
  byt : ∀ x ∈ S.O, 0 ≤ x ∧ x < 256
  len : S.O.length ≤ 10000
def BFoot (b g t n : Nat) (Y : BLay) (k : Nat) : Prop := k = b ∨ GFoot g n Y.L k ∨ Tmr.TFoot t Y.tb k ∨ Y.ov.ownBlock = some k
/-- What a call does to a bus. -/
def BT (b g t n : Nat) (Y : BLay) (S : Bs) (w w' : World) : Prop := ∃ Y', BusAt b g t n S Y' w' ∧ Goes (BFoot b g t n Y) w w' ∧ ∀ k, BFoot b g t n Y' k → BFoot b g t n Y k ∨ w.heap.size ≤ k
theorem GicAt.notFoot {g n : Nat} {P : Pg} {L : GLay} {w : World} (H : GicAt g n P L w) {b : Nat} {C : Array Value} {t : TypeId} {f : Nat × Nat} (h : w.heap[b]? = some (.cells C t f)) (h1 : t ≠ 122) (h2 : t ≠ 119) (h3 : t ≠ 106) : ¬ GFoot g n L b := by
  rintro (rfl | rfl | ⟨c, hc, e⟩)
  · obtain ⟨D, hD, _⟩ := H.top
    exact ne_of_type h hD h1 rfl
  · obtain ⟨D, hD, _⟩ := H.cor
    exact ne_of_type h hD h2 rfl
  · obtain ⟨D, _, hD⟩ := own_kind (H.wks c hc) e
    exact ne_of_type h hD h3 rfl
theorem timNot {g cb n : Nat} {T : Tim.Tm} {w : World} (H : Tmr.TimAt g cb n T w) {b : Nat} {C : Array Value} {t : TypeId} {f : Nat × Nat} (h : w.heap[b]? = some (.cells C t f)) (h1 : t ≠ 126) (h2 : t ≠ 110) : ¬ Tmr.TFoot g cb b := by
  rintro (rfl | rfl)
  · exact ne_of_type h H.top h1 rfl
  · obtain ⟨D, hD, _⟩ := H.cor
    exact ne_of_type h hD h2 rfl
section
variable {b g t n : Nat} {S S' : Bs} {Y Y' : BLay} {w w' w1 w2 : World}
theorem BusAt.keep (H : BusAt b g t n S Y w) (hb : ∀ k, BFoot b g t n Y k → w'.heap[k]? = w.heap[k]?) : BusAt b g t n S Y w' :=
  ⟨by rw [hb _ (.inl rfl)]; exact H.top, H.gic.keep fun k hk => hb k (.inr (.inl hk)), H.tim.keep fun k hk => hb k (.inr (.inr (.inl hk))), own_of_block H.out fun k hk => hb k (.inr (.inr (.inr hk))), H.byt, H.len⟩
theorem BusAt.lt (H : BusAt b g t n S Y w) {k : Nat} (hk : BFoot b g t n Y k) : k < w.heap.size := by
  rcases hk with rfl | h | h | h
  · exact lt_of_some H.top
  · exact H.gic.lt h
  · exact H.tim.lt h
  · exact (H.out.lt _ h).2
theorem BusAt.grow (H : BusAt b g t n S Y w) (hb : Below w.heap.size w w') : BusAt b g t n S Y w' := H.keep fun k hk => hb.block k (H.lt hk)
theorem BusAt.same (H : BusAt b g t n S Y w) (hb : Below w.heap.size w w') : BT b g t n Y S w w' := ⟨Y, H.grow hb, goes_of_below hb, fun k hk => .inl hk⟩
theorem BusAt.refl (H : BusAt b g t n S Y w) : BT b g t n Y S w w := ⟨Y, H, Goes.refl _ _, fun k hk => .inl hk⟩
theorem BT.then (G : Goes (BFoot b g t n Y) w w1) (F : ∀ k, BFoot b g t n Y' k → BFoot b g t n Y k ∨ w.heap.size ≤ k) (h : BT b g t n Y' S w1 w2) : BT b g t n Y S w w2 := by
  obtain ⟨Z, h1, h2, h3⟩ := h
  refine ⟨Z, h1, G.trans h2 fun k hk hF => (F k hF).elim id fun h => absurd hk (Nat.not_lt.2 h), fun k hk => (h3 k hk).elim (F k) fun h => .inr (Nat.le_trans G.size h)⟩
theorem BT.bind (h : BT b g t n Y S w w1) (k : ∀ Z, BusAt b g t n S Z w1 → BT b g t n Z S' w1 w2) : BT b g t n Y S' w w2 := by
  obtain ⟨Z, h1, h2, h3⟩ := h
  exact BT.then h2 h3 (k Z h1)
theorem BT.grow (h : BT b g t n Y S w w1) (hb : Below w1.heap.size w1 w2) : BT b g t n Y S w w2 := h.bind fun Z H => H.same hb
theorem BT.ahead (hb : Below w.heap.size w w1) (h : BT b g t n Y S w1 w2) : BT b g t n Y S w w2 := BT.then (goes_of_below hb) (fun k hk => .inl hk) h
theorem BusAt.outBlock (H : BusAt b g t n S Y w) {k : Nat} (hk : Y.ov.ownBlock = some k) : ∃ C, w.heap[k]? = some (.cells C 5) := by
  obtain ⟨D, _, hD⟩ := own_kind H.out hk
  exact ⟨D, hD⟩
theorem BusAt.gicT (H : BusAt b g t n S Y w) {P' : Pg} (h : GTL g n Y.L P' w w') : BT b g t n Y { S with P := P' } w w' := by
  obtain ⟨L', h1, h2, h3⟩ := h
  have kb : w'.heap[b]? = w.heap[b]? := h2.block b (lt_of_some H.top) (H.gic.notFoot H.top (by decide) (by decide) (by decide))
  refine ⟨{ Y with L := L' }, ⟨by rw [kb]; exact H.top, h1, H.tim.keep fun k hk => ?_, own_of_block H.out fun k hk => ?_, H.byt, H.len⟩, h2.mono fun k _ hk => .inr (.inl hk), ?_⟩
  · refine h2.block k (H.tim.lt hk) ?_
    rcases hk with rfl | rfl
    · exact H.gic.notFoot H.tim.top (by decide) (by decide) (by decide)
    · obtain ⟨D, hD, _⟩ := H.tim.cor
      exact H.gic.notFoot hD (by decide) (by decide) (by decide)
  · obtain ⟨D, hD⟩ := H.outBlock hk
    exact h2.block k (lt_of_some hD) (H.gic.notFoot hD (by decide) (by decide) (by decide))
  · rintro k (h | h | h | h)
    · exact .inl (.inl h)
    · exact (h3 k h).elim (fun h => .inl (.inr (.inl h))) .inr
    · exact .inl (.inr (.inr (.inl h)))
    · exact .inl (.inr (.inr (.inr h)))
theorem BusAt.timT (H : BusAt b g t n S Y w) {T' : Tim.Tm} (h : Tmr.TT t Y.tb n T' w w') : BT b g t n Y { S with T := T' } w w' := by
  obtain ⟨h1, h2⟩ := h
  have kb : w'.heap[b]? = w.heap[b]? := h2.block b (lt_of_some H.top) (timNot H.tim H.top (by decide) (by decide))
  refine ⟨Y, ⟨by rw [kb]; exact H.top, H.gic.keep fun k hk => ?_, h1, own_of_block H.out fun k hk => ?_, H.byt, H.len⟩, h2.mono fun k _ hk => .inr (.inr (.inl hk)), fun k hk => .inl hk⟩
  · refine h2.block k (H.gic.lt hk) ?_
    rcases hk with rfl | rfl | ⟨c, hc, e⟩
    · obtain ⟨D, hD, _⟩ := H.gic.top
      exact timNot H.tim hD (by decide) (by decide)
    · obtain ⟨D, hD, _⟩ := H.gic.cor
      exact timNot H.tim hD (by decide) (by decide)
    · obtain ⟨D, _, hD⟩ := own_kind (H.gic.wks c hc) e
      exact timNot H.tim hD (by decide) (by decide)
  · obtain ⟨D, hD⟩ := H.outBlock hk
    exact h2.block k (lt_of_some hD) (timNot H.tim hD (by decide) (by decide))
/-- What the console was told put in place: w1 is w with the row grown, v its new value. -/
theorem BusAt.outT (H : BusAt b g t n S Y w) {v : Value} {x : Int} (hx : 0 ≤ x ∧ x < 256) (hl : S.O.length < 10000) (G : Goes (fun k => Y.ov.ownBlock = some k) w w1) (hrow : w1.ownsRow 0 5 1 v (S.O ++ [x]).length ((S.O ++ [x]).map vB)) (hv : ∀ k, v.ownBlock = some k → Y.ov.ownBlock = some k ∨ w.heap.size ≤ k) :
    BT b g t n Y { S with O := S.O ++ [x] } w (w1.setCell ⟨b, 3, none⟩ v) := by
  have keep : ∀ i, i ≠ b → (w1.setCell ⟨b, 3, none⟩ v).heap[i]? = w1.heap[i]? := fun i hi => Below.heap_setCell _ _ _ _ hi
  have nb : Y.ov.ownBlock ≠ some b := fun h => by
    obtain ⟨D, hD⟩ := H.outBlock h
    exact ne_of_type hD H.top (by decide) rfl
  have htop : w1.heap[b]? = some (.cells #[vI n, ptr g 0, ptr t 0, Y.ov] 74) := by rw [G.block b (lt_of_some H.top) nb]; exact H.top
  have kk : ∀ (k : Nat) (C : Array Value) (t' : TypeId), w.heap[k]? = some (Obj.cells C t') → t' ≠ 5 → t' ≠ 74 → (w1.setCell ⟨b, 3, none⟩ v).heap[k]? = w.heap[k]? := fun k C t' hk h1 h2 => by
    rw [keep k (fun e => ne_of_type hk H.top h2 e), G.block k (lt_of_some hk) fun h => ?_]
    obtain ⟨D, hD⟩ := H.outBlock h
    exact ne_of_type hk hD h1 rfl
  refine ⟨{ Y with ov := v }, ⟨?_, H.gic.keep fun k hk => ?_, H.tim.keep fun k hk => ?_, own_of_block hrow fun k hk => keep k ?_, ?_, ?_⟩, ?_, ?_⟩
  · exact heap_setCell_same w1 b 3 _ 74 v htop
  · rcases hk with rfl | rfl | ⟨c, hc, e⟩
    · obtain ⟨D, hD, _⟩ := H.gic.top
      exact kk _ _ _ hD (by decide) (by decide)
    · obtain ⟨D, hD, _⟩ := H.gic.cor
      exact kk _ _ _ hD (by decide) (by decide)
    · obtain ⟨D, _, hD⟩ := own_kind (H.gic.wks c hc) e
      exact kk _ _ _ hD (by decide) (by decide)
  · rcases hk with rfl | rfl
    · exact kk _ _ _ H.tim.top (by decide) (by decide)
    · obtain ⟨D, hD, _⟩ := H.tim.cor
      exact kk _ _ _ hD (by decide) (by decide)
  · rintro rfl
    exact own_ne htop hrow (by decide) hk
  · intro y hy
    rcases List.mem_append.1 hy with h | h
    · exact H.byt y h
    · rw [List.mem_singleton.1 h]; exact hx
  · simp only [List.length_append, List.length_cons, List.length_nil]; omega
  · exact (G.mono (G := BFoot b g t n Y) fun k _ h => .inr (.inr (.inr h))).trans (goes_setCell w1 (F := BFoot b g t n Y) (.inl rfl) _ _) (fun _ _ h => h)
  · rintro k (h | h | h | h)
    · exact .inl (.inl h)
    · exact .inl (.inr (.inl h))
    · exact .inl (.inr (.inr (.inl h)))
    · exact (hv k h).elim (fun h => .inl (.inr (.inr (.inr h)))) .inr
theorem BusAt.c0 (H : BusAt b g t n S Y w) : w.cell? ⟨b, 0, none⟩ = some (vI n) := by rw [cell_of_row _ _ _ _ _ _ H.top]; rfl
theorem BusAt.c1 (H : BusAt b g t n S Y w) : w.cell? ⟨b, 1, none⟩ = some (ptr g 0) := by rw [cell_of_row _ _ _ _ _ _ H.top]; rfl
theorem BusAt.c2 (H : BusAt b g t n S Y w) : w.cell? ⟨b, 2, none⟩ = some (ptr t 0) := by rw [cell_of_row _ _ _ _ _ _ H.top]; rfl
theorem BusAt.c3 (H : BusAt b g t n S Y w) : w.cell? ⟨b, 3, none⟩ = some Y.ov := by rw [cell_of_row _ _ _ _ _ _ H.top]; rfl
theorem BusAt.f (H : BusAt b g t n S Y w) (j : Nat) : w.frozen? ⟨b, j, none⟩ = false := frozen_of_row _ _ _ _ _ H.top
end
end Go.Proofs.YteklkololojamaaGreat
