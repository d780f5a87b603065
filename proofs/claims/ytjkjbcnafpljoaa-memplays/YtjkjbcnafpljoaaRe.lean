/- A store reaches memory. -/
import Derived.Test.YtjkjbcnafpljoaaRd
import Derived.Test.YtjkjbcnafpljoaaChn
namespace Go.Proofs.Ytjkjbcnafpljoaa
open Go.RowKit
set_option linter.unusedVariables false

def reachS (S : Sta) (s : Lt) : Sta := { S with words := S.words.set (s.a / 8).toNat (s.v, s.t), reached := S.reached + 1, stamps := S.stamps.set (s.t - 1).toNat (S.reached + 1) }
/-- A memory, and a store in a variable of the call's own. -/
structure RP (g : Nat) (S : Sta) (L : Lay) (b : Nat) (s : Lt) (w0 w : World) : Prop where
  mem : MemAt g S L w
  box : w.heap[b]? = some (.cells s.cells 59)
  goes : Goes (Foot g L) w0 w
theorem RP.drew {g : Nat} {S : Sta} {L : Lay} {b : Nat} {s : Lt} {w0 w : World} (h : RP g S L b s w0 w) : RP g S L b s w0 { w with drawn := w.drawn + 1 } := ⟨h.mem.keep fun _ _ => rfl, h.box, ⟨h.goes.os, h.goes.tape, h.goes.output, h.goes.size, h.goes.block⟩⟩
theorem RP.c {g : Nat} {S : Sta} {L : Lay} {b : Nat} {s : Lt} {w0 w : World} (h : RP g S L b s w0 w) : w.cell? ⟨b, 0, none⟩ = some (vU s.a) ∧ w.cell? ⟨b, 1, none⟩ = some (vU s.v) ∧ w.cell? ⟨b, 2, none⟩ = some (vI s.t) := by
  rw [cell_of_row _ _ _ _ _ _ h.box, cell_of_row _ _ _ _ _ _ h.box, cell_of_row _ _ _ _ _ _ h.box]
  exact ⟨rfl, rfl, rfl⟩
theorem RP.setW {g : Nat} {S : Sta} {L : Lay} {b : Nat} {s : Lt} {w0 w : World} (h : RP g S L b s w0 w) (k : Nat) (x : Int × Int) : RP g { S with words := S.words.set k x } L b s w0 (w.setRow L.gw (flatW (S.words.set k x)).toArray) :=
  ⟨h.mem.setW k x, by rw [setRow_other _ _ _ _ (ne_of_type h.box h.mem.words (by decide))]; exact h.box, h.goes.trans (goes_setRow w (.inr (.inl rfl)) _) fun _ _ x => x⟩
theorem RP.setR {g : Nat} {S : Sta} {L : Lay} {b : Nat} {s : Lt} {w0 w : World} (h : RP g S L b s w0 w) (r : Int) : RP g { S with reached := r } L b s w0 (w.setRow g (topV { S with reached := r } L)) :=
  ⟨h.mem.setR r, by rw [setRow_other _ _ _ _ (ne_of_type h.box h.mem.top (by decide))]; exact h.box, h.goes.trans (goes_setRow w (.inl rfl) _) fun _ _ x => x⟩
/-- A stamp laid down. -/
theorem MemAt.setS {g : Nat} {S : Sta} {L : Lay} {w : World} (h : MemAt g S L w) {q n cap m : Nat} (hv : L.sv = .slice (some ⟨q, 0, none⟩) n cap) (x : Int) : MemAt g { S with stamps := S.stamps.set m x } L (w.setCell ⟨q, m, none⟩ (vI x)) := by
  have ho := h.stamps
  have hn : n = S.stamps.length := by
    obtain ⟨ao, c, e, _⟩ := own_len ho
    rw [hv] at e; cases e; rfl
  subst hn
  rw [hv] at ho
  have hq : ∃ cur, w.heap[q]? = some (.cells cur 3 (0, 0)) := by
    rcases ho.2 with ⟨h0, _⟩ | ⟨q', cap', cur, h0, _, hq, _⟩
    · cases h0
    · cases h0; exact ⟨cur, hq⟩
  obtain ⟨cur, hq⟩ := hq
  have hs := ho.stored m (vI x)
  have key := h.turnS (w' := w.setCell ⟨q, m, none⟩ (vI x)) (v := L.sv) (l := S.stamps.set m x) (fun b hb hbg hbs => Below.heap_setCell _ _ _ _ (fun e => hbs (by rw [hv, e]; rfl))) (by
    rw [Below.heap_setCell _ _ _ _ (ne_of_type h.top hq (by decide))]
    have := h.top
    simpa [topV] using this) (by
    rw [hv, List.length_set]
    have e : (S.stamps.map vI).set m (vI x) = (S.stamps.set m x).map vI := by rw [List.map_set]
    rw [← e]
    exact hs.1)
  exact key
theorem RP.setS {g : Nat} {S : Sta} {L : Lay} {b : Nat} {s : Lt} {w0 w : World} (h : RP g S L b s w0 w) {q n cap m : Nat} (hv : L.sv = .slice (some ⟨q, 0, none⟩) n cap) (x : Int) : RP g { S with stamps := S.stamps.set m x } L b s w0 (w.setCell ⟨q, m, none⟩ (vI x)) := by
  have hne : b ≠ q := by
    rintro rfl
    exact own_ne h.box h.mem.stamps (by decide) (by rw [hv]; rfl)
  refine ⟨h.mem.setS hv x, by rw [Below.heap_setCell _ _ _ _ hne]; exact h.box, h.goes.trans (G := Foot g L) ⟨rfl, rfl, rfl, by simp [World.setCell], fun k hk hn => Below.heap_setCell _ _ _ _ (fun e => hn (.inr (.inr (.inr (.inl (by rw [hv, e]; rfl))))))⟩ fun _ _ x => x⟩
theorem chn_store {o : Oper} {a : Act} {w w2 : World} {C : World → Prop} (ty : TypeId) (x y : Operand) (ho : o.op = .store ty x y) (b k : Nat) (hx : a.eval x = .pointer (some ⟨b, k, none⟩)) (v : Value) (hy : a.eval y = v) (hrun : (storeVar ty ⟨b, k, none⟩ v).run Try.prog w = .ok () w2) (hC : C w2) :
    Chn.upon Try.prog (fun v w' => v = undef ∧ C w') w ((execOp a.eval o).run Try.prog w) := by
  unfold execOp
  simp only [ho, hx, hy, Instr.storeAt, Instr.sureAddr, Sem.run_bind, Sem.run_pure, Result.andThen_ok, hrun]
  exact ⟨rfl, hC⟩
theorem info104 (x y : Value) : (Try.prog.info? 104).map (·.size) = some (#[x, y] : Array Value).size := by
  show (Try.prog.info? 104).map (·.size) = some 2
  kernel_rfl
theorem flatW_set2 {l : List (Int × Int)} {k : Nat} (v : Int × Int) : ((flatW l).toArray.setIfInBounds (k * 2) (vU v.1)).setIfInBounds (k * 2 + 1) (vI v.2) = (flatW (l.set k v)).toArray := by
  rw [List.setIfInBounds_toArray, List.setIfInBounds_toArray, flatW_set]
set_option maxRecDepth 4000 in
theorem run_word {g : Nat} {S : Sta} {L : Lay} {w : World} (h : MemAt g S L w) {k : Nat} (hk : k < S.words.length) (x y : Int) : (storeVar 104 ⟨L.gw, k * 2, none⟩ (.agg #[vU x, vI y])).run Try.prog w = .ok () (w.setRow L.gw (flatW (S.words.set k (x, y))).toArray) := by
  have hs : w.there L.gw (k * 2) 2 := by
    intro j hj
    obtain ⟨c1, c2⟩ := h.cw (List.getElem?_eq_getElem hk)
    refine ⟨?_, frozen_of_row _ _ _ _ _ h.words⟩
    match j, hj with
    | 0, _ => rw [Nat.add_zero, c1]; rfl
    | 1, _ => rw [c2]; rfl
  have := run_storeVar_mid (P := Try.prog) w L.gw (k * 2) 104 #[vU x, vI y] hs (info104 _ _) (by simp [Value.oneCell'])
  rw [this]
  congr 1
  show (w.setCell ⟨L.gw, k * 2, none⟩ (vU x)).setCell ⟨L.gw, k * 2 + 1, none⟩ (vI y) = _
  rw [setCell_eq_setRow w _ _ _ _ _ _ h.words, setCell_eq_setRow _ _ _ _ _ _ _ (setRow_heap _ _ _ _ _ _ h.words), setRow_setRow]
  exact congrArg _ (flatW_set2 (x, y))
theorem info3 : (Try.prog.info? 3).map (·.size) = some 1 := by kernel_rfl
theorem run_cell (w : World) (ty : TypeId) (b k : Nat) (v old : Value) (hi : (Try.prog.info? ty).map (·.size) = some 1) (hv : v.oneCell' = true) (hv2 : v.cells = #[v]) (hc : w.cell? ⟨b, k, none⟩ = some old) (hf : w.frozen? ⟨b, k, none⟩ = false) : (storeVar ty ⟨b, k, none⟩ v).run Try.prog w = .ok () (w.setCell ⟨b, k, none⟩ v) := by
  have hst : (store ⟨b, k, none⟩ v .plain).run Try.prog w = .ok () (w.setCell ⟨b, k, none⟩ v) := by
    rw [run_store Try.prog w _ _ _ hv, hc, hf]; rfl
  cases hq : Try.prog.info? ty with
  | none => simp [hq] at hi
  | some i =>
    have hs : i.size = 1 := by simpa [hq] using hi
    have hadd : (⟨b, k, none⟩ : Addr).add 0 = ⟨b, k, none⟩ := by unfold Addr.add; split <;> simp_all
    simp [storeVar, sizeOf, typeInfo, hq, hs, hv2, storeCells, hadd, hst]
theorem run_int {g : Nat} {S : Sta} {L : Lay} {w : World} (h : MemAt g S L w) {q n cap m : Nat} (hv : L.sv = .slice (some ⟨q, 0, none⟩) n cap) (hm : m < S.stamps.length) (x : Int) : (storeVar 3 ⟨q, m, none⟩ (vI x)).run Try.prog w = .ok () (w.setCell ⟨q, m, none⟩ (vI x)) := by
  obtain ⟨q', cap', e, _, _, _, hc, hf⟩ := own_addr h.stamps (by omega)
  rw [hv] at e; cases e
  have hcell := hc m (by omega)
  rw [List.getElem?_map, List.getElem?_eq_getElem hm] at hcell
  exact run_cell w 3 q m (vI x) _ info3 rfl rfl hcell (hf m)
theorem RP.cw0 {g : Nat} {S : Sta} {L : Lay} {b : Nat} {s : Lt} {w0 w : World} {k : Nat} {x : Int × Int} {n : Nat} (h : RP g (if n = 0 then S else { S with words := S.words.set k x }) L b s w0 w) : w.cell? ⟨g, 0, none⟩ = some (.slice (some ⟨L.gw, 0, none⟩) S.words.length S.words.length) := by
  have := h.mem.c0
  split at this
  · exact this
  · simpa using this
set_option maxRecDepth 4000 in
theorem reach_c (g : Nat) (S : Sta) (L : Lay) (a : Int) (k m : Nat) (v t : Int) (w : World) (H : MemAt g S L w) (hdiv : a.tdiv 8 = k) (hn : S.words.length ≤ 8192) (hk : k < S.words.length) (ht1 : t - 1 = m) (hm : m < S.stamps.length) (hm2 : S.stamps.length < 1000000000) (hr : 0 ≤ S.reached ∧ S.reached < 1000000000) : Calls Try.prog 53 #[ptr g 0, Lt.val ⟨a, v, t⟩] w fun e w' => e = .returned (.tuple #[]) ∧ Turn g L { S with words := S.words.set k (v, t), reached := S.reached + 1, stamps := S.stamps.set m (S.reached + 1) } w w' := by
  have hk0 : (0 : Int) ≤ k := by omega
  have hk1 : (k : Int) < S.words.length := by omega
  have hkw : IntKind.u64.wrap (k : Int) = k := by rw [IntKind.wrap_u64]; omega
  have hrw : IntKind.i64.wrap (S.reached + 1) = S.reached + 1 := by rw [IntKind.wrap_i64]; omega
  go_enter Try.func53, Try.ntmps53
  go_upto_region 1 with fail
  have RPs : RP g S L w.heap.size ⟨a, v, t⟩ w (w.alloc (.cells (Lt.cells ⟨a, v, t⟩) 59)) := ⟨H.grow (below_alloc _ _), heap_alloc_new _ _, goes_of_below (below_alloc _ _)⟩
  have hW : ∀ (n : Nat) (w' : World), RP g (if n = 0 then S else { S with words := S.words.set k (v, t) }) L w.heap.size ⟨a, v, t⟩ w w' → w'.cell? ⟨g, 0, none⟩ = some (.slice (some ⟨L.gw, 0, none⟩) S.words.length S.words.length) := fun n w' h => h.cw0
  generalize w.alloc _ = w1 at RPs ⊢
  generalize hb : w.heap.size = b at RPs hW ⊢
  refine Chn.wp_region_chain (fun n w' => RP g (if n = 0 then S else { S with words := S.words.set k (v, t) }) L b ⟨a, v, t⟩ w w') [13] [(.pointer (some ⟨g, 0, none⟩)), (.pointer (some ⟨g, 0, none⟩)), (.pointer (some ⟨g, 0, none⟩)), (.slice (some ⟨L.gw, 0, none⟩) S.words.length S.words.length), (.pointer (some ⟨b, 0, none⟩)), (vU a), (vU k), (.pointer (some ⟨b, 1, none⟩)), (vU v), (.pointer (some ⟨b, 2, none⟩)), (vI t), (.agg #[vU v, vI t]), (.pointer (some ⟨L.gw, (k * 2), none⟩)), (undef)] (by kernel_rfl) (by kernel_rfl) (by kernel_rfl) (by kernel_rfl) (RPs.drew) ?_
  iterate 3 (refine ⟨fun j w1 hC => by exact Chn.upon_pure hC (fun F hF => by (go_simp <;> exact hF)), ?_⟩; simp only [Act.put, List.setIfInBounds_toArray, List.set_cons_succ, List.set_cons_zero])
  refine ⟨fun j w1 hC => by have q := hW j w1 hC; exact Chn.upon_pure hC (fun F hF => by (go_simp <;> exact hF)), ?_⟩
  simp only [Act.put, List.setIfInBounds_toArray, List.set_cons_succ, List.set_cons_zero]
  refine ⟨fun j w1 hC => by exact Chn.upon_pure hC (fun F hF => by (go_simp <;> exact hF)), ?_⟩
  simp only [Act.put, List.setIfInBounds_toArray, List.set_cons_succ, List.set_cons_zero]
  refine ⟨fun j w1 hC => by obtain ⟨q, _, _⟩ := RP.c hC; exact Chn.upon_pure hC (fun F hF => by (go_simp <;> exact hF)), ?_⟩
  simp only [Act.put, List.setIfInBounds_toArray, List.set_cons_succ, List.set_cons_zero]
  iterate 2 (refine ⟨fun j w1 hC => by exact Chn.upon_pure hC (fun F hF => by (go_simp <;> exact hF)), ?_⟩; simp only [Act.put, List.setIfInBounds_toArray, List.set_cons_succ, List.set_cons_zero])
  refine ⟨fun j w1 hC => by obtain ⟨_, q, _⟩ := RP.c hC; exact Chn.upon_pure hC (fun F hF => by (go_simp <;> exact hF)), ?_⟩
  simp only [Act.put, List.setIfInBounds_toArray, List.set_cons_succ, List.set_cons_zero]
  refine ⟨fun j w1 hC => by exact Chn.upon_pure hC (fun F hF => by (go_simp <;> exact hF)), ?_⟩
  simp only [Act.put, List.setIfInBounds_toArray, List.set_cons_succ, List.set_cons_zero]
  refine ⟨fun j w1 hC => by obtain ⟨_, _, q⟩ := RP.c hC; exact Chn.upon_pure hC (fun F hF => by (go_simp <;> exact hF)), ?_⟩
  simp only [Act.put, List.setIfInBounds_toArray, List.set_cons_succ, List.set_cons_zero]
  iterate 2 (refine ⟨fun j w1 hC => by exact Chn.upon_pure hC (fun F hF => by (go_simp <;> exact hF)), ?_⟩; simp only [Act.put, List.setIfInBounds_toArray, List.set_cons_succ, List.set_cons_zero])
  refine ⟨fun w1 hC => by exact chn_store 104 _ _ rfl L.gw (k * 2) rfl _ rfl (run_word hC.mem hk v t) (hC.setW k (v, t)), ?_⟩
  simp only [Act.put]
  intro w2 hC
  replace hC : RP g { S with words := S.words.set k (v, t) } L b ⟨a, v, t⟩ w w2 := hC
  have c3 := hC.mem.c3
  have fz := frozen_of_row w2 g 3 _ _ hC.mem.top
  go_upto_region 3 with fail
  have R4 := hC.setR (S.reached + 1)
  have e4 : w2.setCell ⟨g, 3, none⟩ (vI (S.reached + 1)) = w2.setRow g (topV { S with words := S.words.set k (v, t), reached := S.reached + 1 } L) := by
    rw [setCell_eq_setRow _ _ _ _ _ _ _ hC.mem.top]; rfl
  rw [← e4] at R4
  generalize w2.setCell _ _ = w4 at R4 ⊢
  clear e4 c3 fz hC
  dsimp only at R4
  obtain ⟨q, cap, hsv, _, _, _, hcell, _⟩ := own_addr R4.mem.stamps (by show 0 < S.stamps.length; omega)
  dsimp only at hsv
  obtain ⟨r, hr2⟩ : ∃ r, r = S.reached + 1 := ⟨_, rfl⟩
  rw [← hr2] at R4 ⊢
  obtain ⟨T, hT⟩ : ∃ T : Sta, T = { S with words := S.words.set k (v, t), reached := r } := ⟨_, rfl⟩
  have hT1 : T.stamps = S.stamps := by rw [hT]
  have hT2 : T.reached = r := by rw [hT]
  have hT3 : Hid (({ S with words := S.words.set k (v, t), reached := S.reached + 1, stamps := S.stamps.set m (S.reached + 1) } : Sta) = { T with stamps := T.stamps.set m r }) := by show _ = _; rw [hT, hr2]
  rw [← hT] at R4
  rw [← hT1] at hsv hm hm2
  clear hT hr2 hcell
  have hm1 : (m : Int) < T.stamps.length := by omega
  have hm0 : (0 : Int) ≤ m := by omega
  have hmw : IntKind.i64.wrap (m : Int) = m := by rw [IntKind.wrap_i64]; omega
  have hSv : ∀ (n : Nat) (w' : World), RP g (if n = 0 then T else { T with stamps := T.stamps.set m r }) L b ⟨a, v, t⟩ w w' → w'.cell? ⟨g, 2, none⟩ = some (.slice (some ⟨q, 0, none⟩) T.stamps.length cap) := fun n w' h => by rw [← hsv]; exact h.mem.c2
  have hRe : ∀ (n : Nat) (w' : World), RP g (if n = 0 then T else { T with stamps := T.stamps.set m r }) L b ⟨a, v, t⟩ w w' → w'.cell? ⟨g, 3, none⟩ = some (vI r) := fun n w' h => by
    have := h.mem.c3
    split at this <;> rw [← hT2] <;> exact this
  clear hr hrw hT1 hT2 RPs H hb
  refine Chn.wp_region_chain (fun n w' => RP g (if n = 0 then T else { T with stamps := T.stamps.set m r }) L b ⟨a, v, t⟩ w w') [12] [(.pointer (some ⟨g, 0, none⟩)), (.pointer (some ⟨g, 0, none⟩)), (.pointer (some ⟨g, 2, none⟩)), (.slice (some ⟨q, 0, none⟩) T.stamps.length cap), (.pointer (some ⟨b, 2, none⟩)), (vI t), (vI m), (.pointer (some ⟨g, 0, none⟩)), (.pointer (some ⟨g, 0, none⟩)), (.pointer (some ⟨g, 3, none⟩)), (vI r), (.pointer (some ⟨q, m, none⟩)), (undef)] (by kernel_rfl) (by kernel_rfl) (by kernel_rfl) (by kernel_rfl) (R4.drew) ?_
  iterate 3 (refine ⟨fun j w1 hC => by exact Chn.upon_pure hC (fun F hF => by (go_simp <;> exact hF)), ?_⟩; simp only [Act.put, List.setIfInBounds_toArray, List.set_cons_succ, List.set_cons_zero])
  refine ⟨fun j w1 hC => by have z := hSv j w1 hC; exact Chn.upon_pure hC (fun F hF => by (go_simp <;> exact hF)), ?_⟩
  simp only [Act.put, List.setIfInBounds_toArray, List.set_cons_succ, List.set_cons_zero]
  refine ⟨fun j w1 hC => by exact Chn.upon_pure hC (fun F hF => by (go_simp <;> exact hF)), ?_⟩
  simp only [Act.put, List.setIfInBounds_toArray, List.set_cons_succ, List.set_cons_zero]
  refine ⟨fun j w1 hC => by obtain ⟨_, _, z⟩ := RP.c hC; exact Chn.upon_pure hC (fun F hF => by (go_simp <;> exact hF)), ?_⟩
  simp only [Act.put, List.setIfInBounds_toArray, List.set_cons_succ, List.set_cons_zero]
  iterate 4 (refine ⟨fun j w1 hC => by exact Chn.upon_pure hC (fun F hF => by (go_simp <;> exact hF)), ?_⟩; simp only [Act.put, List.setIfInBounds_toArray, List.set_cons_succ, List.set_cons_zero])
  refine ⟨fun j w1 hC => by have z := hRe j w1 hC; exact Chn.upon_pure hC (fun F hF => by (go_simp <;> exact hF)), ?_⟩
  simp only [Act.put, List.setIfInBounds_toArray, List.set_cons_succ, List.set_cons_zero]
  refine ⟨fun j w1 hC => by exact Chn.upon_pure hC (fun F hF => by (go_simp <;> exact hF)), ?_⟩
  simp only [Act.put, List.setIfInBounds_toArray, List.set_cons_succ, List.set_cons_zero]
  refine ⟨fun w1 hC => by exact chn_store 3 _ _ rfl q m rfl _ rfl (run_int hC.mem hsv hm r) (hC.setS hsv r), ?_⟩
  simp only [Act.put]
  intro w5 hC
  go_wp2
  go_end0
  refine ⟨rfl, ?_⟩
  rw [hT3.out]
  exact ⟨L, hC.mem, hC.goes, fun _ h => .inl h⟩
end Go.Proofs.Ytjkjbcnafpljoaa
