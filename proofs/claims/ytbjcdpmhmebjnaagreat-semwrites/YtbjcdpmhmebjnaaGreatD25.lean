/- End, where nothing is an exception; Fetch; the state that the examples begin with: contracts. -/
import Derived.Test.YtbjcdpmhmebjnaaGreatD14
import Derived.Test.YtbjcdpmhmebjnaaGreatD03
import Derived.Deep.RegionWith
import Derived.Deep.CutRange
import Derived.BigQuiet
namespace Go.Proofs.YtbjcdpmhmebjnaaGreat
open Go.RowKit
set_option linter.unusedVariables false

theorem three_start (w : World) (A B C : Array Value) (t u v : TypeId) : Has w [(w.heap.size + 2, C, v), (w.heap.size + 1, B, u), (w.heap.size, A, t)] (((w.alloc (.cells A t)).alloc (.cells B u)).alloc (.cells C v)) := by
  have H := (stwo_start w A B t u).new v C
  rwa [show ((w.alloc (.cells A t)).alloc (.cells B u)).heap.size = w.heap.size + 2 from by rw [show ((w.alloc (.cells A t)).alloc (.cells B u)).heap.size = (w.alloc (.cells A t)).heap.size + 1 from Array.size_push .., show (w.alloc (.cells A t)).heap.size = w.heap.size + 1 from Array.size_push ..]] at H
def exZ : Array Value := #[.int .i64 0, .int .i64 0, .int .u64 0]
theorem exZ_one : exZ.all (·.oneCell') = true := by simp [exZ, Value.oneCell']
theorem info70 : (Tryz.prog.info? 65).map (·.size) = some exZ.size := by kernel_rfl
theorem Gt.info (k : Gt) : (Tryz.prog.info? 40).map (·.size) = some k.cells.size := by
  show (Tryz.prog.info? 40).map (·.size) = some 3
  kernel_rfl
theorem Gt.one (k : Gt) : k.cells.all (·.oneCell') = true := by simp [Gt.cells, Value.oneCell']
theorem back_ex {fn : Func} {p u : Tmp} (h : fn.results = #[.cell p 65, .tmp u]) (tmps : Array Value) (w : World) (g : Nat) (cs : Array Value) (hc : cs.size = 3) (fr : Nat × Nat) (t : TypeId)
    (hp : tmps.getD p undef = .pointer (some ⟨g, 0, none⟩)) (hg : w.heap[g]? = some (.cells cs t fr)) :
    (results fn tmps).run Tryz.prog w = .ok (.tuple #[.agg cs, tmps.getD u undef]) w := by
  rw [results_cell_tmp h]
  simp [hp, asAddr, run_loadVar_row w g t 65 cs fr _ hg Tryz.underlying65 rfl (by rw [hc]; kernel_rfl)]
set_option maxRecDepth 4000 in
set_option maxHeartbeats 4000000 in
theorem exceptionOf_no (k : Wnt) (y : Gt) (el : Int) (w : World) (hk : (k.kind == 15) = false) (hf : y.fault = 0) :
    Calls Tryz.prog 29 #[k.val, y.val, .int .i64 el] w fun e w' => e = .returned (.tuple #[.agg exZ, .bool false]) ∧ Below w.heap.size w w' := by
  go_enter Tryz.func29, Tryz.ntmps29
  go_upto_region 1 with fail
  have H := three_start w k.cells y.cells #[.int .i64 0, .int .i64 0, .int .u64 0] 30 40 65
  generalize hb : w.heap.size = b at H ⊢
  generalize ((w.alloc _).alloc _).alloc _ = w1 at H ⊢
  obtain ⟨Z, hZ, H⟩ : ∃ Z, Z.size = exZ.size ∧ Has w [(b + 2, Z, 65), (b + 1, y.cells, 40), (b, k.cells, 30)] w1 := ⟨_, rfl, H⟩
  have hne : ∀ p ∈ [(b + 1, y.cells, (40 : TypeId)), (b, k.cells, (30 : TypeId))], p.1 ≠ b + 2 := by intro p hp; simp at hp; rcases hp with rfl | rfl <;> simp
  have c0 := H.at (b := b) (t := 30) (c := k.cells) (by simp) 0 (.int .i64 k.kind) rfl
  have c2 := H.at (b := b + 1) (t := 40) (c := y.cells) (by simp) 2 (.int .i64 y.fault) rfl
  rw [hf] at c2
  go_wp2_with (first | ((with_reducible refine wpList_builtG rfl 65 _ rfl exZ (by kernel_rfl) ?_); simp only [Act.put, List.setIfInBounds_toArray, List.set_cons_succ, List.set_cons_zero]) | ((with_reducible refine wpList_store_over rfl 65 H hne _ _ rfl exZ rfl rfl info70 hZ exZ_one ?_); intro w9 H; simp only [Act.put]))
  exact bodyPost_ret (back_ex rfl _ _ _ exZ rfl _ _ rfl (H.get List.mem_cons_self)) rfl ⟨rfl, by first | exact H.below | (rw [← hb]; exact H.below)⟩
theorem Has.but {w0 w w' : World} {L : List (Nat × Array Value × TypeId)} {g : Nat} (h : Has w0 L w) (hb : But g w w') (hg : w0.heap.size ≤ g) (hL : ∀ p ∈ L, p.1 ≠ g) : Has w0 L w' :=
  ⟨But.below h.below hb hg, fun p hp => ⟨(h.box p hp).1, hb.keep (h.box p hp).2 (hL p hp)⟩⟩
/-- A new variable of an exception. -/
def FreshX (n : Nat) (v : Value) (w : World) : Prop := ∃ b Z, v = .pointer (some ⟨b, 0, none⟩) ∧ n < b ∧ w.heap[b]? = some (.cells Z 65) ∧ Z.size = 3
theorem freshX_up (n : Nat) (v : Value) : Rel.Up Rel.Grows (FreshX n v) := fun _ _ ⟨b, Z, e, hn, hh, hz⟩ hb => ⟨b, Z, e, hn, keep_row hh hb, hz⟩
theorem rel_load_g {o : Oper} {a : Act} {w : World} {k : Gt} (x : Operand) (ho : o.op = .load 40 x) (g : Nat) (hx : a.eval x = .pointer (some ⟨g, 0, none⟩)) (hg : w.heap[g]? = some (.cells k.cells 40)) :
    Rel.relUpon Tryz.prog Rel.Grows (fun v _ => v = k.val) w ((execOp a.eval o).run Tryz.prog w) := by
  unfold execOp
  simp only [ho, hx, Instr.loadAt, Instr.sureAddr, Sem.run_bind, Sem.run_pure, Result.andThen_ok, run_loadVar_row w g 40 40 k.cells (0, 0) _ hg Tryz.underlying40 rfl k.info]
  exact ⟨Below.refl _ _, rfl⟩
/-- Of what was there up to g nothing has turned; a variable of an exception is one still. -/
structure GX (g : Nat) (w w' : World) : Prop where
  os : w'.os = w.os
  tape : w'.tape = w.tape
  output : w'.output = w.output
  size : w.heap.size ≤ w'.heap.size
  low : ∀ k, k ≤ g → k < w.heap.size → w'.heap[k]? = w.heap[k]?
  row : ∀ (k : Nat) (Z : Array Value), g < k → w.heap[k]? = some (.cells Z 65) → Z.size = 3 → ∃ Z' : Array Value, w'.heap[k]? = some (.cells Z' 65) ∧ Z'.size = 3
theorem gx_below {g : Nat} {w w' : World} (h : Below w.heap.size w w') : GX g w w' := ⟨h.os, h.tape, h.output, h.size, fun k _ hk => h.block k hk, fun k Z _ hr hz => ⟨Z, keep_row hr h, hz⟩⟩
theorem gx_set {g x : Nat} {w : World} {Z cs : Array Value} (hx : g < x) (hr : w.heap[x]? = some (.cells Z 65)) (hc : cs.size = 3) : GX g w (w.setRow x cs) :=
  ⟨rfl, rfl, rfl, by rw [size_setRow]; exact Nat.le_refl _, fun k hk _ => setRow_other _ _ _ _ (by omega), fun k Z' hk hr' hz => by
    by_cases e : k = x
    · subst e; exact ⟨cs, setRow_heap _ _ _ _ _ _ hr, hc⟩
    · exact ⟨Z', by rw [setRow_other _ _ _ _ e]; exact hr', hz⟩⟩
theorem freshX_upX (g : Nat) (v : Value) : Rel.Up (GX g) (FreshX g v) := fun _ _ ⟨b, Z, e, hn, hh, hz⟩ hb => by
  obtain ⟨Z', h1, h2⟩ := hb.row b Z hn hh hz
  exact ⟨b, Z', e, hn, h1, h2⟩
theorem has_upX {g : Nat} {w0 : World} {L : List (Nat × Array Value × TypeId)} (hg : w0.heap.size ≤ g) (hL : ∀ p ∈ L, p.1 ≤ g) : Rel.Up (GX g) (fun x => Has w0 L x) := fun x y h hb =>
  ⟨⟨hb.os.trans h.below.os, hb.tape.trans h.below.tape, hb.output.trans h.below.output, Nat.le_trans h.below.size hb.size, fun k hk => (hb.low k (by omega) (Nat.lt_of_lt_of_le hk h.below.size)).trans (h.below.block k hk)⟩,
   fun p hp => ⟨(h.box p hp).1, by rw [hb.low p.1 (hL p hp) (Array.getElem?_eq_some_iff.1 (h.box p hp).2).1]; exact (h.box p hp).2⟩⟩
theorem relX_load_g {g0 : Nat} {o : Oper} {a : Act} {w : World} {k : Gt} (x : Operand) (ho : o.op = .load 40 x) (g : Nat) (hx : a.eval x = .pointer (some ⟨g, 0, none⟩)) (hg : w.heap[g]? = some (.cells k.cells 40)) :
    Rel.relUpon Tryz.prog (GX g0) (fun v _ => v = k.val) w ((execOp a.eval o).run Tryz.prog w) := by
  unfold execOp
  simp only [ho, hx, Instr.loadAt, Instr.sureAddr, Sem.run_bind, Sem.run_pure, Result.andThen_ok, run_loadVar_row w g 40 40 k.cells (0, 0) _ hg Tryz.underlying40 rfl k.info]
  exact ⟨gx_below (Below.refl _ _), rfl⟩
theorem relX_store_x {g : Nat} {o : Oper} {a : Act} {w : World} (x y : Operand) (ho : o.op = .store 65 x y) (v : Value) (hx : a.eval x = v) (hy : a.eval y = .agg exZ) (hF : FreshX g v w) :
    Rel.relUpon Tryz.prog (GX g) (fun v _ => v = undef) w ((execOp a.eval o).run Tryz.prog w) := by
  obtain ⟨b, Z, rfl, hn, hr, hz⟩ := hF
  have hst := run_storeVar_row w b 65 65 Z exZ hr info70 (by rw [hz]; rfl) exZ_one
  unfold execOp
  simp only [ho, hx, hy, Instr.storeAt, Instr.sureAddr, Sem.run_bind, Sem.run_pure, Result.andThen_ok, hst]
  exact ⟨gx_set hn hr rfl, rfl⟩
theorem Has.of {w0 w : World} {L : List (Nat × Array Value × TypeId)} {g : Nat} {cs : Array Value} {t : TypeId} (h : Has w0 L w) (hg : w0.heap.size ≤ g) (hr : w.heap[g]? = some (.cells cs t)) : Has w0 ((g, cs, t) :: L) w :=
  ⟨h.below, fun p hp => by
    rcases List.mem_cons.1 hp with rfl | hp
    · exact ⟨hg, hr⟩
    · exact h.box p hp⟩
set_option maxRecDepth 8000 in
set_option maxHeartbeats 8000000 in
theorem End_i (c d : Cor) (word : Int) (i : Ins) (k : Gt) (p : Int) (w : World) (hdec : ∀ w : World, Calls Tryz.prog 15 #[.int .u32 word] w fun e w' => e = .returned i.val ∧ Below w.heap.size w w') (F : Fine i) (hr : rightC c = true)
    (V : Wnt) (hV : wantV c i = V) (hk : (V.kind == 15) = false) (hf : k.fault = 0) (hp : IntKind.u64.wrap (c.pc + 4) = p)
    (hdo : ∀ (g : Nat) (w : World), w.heap[g]? = some (.cells (Stp.cells ⟨i, { c with pc := p }, k, 0⟩) 58) → Calls Tryz.prog 54 #[.pointer (some ⟨g, 0, none⟩)] w fun e w' => e = .returned (.tuple #[]) ∧ w'.heap[g]? = some (.cells (Stp.cells ⟨i, d, k, 0⟩) 58) ∧ But g w w') :
    Calls Tryz.prog 13 #[c.val, .int .u32 word, k.val] w fun e w' => e = .returned (.tuple #[d.val, .int .i64 0]) ∧ Below w.heap.size w w' := by
  go_enter Tryz.func13, Tryz.ntmps13
  go_upto_region 1 with fail
  generalize hw1 : ((w.alloc _).alloc _).alloc _ = w1
  obtain ⟨Z, hZ, H⟩ : ∃ Z : Array Value, Z.size = 49 ∧ Has w [(w.heap.size + 2, Z, 26), (w.heap.size + 1, k.cells, 40), (w.heap.size, c.cells, 26)] w1 := by
    refine ⟨_, ?_, by rw [← hw1]; exact three_start w c.cells k.cells _ 26 40 26⟩
    rfl
  clear hw1
  generalize hb : w.heap.size = b at H ⊢
  have hne : ∀ p ∈ [(b + 1, k.cells, (40 : TypeId)), (b, c.cells, (26 : TypeId))], p.1 ≠ b + 2 := by intro p hp; simp at hp; rcases hp with rfl | rfl <;> simp
  go_upto_region 3 with (first | ((with_reducible refine wpList_load_ifA rfl 26 _ rfl b rfl 26 _ (0, 0) _ (H.get (List.mem_cons_of_mem _ (List.mem_cons_of_mem _ List.mem_cons_self))) Tryz.underlying26 rfl (Cor.info _) ?_); simp only [Act.put, List.setIfInBounds_toArray, List.set_cons_succ, List.set_cons_zero]) | (go_at_call 21; refine (Right_c c _).mono ?_; rw [hr]; rintro e w2 ⟨rfl, hB⟩; dsimp only; replace H := H.grow hB))
  refine Rel.wp_region_tail 6 Rel.Grows (fun x => Has w [(b + 2, Z, 26), (b + 1, k.cells, 40), (b, c.cells, 26)] x) [.inl (.int .u32 word), .inl i.val, .inl c.val, .inl k.val, .inl (.agg (Stp.cells ⟨i, c, k, 0⟩)), .inr (FreshS (b + 2))] (by kernel_rfl) (by kernel_rfl) (fun _ _ hh hb => hh.grow hb) (H.grow ⟨rfl, rfl, rfl, Nat.le_refl _, fun _ _ => rfl⟩) (by simp only [List.mem_cons, List.not_mem_nil, or_false]; rintro k hk; rcases hk with rfl | rfl | rfl | rfl | rfl | rfl <;> first | trivial | exact fun v => freshS_up _ v) ?_
  refine ⟨fun w1 hC _ => by go_simp; exact Below.refl _ _, ?_⟩
  simp only [Act.put, List.setIfInBounds_toArray, List.set_cons_succ, List.set_cons_zero]
  refine ⟨fun w1 hC _ => by go_simp; refine (hdec w1).mono ?_; rintro e w2 ⟨rfl, hb⟩; exact ⟨rfl, hb⟩, ?_⟩
  simp only [Act.put, List.setIfInBounds_toArray, List.set_cons_succ, List.set_cons_zero]
  refine ⟨fun w1 hC _ => rel_load_c _ rfl b rfl (hC.get (List.mem_cons_of_mem _ (List.mem_cons_of_mem _ List.mem_cons_self))), ?_⟩
  simp only [Act.put, List.setIfInBounds_toArray, List.set_cons_succ, List.set_cons_zero]
  refine ⟨fun w1 hC _ => rel_load_g _ rfl (b + 1) rfl (hC.get (List.mem_cons_of_mem _ List.mem_cons_self)), ?_⟩
  simp only [Act.put, List.setIfInBounds_toArray, List.set_cons_succ, List.set_cons_zero]
  refine ⟨fun w1 hC _ => rel_built_s _ rfl ⟨i, c, k, 0⟩ [(0, i.val), (1, c.val), (2, k.val)] (by simp only [Array.toList_map, List.map_cons, List.map_nil]; rfl) (built53g _ _ _), ?_⟩
  simp only [Act.put, List.setIfInBounds_toArray, List.set_cons_succ, List.set_cons_zero]
  refine ⟨fun w1 hC _ => ?_, fun vp => ?_⟩
  · go_simp
    exact ⟨r_below_alloc _ _, _, _, rfl, (Array.getElem?_eq_some_iff.1 (hC.get List.mem_cons_self)).1, heap_alloc_new _ _, rfl⟩
  simp only [Act.put, List.setIfInBounds_toArray, List.set_cons_succ, List.set_cons_zero]
  clear H
  intro w3 H hfr
  obtain ⟨g, Zs, rfl, hg, hrow, hZs⟩ := (hfr 5).1 rfl
  clear hfr
  simp only [List.drop_succ_cons, List.drop_zero]
  have hLg : ∀ p ∈ [(b + 2, Z, (26 : TypeId)), (b + 1, k.cells, (40 : TypeId)), (b, c.cells, (26 : TypeId))], p.1 ≠ g := by intro p hp; simp at hp; rcases hp with rfl | rfl | rfl <;> simp <;> omega
  with_reducible refine wpList_store_row rfl 58 _ _ rfl g _ rfl rfl 58 Zs hrow (Stp.info _) ?_ (Stp.one _) ?_
  focus (rw [hZs, Stp.size])
  have hs := setRow_heap w3 g Zs (Stp.cells ⟨i, c, k, 0⟩) 58 (0, 0) hrow
  have H2 := Has.of (H.but (but_setRow g w3 (Stp.cells ⟨i, c, k, 0⟩)) (by omega) hLg) (by omega) hs
  clear H hrow hs
  generalize w3.setRow g _ = w4 at H2 ⊢
  go_upto_region 4 with fail
  have hLe : ∀ p ∈ [(g, Stp.cells ⟨i, c, k, 0⟩, (58 : TypeId)), (b + 2, Z, (26 : TypeId)), (b + 1, k.cells, (40 : TypeId)), (b, c.cells, (26 : TypeId))], p.1 ≤ g := by intro p hp; simp at hp; rcases hp with rfl | rfl | rfl | rfl <;> simp <;> omega
  refine Rel.wp_region_rel (GX g) (fun x => Has w [(g, Stp.cells ⟨i, c, k, 0⟩, 58), (b + 2, Z, 26), (b + 1, k.cells, 40), (b, c.cells, 26)] x) [.inl V.val, .inl k.val, .inl (.pointer (some ⟨b, 38, none⟩)), .inl (.int .i64 c.el), .inl (.tuple #[.agg exZ, .bool false]), .inl (.tuple #[.agg exZ, .bool false]), .inl (.agg exZ), .inl (.bool false), .inr (FreshX g), .inl undef, .inl (.bool false)] (by kernel_rfl) (by kernel_rfl) (has_upX (by omega) hLe) (H2.grow ⟨rfl, rfl, rfl, Nat.le_refl _, fun _ _ => rfl⟩) (by simp only [List.mem_cons, List.not_mem_nil, or_false]; rintro k hk; rcases hk with rfl | rfl | rfl | rfl | rfl | rfl | rfl | rfl | rfl | rfl | rfl <;> first | trivial | exact fun v => freshX_upX _ v) ?_
  refine ⟨fun w1 hC _ => by go_simp; refine (want_c g ⟨i, c, k, 0⟩ w1 (hC.get List.mem_cons_self) F (right_el hr)).mono ?_; rintro e w2 ⟨rfl, hb⟩; first | exact gx_below hb | exact ⟨by rw [← hV], gx_below hb⟩, ?_⟩
  simp only [Act.put, List.setIfInBounds_toArray, List.set_cons_succ, List.set_cons_zero]
  refine ⟨fun w1 hC _ => relX_load_g _ rfl (b + 1) rfl (hC.get (List.mem_cons_of_mem _ (List.mem_cons_of_mem _ List.mem_cons_self))), ?_⟩
  simp only [Act.put, List.setIfInBounds_toArray, List.set_cons_succ, List.set_cons_zero]
  refine ⟨fun w1 hC _ => by go_simp; exact gx_below (Below.refl _ _), ?_⟩
  simp only [Act.put, List.setIfInBounds_toArray, List.set_cons_succ, List.set_cons_zero]
  refine ⟨fun w1 hC _ => by have hq := hC.at (List.mem_cons_of_mem _ (List.mem_cons_of_mem _ (List.mem_cons_of_mem _ List.mem_cons_self))) 38 (.int .i64 c.el) c.a38; go_simp; exact gx_below (Below.refl _ _), ?_⟩
  simp only [Act.put, List.setIfInBounds_toArray, List.set_cons_succ, List.set_cons_zero]
  refine ⟨fun w1 hC _ => by go_simp; refine (exceptionOf_no V k c.el w1 hk hf).mono ?_; rintro e w2 ⟨rfl, hb⟩; first | exact ⟨rfl, gx_below hb⟩ | exact ⟨_, rfl, gx_below hb, rfl⟩, ?_⟩
  simp only [Act.put, List.setIfInBounds_toArray, List.set_cons_succ, List.set_cons_zero]
  refine ⟨fun w1 hC _ => by go_simp; first | exact gx_below (Below.refl _ _) | exact ⟨gx_below (Below.refl _ _), rfl⟩, ?_⟩
  simp only [Act.put, List.setIfInBounds_toArray, List.set_cons_succ, List.set_cons_zero]
  refine ⟨fun w1 hC _ => by go_simp; first | exact gx_below (Below.refl _ _) | exact ⟨gx_below (Below.refl _ _), rfl⟩, ?_⟩
  simp only [Act.put, List.setIfInBounds_toArray, List.set_cons_succ, List.set_cons_zero]
  refine ⟨fun w1 hC _ => by go_simp; first | exact gx_below (Below.refl _ _) | exact ⟨gx_below (Below.refl _ _), rfl⟩, ?_⟩
  simp only [Act.put, List.setIfInBounds_toArray, List.set_cons_succ, List.set_cons_zero]
  refine ⟨fun w1 hC _ => ?_, fun vp => ?_⟩
  · go_simp
    exact ⟨gx_below (r_below_alloc _ _), _, _, rfl, (Array.getElem?_eq_some_iff.1 (hC.get List.mem_cons_self)).1, heap_alloc_new _ _, rfl⟩
  simp only [Act.put, List.setIfInBounds_toArray, List.set_cons_succ, List.set_cons_zero]
  refine ⟨fun w1 hC hF => relX_store_x _ _ rfl vp rfl rfl ((hF 8 (by kernel_rfl)).1 rfl), ?_⟩
  simp only [Act.put]
  refine ⟨fun w1 hC _ => by go_simp; first | exact gx_below (Below.refl _ _) | exact ⟨gx_below (Below.refl _ _), rfl⟩, ?_⟩
  simp only [Act.put, List.setIfInBounds_toArray, List.set_cons_succ, List.set_cons_zero]
  clear H2
  intro w6 H3 hfr
  clear hfr
  have hs := H3.get List.mem_cons_self
  have H : Has w [(b + 2, Z, 26), (b + 1, k.cells, 40), (b, c.cells, 26)] w6 := ⟨H3.below, fun p hp => H3.box p (List.mem_cons_of_mem _ hp)⟩
  clear H3
  go_wp2_with (first | (go_at_call 31; refine (end_c g i c d k p _ hs hp (hdo g)).mono ?_; rintro e w7 ⟨rfl, hB7⟩; dsimp only; replace H := H.but hB7 (by omega) hLg) | ((with_reducible refine wpList_store_over rfl 26 H hne _ _ rfl d.cells rfl rfl (Cor.info _) ?_ (Cor.one _) ?_); (focus (rw [hZ, Cor.size])); intro w9 H; simp only [Act.put]))
  refine bodyPost_ret (back_two rfl _ _ _ _ _ _ rfl (H.get List.mem_cons_self)) rfl ⟨rfl, by first | exact H.below | (rw [← hb]; exact H.below)⟩
end Go.Proofs.YtbjcdpmhmebjnaaGreat
/- Two wants held against each other; Fetch; the chapter's examples: contracts. -/
namespace Go.Proofs.YtbjcdpmhmebjnaaGreat
open Go.RowKit
set_option linter.unusedVariables false

def eqW (a b : Wnt) : Bool := (a.kind == b.kind && (a.addr == b.addr && (a.value == b.value && (a.acq == b.acq && (a.rel == b.rel && (a.fence == b.fence && (a.dsb == b.dsb && (a.sys == b.sys && (a.cls == b.cls && (a.iss == b.iss && true))))))))))
theorem eqW_refl (a : Wnt) : eqW a a = true := by simp [eqW]
theorem fields30 : Tryz.prog.underlying 30 = some (.struct (Tryz.prog.fieldsOf 30)) := by rw [Program.fieldsOf, Tryz.underlying30]
theorem guard30 : Tryz.prog.eqGuardType Tryz.prog.depth 30 = false := by kernel_rfl
theorem stood30 : Tryz.prog.stoodInHeld 30 = false := by kernel_rfl
theorem w_eq (a b : Wnt) (w : World) : (Op.equalIn 10000 30 a.val b.val).run Tryz.prog w = .ok (eqW a b) w := by
  rw [run_equalIn_agg w 9999 30 _ _ fields30 stood30]
  rw [show (Tryz.prog.fieldsOf 30).toList = [⟨"Kind", 3, 0, false, "", "", 0⟩, ⟨"Addr", 22, 1, false, "", "", 8⟩, ⟨"Value", 22, 2, false, "", "", 16⟩, ⟨"Acq", 3, 3, false, "", "", 24⟩, ⟨"Rel", 4, 4, false, "", "", 32⟩, ⟨"Fence", 3, 5, false, "", "", 40⟩, ⟨"Dsb", 4, 6, false, "", "", 48⟩, ⟨"Sys", 3, 7, false, "", "", 56⟩, ⟨"Class", 3, 8, false, "", "", 64⟩, ⟨"Iss", 3, 9, false, "", "", 72⟩] by kernel_rfl]
  have e : eqW a b = (a.kind == b.kind && (a.addr == b.addr && (a.value == b.value && (a.acq == b.acq && (a.rel == b.rel && (a.fence == b.fence && (a.dsb == b.dsb && (a.sys == b.sys && (a.cls == b.cls && (a.iss == b.iss && true)))))))))) := by simp [eqW]
  rw [e]
  refine eqField (r := a.kind == b.kind) w (by decide) ?_ (eqField (r := a.addr == b.addr) w (by decide) ?_ (eqField (r := a.value == b.value) w (by decide) ?_ (eqField (r := a.acq == b.acq) w (by decide) ?_ (eqField (r := a.rel == b.rel) w (by decide) ?_ (eqField (r := a.fence == b.fence) w (by decide) ?_ (eqField (r := a.dsb == b.dsb) w (by decide) ?_ (eqField (r := a.sys == b.sys) w (by decide) ?_ (eqField (r := a.cls == b.cls) w (by decide) ?_ (eqField (r := a.iss == b.iss) w (by decide) ?_ ?_)))))))))
  · simp only [r_part_c 3 (by decide) _ _ _ _ a.a0, r_part_c 3 (by decide) _ _ _ _ b.a0, Result.andThen_ok, run_equalIn_int w 9998 3 .i64 .i64 _ _ Tryz.underlying3]
  · simp only [r_part_c 22 (by decide) _ _ _ _ a.a1, r_part_c 22 (by decide) _ _ _ _ b.a1, Result.andThen_ok, run_equalIn_int w 9998 22 .u64 .u64 _ _ Tryz.underlying22]
  · simp only [r_part_c 22 (by decide) _ _ _ _ a.a2, r_part_c 22 (by decide) _ _ _ _ b.a2, Result.andThen_ok, run_equalIn_int w 9998 22 .u64 .u64 _ _ Tryz.underlying22]
  · simp only [r_part_c 3 (by decide) _ _ _ _ a.a3, r_part_c 3 (by decide) _ _ _ _ b.a3, Result.andThen_ok, run_equalIn_int w 9998 3 .i64 .i64 _ _ Tryz.underlying3]
  · simp only [part_b _ _ _ _ a.a4, part_b _ _ _ _ b.a4, Result.andThen_ok, run_equalIn_bool' w 9998 4 _ _ Tryz.underlying4]
  · simp only [r_part_c 3 (by decide) _ _ _ _ a.a5, r_part_c 3 (by decide) _ _ _ _ b.a5, Result.andThen_ok, run_equalIn_int w 9998 3 .i64 .i64 _ _ Tryz.underlying3]
  · simp only [part_b _ _ _ _ a.a6, part_b _ _ _ _ b.a6, Result.andThen_ok, run_equalIn_bool' w 9998 4 _ _ Tryz.underlying4]
  · simp only [r_part_c 3 (by decide) _ _ _ _ a.a7, r_part_c 3 (by decide) _ _ _ _ b.a7, Result.andThen_ok, run_equalIn_int w 9998 3 .i64 .i64 _ _ Tryz.underlying3]
  · simp only [r_part_c 3 (by decide) _ _ _ _ a.a8, r_part_c 3 (by decide) _ _ _ _ b.a8, Result.andThen_ok, run_equalIn_int w 9998 3 .i64 .i64 _ _ Tryz.underlying3]
  · simp only [r_part_c 3 (by decide) _ _ _ _ a.a9, r_part_c 3 (by decide) _ _ _ _ b.a9, Result.andThen_ok, run_equalIn_int w 9998 3 .i64 .i64 _ _ Tryz.underlying3]
  · simp [Op.eqFields]
theorem wpList_eql_w {ops : Array Oper} {rest : List Oper} {o : Oper} {a : Act} {w : World} {Q : Exit → Act → World → Prop} (hw : Region.wanted o (yielded ops a.tmps) = true) (x y : Operand) (ho : o.op = .binOp .eql 30 x y 30)
    (c d : Wnt) (hx : a.eval x = .agg c.cells) (hy : a.eval y = .agg d.cells) (b : Bool) (hb : eqW c d = b) (h : wpList Tryz.prog ops Q rest (a.put o.dst (.bool b)) w) : wpList Tryz.prog ops Q (o :: rest) a w := by
  refine BigFrame.wpList_want hw fun K hK => ?_
  have he := w_eq c d w
  rw [hb] at he
  unfold Oper.wp execOp
  simp only [ho, hx, hy, Sem.run_bind, run_eqGuard_agg w _ _ _ _ _ _ guard30, Result.andThen_ok, run_eql_struct, he]
  exact hK _ _ h
def fetchV (c : Cor) : Wnt := if rightC c = true then (if c.pc % 4 = 0 then { nilW with kind := 1, addr := c.pc } else { nilW with kind := 15, cls := 34, addr := c.pc }) else nilW
set_option maxRecDepth 4000 in
set_option maxHeartbeats 4000000 in
theorem fetch_c (c : Cor) (hpc : 0 ≤ c.pc) (w : World) :
    Calls Tryz.prog 11 #[c.val] w fun e w' => e = .returned (.tuple #[(fetchV c).val, .int .i64 (errC c)]) ∧ Below w.heap.size w w' := by
  have hm : ∀ n : Int, 0 ≤ n → n.tmod 4 = n % 4 := fun n h => Int.tmod_eq_emod_of_nonneg h
  cases hr : rightC c
  · have ev : fetchV c = nilW := by simp [fetchV, hr]
    have ee : errC c = 1 := by simp [errC, hr]
    rw [ev, ee]
    go_enter Tryz.func11, Tryz.ntmps11
    go_upto_region 1 with fail
    have H := stwo_start w c.cells #[.int .i64 0, .int .u64 0, .int .u64 0, .int .i64 0, .bool false, .int .i64 0, .bool false, .int .i64 0, .int .i64 0, .int .i64 0] 26 30
    generalize hb : w.heap.size = b at H ⊢
    generalize (w.alloc _).alloc _ = w1 at H ⊢
    obtain ⟨Z, hZ, H⟩ : ∃ Z, Z.size = 10 ∧ Has w [(b + 1, Z, 30), (b, c.cells, 26)] w1 := ⟨_, rfl, H⟩
    have hne : ∀ p ∈ [(b, c.cells, (26 : TypeId))], p.1 ≠ b + 1 := one_other (by omega)
    go_wp2_with (first | ((with_reducible refine wpList_load_ifA rfl 26 _ rfl b rfl 26 _ (0, 0) _ (H.get (List.mem_cons_of_mem _ List.mem_cons_self)) Tryz.underlying26 rfl (Cor.info _) ?_); simp only [Act.put, List.setIfInBounds_toArray, List.set_cons_succ, List.set_cons_zero]) | (go_at_call 21; refine (Right_c c _).mono ?_; rw [hr]; rintro e w2 ⟨rfl, hB⟩; dsimp only; replace H := H.grow hB) | ((with_reducible refine wpList_built_w rfl _ rfl nilW (by kernel_rfl) ?_); simp only [Act.put, List.setIfInBounds_toArray, List.set_cons_succ, List.set_cons_zero]) | ((with_reducible refine wpList_store_w rfl _ _ rfl H hne hZ _ rfl rfl ?_); intro w9 H; simp only [Act.put]))
    exact bodyPost_ret (back_wt rfl _ _ _ _ _ _ rfl (H.get List.mem_cons_self)) rfl ⟨rfl, by first | exact H.below | (rw [← hb]; exact H.below)⟩
  · have ee : errC c = 0 := by simp [errC, hr]
    rw [ee]
    by_cases h4 : c.pc % 4 = 0
    · have ev : fetchV c = { nilW with kind := 1, addr := c.pc } := by simp [fetchV, hr, h4]
      have e4 : (c.pc.tmod 4 != 0) = false := by rw [hm _ hpc]; simp [h4]
      rw [ev]
      go_enter Tryz.func11, Tryz.ntmps11
      go_upto_region 1 with fail
      have H := stwo_start w c.cells #[.int .i64 0, .int .u64 0, .int .u64 0, .int .i64 0, .bool false, .int .i64 0, .bool false, .int .i64 0, .int .i64 0, .int .i64 0] 26 30
      generalize hb : w.heap.size = b at H ⊢
      generalize (w.alloc _).alloc _ = w1 at H ⊢
      obtain ⟨Z, hZ, H⟩ : ∃ Z, Z.size = 10 ∧ Has w [(b + 1, Z, 30), (b, c.cells, 26)] w1 := ⟨_, rfl, H⟩
      have hne : ∀ p ∈ [(b, c.cells, (26 : TypeId))], p.1 ≠ b + 1 := one_other (by omega)
      go_upto_region 3 with (first | ((with_reducible refine wpList_load_ifA rfl 26 _ rfl b rfl 26 _ (0, 0) _ (H.get (List.mem_cons_of_mem _ List.mem_cons_self)) Tryz.underlying26 rfl (Cor.info _) ?_); simp only [Act.put, List.setIfInBounds_toArray, List.set_cons_succ, List.set_cons_zero]) | (go_at_call 21; refine (Right_c c _).mono ?_; rw [hr]; rintro e w2 ⟨rfl, hB⟩; dsimp only; replace H := H.grow hB))
      have c33 := H.at (List.mem_cons_of_mem _ List.mem_cons_self) 33 (.int .u64 c.pc) c.a33
      go_wp2_with (first | ((with_reducible refine wpList_built_w rfl _ rfl { nilW with kind := 1, addr := c.pc } (by kernel_rfl) ?_); simp only [Act.put, List.setIfInBounds_toArray, List.set_cons_succ, List.set_cons_zero]) | ((with_reducible refine wpList_store_w rfl _ _ rfl H hne hZ _ rfl rfl ?_); intro w9 H; simp only [Act.put]))
      exact bodyPost_ret (back_wt rfl _ _ _ _ _ _ rfl (H.get List.mem_cons_self)) rfl ⟨rfl, by first | exact H.below | (rw [← hb]; exact H.below)⟩
    · have ev : fetchV c = { nilW with kind := 15, cls := 34, addr := c.pc } := by simp [fetchV, hr, h4]
      have e4 : (c.pc.tmod 4 != 0) = true := by rw [hm _ hpc]; simp [h4]
      rw [ev]
      go_enter Tryz.func11, Tryz.ntmps11
      go_upto_region 1 with fail
      have H := stwo_start w c.cells #[.int .i64 0, .int .u64 0, .int .u64 0, .int .i64 0, .bool false, .int .i64 0, .bool false, .int .i64 0, .int .i64 0, .int .i64 0] 26 30
      generalize hb : w.heap.size = b at H ⊢
      generalize (w.alloc _).alloc _ = w1 at H ⊢
      obtain ⟨Z, hZ, H⟩ : ∃ Z, Z.size = 10 ∧ Has w [(b + 1, Z, 30), (b, c.cells, 26)] w1 := ⟨_, rfl, H⟩
      have hne : ∀ p ∈ [(b, c.cells, (26 : TypeId))], p.1 ≠ b + 1 := one_other (by omega)
      go_upto_region 3 with (first | ((with_reducible refine wpList_load_ifA rfl 26 _ rfl b rfl 26 _ (0, 0) _ (H.get (List.mem_cons_of_mem _ List.mem_cons_self)) Tryz.underlying26 rfl (Cor.info _) ?_); simp only [Act.put, List.setIfInBounds_toArray, List.set_cons_succ, List.set_cons_zero]) | (go_at_call 21; refine (Right_c c _).mono ?_; rw [hr]; rintro e w2 ⟨rfl, hB⟩; dsimp only; replace H := H.grow hB))
      have c33 := H.at (List.mem_cons_of_mem _ List.mem_cons_self) 33 (.int .u64 c.pc) c.a33
      go_wp2_with (first | ((with_reducible refine wpList_built_w rfl _ rfl { nilW with kind := 15, cls := 34, addr := c.pc } (by kernel_rfl) ?_); simp only [Act.put, List.setIfInBounds_toArray, List.set_cons_succ, List.set_cons_zero]) | ((with_reducible refine wpList_store_w rfl _ _ rfl H hne hZ _ rfl rfl ?_); intro w9 H; simp only [Act.put]))
      exact bodyPost_ret (back_wt rfl _ _ _ _ _ _ rfl (H.get List.mem_cons_self)) rfl ⟨rfl, by first | exact H.below | (rw [← hb]; exact H.below)⟩
/-! The examples. -/
def beg0 : Cor := { nilC with pc := 4096, el := 1, mask := true }
def begC : Cor := { beg0 with x := beg0.x.set 1 5 }
theorem beg_set : beg0.cells.setIfInBounds 1 (.int .u64 5) = begC.cells := beg0.setX 1 5 (by decide)
set_option maxRecDepth 4000 in
set_option maxHeartbeats 4000000 in
theorem beg_c (w : World) : Calls Tryz.prog 20 #[] w fun e w' => e = .returned begC.val ∧ Below w.heap.size w w' := by
  go_enter Tryz.func20, Tryz.ntmps20
  go_upto_region 1 with fail
  generalize hw1 : w.alloc _ = w1
  obtain ⟨Z, hZ, H⟩ : ∃ Z : Array Value, Z.size = 49 ∧ Has w [(w.heap.size, Z, 26)] w1 := by
    refine ⟨_, ?_, by rw [← hw1]; exact (has_none w).new 26 _⟩
    rfl
  clear hw1
  generalize hb : w.heap.size = b at H ⊢
  have hlt : b < w1.heap.size := (Array.getElem?_eq_some_iff.1 (H.get List.mem_cons_self)).1
  go_upto_region 2 with (first | ((with_reducible refine wpList_builtG rfl 26 _ rfl beg0.cells (by kernel_rfl) ?_); simp only [Act.put, List.setIfInBounds_toArray, List.set_cons_succ, List.set_cons_zero]) | ((with_reducible refine wpList_store_new H rfl 26 _ _ rfl beg0.cells rfl rfl beg0.info ?_ beg0.one ?_); (focus (rw [Cor.size]; rfl)); intro w2 H; simp only [Act.put]))
  generalize w1.heap.size = z at H hlt ⊢
  have hnz : ∀ p ∈ [(b, Z, (26 : TypeId))], p.1 ≠ z := one_other (by omega)
  have hnb : ∀ p ∈ [(z, begC.cells, (26 : TypeId))], p.1 ≠ b := one_other (by omega)
  have cz := H.at List.mem_cons_self 1 (.int .u64 0) (by kernel_rfl)
  have fz := frozen_of_row _ z 1 _ _ (H.get List.mem_cons_self)
  go_upto_region 3 with ((with_reducible refine wpList_store_int rfl 22 _ _ rfl z 1 .u64 5 rfl rfl (.int .u64 0) cz fz size22 ?_); generalize hw3 : World.setCell _ _ _ = w3; simp only [Act.put])
  have H3 : Has w [(z, begC.cells, 26), (b, Z, 26)] w3 := by
    have := H.setAt hnz 1 (.int .u64 5)
    rw [beg_set, hw3] at this
    exact this
  replace H := H3.swap
  clear H3 hw3 cz fz
  go_wp2_with (first | ((with_reducible refine wpList_load_ifA rfl 26 _ rfl z rfl 26 _ (0, 0) _ (H.get (List.mem_cons_of_mem _ List.mem_cons_self)) Tryz.underlying26 rfl begC.info ?_); simp only [Act.put, List.setIfInBounds_toArray, List.set_cons_succ, List.set_cons_zero]) | ((with_reducible refine wpList_store_over rfl 26 H hnb _ _ rfl begC.cells rfl rfl begC.info ?_ begC.one ?_); (focus (rw [hZ, Cor.size])); intro w9 H; simp only [Act.put]))
  exact bodyPost_ret (back_one rfl _ _ _ _ _ _ rfl (H.get List.mem_cons_self)) rfl ⟨rfl, by first | exact H.below | (rw [← hb]; exact H.below)⟩
end Go.Proofs.YtbjcdpmhmebjnaaGreat
/- The chapter's examples are so: examples answers true. -/
namespace Go.Proofs.YtbjcdpmhmebjnaaGreat
open Go.RowKit
set_option linter.unusedVariables false

def i1 : Ins := ⟨1, 0, 0, 1, 0, 0, 1, 0, 0, 0, 0, 0, false, false, false, false⟩
def i2 : Ins := ⟨17, 0, 0, 1, 0, 0, 0, 0, 0, 0, 0, 0, false, false, false, false⟩
def i3 : Ins := ⟨17, 0, 0, 0, 0, 0, 0, 0, 0, 0, 0, 0, false, false, false, false⟩
theorem dec1 : decV 2432697376 = i1 := by kernel_rfl
theorem dec2 : decV 4181721120 = i2 := by kernel_rfl
theorem dec3 : decV 4181721088 = i3 := by kernel_rfl
theorem w1in : W32 2432697376 := ⟨by decide, by decide⟩
theorem w2in : W32 4181721120 := ⟨by decide, by decide⟩
theorem w3in : W32 4181721088 := ⟨by decide, by decide⟩
def v2 : Wnt := { nilW with kind := 15, cls := 37, iss := 33, addr := 5 }
def v3 : Wnt := { nilW with kind := 1 }
def v6 : Wnt := { nilW with kind := 1, addr := 4096 }
theorem beg_right : rightC begC = true := by kernel_rfl
theorem want1 : wantV begC i1 = nilW := by kernel_rfl
theorem want2 : wantV begC i2 = v2 := by kernel_rfl
theorem want3 : wantV begC i3 = v3 := by kernel_rfl
theorem exb1 (w : World) : Calls Tryz.prog 9 #[begC.val, .int .u32 2432697376] w fun e w' => e = .returned (.tuple #[nilW.val, .int .i64 0]) ∧ Below w.heap.size w w' := by
  have := begin_yes begC 2432697376 w1in beg_right w
  rwa [dec1, want1] at this
theorem exb2 (w : World) : Calls Tryz.prog 9 #[begC.val, .int .u32 4181721120] w fun e w' => e = .returned (.tuple #[v2.val, .int .i64 0]) ∧ Below w.heap.size w w' := by
  have := begin_yes begC 4181721120 w2in beg_right w
  rwa [dec2, want2] at this
theorem exb3 (w : World) : Calls Tryz.prog 9 #[begC.val, .int .u32 4181721088] w fun e w' => e = .returned (.tuple #[v3.val, .int .i64 0]) ∧ Below w.heap.size w w' := by
  have := begin_yes begC 4181721088 w3in beg_right w
  rwa [dec3, want3] at this
def begN : Cor := { begC with pc := 4100 }
def d1 : Cor := pregV begN 0 6
def d2 : Cor := setXV begN 0 9
def got9 : Gt := ⟨9, false, 0⟩
theorem exe1 (w : World) : Calls Tryz.prog 13 #[begC.val, .int .u32 2432697376, nilG.val] w fun e w' => e = .returned (.tuple #[d1.val, .int .i64 0]) ∧ Below w.heap.size w w' :=
  End_i begC d1 2432697376 i1 nilG 4100 w (fun w => by have := decode_c 2432697376 w1in w; rwa [dec1] at this) (by have := dec_fine w1in; rwa [dec1] at this) beg_right nilW want1 rfl rfl (by kernel_rfl)
    (fun g w h => do_some g ⟨i1, begN, nilG, 0⟩ ⟨i1, d1, nilG, 0⟩ w h 1 (by decide) rfl 126 rfl (enters Tryz.func126 (by kernel_rfl) (by kernel_rfl))
      (fun w h => addImm_va g i1 begN d1 nilG 0 5 1 1 6 w h rfl rfl rfl (by kernel_rfl) (by kernel_rfl) (by kernel_rfl) (by kernel_rfl) rfl ⟨by decide, by decide⟩ ⟨by decide, by decide⟩))
theorem exe2 (w : World) : Calls Tryz.prog 13 #[begC.val, .int .u32 4181721088, got9.val] w fun e w' => e = .returned (.tuple #[d2.val, .int .i64 0]) ∧ Below w.heap.size w w' :=
  End_i begC d2 4181721088 i3 got9 4100 w (fun w => by have := decode_c 4181721088 w3in w; rwa [dec3] at this) (by have := dec_fine w3in; rwa [dec3] at this) beg_right v3 want3 rfl rfl (by kernel_rfl)
    (fun g w h => do_some g ⟨i3, begN, got9, 0⟩ ⟨i3, d2, got9, 0⟩ w h 17 (by decide) rfl 142 rfl (enters Tryz.func142 (by kernel_rfl) (by kernel_rfl)) (fun w h => loaded_c g i3 begN got9 0 w h))
theorem exf (w : World) : Calls Tryz.prog 11 #[begC.val] w fun e w' => e = .returned (.tuple #[v6.val, .int .i64 0]) ∧ Below w.heap.size w w' := by
  have := fetch_c begC (by decide) w
  rwa [show fetchV begC = v6 by kernel_rfl, show errC begC = 0 by kernel_rfl] at this
set_option maxRecDepth 8000 in
set_option maxHeartbeats 8000000 in
theorem examples_c (w : World) : Calls Tryz.prog 8 #[] w fun e w' => e = .returned (.bool true) ∧ Below w.heap.size w w' := by
  go_enter Tryz.func8, Tryz.ntmps8
  have H := has_none w
  go_upto_region 2 with (first | (go_at_call 20; refine (beg_c _).mono ?_; rintro e wa ⟨rfl, hB⟩; dsimp only; replace H := H.grow hB) | (go_at_call 9; refine (exb1 _).mono ?_; rintro e wa ⟨rfl, hB⟩; dsimp only; replace H := H.grow hB) | ((with_reducible refine wpList_store_new H rfl 30 _ _ rfl nilW.cells rfl rfl (Wnt.info _) ?_ (Wnt.one _) ?_); (focus rfl); intro wb H; simp only [Act.put]))
  generalize wa.heap.size = t1 at H ⊢
  go_upto_region 3 with (first | (go_at_call 20; refine (beg_c _).mono ?_; rintro e wa ⟨rfl, hB⟩; dsimp only; replace H := H.grow hB) | ((with_reducible refine wpList_builtG rfl 40 _ rfl nilG.cells (by kernel_rfl) ?_); simp only [Act.put, List.setIfInBounds_toArray, List.set_cons_succ, List.set_cons_zero]) | (go_at_call 13; refine (exe1 _).mono ?_; rintro e wa ⟨rfl, hB⟩; dsimp only; replace H := H.grow hB) | ((with_reducible refine wpList_store_new H rfl 26 _ _ rfl d1.cells rfl rfl (Cor.info _) ?_ (Cor.one _) ?_); (focus (rw [Cor.size]; rfl)); intro wb H; simp only [Act.put]))
  generalize wa.heap.size = t3 at H ⊢
  go_upto_region 4 with (first | (go_at_call 20; refine (beg_c _).mono ?_; rintro e wa ⟨rfl, hB⟩; dsimp only; replace H := H.grow hB) | (go_at_call 9; refine (exb2 _).mono ?_; rintro e wa ⟨rfl, hB⟩; dsimp only; replace H := H.grow hB) | ((with_reducible refine wpList_store_new H rfl 30 _ _ rfl v2.cells rfl rfl (Wnt.info _) ?_ (Wnt.one _) ?_); (focus rfl); intro wb H; simp only [Act.put]))
  generalize wa.heap.size = t5 at H ⊢
  go_upto_region 5 with (first | (go_at_call 20; refine (beg_c _).mono ?_; rintro e wa ⟨rfl, hB⟩; dsimp only; replace H := H.grow hB) | (go_at_call 9; refine (exb3 _).mono ?_; rintro e wa ⟨rfl, hB⟩; dsimp only; replace H := H.grow hB) | ((with_reducible refine wpList_store_new H rfl 30 _ _ rfl v3.cells rfl rfl (Wnt.info _) ?_ (Wnt.one _) ?_); (focus rfl); intro wb H; simp only [Act.put]))
  generalize wa.heap.size = t7 at H ⊢
  go_upto_region 6 with (first | (go_at_call 20; refine (beg_c _).mono ?_; rintro e wa ⟨rfl, hB⟩; dsimp only; replace H := H.grow hB) | ((with_reducible refine wpList_builtG rfl 40 _ rfl got9.cells (by kernel_rfl) ?_); simp only [Act.put, List.setIfInBounds_toArray, List.set_cons_succ, List.set_cons_zero]) | (go_at_call 13; refine (exe2 _).mono ?_; rintro e wa ⟨rfl, hB⟩; dsimp only; replace H := H.grow hB) | ((with_reducible refine wpList_store_new H rfl 26 _ _ rfl d2.cells rfl rfl (Cor.info _) ?_ (Cor.one _) ?_); (focus (rw [Cor.size]; rfl)); intro wb H; simp only [Act.put]))
  generalize wa.heap.size = t9 at H ⊢
  go_upto_region 7 with (first | (go_at_call 20; refine (beg_c _).mono ?_; rintro e wa ⟨rfl, hB⟩; dsimp only; replace H := H.grow hB) | (go_at_call 11; refine (exf _).mono ?_; rintro e wa ⟨rfl, hB⟩; dsimp only; replace H := H.grow hB) | ((with_reducible refine wpList_store_new H rfl 30 _ _ rfl v6.cells rfl rfl (Wnt.info _) ?_ (Wnt.one _) ?_); (focus rfl); intro wb H; simp only [Act.put]))
  generalize wa.heap.size = t11 at H ⊢
  have x3 := H.at (b := t3) (t := 26) (c := d1.cells) (List.mem_cons_of_mem _ (List.mem_cons_of_mem _ (List.mem_cons_of_mem _ (List.mem_cons_of_mem _ List.mem_cons_self)))) 0 (.int .u64 6) (by kernel_rfl)
  have p3 := H.at (b := t3) (t := 26) (c := d1.cells) (List.mem_cons_of_mem _ (List.mem_cons_of_mem _ (List.mem_cons_of_mem _ (List.mem_cons_of_mem _ List.mem_cons_self)))) 33 (.int .u64 4100) (by kernel_rfl)
  have x9 := H.at (b := t9) (t := 26) (c := d2.cells) (List.mem_cons_of_mem _ List.mem_cons_self) 0 (.int .u64 9) (by kernel_rfl)
  go_wp2_with (first | ((with_reducible refine wpList_load_ifA rfl 30 _ rfl t1 rfl 30 _ (0, 0) _ (H.get (List.mem_cons_of_mem _ (List.mem_cons_of_mem _ (List.mem_cons_of_mem _ (List.mem_cons_of_mem _ (List.mem_cons_of_mem _ List.mem_cons_self)))))) Tryz.underlying30 rfl (Wnt.info _) ?_); simp only [Act.put, List.setIfInBounds_toArray, List.set_cons_succ, List.set_cons_zero]) | ((with_reducible refine wpList_load_ifA rfl 30 _ rfl t5 rfl 30 _ (0, 0) _ (H.get (List.mem_cons_of_mem _ (List.mem_cons_of_mem _ (List.mem_cons_of_mem _ List.mem_cons_self)))) Tryz.underlying30 rfl (Wnt.info _) ?_); simp only [Act.put, List.setIfInBounds_toArray, List.set_cons_succ, List.set_cons_zero]) | ((with_reducible refine wpList_load_ifA rfl 30 _ rfl t7 rfl 30 _ (0, 0) _ (H.get (List.mem_cons_of_mem _ (List.mem_cons_of_mem _ List.mem_cons_self))) Tryz.underlying30 rfl (Wnt.info _) ?_); simp only [Act.put, List.setIfInBounds_toArray, List.set_cons_succ, List.set_cons_zero]) | ((with_reducible refine wpList_load_ifA rfl 30 _ rfl t11 rfl 30 _ (0, 0) _ (H.get List.mem_cons_self) Tryz.underlying30 rfl (Wnt.info _) ?_); simp only [Act.put, List.setIfInBounds_toArray, List.set_cons_succ, List.set_cons_zero]) | ((with_reducible refine wpList_built_w rfl #[] rfl nilW (by kernel_rfl) ?_); simp only [Act.put, List.setIfInBounds_toArray, List.set_cons_succ, List.set_cons_zero]) | ((with_reducible refine wpList_built_w rfl #[(0, .const (.int .i64 15)), (8, .const (.int .i64 37)), (9, .const (.int .i64 33)), (1, .const (.int .u64 5))] rfl v2 (by kernel_rfl) ?_); simp only [Act.put, List.setIfInBounds_toArray, List.set_cons_succ, List.set_cons_zero]) | ((with_reducible refine wpList_built_w rfl #[(0, .const (.int .i64 1))] rfl v3 (by kernel_rfl) ?_); simp only [Act.put, List.setIfInBounds_toArray, List.set_cons_succ, List.set_cons_zero]) | ((with_reducible refine wpList_built_w rfl #[(0, .const (.int .i64 1)), (1, .const (.int .u64 4096))] rfl v6 (by kernel_rfl) ?_); simp only [Act.put, List.setIfInBounds_toArray, List.set_cons_succ, List.set_cons_zero]) | ((with_reducible refine wpList_eql_w rfl _ _ rfl _ _ rfl rfl true (eqW_refl _) ?_); simp only [Act.put, List.setIfInBounds_toArray, List.set_cons_succ, List.set_cons_zero]))
  go_ret
  exact ⟨rfl, H.below⟩
end Go.Proofs.YtbjcdpmhmebjnaaGreat
/- Whether an instruction reads or writes flags, and whether a block ends behind it, as package insn and the document's own answer tell: contracts, for every instruction. -/
namespace Go.Proofs.YtbjcdpmhmebjnaaGreat
open Go.RowKit Go.Rel

/-- One cell read. -/
theorem wpList_load_cellF {ops : Array Oper} {rest : List Oper} {o : Oper} {a : Act} {w : World} {Q : Exit → Act → World → Prop} (hw : Region.wanted o (yielded ops a.tmps) = true) (ty : TypeId) (x : Operand) (ho : o.op = .load ty x)
    (g j : Nat) (hx : a.eval x = .pointer (some ⟨g, j, none⟩)) (v : Value) (hc : w.cell? ⟨g, j, none⟩ = some v) (ha : (isAgg ty).run Tryz.prog w = .ok false w)
    (h : wpList Tryz.prog ops Q rest (a.put o.dst v) w) : wpList Tryz.prog ops Q (o :: rest) a w := by
  refine BigFrame.wpList_want hw fun K hK => ?_
  unfold Oper.wp execOp
  have hl : (loadVar ty ⟨g, j, none⟩).run Tryz.prog w = .ok v w := by
    go_simp
  simp only [ho, hx, Instr.loadAt, Instr.sureAddr, Sem.run_bind, Sem.run_pure, Result.andThen_ok, hl]
  exact hK _ _ h
theorem agg4F (w : World) : (isAgg 4).run Tryz.prog w = .ok false w := by simp [isAgg, run_underlying Tryz.underlying4]
theorem agg3F (w : World) : (isAgg 3).run Tryz.prog w = .ok false w := by simp [isAgg, run_underlying Tryz.underlying3]
theorem One.at {i : Ins} {w0 w : World} (h : One i w0 w) (k : Nat) (v : Value) (hv : i.cells[k]? = some v) : w.cell? ⟨w0.heap.size, k, none⟩ = some v := by
  show (match w.heap[w0.heap.size]? with | some (.cells c _ _) => if Option.isSome (α := VarRef) none then none else c[k]? | _ => none) = some v
  rw [h.box]
  exact hv
def flag1 (i : Ins) : Bool := i.op == 10 || i.op == 13 || (i.op == 31 && i.sys == 23056)
def flag2 (i : Ins) : Bool := i.flags || (i.op == 32 && i.sys == 23056)
theorem no_flags {i : Ins} (R : rightB i = true) (h : flagsR i.op i.sub = false) : i.flags = false := by
  simp only [rightB, signsB, Bool.and_eq_true] at R
  obtain ⟨-, ⟨⟨-, ⟨⟨⟨hf, -⟩, -⟩, -⟩⟩, -⟩, -⟩ := R
  rw [h] at hf
  simpa using hf
theorem ret_bbF {a b c d : Bool} (h : a = b) (h' : c = d) : Ending.returned (.tuple #[.bool a, .bool c]) = .returned (.tuple #[.bool b, .bool d]) := by rw [h, h']
end Go.Proofs.YtbjcdpmhmebjnaaGreat
/- Whether an instruction reads or writes flags, as package insn tells: a contract, for every instruction. -/
namespace Go.Proofs.YtbjcdpmhmebjnaaGreat
open Go.RowKit Go.Rel
set_option maxRecDepth 8000 in
set_option maxHeartbeats 4000000 in
theorem Flags_c (i : Ins) (w : World) : Calls Tryz.prog 18 #[i.val] w fun e w' => e = .returned (.tuple #[.bool (rightB i && flag1 i), .bool (rightB i && flag2 i)]) ∧ Below w.heap.size w w' := by
  have H1 := one_start i w
  cases hR : rightB i
  · go_enter Tryz.func18, Tryz.ntmps18
    repeat' (first | with_reducible refine then_exit ?_ | with_reducible refine then_normal ?_ | with_reducible refine inBlock_eq ?_ | with_reducible refine inBlock_ne rfl ?_ | with_reducible refine inBlock_normal ?_ | (refine wpList_load_if rfl 47 _ rfl w.heap.size rfl 47 _ (0, 0) _ H1.box Tryz.underlying47 rfl (by kernel_rfl) ?_; simp only [Act.put, List.setIfInBounds_toArray, List.set_cons_succ, List.set_cons_zero]) | (go_at_call 37; refine (right_c i _).mono ?_; rw [hR]; rintro e w2 ⟨rfl, hb2⟩; replace H1 := H1.grow hb2; clear hb2; dsimp only) | go_step)
    go_ret2
    exact ⟨rfl, H1.below⟩
  · go_enter Tryz.func18, Tryz.ntmps18
    go_upto_region 3 with (first | (refine wpList_load_if rfl 47 _ rfl w.heap.size rfl 47 _ (0, 0) _ H1.box Tryz.underlying47 rfl (by kernel_rfl) ?_; simp only [Act.put, List.setIfInBounds_toArray, List.set_cons_succ, List.set_cons_zero]) | (go_at_call 37; refine (right_c i _).mono ?_; rw [hR]; rintro e w2 ⟨rfl, hb2⟩; replace H1 := H1.grow hb2; clear hb2; dsimp only))
    by_cases c10 : i.op = 10
    · have n10 : (i.op == 10) = true := by simpa using c10
      have nf : i.flags = false := no_flags hR (by rw [c10]; rfl)
      have n13 : (i.op == 13) = false := by rw [c10]; rfl
      have n31 : (i.op == 31) = false := by rw [c10]; rfl
      have n32 : (i.op == 32) = false := by rw [c10]; rfl
      have hE : Hid (true = (true && flag1 i) ∧ false = (true && flag2 i)) := by show _ ∧ _; simp [flag1, flag2, *]
      clear c10
      repeat' (first | with_reducible refine then_exit ?_ | with_reducible refine then_normal ?_ | with_reducible refine inBlock_eq ?_ | with_reducible refine inBlock_ne rfl ?_ | with_reducible refine inBlock_normal ?_ | ((with_reducible refine wpList_load_cellF rfl 3 _ rfl _ _ rfl _ (H1.at _ _ rfl) (agg3F _) ?_); simp only [Act.put, List.setIfInBounds_toArray, List.set_cons_succ, List.set_cons_zero]) | ((with_reducible refine wpList_load_cellF rfl 4 _ rfl _ _ rfl _ (H1.at _ _ rfl) (agg4F _) ?_); simp only [Act.put, List.setIfInBounds_toArray, List.set_cons_succ, List.set_cons_zero]) | go_step)
      all_goals (go_ret2; exact ⟨ret_bbF hE.out.1 hE.out.2, H1.below⟩)
    by_cases c13 : i.op = 13
    · have n10 : (i.op == 10) = false := by rw [c13]; rfl
      have nf : i.flags = false := no_flags hR (by rw [c13]; rfl)
      have n13 : (i.op == 13) = true := by simpa using c13
      have n31 : (i.op == 31) = false := by rw [c13]; rfl
      have n32 : (i.op == 32) = false := by rw [c13]; rfl
      have hE : Hid (true = (true && flag1 i) ∧ false = (true && flag2 i)) := by show _ ∧ _; simp [flag1, flag2, *]
      clear c13 c10
      repeat' (first | with_reducible refine then_exit ?_ | with_reducible refine then_normal ?_ | with_reducible refine inBlock_eq ?_ | with_reducible refine inBlock_ne rfl ?_ | with_reducible refine inBlock_normal ?_ | ((with_reducible refine wpList_load_cellF rfl 3 _ rfl _ _ rfl _ (H1.at _ _ rfl) (agg3F _) ?_); simp only [Act.put, List.setIfInBounds_toArray, List.set_cons_succ, List.set_cons_zero]) | ((with_reducible refine wpList_load_cellF rfl 4 _ rfl _ _ rfl _ (H1.at _ _ rfl) (agg4F _) ?_); simp only [Act.put, List.setIfInBounds_toArray, List.set_cons_succ, List.set_cons_zero]) | go_step)
      all_goals (go_ret2; exact ⟨ret_bbF hE.out.1 hE.out.2, H1.below⟩)
    have n10 : (i.op == 10) = false := by simpa using c10
    have n13 : (i.op == 13) = false := by simpa using c13
    clear c10 c13
    by_cases c31 : i.op = 31
    · have n31 : (i.op == 31) = true := by simpa using c31
      have nf : i.flags = false := no_flags hR (by rw [c31]; rfl)
      have n32 : (i.op == 32) = false := by rw [c31]; rfl
      clear c31
      cases hs : i.sys == 23056
      · have hE : Hid (false = (true && flag1 i) ∧ false = (true && flag2 i)) := by show _ ∧ _; simp [flag1, flag2, *]
        repeat' (first | with_reducible refine then_exit ?_ | with_reducible refine then_normal ?_ | with_reducible refine inBlock_eq ?_ | with_reducible refine inBlock_ne rfl ?_ | with_reducible refine inBlock_normal ?_ | ((with_reducible refine wpList_load_cellF rfl 3 _ rfl _ _ rfl _ (H1.at _ _ rfl) (agg3F _) ?_); simp only [Act.put, List.setIfInBounds_toArray, List.set_cons_succ, List.set_cons_zero]) | ((with_reducible refine wpList_load_cellF rfl 4 _ rfl _ _ rfl _ (H1.at _ _ rfl) (agg4F _) ?_); simp only [Act.put, List.setIfInBounds_toArray, List.set_cons_succ, List.set_cons_zero]) | go_step)
        all_goals (go_ret2; exact ⟨ret_bbF hE.out.1 hE.out.2, H1.below⟩)
      · have hE : Hid (true = (true && flag1 i) ∧ false = (true && flag2 i)) := by show _ ∧ _; simp [flag1, flag2, *]
        repeat' (first | with_reducible refine then_exit ?_ | with_reducible refine then_normal ?_ | with_reducible refine inBlock_eq ?_ | with_reducible refine inBlock_ne rfl ?_ | with_reducible refine inBlock_normal ?_ | ((with_reducible refine wpList_load_cellF rfl 3 _ rfl _ _ rfl _ (H1.at _ _ rfl) (agg3F _) ?_); simp only [Act.put, List.setIfInBounds_toArray, List.set_cons_succ, List.set_cons_zero]) | ((with_reducible refine wpList_load_cellF rfl 4 _ rfl _ _ rfl _ (H1.at _ _ rfl) (agg4F _) ?_); simp only [Act.put, List.setIfInBounds_toArray, List.set_cons_succ, List.set_cons_zero]) | go_step)
        all_goals (go_ret2; exact ⟨ret_bbF hE.out.1 hE.out.2, H1.below⟩)
    by_cases c32 : i.op = 32
    · have n31 : (i.op == 31) = false := by rw [c32]; rfl
      have nf : i.flags = false := no_flags hR (by rw [c32]; rfl)
      have n32 : (i.op == 32) = true := by simpa using c32
      clear c32 c31
      cases hs : i.sys == 23056
      · have hE : Hid (false = (true && flag1 i) ∧ false = (true && flag2 i)) := by show _ ∧ _; simp [flag1, flag2, *]
        repeat' (first | with_reducible refine then_exit ?_ | with_reducible refine then_normal ?_ | with_reducible refine inBlock_eq ?_ | with_reducible refine inBlock_ne rfl ?_ | with_reducible refine inBlock_normal ?_ | ((with_reducible refine wpList_load_cellF rfl 3 _ rfl _ _ rfl _ (H1.at _ _ rfl) (agg3F _) ?_); simp only [Act.put, List.setIfInBounds_toArray, List.set_cons_succ, List.set_cons_zero]) | ((with_reducible refine wpList_load_cellF rfl 4 _ rfl _ _ rfl _ (H1.at _ _ rfl) (agg4F _) ?_); simp only [Act.put, List.setIfInBounds_toArray, List.set_cons_succ, List.set_cons_zero]) | go_step)
        all_goals (go_ret2; exact ⟨ret_bbF hE.out.1 hE.out.2, H1.below⟩)
      · have hE : Hid (false = (true && flag1 i) ∧ true = (true && flag2 i)) := by show _ ∧ _; simp [flag1, flag2, *]
        repeat' (first | with_reducible refine then_exit ?_ | with_reducible refine then_normal ?_ | with_reducible refine inBlock_eq ?_ | with_reducible refine inBlock_ne rfl ?_ | with_reducible refine inBlock_normal ?_ | ((with_reducible refine wpList_load_cellF rfl 3 _ rfl _ _ rfl _ (H1.at _ _ rfl) (agg3F _) ?_); simp only [Act.put, List.setIfInBounds_toArray, List.set_cons_succ, List.set_cons_zero]) | ((with_reducible refine wpList_load_cellF rfl 4 _ rfl _ _ rfl _ (H1.at _ _ rfl) (agg4F _) ?_); simp only [Act.put, List.setIfInBounds_toArray, List.set_cons_succ, List.set_cons_zero]) | go_step)
        all_goals (go_ret2; exact ⟨ret_bbF hE.out.1 hE.out.2, H1.below⟩)
    have n31 : (i.op == 31) = false := by simpa using c31
    have n32 : (i.op == 32) = false := by simpa using c32
    clear c31 c32
    have hE : Hid (false = (true && flag1 i) ∧ i.flags = (true && flag2 i)) := by show _ ∧ _; simp [flag1, flag2, *]
    repeat' (first | with_reducible refine then_exit ?_ | with_reducible refine then_normal ?_ | with_reducible refine inBlock_eq ?_ | with_reducible refine inBlock_ne rfl ?_ | with_reducible refine inBlock_normal ?_ | ((with_reducible refine wpList_load_cellF rfl 3 _ rfl _ _ rfl _ (H1.at _ _ rfl) (agg3F _) ?_); simp only [Act.put, List.setIfInBounds_toArray, List.set_cons_succ, List.set_cons_zero]) | ((with_reducible refine wpList_load_cellF rfl 4 _ rfl _ _ rfl _ (H1.at _ _ rfl) (agg4F _) ?_); simp only [Act.put, List.setIfInBounds_toArray, List.set_cons_succ, List.set_cons_zero]) | go_step)
    have hc := H1.at 12 (.bool i.flags) rfl
    go_quiet (fail)
    go_wp2
    all_goals (go_ret2; exact ⟨ret_bbF hE.out.1 hE.out.2, below_draws H1.below⟩)
end Go.Proofs.YtbjcdpmhmebjnaaGreat
