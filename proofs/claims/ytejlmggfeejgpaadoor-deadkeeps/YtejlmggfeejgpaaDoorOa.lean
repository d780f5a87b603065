/- What leaves and what fences is kept. -/
import Derived.Test.YtejlmggfeejgpaaDoorXo
import Derived.Test.YtejlmggfeejgpaaDoorMb
import Derived.Deep.AppendLies
namespace Go.Proofs.YtejlmggfeejgpaaDoor
open Go.RowKit
set_option linter.unusedVariables false
set_option linter.unusedSimpArgs false
set_option maxRecDepth 8000

def isKept (o : Opr) : Bool := hasP o.kind 64 || o.kind == 13
def zeroO (o : Opr) : Opr := { o with a := 0, b := 0 }
/-- What leaves and what fences, without the places it uses. -/
def keptL (l : List Opr) : List Opr := (l.filter isKept).map zeroO
theorem kept_snoc (m : List Opr) (o : Opr) : keptL (m ++ [o]) = keptL m ++ (if isKept o = true then [zeroO o] else []) := by
  unfold keptL
  rw [List.filter_append, List.map_append]
  congr 1
  cases h : isKept o <;> simp [h]
theorem take_snoc {l : List Opr} {k : Nat} (hk : k < l.length) : l.take (k + 1) = l.take k ++ [opAt l k] := by
  rw [List.take_add_one]
  unfold opAt
  rw [List.getElem?_eq_getElem hk]
  rfl
theorem kept_le (l : List Opr) : (keptL l).length ≤ l.length := by
  unfold keptL
  rw [List.length_map]
  exact List.length_filter_le _ _
section
variable {pc words el : Int}
theorem kept_keep {l : List Opr} (hR : rightB pc words el l = true) : ∀ k, k ≤ l.length → keptL (keepF l (seenAt l) k) = keptL (l.take k)
  | 0, _ => rfl
  | k + 1, hk => by
    have ih := kept_keep hR k (by omega)
    rw [take_snoc (show k < l.length by omega), kept_snoc]
    cases hs : seenAt l k with
    | true =>
      rw [keep_on hs, kept_snoc, ih]
      rfl
    | false =>
      have hno : isKept (opAt l k) = false := by
        cases e : isKept (opAt l k) with
        | false => rfl
        | true =>
          unfold isKept at e
          rw [Bool.or_eq_true, beq_iff_eq] at e
          have := seen_leaves hR (show k < l.length by omega) e
          rw [hs] at this; cases this
      rw [keep_off hs, ih, hno]
      simp
theorem kept_only {l : List Opr} (hR : rightB pc words el l = true) : keptL (onlyL l) = keptL l := by
  have := kept_keep hR l.length (Nat.le_refl _)
  rw [List.take_length] at this
  exact this
theorem kept_deadF : ∀ (f : Nat) (l : List Opr), rightB pc words el l = true → keptL (deadF f l) = keptL l
  | 0, l, _ => rfl
  | f + 1, l, h => by
    unfold deadF
    split
    · rfl
    · rw [kept_deadF f (onlyL l) (only_right h), kept_only h]
theorem kept_dead {l : List Opr} (hR : rightB pc words el l = true) : keptL (deadL l) = keptL l := kept_deadF _ l hR
theorem all_seen {l : List Opr} (h : allSeen l = true) {k : Nat} (hk : k < l.length) : seenAt l k = true := by
  unfold allSeen at h
  rw [List.all_eq_true] at h
  exact h k (List.mem_range.2 hk)
end
theorem wpList_appO {ops : Array Oper} {rest : List Oper} {p : Oper} {a : Act} {w : World} {Q : Exit → Act → World → Prop} (hg : p.guard = none) (s x : Operand) (ho : p.op = .call { callee := .builtin .append, args := #[s, x], argTypes := #[23, 23] }) {base N n : Nat} {v : Value} {l : List Opr} {o : Opr} (hn : l.length = n) (hs : a.eval s = v) (hx : a.eval x = .slice (some ⟨N, 0, none⟩) 1 1) (hc : w.heap[N]? = some (.cells (opA o) 33)) (O : w.ownsRow base 33 6 v n (opF l)) (hl : n ≤ 100000) (hbase : base ≤ w.heap.size)
    (h : ∀ g cap w', w'.ownsRow base 33 6 (.slice (some ⟨g, 0, none⟩) (n + 1) cap) (n + 1) (opF (l ++ [o])) → Goes (fun k => v.ownBlock = some k) w w' → (v.ownBlock = some g ∨ g = w.heap.size) → wpList Tryd.prog ops Q rest (a.put p.dst (.slice (some ⟨g, 0, none⟩) (n + 1) cap)) w') : wpList Tryd.prog ops Q (p :: rest) a w := by
  subst hn
  exact wpList_plain hg fun _ hK => by
    obtain ⟨i, hi, hz, hsz, hby⟩ := info_parts info42
    obtain ⟨g, cap, w', hr, q1, q2, q3, _⟩ := run_append_lies (P := Tryd.prog) (w := w) 23 p.type base 33 i (opV nilO) 6 48 Tryd.underlying23 hi hz hsz hby rfl (by decide) v l.length (opF l) O ⟨N, 0, none⟩ 1 1 (opA o).toList rfl (fun j u hj => by
      rw [Addr.add_mid, Nat.zero_add, cell_of_row _ _ _ _ _ _ hc]
      rwa [Array.getElem?_toList] at hj) (by simp [Value.oneCell']) (by decide) (by simp only [maxLen]; omega) (by omega) hbase w.heap.size rfl
    unfold Oper.wp execOp
    simp only [ho, resolve, invoke, builtin, Sem.run_bind, Sem.run_pure, Result.andThen_ok, List.map_toArray, List.map_cons, List.map_nil, hs, hx, hr]
    exact hK _ _ (h g cap w' (by rw [opF_snoc]; exact q1) (goes_grown q2 (fun k hk => hk)) q3)
/-- What kept holds. -/
structure KpW (w : World) (pc words el : Int) (v : Value) (l : List Opr) (b1 B0 : Nat) (k : Nat) (uv : Value) (x : World) : Prop where
  r1 : x.heap[b1]? = some (.cells (blA pc words el v) 25)
  ops : Ops x v l
  own : x.ownsRow B0 33 6 uv (keptL (l.take k)).length (opF (keptL (l.take k)))
  below : Below w.heap.size w x
  lo : w.heap.size ≤ B0 ∧ B0 ≤ x.heap.size
  far : ∀ ra n cap, v = .slice (some ra) n cap → 0 < l.length → ra.block < w.heap.size
section
variable {w x y : World} {pc words el : Int} {v uv u' : Value} {l : List Opr} {b1 B0 k : Nat}
theorem KpW.grow (h : KpW w pc words el v l b1 B0 k uv x) (hb : Below x.heap.size x y) : KpW w pc words el v l b1 B0 k uv y :=
  ⟨keepRow h.r1 hb, h.ops.grow hb, own_grow6 h.own hb, below_then h.below (Nat.le_refl _) hb, ⟨h.lo.1, Nat.le_trans h.lo.2 hb.size⟩, h.far⟩
def Out8 (w : World) (b1 : Nat) (uv : Value) (t8 : Nat) : Prop := t8 ≠ b1 ∧ uv.ownBlock ≠ some t8 ∧ w.heap.size ≤ t8
theorem KpW.out (h : KpW w pc words el v l b1 B0 k uv x) : Out8 w b1 uv x.heap.size :=
  ⟨fun e => by have := lt_of_some h.r1; omega, fun e => by have := (h.own.lt _ e).2; omega, h.below.size⟩
theorem KpW.set8 (h : KpW w pc words el v l b1 B0 k uv x) (h0 : 0 < l.length) {t8 : Nat} (q : Out8 w b1 uv t8) (j : Nat) (u : Value) : KpW w pc words el v l b1 B0 k uv (x.setCell ⟨t8, j, none⟩ u) := by
  have ek : ∀ q, q ≠ t8 → (x.setCell ⟨t8, j, none⟩ u).heap[q]? = x.heap[q]? := fun q hq => Below.heap_setCell _ _ _ _ hq
  have es : (x.setCell ⟨t8, j, none⟩ u).heap.size = x.heap.size := by simp [World.setCell]
  obtain ⟨q1, q5, q6⟩ := q
  exact ⟨by rw [ek _ (Ne.symm q1)]; exact h.r1,
    h.ops.keepB (fun q hq => by rw [es]; exact hq) (fun ra n cap e hlt => ek _ (by have := h.far ra n cap e h0; omega)), own_of_block h.own (fun p hp => ek _ (fun e => q5 (by rw [← e]; exact hp))),
    below_cell h.below q6, ⟨h.lo.1, by rw [es]; exact h.lo.2⟩, h.far⟩
theorem KpW.skip (h : KpW w pc words el v l b1 B0 k uv x) (hk : k < l.length) (hs : isKept (opAt l k) = false) : KpW w pc words el v l b1 B0 (k + 1) uv x := by
  have e : keptL (l.take (k + 1)) = keptL (l.take k) := by rw [take_snoc hk, kept_snoc, hs]; simp
  exact ⟨h.r1, h.ops, by rw [e]; exact h.own, h.below, h.lo, h.far⟩
theorem KpW.app (h : KpW w pc words el v l b1 B0 k uv x) (hk : k < l.length) (hs : isKept (opAt l k) = true) (q1 : y.ownsRow B0 33 6 u' ((keptL (l.take k)).length + 1) (opF (keptL (l.take k) ++ [zeroO (opAt l k)]))) (hg : Goes (fun q => uv.ownBlock = some q) x y) : KpW w pc words el v l b1 B0 (k + 1) u' y := by
  have e : keptL (l.take (k + 1)) = keptL (l.take k) ++ [zeroO (opAt l k)] := by rw [take_snoc hk, kept_snoc, hs]; rfl
  refine ⟨by rw [hg.block b1 (lt_of_some h.r1) (fun e => own_ne h.r1 h.own (by decide) e)]; exact h.r1, h.ops.keepB (fun q hq => Nat.lt_of_lt_of_le hq hg.size) (fun ra n cap e hlt => hg.block _ hlt (fun e2 => ?_)), by rw [e, List.length_append]; exact q1, h.below.trans (hg.below h.below.size (fun q hq => Nat.le_trans h.lo.1 (h.own.lt q hq).1)), ⟨h.lo.1, Nat.le_trans h.lo.2 hg.size⟩, h.far⟩
  have := h.far ra n cap e (by omega); have := (h.own.lt _ e2).1; have := h.lo.1; omega
theorem KpW.z3 (h : KpW w pc words el v l b1 B0 k uv x) : x.cell? ⟨b1, 3, none⟩ = some v := by rw [cell_of_row _ _ _ _ _ _ h.r1]; rfl
end
section
variable {w : World} {pc words el : Int} {v : Value} {l : List Opr}
set_option maxHeartbeats 16000000 in
theorem kept_c (O : Ops w v l) (h512 : l.length ≤ 512) : Calls Tryd.prog 7 #[blV pc words el v] w fun e w' => ∃ u, e = .returned u ∧ w'.ownsRow w.heap.size 33 6 u (keptL l).length (opF (keptL l)) ∧ Below w.heap.size w w' := by
  have hb1 := below_alloc w (.cells (blA pc words el v) 25)
  have r1 : (w.alloc (.cells (blA pc words el v) 25)).heap[w.heap.size]? = some (.cells (blA pc words el v) 25) := heap_alloc_new _ _
  have far : ∀ ra n cap, v = .slice (some ra) n cap → 0 < l.length → ra.block < w.heap.size := fun ra n cap e h => ops_far O h ra n cap e
  have X : KpW w pc words el v l w.heap.size (w.alloc (.cells (blA pc words el v) 25)).heap.size 0 (.slice none 0 0) (w.alloc (.cells (blA pc words el v) 25)) :=
    ⟨r1, O.grow hb1, ⟨rfl, .inl ⟨rfl, rfl⟩⟩, hb1, ⟨hb1.size, Nat.le_refl _⟩, far⟩
  obtain ⟨ao, cap, rfl⟩ := O.len
  clear hb1 O r1 far
  go_enter Tryd.func7, Tryd.ntmps7
  go_upto_region 1 with fail
  generalize (w.alloc (.cells (blA pc words el (.slice ao l.length cap)) 25)).heap.size = B0 at *
  generalize w.alloc (.cells (blA pc words el (.slice ao l.length cap)) 25) = w1 at *
  obtain ⟨b1, hw1⟩ : ∃ b1, b1 = w.heap.size := ⟨_, rfl⟩
  have hw2 := hw1
  rw [← hw1] at X ⊢
  replace hw2 := show Hid _ from hw2
  clear hw1
  go_upto_region 3 with fail
  go_loopw [3, 4] (fun s3 s4 wr => ∃ (k : Nat) (uv : Value), k ≤ l.length ∧ s4 = vI k ∧ s3 = uv ∧ KpW w pc words el (.slice ao l.length cap) l b1 B0 k uv wr) (fun _ s4 _ => ((l.length : Int) - intOf s4).toNat)
  case atStart => exact ⟨0, .slice none 0 0, Nat.zero_le _, rfl, rfl, X⟩
  case round =>
    clear X
    obtain ⟨k, uv, hk, rfl, rfl, X⟩ := hrel
    obtain ⟨uo, uc, rfl, -, -⟩ := own_len X.own
    have z3 := X.z3
    by_cases hlt : (k : Int) < l.length
    · have hkl : k < l.length := by omega
      obtain ⟨ra, cap', e', hc⟩ := X.ops.cell (by omega)
      cases e'
      have A := hc k _ (opAt_some hkl)
      clear hc
      have h8 := X.out
      have Hn := has_none wr
      have hln : (keptL (l.take k)).length ≤ k := Nat.le_trans (kept_le _) (by rw [List.length_take]; omega)
      go_upto_region 6 with (first | ((with_reducible refine wpList_load42 rfl _ rfl _ rfl _ A ?_); simp only [Act.put, List.setIfInBounds_toArray, List.set_cons_succ, List.set_cons_zero]) | ((with_reducible refine wpList_store_new Hn rfl 33 _ _ rfl (opA (opAt l k)) rfl rfl (op_inf _) (by kernel_rfl) (op_one _) ?_); clear Hn; intro x2 Hn; simp only [Act.put, List.setIfInBounds_toArray, List.set_cons_succ, List.set_cons_zero]))
      replace X := X.grow Hn.below
      have r8 : x2.heap[wr.heap.size]? = some (.cells (opA (opAt l k)) 33) := Hn.get List.mem_cons_self
      generalize wr.heap.size = t8 at *
      clear Hn A z3
      have kl := leaves_c (opAt l k)
      obtain ⟨n, hn⟩ : ∃ n, n = (keptL (l.take k)).length := ⟨_, rfl⟩
      rw [← hn] at hln ⊢
      replace hn := show Hid _ from hn
      obtain ⟨L, hL⟩ : ∃ L, hasP (opAt l k).kind 64 = L := ⟨_, rfl⟩
      have y0 : ∀ x : World, x.heap[t8]? = some (.cells (opA (opAt l k)) 33) → x.cell? ⟨t8, 0, none⟩ = some (vI (opAt l k).kind) := fun x h => by rw [cell_of_row _ _ _ _ _ _ h]; rfl
      obtain ⟨I, hI⟩ : ∃ I, isKept (opAt l k) = I := ⟨_, rfl⟩
      have hcs : (L = true ∧ I = true) ∨ (L = false ∧ ((opAt l k).kind == 13) = I) := by
        unfold isKept at hI
        cases L
        · exact .inr ⟨rfl, by rw [hL] at hI; simpa using hI⟩
        · exact .inl ⟨rfl, by rw [hL] at hI; simpa using hI.symm⟩
      replace hL := show Hid _ from hL
      replace hI := show Hid _ from hI
      replace y0 := show Hid _ from y0
      obtain ⟨o, ho⟩ : ∃ o, o = opAt l k := ⟨_, rfl⟩
      rw [← ho] at r8 kl hL hI y0 hcs
      replace ho := show Hid _ from ho
      rcases hcs with ⟨rfl, rfl⟩ | ⟨rfl, h13⟩
      rotate_left
      · cases I with
        | false =>
          go_upto_region 6 with fail
          go_wp2_with (first | ((with_reducible refine wpList_load_if rfl 33 _ rfl _ rfl 33 _ (0, 0) _ r8 Tryd.underlying33 rfl (op_inf _) ?_); simp only [Act.put, List.setIfInBounds_toArray, List.set_cons_succ, List.set_cons_zero]) | (go_at_call 17; (with_reducible refine (kl _).mono ?_); clear kl; rintro e x3 ⟨rfl, B⟩; dsimp only; rw [hL.out]; replace X := X.grow B; replace r8 := keepRow r8 B; have z0 := y0.out _ r8; clear B))
          replace X := X.skip hkl (by rw [← ho.out]; exact hI.out)
          go_roundw
          case rel => exact ⟨k + 1, .slice uo n uc, by omega, by go_num, by first | rfl | (rw [hn.out]), by first | exact X | (rw [hn.out]; exact X)⟩
          case measure => simp [intOf]; try omega
        | true =>
          go_upto_region 7 with (first | ((with_reducible refine wpList_load_if rfl 33 _ rfl _ rfl 33 _ (0, 0) _ r8 Tryd.underlying33 rfl (op_inf _) ?_); simp only [Act.put, List.setIfInBounds_toArray, List.set_cons_succ, List.set_cons_zero]) | (go_at_call 17; (with_reducible refine (kl _).mono ?_); clear kl; rintro e x3 ⟨rfl, B⟩; dsimp only; rw [hL.out]; replace X := X.grow B; replace r8 := keepRow r8 B; have z0 := y0.out _ r8; clear B))
          clear z0 h13
          have y2 : x3.cell? ⟨t8, 2, none⟩ = some (vI o.a) := by rw [cell_of_row _ _ _ _ _ _ r8]; rfl
          have f2 : x3.frozen? ⟨t8, 2, none⟩ = false := frozen_of_row _ _ _ _ _ r8
          go_upto_region 8 with fail
          clear y2 f2
          replace r8 := heap_setCell_same x3 t8 2 _ 33 (vI 0) r8
          replace X := X.set8 (by omega) h8 2 (vI 0)
          generalize x3.setCell ⟨t8, 2, none⟩ (vI 0) = x4 at *
          replace r8 : x4.heap[t8]? = some (.cells (opA { o with a := 0 }) 33) := r8
          have y3 : x4.cell? ⟨t8, 3, none⟩ = some (vI o.b) := by rw [cell_of_row _ _ _ _ _ _ r8]; rfl
          have f3 : x4.frozen? ⟨t8, 3, none⟩ = false := frozen_of_row _ _ _ _ _ r8
          go_upto_region 9 with fail
          clear y3 f3
          replace r8 := heap_setCell_same x4 t8 3 _ 33 (vI 0) r8
          replace X := X.set8 (by omega) h8 3 (vI 0)
          generalize x4.setCell ⟨t8, 3, none⟩ (vI 0) = x5 at *
          replace r8 : x5.heap[t8]? = some (.cells (opA (zeroO o)) 33) := r8
          have hNb := below_alloc x5 (.cells (opA (zeroO o)) 33)
          have hN := heap_alloc_new x5 (.cells (opA (zeroO o)) 33)
          have X2 := X.grow hNb
          have hown := X2.own
          have hB0 := X2.lo.2
          have hmx : n ≤ 100000 := by omega
          rw [← hn.out] at hown
          have hn2 := show Hid _ from hn.out.symm
          go_wp2_with (first | ((with_reducible refine wpList_load_if rfl 33 _ rfl _ rfl 33 _ (0, 0) _ r8 Tryd.underlying33 rfl (op_inf _) ?_); simp only [Act.put, List.setIfInBounds_toArray, List.set_cons_succ, List.set_cons_zero]) | ((with_reducible refine wpList_oneO rfl _ rfl (zeroO o) rfl ?_); simp only [Act.put, List.setIfInBounds_toArray, List.set_cons_succ, List.set_cons_zero]) | ((with_reducible refine wpList_appO rfl _ _ rfl hn2.out rfl rfl hN hown hmx hB0 ?_); intro g2 cap2 w9 q1 q2 q3; simp only [Act.put, List.setIfInBounds_toArray, List.set_cons_succ, List.set_cons_zero]))
          rw [hn.out] at q1
          replace X2 := X2.app hkl (by rw [← ho.out]; exact hI.out) (by rw [← ho.out]; exact q1) (by rw [← hn.out]; exact q2)
          go_roundw
          case rel => exact ⟨k + 1, .slice (some ⟨g2, 0, none⟩) (n + 1) cap2, by omega, by go_num, rfl, by rw [hn.out]; exact X2⟩
          case measure => simp [intOf]; try omega
      · go_upto_region 7 with (first | ((with_reducible refine wpList_load_if rfl 33 _ rfl _ rfl 33 _ (0, 0) _ r8 Tryd.underlying33 rfl (op_inf _) ?_); simp only [Act.put, List.setIfInBounds_toArray, List.set_cons_succ, List.set_cons_zero]) | (go_at_call 17; (with_reducible refine (kl _).mono ?_); clear kl; rintro e x3 ⟨rfl, B⟩; dsimp only; rw [hL.out]; replace X := X.grow B; replace r8 := keepRow r8 B; clear B))
        have y2 : x3.cell? ⟨t8, 2, none⟩ = some (vI o.a) := by rw [cell_of_row _ _ _ _ _ _ r8]; rfl
        have f2 : x3.frozen? ⟨t8, 2, none⟩ = false := frozen_of_row _ _ _ _ _ r8
        go_upto_region 8 with fail
        clear y2 f2
        replace r8 := heap_setCell_same x3 t8 2 _ 33 (vI 0) r8
        replace X := X.set8 (by omega) h8 2 (vI 0)
        generalize x3.setCell ⟨t8, 2, none⟩ (vI 0) = x4 at *
        replace r8 : x4.heap[t8]? = some (.cells (opA { o with a := 0 }) 33) := r8
        have y3 : x4.cell? ⟨t8, 3, none⟩ = some (vI o.b) := by rw [cell_of_row _ _ _ _ _ _ r8]; rfl
        have f3 : x4.frozen? ⟨t8, 3, none⟩ = false := frozen_of_row _ _ _ _ _ r8
        go_upto_region 9 with fail
        clear y3 f3
        replace r8 := heap_setCell_same x4 t8 3 _ 33 (vI 0) r8
        replace X := X.set8 (by omega) h8 3 (vI 0)
        generalize x4.setCell ⟨t8, 3, none⟩ (vI 0) = x5 at *
        replace r8 : x5.heap[t8]? = some (.cells (opA (zeroO o)) 33) := r8
        have hNb := below_alloc x5 (.cells (opA (zeroO o)) 33)
        have hN := heap_alloc_new x5 (.cells (opA (zeroO o)) 33)
        have X2 := X.grow hNb
        have hown := X2.own
        have hB0 := X2.lo.2
        have hmx : n ≤ 100000 := by omega
        rw [← hn.out] at hown
        have hn2 := show Hid _ from hn.out.symm
        go_wp2_with (first | ((with_reducible refine wpList_load_if rfl 33 _ rfl _ rfl 33 _ (0, 0) _ r8 Tryd.underlying33 rfl (op_inf _) ?_); simp only [Act.put, List.setIfInBounds_toArray, List.set_cons_succ, List.set_cons_zero]) | ((with_reducible refine wpList_oneO rfl _ rfl (zeroO o) rfl ?_); simp only [Act.put, List.setIfInBounds_toArray, List.set_cons_succ, List.set_cons_zero]) | ((with_reducible refine wpList_appO rfl _ _ rfl hn2.out rfl rfl hN hown hmx hB0 ?_); intro g2 cap2 w9 q1 q2 q3; simp only [Act.put, List.setIfInBounds_toArray, List.set_cons_succ, List.set_cons_zero]))
        rw [hn.out] at q1
        replace X2 := X2.app hkl (by rw [← ho.out]; exact hI.out) (by rw [← ho.out]; exact q1) (by rw [← hn.out]; exact q2)
        go_roundw
        case rel => exact ⟨k + 1, .slice (some ⟨g2, 0, none⟩) (n + 1) cap2, by omega, by go_num, rfl, by rw [hn.out]; exact X2⟩
        case measure => simp [intOf]; try omega
    · obtain rfl : k = l.length := by omega
      have hown := X.own
      rw [List.take_length] at hown
      have hB := X.below
      have hlo := X.lo.1
      replace hown := own_mono hown hlo
      clear X
      go_wp2
      go_ret
      exact ⟨_, rfl, by first | exact hown | (rw [List.take_length]; exact hown), hB⟩
end
end Go.Proofs.YtejlmggfeejgpaaDoor
