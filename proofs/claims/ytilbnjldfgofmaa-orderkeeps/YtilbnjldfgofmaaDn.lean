/- The document's own Right: what an operation uses; what is right, plainly. -/
import Derived.Test.YtilbnjldfgofmaaDm
namespace Go.Proofs.Ytilbnjldfgofmaa
open Go.RowKit
set_option linter.unusedVariables false
set_option linter.unusedSimpArgs false
set_option maxRecDepth 8000

def usesD (o : Opr) : List Int := if shpV o.kind = 1 then [o.a] else if shpV o.kind = 2 then [o.a, o.b] else []
theorem run_two59 (p q : Int) (w : World) : (Instr.buildSlice 45 2 #[(0, vI p), (1, vI q)]).run Try.prog w = .ok (.slice (some ⟨w.heap.size, 0, none⟩) 2 2) (w.alloc (.cells #[vI p, vI q] 3)) := by
  obtain ⟨i, hi, hz, hs, hby⟩ := info_parts info3
  exact run_buildSlice (P := Try.prog) w 45 3 2 _ _ i (vI 0) Try.underlying45 hi hz (by rw [hs]; decide) (by rw [hs]; decide) (by rw [hs]; kernel_rfl)
theorem wpList_two59 {ops : Array Oper} {rest : List Oper} {o : Oper} {a : Act} {w : World} {Q : Exit → Act → World → Prop} (hg : o.guard = none) (x y : Operand) (ho : o.op = .buildSlice 45 2 #[(0, x), (1, y)]) (p q : Int) (hx : a.eval x = vI p) (hy : a.eval y = vI q)
    (h : wpList Try.prog ops Q rest (a.put o.dst (.slice (some ⟨w.heap.size, 0, none⟩) 2 2)) (w.alloc (.cells #[vI p, vI q] 3))) : wpList Try.prog ops Q (o :: rest) a w :=
  wpList_plain hg fun _ hK => by
    unfold Oper.wp execOp
    simp only [ho, Sem.run_bind, List.map_toArray, List.map_cons, List.map_nil, hx, hy, run_two59, Result.andThen_ok]
    exact hK _ _ h
theorem rawI_new (w : World) (zs : List Int) (hm : zs.length ≤ maxLen) : RawI (w.alloc (.cells (zs.map vI).toArray 3)) (.slice (some ⟨w.heap.size, 0, none⟩) zs.length zs.length) zs :=
  ⟨⟨_, _, rfl⟩, hm, fun _ => ⟨_, _, rfl, fun i x hx => by
    have e : (⟨w.heap.size, 0, none⟩ : Addr).add i = ⟨w.heap.size, i, none⟩ := by rw [Addr.add_mid, Nat.zero_add]
    rw [e]
    refine ⟨by simp, ?_⟩
    rw [cell_of_row _ _ _ _ _ _ (heap_alloc_new w _)]
    simp [hx]⟩⟩
set_option maxHeartbeats 2000000 in
theorem dUses_c (o : Opr) (w : World) : Calls Try.prog 23 #[opV o] w fun e w' => ∃ v, e = .returned v ∧ RawI w' v (usesD o) ∧ Below w.heap.size w w' := by
  have hb := below_alloc w (.cells (opA o) 40)
  have L : LocO w.heap.size o (w.alloc (.cells (opA o) 40)) := LocO.new w _
  have ks := fun x => dShape_c o.kind x
  by_cases h1 : shpV o.kind = 1
  · have hu : usesD o = [o.a] := by unfold usesD; rw [if_pos h1]
    rw [h1] at ks
    rw [hu]
    clear h1 hu
    go_enter Try.func23, Try.ntmps23
    go_upto_region 1 with fail
    generalize w.alloc (.cells (opA o) 40) = w1 at *
    have z0 := L.c0
    have z2 := L.c2
    go_wp2_with (first | (go_at_call 39; (with_reducible refine (ks _).mono ?_); rintro e w2 ⟨rfl, rfl⟩; dsimp only) | ((with_reducible refine wpList_one36 rfl _ rfl o.a rfl ?_); try simp only [Act.put]))
    go_ret
    exact ⟨_, rfl, rawI_new w2 [o.a] (by show 1 ≤ maxLen; decide), below_then hb (Nat.le_refl _) (below_alloc _ _)⟩
  · by_cases h2 : shpV o.kind = 2
    · have hu : usesD o = [o.a, o.b] := by unfold usesD; rw [if_neg h1, if_pos h2]
      rw [h2] at ks
      rw [hu]
      clear h1 h2 hu
      go_enter Try.func23, Try.ntmps23
      go_upto_region 1 with fail
      generalize w.alloc (.cells (opA o) 40) = w1 at *
      have z0 := L.c0
      have z2 := L.c2
      have z3 := L.c3
      go_wp2_with (first | (go_at_call 39; (with_reducible refine (ks _).mono ?_); rintro e w2 ⟨rfl, rfl⟩; dsimp only) | ((with_reducible refine wpList_two59 rfl _ _ rfl o.a o.b rfl rfl ?_); try simp only [Act.put]))
      go_ret
      exact ⟨_, rfl, rawI_new w2 [o.a, o.b] (by show 2 ≤ maxLen; decide), below_then hb (Nat.le_refl _) (below_alloc _ _)⟩
    · have h0 : shpV o.kind = 0 := by unfold shpV at h1 h2 ⊢; split <;> simp_all
      have hu : usesD o = [] := by unfold usesD; rw [if_neg h1, if_neg h2]
      rw [h0] at ks
      rw [hu]
      clear h0 h1 h2 hu
      go_enter Try.func23, Try.ntmps23
      go_upto_region 1 with fail
      generalize w.alloc (.cells (opA o) 40) = w1 at *
      have z0 := L.c0
      go_wp2_with (go_at_call 39; (with_reducible refine (ks _).mono ?_); rintro e w2 ⟨rfl, rfl⟩; dsimp only)
      go_ret
      exact ⟨_, rfl, RawI.nil _, hb⟩
/-- What is right of a block, in the document's words. -/
def lastD (o : Opr) : Bool := o.kind == 16 || o.kind == 17 || o.kind == 18
def defD (l : List Opr) (k : Nat) (p : Int) : Bool := decide (0 ≤ p) && decide (p < k) && defsB (opAt l p.toNat).kind
def zeroD (o : Opr) : Bool := !(decide ((usesD o).length < 2) && o.b != 0) && !(decide ((usesD o).length < 1) && o.a != 0)
def okD (l : List Opr) (k : Nat) : Bool := fieldB (opAt l k) && (lastD (opAt l k) == decide (k + 1 = l.length)) && (usesD (opAt l k)).all (defD l k) && zeroD (opAt l k)
def headD (pc words el : Int) (l : List Opr) : Bool := pc % 4 == 0 && decide (1 ≤ words) && decide (words ≤ 16) && decide (0 ≤ el) && decide (el ≤ 1) && decide (1 ≤ l.length) && decide (l.length ≤ 512) && (opAt l 0).kind == 14 && (opAt l 0).imm == pc
theorem prt_none {k : Nat} (h : k = 0 ∨ 18 < k) : prt k = 0 := by
  unfold prt
  split <;> first | rfl | omega
theorem has_none_ {k : Int} (h : isK k = false) (m : Int) (hm : m = 32) : hasP k m = false := by
  subst hm
  have : k.toNat = 0 ∨ 18 < k.toNat := by
    unfold isK at h
    simp only [Bool.and_eq_false_iff, decide_eq_false_iff_not] at h
    omega
  unfold hasP partsV
  rw [prt_none this]
  decide +kernel
theorem defs_has (k : Int) : defsB k = hasP k 32 := by
  cases h : isK k with
  | true =>
    rcases isK_cases h with rfl | rfl | rfl | rfl | rfl | rfl | rfl | rfl | rfl | rfl | rfl | rfl | rfl | rfl | rfl | rfl | rfl | rfl <;> decide +kernel
  | false =>
    rw [has_none_ h _ rfl]
    have hn : ∀ j : Int, isK j = true → (k == j) = false := fun j hj => by
      cases hh : k == j with
      | false => rfl
      | true => rw [beq_iff_eq] at hh; rw [hh, hj] at h; cases h
    unfold defsB
    rw [hn 1 (by decide), hn 2 (by decide), hn 4 (by decide), hn 6 (by decide), hn 8 (by decide), hn 9 (by decide), hn 11 (by decide), hn 12 (by decide)]
    rfl
theorem defD_eq (l : List Opr) (k : Nat) : defD l k = defB l k := by
  funext p
  unfold defD defB
  rw [defs_has]
theorem okD_eq (l : List Opr) (k : Nat) : okD l k = okAt l k := by
  unfold okD okAt
  rw [defD_eq]
  generalize defB l k = P
  generalize opAt l k = o
  obtain ⟨kind, r, a, b, order, imm⟩ := o
  cases h : isK kind with
  | false =>
    have : fieldB ⟨kind, r, a, b, order, imm⟩ = false := by unfold fieldB; rw [h]; rfl
    rw [this]
    simp [h]
  | true =>
    rcases isK_cases h with rfl | rfl | rfl | rfl | rfl | rfl | rfl | rfl | rfl | rfl | rfl | rfl | rfl | rfl | rfl | rfl | rfl | rfl
    · have hr := rangeB ⟨1, r, a, b, order, imm⟩
      have e1 : usesD ⟨1, r, a, b, order, imm⟩ = usesL ⟨1, r, a, b, order, imm⟩ := by simp [usesD, usesL, shpV, hp1_2, hp1_4]
      have e2 : lastD ⟨1, r, a, b, order, imm⟩ = hasP 1 128 := by rw [hp1_128]; rfl
      have e3 : usesL ⟨1, r, a, b, order, imm⟩ = (if hasP 1 2 = true then [a] else []) ++ (if hasP 1 4 = true then [b] else []) := rfl
      rw [hp1_2, hp1_4] at e3
      unfold zeroD fieldB opB
      rw [e1, e2]
      simp only [hp1_1, hp1_2, hp1_4, hp1_8, hp1_16, hp1_128, e3, h, Bool.true_or, Bool.false_or, Bool.true_and, Bool.and_true, if_true]
      generalize rangeB ⟨1, r, a, b, order, imm⟩ = R
      generalize decide (k + 1 = l.length) = z
      generalize (r == 0) = b1
      generalize (order == 0) = b2
      generalize (imm == 0) = b3
      try generalize P a = p1
      try generalize P b = p2
      cases ha : (a == 0) <;> cases hb : (b == 0) <;> simp [ha, hb, bne] <;> cases R <;> cases z <;> cases b1 <;> cases b2 <;> cases b3 <;> simp_all
    · have hr := rangeB ⟨2, r, a, b, order, imm⟩
      have e1 : usesD ⟨2, r, a, b, order, imm⟩ = usesL ⟨2, r, a, b, order, imm⟩ := by simp [usesD, usesL, shpV, hp2_2, hp2_4]
      have e2 : lastD ⟨2, r, a, b, order, imm⟩ = hasP 2 128 := by rw [hp2_128]; rfl
      have e3 : usesL ⟨2, r, a, b, order, imm⟩ = (if hasP 2 2 = true then [a] else []) ++ (if hasP 2 4 = true then [b] else []) := rfl
      rw [hp2_2, hp2_4] at e3
      unfold zeroD fieldB opB
      rw [e1, e2]
      simp only [hp2_1, hp2_2, hp2_4, hp2_8, hp2_16, hp2_128, e3, h, Bool.true_or, Bool.false_or, Bool.true_and, Bool.and_true, if_true]
      generalize rangeB ⟨2, r, a, b, order, imm⟩ = R
      generalize decide (k + 1 = l.length) = z
      generalize (r == 0) = b1
      generalize (order == 0) = b2
      generalize (imm == 0) = b3
      try generalize P a = p1
      try generalize P b = p2
      cases ha : (a == 0) <;> cases hb : (b == 0) <;> simp [ha, hb, bne] <;> cases R <;> cases z <;> cases b1 <;> cases b2 <;> cases b3 <;> simp_all
    · have hr := rangeB ⟨3, r, a, b, order, imm⟩
      have e1 : usesD ⟨3, r, a, b, order, imm⟩ = usesL ⟨3, r, a, b, order, imm⟩ := by simp [usesD, usesL, shpV, hp3_2, hp3_4]
      have e2 : lastD ⟨3, r, a, b, order, imm⟩ = hasP 3 128 := by rw [hp3_128]; rfl
      have e3 : usesL ⟨3, r, a, b, order, imm⟩ = (if hasP 3 2 = true then [a] else []) ++ (if hasP 3 4 = true then [b] else []) := rfl
      rw [hp3_2, hp3_4] at e3
      unfold zeroD fieldB opB
      rw [e1, e2]
      simp only [hp3_1, hp3_2, hp3_4, hp3_8, hp3_16, hp3_128, e3, h, Bool.true_or, Bool.false_or, Bool.true_and, Bool.and_true, if_true]
      generalize rangeB ⟨3, r, a, b, order, imm⟩ = R
      generalize decide (k + 1 = l.length) = z
      generalize (r == 0) = b1
      generalize (order == 0) = b2
      generalize (imm == 0) = b3
      try generalize P a = p1
      try generalize P b = p2
      cases ha : (a == 0) <;> cases hb : (b == 0) <;> simp [ha, hb, bne] <;> cases R <;> cases z <;> cases b1 <;> cases b2 <;> cases b3 <;> simp_all
    · have hr := rangeB ⟨4, r, a, b, order, imm⟩
      have e1 : usesD ⟨4, r, a, b, order, imm⟩ = usesL ⟨4, r, a, b, order, imm⟩ := by simp [usesD, usesL, shpV, hp4_2, hp4_4]
      have e2 : lastD ⟨4, r, a, b, order, imm⟩ = hasP 4 128 := by rw [hp4_128]; rfl
      have e3 : usesL ⟨4, r, a, b, order, imm⟩ = (if hasP 4 2 = true then [a] else []) ++ (if hasP 4 4 = true then [b] else []) := rfl
      rw [hp4_2, hp4_4] at e3
      unfold zeroD fieldB opB
      rw [e1, e2]
      simp only [hp4_1, hp4_2, hp4_4, hp4_8, hp4_16, hp4_128, e3, h, Bool.true_or, Bool.false_or, Bool.true_and, Bool.and_true, if_true]
      generalize rangeB ⟨4, r, a, b, order, imm⟩ = R
      generalize decide (k + 1 = l.length) = z
      generalize (r == 0) = b1
      generalize (order == 0) = b2
      generalize (imm == 0) = b3
      try generalize P a = p1
      try generalize P b = p2
      cases ha : (a == 0) <;> cases hb : (b == 0) <;> simp [ha, hb, bne] <;> cases R <;> cases z <;> cases b1 <;> cases b2 <;> cases b3 <;> simp_all
    · have hr := rangeB ⟨5, r, a, b, order, imm⟩
      have e1 : usesD ⟨5, r, a, b, order, imm⟩ = usesL ⟨5, r, a, b, order, imm⟩ := by simp [usesD, usesL, shpV, hp5_2, hp5_4]
      have e2 : lastD ⟨5, r, a, b, order, imm⟩ = hasP 5 128 := by rw [hp5_128]; rfl
      have e3 : usesL ⟨5, r, a, b, order, imm⟩ = (if hasP 5 2 = true then [a] else []) ++ (if hasP 5 4 = true then [b] else []) := rfl
      rw [hp5_2, hp5_4] at e3
      unfold zeroD fieldB opB
      rw [e1, e2]
      simp only [hp5_1, hp5_2, hp5_4, hp5_8, hp5_16, hp5_128, e3, h, Bool.true_or, Bool.false_or, Bool.true_and, Bool.and_true, if_true]
      generalize rangeB ⟨5, r, a, b, order, imm⟩ = R
      generalize decide (k + 1 = l.length) = z
      generalize (r == 0) = b1
      generalize (order == 0) = b2
      generalize (imm == 0) = b3
      try generalize P a = p1
      try generalize P b = p2
      cases ha : (a == 0) <;> cases hb : (b == 0) <;> simp [ha, hb, bne] <;> cases R <;> cases z <;> cases b1 <;> cases b2 <;> cases b3 <;> simp_all
    · have hr := rangeB ⟨6, r, a, b, order, imm⟩
      have e1 : usesD ⟨6, r, a, b, order, imm⟩ = usesL ⟨6, r, a, b, order, imm⟩ := by simp [usesD, usesL, shpV, hp6_2, hp6_4]
      have e2 : lastD ⟨6, r, a, b, order, imm⟩ = hasP 6 128 := by rw [hp6_128]; rfl
      have e3 : usesL ⟨6, r, a, b, order, imm⟩ = (if hasP 6 2 = true then [a] else []) ++ (if hasP 6 4 = true then [b] else []) := rfl
      rw [hp6_2, hp6_4] at e3
      unfold zeroD fieldB opB
      rw [e1, e2]
      simp only [hp6_1, hp6_2, hp6_4, hp6_8, hp6_16, hp6_128, e3, h, Bool.true_or, Bool.false_or, Bool.true_and, Bool.and_true, if_true]
      generalize rangeB ⟨6, r, a, b, order, imm⟩ = R
      generalize decide (k + 1 = l.length) = z
      generalize (r == 0) = b1
      generalize (order == 0) = b2
      generalize (imm == 0) = b3
      try generalize P a = p1
      try generalize P b = p2
      cases ha : (a == 0) <;> cases hb : (b == 0) <;> simp [ha, hb, bne] <;> cases R <;> cases z <;> cases b1 <;> cases b2 <;> cases b3 <;> simp_all
    · have hr := rangeB ⟨7, r, a, b, order, imm⟩
      have e1 : usesD ⟨7, r, a, b, order, imm⟩ = usesL ⟨7, r, a, b, order, imm⟩ := by simp [usesD, usesL, shpV, hp7_2, hp7_4]
      have e2 : lastD ⟨7, r, a, b, order, imm⟩ = hasP 7 128 := by rw [hp7_128]; rfl
      have e3 : usesL ⟨7, r, a, b, order, imm⟩ = (if hasP 7 2 = true then [a] else []) ++ (if hasP 7 4 = true then [b] else []) := rfl
      rw [hp7_2, hp7_4] at e3
      unfold zeroD fieldB opB
      rw [e1, e2]
      simp only [hp7_1, hp7_2, hp7_4, hp7_8, hp7_16, hp7_128, e3, h, Bool.true_or, Bool.false_or, Bool.true_and, Bool.and_true, if_true]
      generalize rangeB ⟨7, r, a, b, order, imm⟩ = R
      generalize decide (k + 1 = l.length) = z
      generalize (r == 0) = b1
      generalize (order == 0) = b2
      generalize (imm == 0) = b3
      try generalize P a = p1
      try generalize P b = p2
      cases ha : (a == 0) <;> cases hb : (b == 0) <;> simp [ha, hb, bne] <;> cases R <;> cases z <;> cases b1 <;> cases b2 <;> cases b3 <;> simp_all
    · have hr := rangeB ⟨8, r, a, b, order, imm⟩
      have e1 : usesD ⟨8, r, a, b, order, imm⟩ = usesL ⟨8, r, a, b, order, imm⟩ := by simp [usesD, usesL, shpV, hp8_2, hp8_4]
      have e2 : lastD ⟨8, r, a, b, order, imm⟩ = hasP 8 128 := by rw [hp8_128]; rfl
      have e3 : usesL ⟨8, r, a, b, order, imm⟩ = (if hasP 8 2 = true then [a] else []) ++ (if hasP 8 4 = true then [b] else []) := rfl
      rw [hp8_2, hp8_4] at e3
      unfold zeroD fieldB opB
      rw [e1, e2]
      simp only [hp8_1, hp8_2, hp8_4, hp8_8, hp8_16, hp8_128, e3, h, Bool.true_or, Bool.false_or, Bool.true_and, Bool.and_true, if_true]
      generalize rangeB ⟨8, r, a, b, order, imm⟩ = R
      generalize decide (k + 1 = l.length) = z
      generalize (r == 0) = b1
      generalize (order == 0) = b2
      generalize (imm == 0) = b3
      try generalize P a = p1
      try generalize P b = p2
      cases ha : (a == 0) <;> cases hb : (b == 0) <;> simp [ha, hb, bne] <;> cases R <;> cases z <;> cases b1 <;> cases b2 <;> cases b3 <;> simp_all
    · have hr := rangeB ⟨9, r, a, b, order, imm⟩
      have e1 : usesD ⟨9, r, a, b, order, imm⟩ = usesL ⟨9, r, a, b, order, imm⟩ := by simp [usesD, usesL, shpV, hp9_2, hp9_4]
      have e2 : lastD ⟨9, r, a, b, order, imm⟩ = hasP 9 128 := by rw [hp9_128]; rfl
      have e3 : usesL ⟨9, r, a, b, order, imm⟩ = (if hasP 9 2 = true then [a] else []) ++ (if hasP 9 4 = true then [b] else []) := rfl
      rw [hp9_2, hp9_4] at e3
      unfold zeroD fieldB opB
      rw [e1, e2]
      simp only [hp9_1, hp9_2, hp9_4, hp9_8, hp9_16, hp9_128, e3, h, Bool.true_or, Bool.false_or, Bool.true_and, Bool.and_true, if_true]
      generalize rangeB ⟨9, r, a, b, order, imm⟩ = R
      generalize decide (k + 1 = l.length) = z
      generalize (r == 0) = b1
      generalize (order == 0) = b2
      generalize (imm == 0) = b3
      try generalize P a = p1
      try generalize P b = p2
      cases ha : (a == 0) <;> cases hb : (b == 0) <;> simp [ha, hb, bne] <;> cases R <;> cases z <;> cases b1 <;> cases b2 <;> cases b3 <;> simp_all
    · have hr := rangeB ⟨10, r, a, b, order, imm⟩
      have e1 : usesD ⟨10, r, a, b, order, imm⟩ = usesL ⟨10, r, a, b, order, imm⟩ := by simp [usesD, usesL, shpV, hp10_2, hp10_4]
      have e2 : lastD ⟨10, r, a, b, order, imm⟩ = hasP 10 128 := by rw [hp10_128]; rfl
      have e3 : usesL ⟨10, r, a, b, order, imm⟩ = (if hasP 10 2 = true then [a] else []) ++ (if hasP 10 4 = true then [b] else []) := rfl
      rw [hp10_2, hp10_4] at e3
      unfold zeroD fieldB opB
      rw [e1, e2]
      simp only [hp10_1, hp10_2, hp10_4, hp10_8, hp10_16, hp10_128, e3, h, Bool.true_or, Bool.false_or, Bool.true_and, Bool.and_true, if_true]
      generalize rangeB ⟨10, r, a, b, order, imm⟩ = R
      generalize decide (k + 1 = l.length) = z
      generalize (r == 0) = b1
      generalize (order == 0) = b2
      generalize (imm == 0) = b3
      try generalize P a = p1
      try generalize P b = p2
      cases ha : (a == 0) <;> cases hb : (b == 0) <;> simp [ha, hb, bne] <;> cases R <;> cases z <;> cases b1 <;> cases b2 <;> cases b3 <;> simp_all
    · have hr := rangeB ⟨11, r, a, b, order, imm⟩
      have e1 : usesD ⟨11, r, a, b, order, imm⟩ = usesL ⟨11, r, a, b, order, imm⟩ := by simp [usesD, usesL, shpV, hp11_2, hp11_4]
      have e2 : lastD ⟨11, r, a, b, order, imm⟩ = hasP 11 128 := by rw [hp11_128]; rfl
      have e3 : usesL ⟨11, r, a, b, order, imm⟩ = (if hasP 11 2 = true then [a] else []) ++ (if hasP 11 4 = true then [b] else []) := rfl
      rw [hp11_2, hp11_4] at e3
      unfold zeroD fieldB opB
      rw [e1, e2]
      simp only [hp11_1, hp11_2, hp11_4, hp11_8, hp11_16, hp11_128, e3, h, Bool.true_or, Bool.false_or, Bool.true_and, Bool.and_true, if_true]
      generalize rangeB ⟨11, r, a, b, order, imm⟩ = R
      generalize decide (k + 1 = l.length) = z
      generalize (r == 0) = b1
      generalize (order == 0) = b2
      generalize (imm == 0) = b3
      try generalize P a = p1
      try generalize P b = p2
      cases ha : (a == 0) <;> cases hb : (b == 0) <;> simp [ha, hb, bne] <;> cases R <;> cases z <;> cases b1 <;> cases b2 <;> cases b3 <;> simp_all
    · have hr := rangeB ⟨12, r, a, b, order, imm⟩
      have e1 : usesD ⟨12, r, a, b, order, imm⟩ = usesL ⟨12, r, a, b, order, imm⟩ := by simp [usesD, usesL, shpV, hp12_2, hp12_4]
      have e2 : lastD ⟨12, r, a, b, order, imm⟩ = hasP 12 128 := by rw [hp12_128]; rfl
      have e3 : usesL ⟨12, r, a, b, order, imm⟩ = (if hasP 12 2 = true then [a] else []) ++ (if hasP 12 4 = true then [b] else []) := rfl
      rw [hp12_2, hp12_4] at e3
      unfold zeroD fieldB opB
      rw [e1, e2]
      simp only [hp12_1, hp12_2, hp12_4, hp12_8, hp12_16, hp12_128, e3, h, Bool.true_or, Bool.false_or, Bool.true_and, Bool.and_true, if_true]
      generalize rangeB ⟨12, r, a, b, order, imm⟩ = R
      generalize decide (k + 1 = l.length) = z
      generalize (r == 0) = b1
      generalize (order == 0) = b2
      generalize (imm == 0) = b3
      try generalize P a = p1
      try generalize P b = p2
      cases ha : (a == 0) <;> cases hb : (b == 0) <;> simp [ha, hb, bne] <;> cases R <;> cases z <;> cases b1 <;> cases b2 <;> cases b3 <;> simp_all
    · have hr := rangeB ⟨13, r, a, b, order, imm⟩
      have e1 : usesD ⟨13, r, a, b, order, imm⟩ = usesL ⟨13, r, a, b, order, imm⟩ := by simp [usesD, usesL, shpV, hp13_2, hp13_4]
      have e2 : lastD ⟨13, r, a, b, order, imm⟩ = hasP 13 128 := by rw [hp13_128]; rfl
      have e3 : usesL ⟨13, r, a, b, order, imm⟩ = (if hasP 13 2 = true then [a] else []) ++ (if hasP 13 4 = true then [b] else []) := rfl
      rw [hp13_2, hp13_4] at e3
      unfold zeroD fieldB opB
      rw [e1, e2]
      simp only [hp13_1, hp13_2, hp13_4, hp13_8, hp13_16, hp13_128, e3, h, Bool.true_or, Bool.false_or, Bool.true_and, Bool.and_true, if_true]
      generalize rangeB ⟨13, r, a, b, order, imm⟩ = R
      generalize decide (k + 1 = l.length) = z
      generalize (r == 0) = b1
      generalize (order == 0) = b2
      generalize (imm == 0) = b3
      try generalize P a = p1
      try generalize P b = p2
      cases ha : (a == 0) <;> cases hb : (b == 0) <;> simp [ha, hb, bne] <;> cases R <;> cases z <;> cases b1 <;> cases b2 <;> cases b3 <;> simp_all
    · have hr := rangeB ⟨14, r, a, b, order, imm⟩
      have e1 : usesD ⟨14, r, a, b, order, imm⟩ = usesL ⟨14, r, a, b, order, imm⟩ := by simp [usesD, usesL, shpV, hp14_2, hp14_4]
      have e2 : lastD ⟨14, r, a, b, order, imm⟩ = hasP 14 128 := by rw [hp14_128]; rfl
      have e3 : usesL ⟨14, r, a, b, order, imm⟩ = (if hasP 14 2 = true then [a] else []) ++ (if hasP 14 4 = true then [b] else []) := rfl
      rw [hp14_2, hp14_4] at e3
      unfold zeroD fieldB opB
      rw [e1, e2]
      simp only [hp14_1, hp14_2, hp14_4, hp14_8, hp14_16, hp14_128, e3, h, Bool.true_or, Bool.false_or, Bool.true_and, Bool.and_true, if_true]
      generalize rangeB ⟨14, r, a, b, order, imm⟩ = R
      generalize decide (k + 1 = l.length) = z
      generalize (r == 0) = b1
      generalize (order == 0) = b2
      generalize (imm == 0) = b3
      try generalize P a = p1
      try generalize P b = p2
      cases ha : (a == 0) <;> cases hb : (b == 0) <;> simp [ha, hb, bne] <;> cases R <;> cases z <;> cases b1 <;> cases b2 <;> cases b3 <;> simp_all
    · have hr := rangeB ⟨15, r, a, b, order, imm⟩
      have e1 : usesD ⟨15, r, a, b, order, imm⟩ = usesL ⟨15, r, a, b, order, imm⟩ := by simp [usesD, usesL, shpV, hp15_2, hp15_4]
      have e2 : lastD ⟨15, r, a, b, order, imm⟩ = hasP 15 128 := by rw [hp15_128]; rfl
      have e3 : usesL ⟨15, r, a, b, order, imm⟩ = (if hasP 15 2 = true then [a] else []) ++ (if hasP 15 4 = true then [b] else []) := rfl
      rw [hp15_2, hp15_4] at e3
      unfold zeroD fieldB opB
      rw [e1, e2]
      simp only [hp15_1, hp15_2, hp15_4, hp15_8, hp15_16, hp15_128, e3, h, Bool.true_or, Bool.false_or, Bool.true_and, Bool.and_true, if_true]
      generalize rangeB ⟨15, r, a, b, order, imm⟩ = R
      generalize decide (k + 1 = l.length) = z
      generalize (r == 0) = b1
      generalize (order == 0) = b2
      generalize (imm == 0) = b3
      try generalize P a = p1
      try generalize P b = p2
      cases ha : (a == 0) <;> cases hb : (b == 0) <;> simp [ha, hb, bne] <;> cases R <;> cases z <;> cases b1 <;> cases b2 <;> cases b3 <;> simp_all
    · have hr := rangeB ⟨16, r, a, b, order, imm⟩
      have e1 : usesD ⟨16, r, a, b, order, imm⟩ = usesL ⟨16, r, a, b, order, imm⟩ := by simp [usesD, usesL, shpV, hp16_2, hp16_4]
      have e2 : lastD ⟨16, r, a, b, order, imm⟩ = hasP 16 128 := by rw [hp16_128]; rfl
      have e3 : usesL ⟨16, r, a, b, order, imm⟩ = (if hasP 16 2 = true then [a] else []) ++ (if hasP 16 4 = true then [b] else []) := rfl
      rw [hp16_2, hp16_4] at e3
      unfold zeroD fieldB opB
      rw [e1, e2]
      simp only [hp16_1, hp16_2, hp16_4, hp16_8, hp16_16, hp16_128, e3, h, Bool.true_or, Bool.false_or, Bool.true_and, Bool.and_true, if_true]
      generalize rangeB ⟨16, r, a, b, order, imm⟩ = R
      generalize decide (k + 1 = l.length) = z
      generalize (r == 0) = b1
      generalize (order == 0) = b2
      generalize (imm == 0) = b3
      try generalize P a = p1
      try generalize P b = p2
      cases ha : (a == 0) <;> cases hb : (b == 0) <;> simp [ha, hb, bne] <;> cases R <;> cases z <;> cases b1 <;> cases b2 <;> cases b3 <;> simp_all
    · have hr := rangeB ⟨17, r, a, b, order, imm⟩
      have e1 : usesD ⟨17, r, a, b, order, imm⟩ = usesL ⟨17, r, a, b, order, imm⟩ := by simp [usesD, usesL, shpV, hp17_2, hp17_4]
      have e2 : lastD ⟨17, r, a, b, order, imm⟩ = hasP 17 128 := by rw [hp17_128]; rfl
      have e3 : usesL ⟨17, r, a, b, order, imm⟩ = (if hasP 17 2 = true then [a] else []) ++ (if hasP 17 4 = true then [b] else []) := rfl
      rw [hp17_2, hp17_4] at e3
      unfold zeroD fieldB opB
      rw [e1, e2]
      simp only [hp17_1, hp17_2, hp17_4, hp17_8, hp17_16, hp17_128, e3, h, Bool.true_or, Bool.false_or, Bool.true_and, Bool.and_true, if_true]
      generalize rangeB ⟨17, r, a, b, order, imm⟩ = R
      generalize decide (k + 1 = l.length) = z
      generalize (r == 0) = b1
      generalize (order == 0) = b2
      generalize (imm == 0) = b3
      try generalize P a = p1
      try generalize P b = p2
      cases ha : (a == 0) <;> cases hb : (b == 0) <;> simp [ha, hb, bne] <;> cases R <;> cases z <;> cases b1 <;> cases b2 <;> cases b3 <;> simp_all
    · have hr := rangeB ⟨18, r, a, b, order, imm⟩
      have e1 : usesD ⟨18, r, a, b, order, imm⟩ = usesL ⟨18, r, a, b, order, imm⟩ := by simp [usesD, usesL, shpV, hp18_2, hp18_4]
      have e2 : lastD ⟨18, r, a, b, order, imm⟩ = hasP 18 128 := by rw [hp18_128]; rfl
      have e3 : usesL ⟨18, r, a, b, order, imm⟩ = (if hasP 18 2 = true then [a] else []) ++ (if hasP 18 4 = true then [b] else []) := rfl
      rw [hp18_2, hp18_4] at e3
      unfold zeroD fieldB opB
      rw [e1, e2]
      simp only [hp18_1, hp18_2, hp18_4, hp18_8, hp18_16, hp18_128, e3, h, Bool.true_or, Bool.false_or, Bool.true_and, Bool.and_true, if_true]
      generalize rangeB ⟨18, r, a, b, order, imm⟩ = R
      generalize decide (k + 1 = l.length) = z
      generalize (r == 0) = b1
      generalize (order == 0) = b2
      generalize (imm == 0) = b3
      try generalize P a = p1
      try generalize P b = p2
      cases ha : (a == 0) <;> cases hb : (b == 0) <;> simp [ha, hb, bne] <;> cases R <;> cases z <;> cases b1 <;> cases b2 <;> cases b3 <;> simp_all
end Go.Proofs.Ytilbnjldfgofmaa
