/- What is laid anew is right: plain. -/
import Derived.Test.YtilhjbhhgpoajaaDoorUl
namespace Go.Proofs.YtilhjbhhgpoajaaDoor
open Go.RowKit
set_option linter.unusedVariables false
set_option linter.unusedSimpArgs false
set_option maxRecDepth 8000

/-- What is right of an operation but for where the block ends. -/
def okL (m : List Opr) (j : Nat) : Bool := isK (opAt m j).kind && opB (opAt m j) && (usesL (opAt m j)).all (defB m j)
theorem defB_snoc {m : List Opr} {x : Opr} {j : Nat} (hj : j ≤ m.length) (p : Int) : defB (m ++ [x]) j p = defB m j p := by
  unfold defB
  by_cases h : 0 ≤ p ∧ p < j
  · rw [opAt_left (by omega)]
  · rcases Decidable.not_and_iff_or_not.1 h with h | h <;> simp [h]
theorem okL_snoc {m : List Opr} {x : Opr} {j : Nat} (hj : j < m.length) : okL (m ++ [x]) j = okL m j := by
  unfold okL
  rw [opAt_left hj]
  congr 1
  congr 1
  funext p
  exact defB_snoc (by omega) p
theorem okL_last {m : List Opr} {x : Opr} (h1 : isK x.kind = true) (h2 : opB x = true) (ha : hasP x.kind 2 = true → 0 ≤ x.a ∧ x.a.toNat < m.length ∧ hasP (opAt m x.a.toNat).kind 32 = true) (hb : hasP x.kind 4 = true → 0 ≤ x.b ∧ x.b.toNat < m.length ∧ hasP (opAt m x.b.toNat).kind 32 = true) : okL (m ++ [x]) m.length = true := by
  have d : ∀ p : Int, 0 ≤ p ∧ p.toNat < m.length ∧ hasP (opAt m p.toNat).kind 32 = true → defB (m ++ [x]) m.length p = true := fun p h => by
    rw [defB_snoc (Nat.le_refl _)]
    unfold defB
    simp only [Bool.and_eq_true, decide_eq_true_eq]
    exact ⟨⟨h.1, by omega⟩, h.2.2⟩
  unfold okL
  rw [opAt_last]
  simp only [Bool.and_eq_true]
  refine ⟨⟨h1, h2⟩, List.all_eq_true.2 fun p hp => ?_⟩
  unfold usesL at hp
  rcases List.mem_append.1 hp with hp | hp
  · split at hp
    · rename_i h; cases List.mem_singleton.1 hp; exact d _ (ha h)
    · cases hp
  · split at hp
    · rename_i h; cases List.mem_singleton.1 hp; exact d _ (hb h)
    · cases hp
theorem opB_1 (V : Int) : opB ⟨1, 0, 0, 0, 0, V⟩ = true := by simp [opB, rangeB, hp1_16]
theorem opB_16 (V : Int) : opB ⟨16, 0, 0, 0, 0, V⟩ = true := by simp [opB, rangeB, hp16_16]
/-- What holds besides of a go over a right block, behind k operations. -/
structure FoR (l : List Opr) (k : Nat) (S : Fo) : Prop where
  ok : ∀ j, j < S.laid.length → okL S.laid j = true
  last : ∀ j, j < S.laid.length → (hasP (opAt S.laid j).kind 128 = true ↔ (j + 1 = S.laid.length ∧ (S.left = true ∨ k = l.length)))
theorem opB_told {l : List Opr} {k : Nat} (P : OkP l k) {ps : List Nat} (h0 : ps.getD 0 0 = 0) : opB (toldO (opAt l k) ps) = true := by
  obtain ⟨z2, z4⟩ := okP_ab P
  have h := P.op
  generalize opAt l k = o at *
  unfold opB at h ⊢
  simp only [Bool.and_eq_true, Bool.or_eq_true] at h ⊢
  obtain ⟨⟨⟨⟨⟨h1, h2⟩, h3⟩, h4⟩, h5⟩, h6⟩ := h
  refine ⟨⟨⟨⟨⟨h1, ?_⟩, ?_⟩, h4⟩, h5⟩, h6⟩
  · show hasP o.kind 2 = true ∨ (((ps.getD o.a.toNat 0 : Nat) : Int) == 0) = true
    cases e : hasP o.kind 2 with
    | true => exact .inl rfl
    | false => right; rw [z2 e]; show (((ps.getD 0 0 : Nat) : Int) == 0) = true; rw [h0]; rfl
  · show hasP o.kind 4 = true ∨ (((ps.getD o.b.toNat 0 : Nat) : Int) == 0) = true
    cases e : hasP o.kind 4 with
    | true => exact .inl rfl
    | false => right; rw [z4 e]; show (((ps.getD 0 0 : Nat) : Int) == 0) = true; rw [h0]; rfl
section
variable {l : List Opr} {k : Nat} {S : Fo} {ps : List Nat}
theorem FoR.push (R : FoR l k S) (hk : k < l.length) (hl : S.left = false) {x : Opr} {kn : Int → Int → Option Nat} {lf : Bool} (hx : okL (S.laid ++ [x]) S.laid.length = true) (h128 : hasP x.kind 128 = true ↔ (lf = true ∨ k + 1 = l.length)) : FoR l (k + 1) ⟨S.laid ++ [x], kn, lf⟩ := by
  refine ⟨fun j hj => ?_, fun j hj => ?_⟩
  · have hj : j < (S.laid ++ [x]).length := hj
    rw [List.length_append] at hj
    rcases Nat.lt_or_ge j S.laid.length with h | h
    · show okL (S.laid ++ [x]) j = true
      rw [okL_snoc h]; exact R.ok j h
    · obtain rfl : j = S.laid.length := by simp at hj; omega
      exact hx
  · have hj : j < (S.laid ++ [x]).length := hj
    show hasP (opAt (S.laid ++ [x]) j).kind 128 = true ↔ (j + 1 = (S.laid ++ [x]).length ∧ (lf = true ∨ k + 1 = l.length))
    rw [List.length_append] at hj ⊢
    rcases Nat.lt_or_ge j S.laid.length with h | h
    · rw [opAt_left h, R.last j h, hl]
      constructor
      · rintro ⟨_, h2 | h2⟩
        · cases h2
        · omega
      · rintro ⟨h2, _⟩
        simp at h2; omega
    · obtain rfl : j = S.laid.length := by simp at hj; omega
      rw [opAt_last, h128]
      simp
theorem FoR.pass (R : FoR l k S) (hk : k < l.length) (hl : S.left = false) (P : OkP l k) (h : hasP (opAt l k).kind 128 = false) : FoR l (k + 1) S := by
  refine ⟨R.ok, fun j hj => ?_⟩
  rw [R.last j hj, hl]
  have h2 := P.last
  rw [h] at h2
  have h3 := of_decide_eq_false h2.symm
  constructor
  · rintro ⟨_, h4 | h4⟩
    · cases h4
    · omega
  · rintro ⟨_, h4 | h4⟩
    · cases h4
    · exact absurd h4 h3
theorem FoR.told (H : FoOk l k S ps) (R : FoR l k S) (hk : k < l.length) (hl : S.left = false) (P : OkP l k) (kn : Int → Int → Option Nat) : FoR l (k + 1) ⟨S.laid ++ [toldO (opAt l k) ps], kn, S.left⟩ := by
  have z : ∀ n : Nat, Int.toNat (n : Int) = n := Int.toNat_natCast
  refine R.push hk hl (okL_last P.kind (opB_told P H.zero) (fun h => ?_) (fun h => ?_)) ?_
  · refine ⟨Int.natCast_nonneg _, ?_⟩
    show Int.toNat ((ps.getD (opAt l k).a.toNat 0 : Nat) : Int) < _ ∧ hasP (opAt S.laid (Int.toNat ((ps.getD (opAt l k).a.toNat 0 : Nat) : Int))).kind 32 = true
    rw [z]; exact H.told_a P h
  · refine ⟨Int.natCast_nonneg _, ?_⟩
    show Int.toNat ((ps.getD (opAt l k).b.toNat 0 : Nat) : Int) < _ ∧ hasP (opAt S.laid (Int.toNat ((ps.getD (opAt l k).b.toNat 0 : Nat) : Int))).kind 32 = true
    rw [z]; exact H.told_b P h
  · show hasP (opAt l k).kind 128 = true ↔ _
    rw [P.last, hl]
    simp
theorem FoR.lay (H : FoOk l k S ps) (R : FoR l k S) (hk : k < l.length) (hl : S.left = false) (P : OkP l k) : FoR l (k + 1) (S.lay (toldO (opAt l k) ps)).1 := by
  have hput : ∀ kn, FoR l (k + 1) ⟨S.laid ++ [toldO (opAt l k) ps], kn, S.left⟩ := FoR.told H R hk hl P
  have hpass : hasP (opAt l k).kind 128 = false → FoR l (k + 1) S := R.pass hk hl P
  have hlast := P.last
  have hget : hasP (opAt l k).kind 128 = false → FoR l (k + 1) (S.get (toldO (opAt l k) ps)).1 := fun h => by
    unfold Fo.get
    cases S.known (toldO (opAt l k) ps).kind (toldO (opAt l k) ps).r with
    | some v => exact hpass h
    | none => exact hput _
  unfold Fo.lay
  rw [toldO_kind]
  have hK := P.kind
  generalize ho : opAt l k = o at *
  rcases isK_cases hK with h | h | h | h | h | h | h | h | h | h | h | h | h | h | h | h | h | h <;> rw [h]
  · exact hput _
  · exact hget (by rw [h]; exact hp2_128)
  · exact hput _
  · exact hget (by rw [h]; exact hp4_128)
  · exact hput _
  · exact hget (by rw [h]; exact hp6_128)
  · show FoR l (k + 1) (S.setFlag (toldO o ps)).1
    unfold Fo.setFlag
    split
    · exact hput _
    · exact hput _
  · show FoR l (k + 1) (S.put (S.reckonO (toldO o ps)))
    unfold Fo.reckonO
    split
    · refine R.push hk hl (okL_last rfl (opB_1 _) (fun e => by rw [hp1_2] at e; cases e) (fun e => by rw [hp1_4] at e; cases e)) ?_
      rw [hp1_128, hl]
      have : hasP o.kind 128 = false := by rw [h]; exact hp8_128
      rw [this] at hlast
      have := of_decide_eq_false hlast.symm
      simp [this]
    · exact hput _
  · exact hput _
  · exact hput _
  · exact hput _
  · exact hput _
  · exact hput _
  · exact hput _
  · show FoR l (k + 1) (S.exitIf (toldO o ps)).1
    unfold Fo.exitIf
    split
    · exact hput _
    · split
      · refine R.push hk hl (okL_last rfl (opB_16 _) (fun e => by rw [hp16_2] at e; cases e) (fun e => by rw [hp16_4] at e; cases e)) ?_
        rw [hp16_128]; simp
      · exact hpass (by rw [h]; exact hp15_128)
  · exact hput _
  · exact hput _
  · exact hput _
end
/-- Where a go ends: at its last operation, or where it has left. -/
theorem foS_stops {pc words el : Int} {l : List Opr} (h : rightB pc words el l = true) (hu : ∀ k, U64 (opAt l k).imm) : ∀ k, k ≤ l.length → ∃ j, j ≤ k ∧ foS l k = foS l j ∧ (k = j ∨ (foS l j).1.left = true) ∧ (0 < j → (foS l (j - 1)).1.left = false) ∧ FoOk l j (foS l j).1 (foS l j).2 ∧ FoR l j (foS l j).1
  | 0, _ => ⟨0, Nat.le_refl _, rfl, .inl rfl, fun h => absurd h (by decide), foOk_nil l, ⟨fun j hj => absurd hj (by simp [foS, Fo.nil]), fun j hj => absurd hj (by simp [foS, Fo.nil])⟩⟩
  | k + 1, hk => by
    obtain ⟨j, hj, e, hd, hb, H, R⟩ := foS_stops h hu k (by omega)
    cases hl : (foS l k).1.left with
    | true =>
      have e2 := foS_stop hl (k + 1) (by omega)
      refine ⟨j, by omega, e2.trans e, .inr (by rw [← e]; exact hl), hb, H, R⟩
    | false =>
      rw [e] at hl
      have hkj : k = j := by
        rcases hd with hd | hd
        · exact hd
        · rw [hd] at hl; cases hl
      subst hkj
      have P := right_ok h (show k < l.length by omega)
      refine ⟨k + 1, Nat.le_refl _, rfl, .inl rfl, fun _ => hl, ?_, ?_⟩
      · rcases Nat.eq_zero_or_pos k with e0 | e0
        · subst e0; exact foOk_all h hu 1 (by decide) hk hl
        · rw [foS_go hl]; exact H.lay e0 (hu _) P
      · rw [foS_go hl]; exact FoR.lay H R (by omega) hl P
theorem right_layAll {pc words el : Int} {l : List Opr} (h : rightB pc words el l = true) (hu : ∀ k, U64 (opAt l k).imm) : rightB pc words el (layAll l) = true ∧ (layAll l).length ≤ l.length ∧ ∀ k, U64 (opAt (layAll l) k).imm := by
  obtain ⟨j, hj, e, hd, hb, H, R⟩ := foS_stops h hu l.length (Nat.le_refl _)
  obtain ⟨h0, h512, hf⟩ := right_first h
  have hj0 : 0 < j := by
    rcases Nat.eq_zero_or_pos j with e0 | e0
    · subst e0
      rcases hd with hd | hd
      · omega
      · cases hd
    · exact e0
  have e2 : layAll l = (foS l j).1.laid := by unfold layAll; rw [e]
  have hle := H.le
  refine ⟨?_, by rw [e2]; omega, by rw [e2]; exact H.u⟩
  rw [e2]
  have hfst := H.first hj0
  have hpos := H.pos hj0
  have hend : (foS l j).1.left = true ∨ j = l.length := hd.elim (fun e => .inr e.symm) .inl
  have hok := R.ok
  have hla := R.last
  generalize (foS l j).1.laid = m at *
  unfold rightB at h ⊢
  simp only [Bool.and_eq_true] at h ⊢
  refine ⟨?_, List.all_eq_true.2 fun i hi => ?_⟩
  · have h := h.1
    unfold headB at h ⊢
    simp only [Bool.and_eq_true, decide_eq_true_eq] at h ⊢
    obtain ⟨⟨⟨q1, q2⟩, q3⟩, q4⟩ := h
    exact ⟨⟨⟨q1, by omega⟩, by omega⟩, by rw [hfst]; exact q4⟩
  · have hi : i < m.length := List.mem_range.1 hi
    have a := hok i hi
    have c := hla i hi
    unfold okL at a
    unfold okAt
    simp only [Bool.and_eq_true] at a ⊢
    refine ⟨⟨⟨a.1.1, ?_⟩, a.1.2⟩, a.2⟩
    rw [beq_iff_eq, Bool.eq_iff_iff, c, decide_eq_true_eq]
    exact ⟨fun q => q.1, fun q => ⟨q, hend⟩⟩
end Go.Proofs.YtilhjbhhgpoajaaDoor
