/- What is laid anew again is itself: plain. -/
import Derived.Test.YtilhjbhhgpoajaaDoorVa
namespace Go.Proofs.YtilhjbhhgpoajaaDoor
open Go.RowKit
set_option linter.unusedVariables false
set_option linter.unusedSimpArgs false
set_option maxRecDepth 8000

/-- Not left. -/
def Fo.stay (S : Fo) : Fo := { S with left := false }
/-- What is laid of an operation: nothing, or one that is laid again as it is. -/
structure Emits (S : Fo) (o x : Opr) : Prop where
  laid : (S.lay o).1.laid = S.laid ++ [x]
  again : (S.lay x).1 = (S.lay o).1.stay
  place : hasP x.kind 32 = true → (S.lay x).2 = S.laid.length
  at14 : x.kind = 14 → (S.lay x).2 = S.laid.length
theorem emits_same {S : Fo} {o : Opr} (hl : (S.lay o).1.left = false) (h1 : (S.lay o).1.laid = S.laid ++ [o]) (h2 : o.kind ≠ 15 → (S.lay o).2 = S.laid.length) : Emits S o o :=
  ⟨h1, by unfold Fo.stay; rw [← hl], fun h => h2 (fun e => by rw [e, hp15_32] at h; cases h), fun h => h2 (fun e => by rw [e] at h; cases h)⟩
theorem lay_emits (S : Fo) (o : Opr) (hK : isK o.kind = true) (hl : S.left = false) : (S.lay o).1 = S ∨ ∃ x, Emits S o x := by
  obtain ⟨laid, known, left⟩ := S
  dsimp only at hl
  subst hl
  obtain ⟨kind, r, a, b, order, imm⟩ := o
  dsimp only at hK
  rcases isK_cases hK with h | h | h | h | h | h | h | h | h | h | h | h | h | h | h | h | h | h <;> subst h
  case inr.inl =>
    show ((Fo.get ⟨laid, known, false⟩ ⟨2, r, a, b, order, imm⟩).1 = _) ∨ _
    cases e : known 2 r with
    | some v => left; unfold Fo.get; dsimp only; rw [e]
    | none =>
      right
      have e1 : (Fo.lay ⟨laid, known, false⟩ ⟨2, r, a, b, order, imm⟩) = (((⟨laid, known, false⟩ : Fo).put ⟨2, r, a, b, order, imm⟩).know 2 r laid.length, laid.length) := by
        show Fo.get _ _ = _
        unfold Fo.get; dsimp only; rw [e]
      exact ⟨_, emits_same (by rw [e1]; rfl) (by rw [e1]; rfl) (fun _ => by rw [e1])⟩
  case inr.inr.inr.inl =>
    show ((Fo.get ⟨laid, known, false⟩ ⟨4, r, a, b, order, imm⟩).1 = _) ∨ _
    cases e : known 4 r with
    | some v => left; unfold Fo.get; dsimp only; rw [e]
    | none =>
      right
      have e1 : (Fo.lay ⟨laid, known, false⟩ ⟨4, r, a, b, order, imm⟩) = (((⟨laid, known, false⟩ : Fo).put ⟨4, r, a, b, order, imm⟩).know 4 r laid.length, laid.length) := by
        show Fo.get _ _ = _
        unfold Fo.get; dsimp only; rw [e]
      exact ⟨_, emits_same (by rw [e1]; rfl) (by rw [e1]; rfl) (fun _ => by rw [e1])⟩
  case inr.inr.inr.inr.inr.inl =>
    show ((Fo.get ⟨laid, known, false⟩ ⟨6, r, a, b, order, imm⟩).1 = _) ∨ _
    cases e : known 6 r with
    | some v => left; unfold Fo.get; dsimp only; rw [e]
    | none =>
      right
      have e1 : (Fo.lay ⟨laid, known, false⟩ ⟨6, r, a, b, order, imm⟩) = (((⟨laid, known, false⟩ : Fo).put ⟨6, r, a, b, order, imm⟩).know 6 r laid.length, laid.length) := by
        show Fo.get _ _ = _
        unfold Fo.get; dsimp only; rw [e]
      exact ⟨_, emits_same (by rw [e1]; rfl) (by rw [e1]; rfl) (fun _ => by rw [e1])⟩
  case inr.inr.inr.inr.inr.inr.inl =>
    right
    cases e : flagB (opAt laid a.toNat) with
    | true =>
      have e1 : (Fo.lay ⟨laid, known, false⟩ ⟨7, r, a, b, order, imm⟩) = Fo.set ⟨laid, known, false⟩ 6 r ⟨7, r, a, b, order, imm⟩ := by
        show Fo.setFlag _ _ = _
        unfold Fo.setFlag; dsimp only; rw [e, if_pos rfl]
      exact ⟨_, emits_same (by rw [e1]; rfl) (by rw [e1]; rfl) (fun _ => by rw [e1]; rfl)⟩
    | false =>
      have e1 : (Fo.lay ⟨laid, known, false⟩ ⟨7, r, a, b, order, imm⟩) = (((⟨laid, known, false⟩ : Fo).drop 6 r).put ⟨7, r, a, b, order, imm⟩, laid.length) := by
        show Fo.setFlag _ _ = _
        unfold Fo.setFlag; dsimp only; rw [e, if_neg (by decide)]
      exact ⟨_, emits_same (by rw [e1]; rfl) (by rw [e1]; rfl) (fun _ => by rw [e1])⟩
  case inr.inr.inr.inr.inr.inr.inr.inl =>
    right
    by_cases e : (opAt laid a.toNat).kind = 1 ∧ (opAt laid b.toNat).kind = 1
    · have e1 : (Fo.lay ⟨laid, known, false⟩ ⟨8, r, a, b, order, imm⟩) = ((⟨laid, known, false⟩ : Fo).put ⟨1, 0, 0, 0, 0, Alu.reckonV r (opAt laid a.toNat).imm (opAt laid b.toNat).imm⟩, laid.length) := by
        show Fo.reckon _ _ = _
        unfold Fo.reckon Fo.reckonO; dsimp only; rw [if_pos e]
      refine ⟨⟨1, 0, 0, 0, 0, Alu.reckonV r (opAt laid a.toNat).imm (opAt laid b.toNat).imm⟩, by rw [e1]; rfl, by rw [e1]; rfl, fun _ => rfl, fun h => (by cases h)⟩
    · have e1 : (Fo.lay ⟨laid, known, false⟩ ⟨8, r, a, b, order, imm⟩) = ((⟨laid, known, false⟩ : Fo).put ⟨8, r, a, b, order, imm⟩, laid.length) := by
        show Fo.reckon _ _ = _
        unfold Fo.reckon Fo.reckonO; dsimp only; rw [if_neg e]
      exact ⟨_, emits_same (by rw [e1]; rfl) (by rw [e1]; rfl) (fun _ => by rw [e1])⟩
  case inr.inr.inr.inr.inr.inr.inr.inr.inr.inr.inr.inr.inr.inr.inl =>
    by_cases e : (opAt laid a.toNat).kind ≠ 1
    · right
      have e1 : (Fo.lay ⟨laid, known, false⟩ ⟨15, r, a, b, order, imm⟩) = ((⟨laid, known, false⟩ : Fo).put ⟨15, r, a, b, order, imm⟩, 0) := by
        show Fo.exitIf _ _ = _
        unfold Fo.exitIf; dsimp only; rw [if_pos e]
      exact ⟨_, emits_same (by rw [e1]; rfl) (by rw [e1]; rfl) (fun h => absurd rfl h)⟩
    · by_cases e2 : (opAt laid a.toNat).imm ≠ 0
      · right
        have e1 : (Fo.lay ⟨laid, known, false⟩ ⟨15, r, a, b, order, imm⟩) = (((⟨laid, known, false⟩ : Fo).put ⟨16, 0, 0, 0, 0, imm⟩).leave, 0) := by
          show Fo.exitIf _ _ = _
          unfold Fo.exitIf; dsimp only; rw [if_neg e, if_pos e2]
        refine ⟨⟨16, 0, 0, 0, 0, imm⟩, by rw [e1]; rfl, by rw [e1]; rfl, fun h => ?_, fun h => (by cases h)⟩
        rw [show (Opr.kind ⟨16, 0, 0, 0, 0, imm⟩) = 16 from rfl, hp16_32] at h; cases h
      · left
        show (Fo.exitIf _ _).1 = _
        unfold Fo.exitIf; dsimp only; rw [if_neg e, if_neg e2]
  all_goals exact .inr ⟨_, emits_same rfl rfl (fun _ => rfl)⟩
/-- A list that begins with another. -/
def Begins (m p : List Opr) : Prop := ∃ t, m = p ++ t
theorem Begins.at {m p : List Opr} {x : Opr} (h : Begins m (p ++ [x])) : opAt m p.length = x ∧ p.length < m.length := by
  obtain ⟨t, rfl⟩ := h
  refine ⟨?_, by simp⟩
  unfold opAt
  rw [List.getElem?_append_left (by simp)]
  simp
theorem Begins.opAt {m p : List Opr} (h : Begins m p) {i : Nat} (hi : i < p.length) : opAt m i = Go.Proofs.YtilhjbhhgpoajaaDoor.opAt p i := by
  obtain ⟨t, rfl⟩ := h
  unfold Go.Proofs.YtilhjbhhgpoajaaDoor.opAt
  rw [List.getElem?_append_left hi]
theorem Begins.left {m p : List Opr} {x : Opr} (h : Begins m (p ++ [x])) : Begins m p := by
  obtain ⟨t, rfl⟩ := h
  exact ⟨x :: t, by simp⟩
/-- A second go over what a first one laid, so far. -/
structure Idem (m : List Opr) (S : Fo) : Prop where
  st : (foS m S.laid.length).1 = S.stay
  len : (foS m S.laid.length).2.length = S.laid.length
  pl : ∀ i, i < S.laid.length → hasP (opAt m i).kind 32 = true → (foS m S.laid.length).2.getD i 0 = i
  zero : (foS m S.laid.length).2.getD 0 0 = 0
theorem told_same {m : List Opr} {x : Opr} {j : Nat} {ps : List Nat} (hx : okL m j = true) (e : opAt m j = x) (hp : ∀ i, i < j → hasP (opAt m i).kind 32 = true → ps.getD i 0 = i) (h0 : ps.getD 0 0 = 0) : toldO x ps = x := by
  unfold okL at hx
  simp only [Bool.and_eq_true] at hx
  obtain ⟨⟨_, hB⟩, hall⟩ := hx
  rw [e] at hB hall
  have d : ∀ p ∈ usesL x, ((ps.getD p.toNat 0 : Nat) : Int) = p := fun p hp' => by
    have := List.all_eq_true.1 hall p hp'
    unfold defB at this
    simp only [Bool.and_eq_true, decide_eq_true_eq] at this
    rw [hp p.toNat (by omega) this.2]; omega
  unfold opB at hB
  simp only [Bool.and_eq_true, Bool.or_eq_true] at hB
  obtain ⟨⟨⟨⟨⟨_, h2⟩, h3⟩, _⟩, _⟩, _⟩ := hB
  have ea : ((ps.getD x.a.toNat 0 : Nat) : Int) = x.a := by
    cases q : hasP x.kind 2 with
    | true => exact d _ (by unfold usesL; rw [if_pos q]; simp)
    | false =>
      have z : x.a = 0 := by rcases h2 with h2 | h2; (rw [q] at h2; cases h2); simpa using h2
      rw [z]; show ((ps.getD 0 0 : Nat) : Int) = 0; rw [h0]; rfl
  have eb : ((ps.getD x.b.toNat 0 : Nat) : Int) = x.b := by
    cases q : hasP x.kind 4 with
    | true => exact d _ (by unfold usesL; rw [if_pos q]; simp)
    | false =>
      have z : x.b = 0 := by rcases h3 with h3 | h3; (rw [q] at h3; cases h3); simpa using h3
      rw [z]; show ((ps.getD 0 0 : Nat) : Int) = 0; rw [h0]; rfl
  unfold toldO
  rw [ea, eb]
theorem idem_step {m : List Opr} {S S' : Fo} {o x : Opr} (I : Idem m S) (hl : S.left = false) (E : Emits S o x) (hS' : (S.lay o).1 = S') (hb : Begins m S'.laid) (hx : okL S'.laid S.laid.length = true) (h14 : S.laid.length = 0 → x.kind = 14) : Idem m S' := by
  subst hS'
  have e0 := E.laid
  rw [e0] at hb hx
  obtain ⟨hat, hlt⟩ := hb.at
  have es : S.stay = S := by obtain ⟨a, b, c⟩ := S; dsimp only at hl; subst hl; rfl
  have hst := I.st
  rw [es] at hst
  have hx' : okL m S.laid.length = true := by
    have : okL m S.laid.length = okL (S.laid ++ [x]) S.laid.length := by
      obtain ⟨t, rfl⟩ := hb
      unfold okL
      rw [hat, opAt_last]
      congr 1
      congr 1
      funext p
      unfold defB
      by_cases h : 0 ≤ p ∧ p < (S.laid.length : Int)
      · rw [Begins.opAt ⟨t, rfl⟩ (show p.toNat < (S.laid ++ [x]).length by simp; omega)]
      · rcases Decidable.not_and_iff_or_not.1 h with h | h <;> simp [h]
    rw [this]; exact hx
  have ht := told_same hx' hat I.pl I.zero
  have hg := foS_go (l := m) (k := S.laid.length) (by rw [hst]; exact hl)
  rw [hat, ht, hst, E.again] at hg
  have hn : (S.lay o).1.laid.length = S.laid.length + 1 := by rw [e0]; simp
  refine ⟨by rw [hn, hg], by rw [hn, hg]; simp [I.len], fun i hi h32 => ?_, ?_⟩
  · rw [hn] at hi ⊢
    rw [hg]
    show ((foS m S.laid.length).2 ++ [(S.lay x).2]).getD i 0 = i
    rcases Nat.lt_or_ge i S.laid.length with h | h
    · rw [getD_snoc_lt (by rw [I.len]; exact h)]; exact I.pl i h h32
    · have ei : i = S.laid.length := by omega
      rw [ei, hat] at h32
      have := getD_snoc_eq (foS m S.laid.length).2 (S.lay x).2
      rw [I.len] at this
      rw [ei, this]; exact E.place h32
  · rw [hn, hg]
    show ((foS m S.laid.length).2 ++ [(S.lay x).2]).getD 0 0 = 0
    rcases Nat.eq_zero_or_pos S.laid.length with h | h
    · have hz := I.len
      rw [h] at hz
      have := getD_snoc_eq (foS m S.laid.length).2 (S.lay x).2
      rw [h, hz] at this
      rw [h, this, E.at14 (h14 h), h]
    · rw [getD_snoc_lt (by rw [I.len]; exact h)]; exact I.zero
theorem idem_all {pc words el : Int} {l m : List Opr} (h : rightB pc words el l = true) (hu : ∀ k, U64 (opAt l k).imm) : ∀ k, k ≤ l.length → Begins m (foS l k).1.laid → Idem m (foS l k).1
  | 0, _, _ => ⟨rfl, rfl, fun i hi => absurd hi (by simp [foS, Fo.nil]), rfl⟩
  | k + 1, hk, hb => by
    cases hl : (foS l k).1.left with
    | true =>
      rw [foS_stop hl (k + 1) (by omega)] at hb ⊢
      exact idem_all h hu k (by omega) hb
    | false =>
      obtain ⟨j, hj, e, hd, _, H, R⟩ := foS_stops h hu k (by omega)
      have hkj : k = j := by
        rcases hd with hd | hd
        · exact hd
        · rw [← e, hl] at hd; cases hd
      subst hkj
      have P := right_ok h (show k < l.length by omega)
      have hR := FoR.lay H R (by omega) hl P
      have hg := foS_go hl
      have e1 : (foS l (k + 1)).1 = ((foS l k).1.lay (toldO (opAt l k) (foS l k).2)).1 := by rw [hg]
      rw [e1] at hb ⊢
      rcases lay_emits (foS l k).1 (toldO (opAt l k) (foS l k).2) P.kind hl with hs | ⟨x, E⟩
      · rw [hs] at hb ⊢
        exact idem_all h hu k (by omega) hb
      · have hb0 := hb
        rw [E.laid] at hb0
        refine idem_step (idem_all h hu k (by omega) hb0.left) hl E rfl hb (hR.ok _ (by rw [E.laid]; simp)) (fun hz => ?_)
        have hk0 : k = 0 := by
          rcases Nat.eq_zero_or_pos k with q | q
          · exact q
          · have := H.pos q; omega
        subst hk0
        have hf := (right_first h).2.2
        have e2 : ((foS l 0).1.lay (toldO (opAt l 0) (foS l 0).2)).1.laid = [⟨14, 0, 0, 0, 0, pc⟩] := by rw [← e1, foS_zero h]
        have e3 := E.laid
        rw [e2] at e3
        have : [x] = [⟨14, 0, 0, 0, 0, pc⟩] := e3.symm
        rw [List.cons.inj this |>.1]
theorem layAll_idem {pc words el : Int} {l : List Opr} (h : rightB pc words el l = true) (hu : ∀ k, U64 (opAt l k).imm) : layAll (layAll l) = layAll l := by
  have I := idem_all (m := layAll l) h hu l.length (Nat.le_refl _) ⟨[], by simp [layAll]⟩
  have := I.st
  show (foS (layAll l) (layAll l).length).1.laid = layAll l
  have e : (layAll l).length = (foS l l.length).1.laid.length := rfl
  rw [e, this]
  rfl
end Go.Proofs.YtilhjbhhgpoajaaDoor
