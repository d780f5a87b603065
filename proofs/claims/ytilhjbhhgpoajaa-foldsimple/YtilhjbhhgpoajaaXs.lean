/- Vg, Vh of the seat, joined. -/
import Derived.Test.YtilhjbhhgpoajaaXx
/- In what is laid anew as itself nothing is left that would go: plain. -/
namespace Go.Proofs.Ytilhjbhhgpoajaa
open Go.RowKit
set_option linter.unusedVariables false
set_option linter.unusedSimpArgs false
set_option maxRecDepth 8000

/-- Does an operation set or get what another gets? -/
def hitB (o x : Opr) : Bool := if o.kind = 2 then (x.kind == 3 || x.kind == 2) && x.r == o.r else if o.kind = 4 then x.kind == 5 || x.kind == 4 else if o.kind = 6 then (x.kind == 7 || x.kind == 6) && x.r == o.r else false
/-- The last one ahead of a place that does. -/
def lastI (m : List Opr) (o : Opr) : Nat → Int
  | 0 => -1
  | i + 1 => if hitB o (opAt m i) = true then (i : Int) else lastI m o i
def certB (o : Opr) : Bool := o.kind == 6 || (o.kind == 1 && decide (o.imm < 2)) || (o.kind == 8 && decide (13 ≤ o.r))
def simB (m : List Opr) (k : Nat) : Bool :=
  if (opAt m k).kind = 8 then (opAt m (opAt m k).a.toNat).kind != 1 || (opAt m (opAt m k).b.toNat).kind != 1
  else if (opAt m k).kind = 15 then (opAt m (opAt m k).a.toNat).kind != 1
  else if (opAt m k).kind = 2 ∨ (opAt m k).kind = 4 then decide (lastI m (opAt m k) k < 0)
  else if (opAt m k).kind = 6 then decide (lastI m (opAt m k) k < 0) || ((opAt m (lastI m (opAt m k) k).toNat).kind == 7 && !(certB (opAt m (opAt m (lastI m (opAt m k) k).toNat).a.toNat)))
  else true
theorem cert_flag {o : Opr} (h : opB o = true) : certB o = flagB o := by
  unfold certB flagB
  by_cases h6 : o.kind = 6
  · rw [if_pos h6]; simp [h6]
  · rw [if_neg h6]
    by_cases h1 : o.kind = 1
    · rw [if_pos h1]
      simp only [h1]
      have : (decide (o.imm < 2)) = decide (o.imm ≤ 1) := by
        by_cases q : o.imm ≤ 1
        · rw [decide_eq_true q, decide_eq_true (by omega)]
        · rw [decide_eq_false q, decide_eq_false (by omega)]
      rw [this]; simp
    · rw [if_neg h1]
      by_cases h8 : o.kind = 8
      · rw [if_pos h8]
        simp only [h8]
        unfold opB at h
        simp only [Bool.and_eq_true] at h
        have hr := h.2
        unfold rangeB at hr
        rw [h8] at hr
        simp at hr
        by_cases q : 13 ≤ o.r
        · have : o.r = 13 ∨ o.r = 14 ∨ o.r = 15 := by omega
          rcases this with e | e | e <;> simp [e]
        · have e1 : (o.r == 13) = false := by simp; omega
          have e2 : (o.r == 14) = false := by simp; omega
          have e3 : (o.r == 15) = false := by simp; omega
          rw [e1, e2, e3]; simp; omega
      · rw [if_neg h8]; simp [h6, h1, h8]
section
variable {pc words el : Int} {m : List Opr}
theorem foS_len (h : rightB pc words el m = true) (hu : ∀ k, U64 (opAt m k).imm) {k : Nat} (hk : k < m.length) : (foS m (k + 1)).1.laid.length ≤ (foS m k).1.laid.length + 1 := by
  cases hl : (foS m k).1.left with
  | true => rw [foS_stop hl (k + 1) (by omega)]; omega
  | false =>
    rw [foS_go hl]
    dsimp only
    rcases lay_emits (foS m k).1 (toldO (opAt m k) (foS m k).2) (right_ok h hk).kind hl with hs | ⟨x, X⟩
    · rw [hs]; omega
    · rw [X.laid]; simp
theorem foS_up (h : rightB pc words el m = true) (hu : ∀ k, U64 (opAt m k).imm) : ∀ d k, k + d = m.length → (foS m m.length).1.laid.length ≤ (foS m k).1.laid.length + d
  | 0, k, hk => by have : k = m.length := by omega
                   subst this; omega
  | d + 1, k, hk => by
    have := foS_up h hu d (k + 1) (by omega)
    have := foS_len h hu (show k < m.length by omega)
    omega
/-- What is laid anew as itself: behind k operations. -/
theorem own_at (h : rightB pc words el m = true) (hu : ∀ k, U64 (opAt m k).imm) (hm : layAll m = m) {k : Nat} (hk : k ≤ m.length) : (foS m k).1.laid.length = k ∧ Begins m (foS m k).1.laid ∧ (k < m.length → (foS m k).1.left = false) := by
  have hall : (foS m m.length).1.laid.length = m.length := by
    have : (layAll m).length = m.length := by rw [hm]
    exact this
  have h1 := foS_up h hu (m.length - k) k (by omega)
  obtain ⟨j, hj, e, _, _, H, _⟩ := foS_stops h hu k hk
  have hle := H.le
  rw [← e] at hle
  have hlen : (foS m k).1.laid.length = k := by omega
  refine ⟨hlen, ?_, fun hlt => ?_⟩
  · have := begins_all h (m.length - k) k (by omega)
    rwa [hm] at this
  · cases hl : (foS m k).1.left with
    | false => rfl
    | true =>
      have := foS_stop hl m.length hk
      rw [this] at hall
      omega
theorem ok_okL (h : rightB pc words el m = true) {k : Nat} (hk : k < m.length) : okL m k = true := by
  unfold rightB at h
  simp only [Bool.and_eq_true] at h
  have := ops_at h.2 hk
  unfold okAt at this
  unfold okL
  simp only [Bool.and_eq_true] at this ⊢
  exact ⟨⟨this.1.1.1, this.1.2⟩, this.2⟩
theorem own_step (h : rightB pc words el m = true) (hu : ∀ k, U64 (opAt m k).imm) (hm : layAll m = m) {k : Nat} (hk : k < m.length) : (foS m (k + 1)).1 = ((foS m k).1.lay (opAt m k)).1 ∧ ((foS m k).1.lay (opAt m k)).1.laid = (foS m k).1.laid ++ [opAt m k] := by
  obtain ⟨h1, hb, hl⟩ := own_at h hu hm (Nat.le_of_lt hk)
  obtain ⟨h2, hb2, _⟩ := own_at h hu hm (show k + 1 ≤ m.length by omega)
  have I := idem_all (m := m) h hu k (Nat.le_of_lt hk) hb
  have hpl := I.pl
  have hz := I.zero
  rw [h1] at hpl hz
  have et : toldO (opAt m k) (foS m k).2 = opAt m k := told_same (ok_okL h hk) rfl hpl hz
  have e1 : (foS m (k + 1)).1 = ((foS m k).1.lay (opAt m k)).1 := by rw [foS_go (hl hk), et]
  refine ⟨e1, ?_⟩
  rw [e1] at h2 hb2
  rcases lay_emits (foS m k).1 (opAt m k) (right_ok h hk).kind (hl hk) with hs | ⟨x, X⟩
  · rw [hs] at h2; omega
  · rw [X.laid] at hb2 ⊢
    have := (Begins.at hb2).1
    rw [h1] at this
    rw [this]
/-- What is known, of what was got or set. -/
def KnI (m : List Opr) (k : Nat) (S : Fo) : Prop := ∀ o : Opr, (o.kind = 2 ∨ (o.kind = 4 ∧ o.r = 0) ∨ o.kind = 6) → 0 ≤ lastI m o k → S.known o.kind o.r ≠ none ∨ (o.kind = 6 ∧ (opAt m (lastI m o k).toNat).kind = 7 ∧ flagB (opAt m (opAt m (lastI m o k).toNat).a.toNat) = false)
theorem kn_same {S S' : Fo} {k : Nat} (I : KnI m k S) (hk : ∀ o : Opr, (o.kind = 2 ∨ (o.kind = 4 ∧ o.r = 0) ∨ o.kind = 6) → hitB o (opAt m k) = true → S'.known o.kind o.r ≠ none ∨ (o.kind = 6 ∧ (opAt m k).kind = 7 ∧ flagB (opAt m (opAt m k).a.toNat) = false))
    (ho : ∀ o : Opr, (o.kind = 2 ∨ (o.kind = 4 ∧ o.r = 0) ∨ o.kind = 6) → hitB o (opAt m k) = false → S'.known o.kind o.r = S.known o.kind o.r) : KnI m (k + 1) S' := by
  intro o hO hl
  unfold lastI at hl ⊢
  cases hh : hitB o (opAt m k) with
  | true =>
    rw [if_pos rfl]
    exact hk o hO hh
  | false =>
    rw [hh, if_neg (by decide)] at hl
    rw [if_neg (by decide), ho o hO hh]
    exact I o hO hl
theorem hit_none {o x : Opr} (h : x.kind ≠ 2 ∧ x.kind ≠ 3 ∧ x.kind ≠ 4 ∧ x.kind ≠ 5 ∧ x.kind ≠ 6 ∧ x.kind ≠ 7) : hitB o x = false := by
  obtain ⟨h2, h3, h4, h5, h6, h7⟩ := h
  unfold hitB
  simp [h2, h3, h4, h5, h6, h7]
theorem kn_step (h : rightB pc words el m = true) (hu : ∀ k, U64 (opAt m k).imm) (hm : layAll m = m) {k : Nat} (hk : k < m.length) (I : KnI m k (foS m k).1) : KnI m (k + 1) (foS m (k + 1)).1 := by
  obtain ⟨e1, e2⟩ := own_step h hu hm hk
  obtain ⟨h1, hb, hl⟩ := own_at h hu hm (Nat.le_of_lt hk)
  have P := right_ok h hk
  obtain ⟨K1, K2, K3⟩ := okP_key P
  have hK := P.kind
  have pa : hasP (opAt m k).kind 2 = true → opAt (foS m k).1.laid (opAt m k).a.toNat = opAt m (opAt m k).a.toNat := fun e => (hb.opAt (by have := (P.a e).2.1; omega)).symm
  rw [e1]
  refine kn_same I (fun o hO hh => ?_) (fun o hO hh => ?_)
  · generalize (foS m k).1 = S at *
    generalize hx : opAt m k = x at *
    have plain : ¬ (x.kind ≠ 2 ∧ x.kind ≠ 3 ∧ x.kind ≠ 4 ∧ x.kind ≠ 5 ∧ x.kind ≠ 6 ∧ x.kind ≠ 7) := fun q => by rw [hit_none q] at hh; cases hh
    have get : ∀ y : Opr, (S.get y).1.known y.kind y.r ≠ none := fun y => by
      unfold Fo.get
      cases q : S.known y.kind y.r with
      | some v => dsimp only; rw [q]; simp
      | none => dsimp only [Fo.know]; simp
    have set : ∀ (a r : Int) (y : Opr), (S.set a r y).1.known a r ≠ none := fun a r y => by
      dsimp only [Fo.set, Fo.know, Fo.put]; simp
    obtain ⟨kind, r, a, bb, order, imm⟩ := x
    dsimp only at *
    have hh' := hh
    unfold hitB at hh
    rcases isK_cases hK with q | q | q | q | q | q | q | q | q | q | q | q | q | q | q | q | q | q <;> subst q
    case inr.inl =>
      rcases hO with e | ⟨e, e0⟩ | e <;> simp [e] at hh
      left
      have := get ⟨2, r, a, bb, order, imm⟩
      rw [e, ← hh]; exact this
    case inr.inr.inl =>
      rcases hO with e | ⟨e, e0⟩ | e <;> simp [e] at hh
      left
      have := set 2 r ⟨3, r, a, bb, order, imm⟩
      rw [e, ← hh]; exact this
    case inr.inr.inr.inl =>
      rcases hO with e | ⟨e, e0⟩ | e <;> simp [e] at hh
      left
      have hr0 : r = 0 := K2 (.inl rfl)
      have := get ⟨4, r, a, bb, order, imm⟩
      rw [e, e0, ← hr0]; exact this
    case inr.inr.inr.inr.inl =>
      rcases hO with e | ⟨e, e0⟩ | e <;> simp [e] at hh
      left
      have hr0 : r = 0 := K2 (.inr rfl)
      have := set 4 r ⟨5, r, a, bb, order, imm⟩
      rw [e, e0, ← hr0]; exact this
    case inr.inr.inr.inr.inr.inl =>
      rcases hO with e | ⟨e, e0⟩ | e <;> simp [e] at hh
      left
      have := get ⟨6, r, a, bb, order, imm⟩
      rw [e, ← hh]; exact this
    case inr.inr.inr.inr.inr.inr.inl =>
      rcases hO with e | ⟨e, e0⟩ | e <;> simp [e] at hh
      have pa := pa hp7_2
      cases hf : flagB (opAt m a.toNat) with
      | true =>
        left
        have := set 6 r ⟨7, r, a, bb, order, imm⟩
        show (S.setFlag ⟨7, r, a, bb, order, imm⟩).1.known o.kind o.r ≠ none
        unfold Fo.setFlag
        rw [if_pos (by show flagB (opAt S.laid a.toNat) = true; rw [pa]; exact hf), e, ← hh]; exact this
      | false => right; exact ⟨e, rfl, rfl⟩
    all_goals exact absurd (by decide) plain
  · generalize (foS m k).1 = S at *
    generalize hx : opAt m k = x at *
    obtain ⟨kind, r, a, bb, order, imm⟩ := x
    dsimp only at *
    have know : ∀ (S : Fo) (a r : Int) (v : Nat), ¬ (o.kind = a ∧ o.r = r) → (S.know a r v).known o.kind o.r = S.known o.kind o.r := fun S a r v hn => by
      dsimp only [Fo.know]; rw [if_neg hn]
    unfold hitB at hh
    rcases isK_cases hK with q | q | q | q | q | q | q | q | q | q | q | q | q | q | q | q | q | q <;> subst q
    case inr.inl =>
      show (S.get ⟨2, r, a, bb, order, imm⟩).1.known o.kind o.r = _
      unfold Fo.get
      split
      · rfl
      · refine know (S.put ⟨2, r, a, bb, order, imm⟩) 2 r _ (fun q => ?_)
        rw [q.1, q.2] at hh; simp at hh
    case inr.inr.inl =>
      show (S.set 2 r ⟨3, r, a, bb, order, imm⟩).1.known o.kind o.r = _
      refine know S 2 r _ (fun q => ?_)
      rw [q.1, q.2] at hh; simp at hh
    case inr.inr.inr.inl =>
      show (S.get ⟨4, r, a, bb, order, imm⟩).1.known o.kind o.r = _
      unfold Fo.get
      split
      · rfl
      · refine know (S.put ⟨4, r, a, bb, order, imm⟩) 4 r _ (fun q => ?_)
        rw [q.1] at hh; simp at hh
    case inr.inr.inr.inr.inl =>
      show (S.set 4 r ⟨5, r, a, bb, order, imm⟩).1.known o.kind o.r = _
      refine know S 4 r _ (fun q => ?_)
      rw [q.1] at hh; simp at hh
    case inr.inr.inr.inr.inr.inl =>
      show (S.get ⟨6, r, a, bb, order, imm⟩).1.known o.kind o.r = _
      unfold Fo.get
      split
      · rfl
      · refine know (S.put ⟨6, r, a, bb, order, imm⟩) 6 r _ (fun q => ?_)
        rw [q.1, q.2] at hh; simp at hh
    case inr.inr.inr.inr.inr.inr.inl =>
      show (S.setFlag ⟨7, r, a, bb, order, imm⟩).1.known o.kind o.r = _
      have hn : ¬ (o.kind = 6 ∧ o.r = r) := fun q => by rw [q.1, q.2] at hh; simp at hh
      unfold Fo.setFlag
      split
      · exact know S 6 r _ hn
      · dsimp only [Fo.drop, Fo.put]; rw [if_neg hn]
    case inr.inr.inr.inr.inr.inr.inr.inl => rfl
    case inr.inr.inr.inr.inr.inr.inr.inr.inr.inr.inr.inr.inr.inr.inl =>
      show (S.exitIf ⟨15, r, a, bb, order, imm⟩).1.known o.kind o.r = _
      unfold Fo.exitIf
      split
      · rfl
      · split <;> rfl
    all_goals rfl
theorem kn_all (h : rightB pc words el m = true) (hu : ∀ k, U64 (opAt m k).imm) (hm : layAll m = m) : ∀ k, k ≤ m.length → KnI m k (foS m k).1
  | 0, _ => fun o _ hl => absurd hl (by unfold lastI; decide)
  | k + 1, hk => kn_step h hu hm (by omega) (kn_all h hu hm k (by omega))
/-- Each operation may stand. -/
theorem sim_all (h : rightB pc words el m = true) (hu : ∀ k, U64 (opAt m k).imm) (hm : layAll m = m) {k : Nat} (hk : k < m.length) : simB m k = true := by
  obtain ⟨e1, e2⟩ := own_step h hu hm hk
  obtain ⟨h1, hb, hl⟩ := own_at h hu hm (Nat.le_of_lt hk)
  have I := kn_all h hu hm k (Nat.le_of_lt hk)
  have P := right_ok h hk
  obtain ⟨K1, K2, K3⟩ := okP_key P
  have pa : hasP (opAt m k).kind 2 = true → opAt (foS m k).1.laid (opAt m k).a.toNat = opAt m (opAt m k).a.toNat := fun e => (hb.opAt (by have := (P.a e).2.1; omega)).symm
  have pb : hasP (opAt m k).kind 4 = true → opAt (foS m k).1.laid (opAt m k).b.toNat = opAt m (opAt m k).b.toNat := fun e => (hb.opAt (by have := (P.b e).2.1; omega)).symm
  have I0 := I (opAt m k)
  have hcert : ∀ j, j < m.length → certB (opAt m j) = flagB (opAt m j) := fun j hj => cert_flag (right_ok h hj).op
  have hla : ∀ j, hasP (opAt m j).kind 2 = true → j < m.length → (opAt m j).a.toNat < m.length := fun j hj hjm => by have := ((right_ok h hjm).a hj).2.1; omega
  have hlk : ∀ j o, lastI m o j < j := by
    intro j o
    induction j with
    | zero => unfold lastI; decide
    | succ j ih => unfold lastI; split <;> omega
  have nget : ∀ S : Fo, ∀ o : Opr, (S.get o).1.laid = S.laid ++ [o] → S.known o.kind o.r = none := fun S o e => by
    unfold Fo.get at e
    cases q : S.known o.kind o.r with
    | none => rfl
    | some v =>
      rw [q] at e
      have := congrArg List.length e
      simp at this
  unfold simB
  have hlk0 := hlk k (opAt m k)
  by_cases q8 : (opAt m k).kind = 8
  · rw [if_pos q8]
    rw [q8] at pa pb
    have pa := pa hp8_2
    have pb := pb hp8_4
    have e3 : ((foS m k).1.lay (opAt m k)).1.laid = (foS m k).1.laid ++ [(foS m k).1.reckonO (opAt m k)] := by
      unfold Fo.lay; rw [q8]; rfl
    rw [e2] at e3
    have e4 : opAt m k = (foS m k).1.reckonO (opAt m k) := List.singleton_inj.1 (List.append_cancel_left e3)
    unfold Fo.reckonO at e4
    split at e4
    · rename_i hc
      have := congrArg Opr.kind e4
      rw [q8] at this
      exact absurd (show (8 : Int) = 1 from this) (by decide)
    · rename_i hc
      rw [pa, pb] at hc
      cases z1 : ((opAt m (opAt m k).a.toNat).kind != 1) with
      | true => rfl
      | false =>
        cases z2 : ((opAt m (opAt m k).b.toNat).kind != 1) with
        | true => rfl
        | false => simp at z1 z2; exact absurd ⟨z1, z2⟩ hc
  · rw [if_neg q8]
    by_cases q15 : (opAt m k).kind = 15
    · rw [if_pos q15]
      rw [q15] at pa
      have pa := pa hp15_2
      have e3 : ((foS m k).1.lay (opAt m k)).1 = ((foS m k).1.exitIf (opAt m k)).1 := by
        unfold Fo.lay; rw [q15]; rfl
      rw [e3] at e2
      unfold Fo.exitIf at e2
      split at e2
      · rename_i hc
        rw [pa] at hc
        simpa using hc
      · split at e2
        · have e4 := List.singleton_inj.1 (List.append_cancel_left e2)
          have := congrArg Opr.kind e4
          rw [q15] at this
          exact absurd (show (16 : Int) = 15 from this) (by decide)
        · have := congrArg List.length e2
          simp at this
    · rw [if_neg q15]
      by_cases q2 : (opAt m k).kind = 2 ∨ (opAt m k).kind = 4
      · rw [if_pos q2]
        have hn : (foS m k).1.known (opAt m k).kind (opAt m k).r = none := by
          apply nget
          rw [← e2]
          rcases q2 with q | q <;> (unfold Fo.lay; rw [q]; rfl)
        refine decide_eq_true ?_
        rcases Int.lt_or_le (lastI m (opAt m k) k) 0 with z | z
        · exact z
        · exfalso
          rcases I0 (by rcases q2 with q | q; exact .inl q; exact .inr (.inl ⟨q, K2 (.inl q)⟩)) z with y | ⟨y, _⟩
          · exact y hn
          · rcases q2 with q | q <;> rw [q] at y <;> exact absurd y (by decide)
      · rw [if_neg q2]
        by_cases q6 : (opAt m k).kind = 6
        · rw [if_pos q6]
          have hn : (foS m k).1.known (opAt m k).kind (opAt m k).r = none := by
            apply nget
            rw [← e2]
            unfold Fo.lay; rw [q6]; rfl
          rcases Int.lt_or_le (lastI m (opAt m k) k) 0 with z | z
          · rw [decide_eq_true z]; rfl
          · rcases I0 (.inr (.inr q6)) z with y | ⟨_, y7, yf⟩
            · exact absurd hn y
            · have hj : (lastI m (opAt m k) k).toNat < m.length := by omega
              rw [hcert _ (hla _ (by rw [y7]; exact hp7_2) hj), yf, y7]
              simp
        · rw [if_neg q6]
end
end Go.Proofs.Ytilhjbhhgpoajaa
/- No more of what the world sees: plain. -/
namespace Go.Proofs.Ytilhjbhhgpoajaa
open Go.RowKit
set_option linter.unusedVariables false
set_option linter.unusedSimpArgs false
set_option maxRecDepth 8000

def manyN (l : List Opr) (kind : Int) : Nat → Nat
  | 0 => 0
  | i + 1 => manyN l kind i + (if (opAt l i).kind = kind then 1 else 0)
theorem many_le (l : List Opr) (kind : Int) : ∀ k, manyN l kind k ≤ k
  | 0 => Nat.le_refl _
  | k + 1 => by
    have := many_le l kind k
    unfold manyN
    split <;> omega
theorem many_snoc {p : List Opr} {x : Opr} {kind : Int} : ∀ i, i ≤ p.length → manyN (p ++ [x]) kind i = manyN p kind i
  | 0, _ => rfl
  | i + 1, h => by
    unfold manyN
    rw [many_snoc i (by omega), opAt_left (by omega)]
theorem many_push (p : List Opr) (x : Opr) (kind : Int) : manyN (p ++ [x]) kind (p ++ [x]).length = manyN p kind p.length + (if x.kind = kind then 1 else 0) := by
  rw [List.length_append]
  show manyN (p ++ [x]) kind p.length + (if (opAt (p ++ [x]) p.length).kind = kind then 1 else 0) = _
  rw [many_snoc _ (Nat.le_refl _), opAt_last]
theorem lay_kind (S : Fo) (o : Opr) (hK : isK o.kind = true) : (S.lay o).1.laid = S.laid ∨ ∃ x, (S.lay o).1.laid = S.laid ++ [x] ∧ (x.kind = o.kind ∨ x.kind = 1 ∨ x.kind = 16) := by
  have get : (S.get o).1.laid = S.laid ∨ ∃ x, (S.get o).1.laid = S.laid ++ [x] ∧ (x.kind = o.kind ∨ x.kind = 1 ∨ x.kind = 16) := by
    unfold Fo.get
    split
    · exact .inl rfl
    · exact .inr ⟨o, rfl, .inl rfl⟩
  unfold Fo.lay
  rcases isK_cases hK with h | h | h | h | h | h | h | h | h | h | h | h | h | h | h | h | h | h <;> rw [h] at get ⊢
  case inr.inl => exact get
  case inr.inr.inr.inl => exact get
  case inr.inr.inr.inr.inr.inl => exact get
  case inr.inr.inr.inr.inr.inr.inl =>
    show (S.setFlag o).1.laid = S.laid ∨ ∃ x, (S.setFlag o).1.laid = S.laid ++ [x] ∧ _
    unfold Fo.setFlag
    split
    · exact .inr ⟨o, rfl, .inl h⟩
    · exact .inr ⟨o, rfl, .inl h⟩
  case inr.inr.inr.inr.inr.inr.inr.inl =>
    show (S.put (S.reckonO o)).laid = S.laid ∨ ∃ x, (S.put (S.reckonO o)).laid = S.laid ++ [x] ∧ _
    refine .inr ⟨_, rfl, ?_⟩
    unfold Fo.reckonO
    split
    · exact .inr (.inl rfl)
    · exact .inl h
  case inr.inr.inr.inr.inr.inr.inr.inr.inr.inr.inr.inr.inr.inr.inl =>
    show (S.exitIf o).1.laid = S.laid ∨ ∃ x, (S.exitIf o).1.laid = S.laid ++ [x] ∧ _
    unfold Fo.exitIf
    split
    · exact .inr ⟨o, rfl, .inl h⟩
    · split
      · exact .inr ⟨_, rfl, .inr (.inr rfl)⟩
      · exact .inl rfl
  all_goals exact .inr ⟨o, rfl, .inl h⟩
section
variable {pc words el : Int} {l : List Opr}
theorem many_lay (h : rightB pc words el l = true) {kind : Int} (h1 : 9 ≤ kind) (h2 : kind ≤ 15) : ∀ k, k ≤ l.length → manyN (foS l k).1.laid kind (foS l k).1.laid.length ≤ manyN l kind k
  | 0, _ => Nat.le_refl _
  | k + 1, hk => by
    have ih := many_lay h h1 h2 k (by omega)
    have hK := (right_ok h (show k < l.length by omega)).kind
    show _ ≤ manyN l kind k + (if (opAt l k).kind = kind then 1 else 0)
    cases hl : (foS l k).1.left with
    | true => rw [foS_stop hl (k + 1) (by omega)]; omega
    | false =>
      rw [foS_go hl]
      dsimp only
      rcases lay_kind (foS l k).1 (toldO (opAt l k) (foS l k).2) hK with hs | ⟨x, hx, hq⟩
      · rw [hs]; omega
      · rw [hx, many_push]
        have hq : x.kind = (opAt l k).kind ∨ x.kind = 1 ∨ x.kind = 16 := hq
        by_cases e : x.kind = kind
        · rw [if_pos e, if_pos (by omega)]; omega
        · rw [if_neg e]; omega
theorem many_all (h : rightB pc words el l = true) {kind : Int} (h1 : 9 ≤ kind) (h2 : kind ≤ 15) : manyN (layAll l) kind (layAll l).length ≤ manyN l kind l.length :=
  many_lay h h1 h2 l.length (Nat.le_refl _)
end
end Go.Proofs.Ytilhjbhhgpoajaa
