/- What holds of a go over a right block: plain. -/
import Derived.Test.YtilhjbhhgpoajaaDoorUj
import Derived.Test.YtilhjbhhgpoajaaDoorIb
namespace Go.Proofs.YtilhjbhhgpoajaaDoor
open Go.RowKit
set_option linter.unusedVariables false
set_option linter.unusedSimpArgs false
set_option maxRecDepth 8000

theorem opAt_left {l : List Opr} {o : Opr} {j : Nat} (h : j < l.length) : opAt (l ++ [o]) j = opAt l j := by unfold opAt; rw [List.getElem?_append_left h]
theorem opAt_last (l : List Opr) (o : Opr) : opAt (l ++ [o]) l.length = o := by unfold opAt; simp
theorem opAt_out {l : List Opr} {j : Nat} (h : l.length ≤ j) : opAt l j = nilO := by unfold opAt; rw [List.getElem?_eq_none h]; rfl
theorem u_nil : U64 nilO.imm := ⟨by decide, by decide⟩
theorem u_snoc {l : List Opr} {o : Opr} (h : ∀ j, U64 (opAt l j).imm) (ho : U64 o.imm) (j : Nat) : U64 (opAt (l ++ [o]) j).imm := by
  rcases Nat.lt_trichotomy j l.length with e | e | e
  · rw [opAt_left e]; exact h j
  · rw [e, opAt_last]; exact ho
  · rw [opAt_out (by simp; omega)]; exact u_nil
/-- The parts of what is right of an operation. -/
structure OkP (l : List Opr) (k : Nat) : Prop where
  kind : isK (opAt l k).kind = true
  last : hasP (opAt l k).kind 128 = decide (k + 1 = l.length)
  op : opB (opAt l k) = true
  a : hasP (opAt l k).kind 2 = true → 0 ≤ (opAt l k).a ∧ (opAt l k).a.toNat < k ∧ hasP (opAt l (opAt l k).a.toNat).kind 32 = true
  b : hasP (opAt l k).kind 4 = true → 0 ≤ (opAt l k).b ∧ (opAt l k).b.toNat < k ∧ hasP (opAt l (opAt l k).b.toNat).kind 32 = true
theorem okP_of {l : List Opr} {k : Nat} (h : okAt l k = true) : OkP l k := by
  unfold okAt at h
  simp only [Bool.and_eq_true] at h
  obtain ⟨⟨⟨h1, h2⟩, h3⟩, h4⟩ := h
  have d : ∀ p ∈ usesL (opAt l k), 0 ≤ p ∧ p.toNat < k ∧ hasP (opAt l p.toNat).kind 32 = true := fun p hp => by
    have := List.all_eq_true.1 h4 p hp
    unfold defB at this
    simp only [Bool.and_eq_true, decide_eq_true_eq] at this
    exact ⟨this.1.1, by omega, this.2⟩
  exact ⟨h1, by simpa using h2, h3, fun e => d _ (by unfold usesL; rw [if_pos e]; simp), fun e => d _ (by unfold usesL; rw [if_pos e]; simp)⟩
theorem okP_ab {l : List Opr} {k : Nat} (h : OkP l k) : (hasP (opAt l k).kind 2 = false → (opAt l k).a = 0) ∧ (hasP (opAt l k).kind 4 = false → (opAt l k).b = 0) := by
  have h := h.op
  unfold opB at h
  simp only [Bool.and_eq_true, Bool.or_eq_true] at h
  obtain ⟨⟨⟨⟨⟨_, h2⟩, h3⟩, _⟩, _⟩, _⟩ := h
  exact ⟨fun e => by rcases h2 with h2 | h2; (rw [e] at h2; cases h2); simpa using h2, fun e => by rcases h3 with h3 | h3; (rw [e] at h3; cases h3); simpa using h3⟩
theorem okP_r {l : List Opr} {k : Nat} (h : OkP l k) (hk : (opAt l k).kind = 2 ∨ (opAt l k).kind = 3 ∨ (opAt l k).kind = 4 ∨ (opAt l k).kind = 5 ∨ (opAt l k).kind = 6 ∨ (opAt l k).kind = 7) : 0 ≤ (opAt l k).r ∧ (opAt l k).r < 1000 := by
  have h := h.op
  generalize opAt l k = o at h hk
  obtain ⟨kind, r, a, b, order, imm⟩ := o
  dsimp only at hk ⊢
  unfold opB at h
  simp only [Bool.and_eq_true, Bool.or_eq_true] at h
  obtain ⟨⟨⟨⟨⟨h1, _⟩, _⟩, _⟩, _⟩, hr⟩ := h
  unfold rangeB at hr
  rcases hk with rfl | rfl | rfl | rfl | rfl | rfl
  · simp at hr; omega
  · simp at hr; omega
  · have : r = 0 := by rcases h1 with h1 | h1; (rw [hp4_1] at h1; cases h1); simpa using h1
    omega
  · have : r = 0 := by rcases h1 with h1 | h1; (rw [hp5_1] at h1; cases h1); simpa using h1
    omega
  · simp at hr; omega
  · simp at hr; omega
/-- What holds of a go over a right block, behind k operations. -/
structure FoOk (l : List Opr) (k : Nat) (S : Fo) (ps : List Nat) : Prop where
  len : ps.length = k
  le : S.laid.length ≤ k
  pos : 0 < k → 0 < S.laid.length
  pl : ∀ i, i < k → hasP (opAt l i).kind 32 = true → ps.getD i 0 < S.laid.length ∧ hasP (opAt S.laid (ps.getD i 0)).kind 32 = true
  zero : ps.getD 0 0 = 0
  kn : ∀ a r v, S.known a r = some v → v < S.laid.length ∧ hasP (opAt S.laid v).kind 32 = true
  first : 0 < k → opAt S.laid 0 = opAt l 0
  u : ∀ j, U64 (opAt S.laid j).imm
theorem getD_snoc_lt {ps : List Nat} {v i : Nat} (h : i < ps.length) : (ps ++ [v]).getD i 0 = ps.getD i 0 := by
  rw [List.getD_eq_getElem?_getD, List.getD_eq_getElem?_getD, List.getElem?_append_left h]
theorem getD_snoc_eq (ps : List Nat) (v : Nat) : (ps ++ [v]).getD ps.length 0 = v := by
  rw [List.getD_eq_getElem?_getD]; simp
theorem toldO_kind (o : Opr) (ps : List Nat) : (toldO o ps).kind = o.kind := rfl
theorem toldO_r (o : Opr) (ps : List Nat) : (toldO o ps).r = o.r := rfl
theorem toldO_imm (o : Opr) (ps : List Nat) : (toldO o ps).imm = o.imm := rfl
section
variable {l : List Opr} {k : Nat} {S : Fo} {ps : List Nat}
/-- What A and B of an operation told anew are. -/
theorem FoOk.told_a (H : FoOk l k S ps) (P : OkP l k) (h : hasP (opAt l k).kind 2 = true) : ps.getD (opAt l k).a.toNat 0 < S.laid.length ∧ hasP (opAt S.laid (ps.getD (opAt l k).a.toNat 0)).kind 32 = true := H.pl _ (P.a h).2.1 (P.a h).2.2
theorem FoOk.told_b (H : FoOk l k S ps) (P : OkP l k) (h : hasP (opAt l k).kind 4 = true) : ps.getD (opAt l k).b.toNat 0 < S.laid.length ∧ hasP (opAt S.laid (ps.getD (opAt l k).b.toNat 0)).kind 32 = true := H.pl _ (P.b h).2.1 (P.b h).2.2
theorem FoOk.layOk (H : FoOk l k S ps) (P : OkP l k) : LayOk S (toldO (opAt l k) ps) := by
  refine ⟨P.kind, fun h => okP_r P h, fun h => ?_, fun h => ?_, H.u⟩
  · have h2 : hasP (opAt l k).kind 2 = true := by
      have h : (opAt l k).kind = 3 ∨ (opAt l k).kind = 5 ∨ (opAt l k).kind = 7 ∨ (opAt l k).kind = 8 ∨ (opAt l k).kind = 15 := h
      rcases h with h | h | h | h | h <;> rw [h]
      · exact hp3_2
      · exact hp5_2
      · exact hp7_2
      · exact hp8_2
      · exact hp15_2
    refine ⟨Int.natCast_nonneg _, ?_⟩
    show Int.toNat ((ps.getD (opAt l k).a.toNat 0 : Nat) : Int) < _
    rw [Int.toNat_natCast]; exact (H.told_a P h2).1
  · have h4 : hasP (opAt l k).kind 4 = true := by
      have h : (opAt l k).kind = 8 := h
      rw [h]; exact hp8_4
    refine ⟨Int.natCast_nonneg _, ?_⟩
    show Int.toNat ((ps.getD (opAt l k).b.toNat 0 : Nat) : Int) < _
    rw [Int.toNat_natCast]; exact (H.told_b P h4).1
/-- One more operation laid. -/
theorem FoOk.push (H : FoOk l k S ps) (hk : 0 < k) {x : Opr} {v : Nat} {kn : Int → Int → Option Nat} {lf : Bool} (hu : U64 x.imm) (hv : hasP (opAt l k).kind 32 = true → v < S.laid.length ∧ hasP (opAt S.laid v).kind 32 = true ∨ v = S.laid.length ∧ hasP x.kind 32 = true)
    (hkn : ∀ a r q, kn a r = some q → S.known a r = some q ∨ (q < S.laid.length ∧ hasP (opAt S.laid q).kind 32 = true) ∨ (q = S.laid.length ∧ hasP x.kind 32 = true)) : FoOk l (k + 1) ⟨S.laid ++ [x], kn, lf⟩ (ps ++ [v]) := by
  have hl := H.len
  have old : ∀ q, (q < S.laid.length ∧ hasP (opAt S.laid q).kind 32 = true) ∨ (q = S.laid.length ∧ hasP x.kind 32 = true) → q < (S.laid ++ [x]).length ∧ hasP (opAt (S.laid ++ [x]) q).kind 32 = true := fun q h => by
    rcases h with ⟨h1, h2⟩ | ⟨h1, h2⟩
    · exact ⟨by simp; omega, by rw [opAt_left h1]; exact h2⟩
    · exact ⟨by simp [h1], by rw [h1, opAt_last]; exact h2⟩
  refine ⟨by simp [hl], by have := H.le; simp; omega, fun _ => by simp, fun i hi h32 => ?_, ?_, fun a r q h => ?_, fun _ => ?_, u_snoc H.u hu⟩
  · rcases Nat.lt_or_ge i k with e | e
    · rw [getD_snoc_lt (by omega)]; exact old _ (.inl (H.pl i e h32))
    · obtain rfl : i = k := by omega
      rw [← hl, getD_snoc_eq]
      exact old _ (hv h32)
  · rw [getD_snoc_lt (by omega)]; exact H.zero
  · rcases hkn a r q h with h | h
    · exact old _ (.inl (H.kn a r q h))
    · exact old _ h
  · rw [opAt_left (H.pos hk)]; exact H.first hk
/-- None laid. -/
theorem FoOk.pass (H : FoOk l k S ps) (hk : 0 < k) {v : Nat} (hv : hasP (opAt l k).kind 32 = true → v < S.laid.length ∧ hasP (opAt S.laid v).kind 32 = true) : FoOk l (k + 1) S (ps ++ [v]) := by
  have hl := H.len
  refine ⟨by simp [hl], by have := H.le; omega, fun _ => H.pos hk, fun i hi h32 => ?_, ?_, H.kn, fun _ => H.first hk, H.u⟩
  · rcases Nat.lt_or_ge i k with e | e
    · rw [getD_snoc_lt (by omega)]; exact H.pl i e h32
    · obtain rfl : i = k := by omega
      rw [← hl, getD_snoc_eq]
      exact hv h32
  · rw [getD_snoc_lt (by omega)]; exact H.zero
theorem FoOk.put (H : FoOk l k S ps) (hk : 0 < k) (hu : U64 (opAt l k).imm) : FoOk l (k + 1) (S.put (toldO (opAt l k) ps)) (ps ++ [S.laid.length]) :=
  H.push hk hu (fun h => .inr ⟨rfl, h⟩) (fun a r q h => .inl h)
theorem FoOk.get (H : FoOk l k S ps) (hk : 0 < k) (hu : U64 (opAt l k).imm) (h32 : hasP (opAt l k).kind 32 = true) : FoOk l (k + 1) (S.get (toldO (opAt l k) ps)).1 (ps ++ [(S.get (toldO (opAt l k) ps)).2]) := by
  unfold Fo.get
  cases e : S.known (toldO (opAt l k) ps).kind (toldO (opAt l k) ps).r with
  | some v => exact H.pass hk (fun _ => H.kn _ _ _ e)
  | none =>
    refine H.push hk hu (fun h => .inr ⟨rfl, h⟩) (fun a r q h => ?_)
    dsimp only [Fo.put] at h
    split at h
    · cases h; exact .inr (.inr ⟨rfl, h32⟩)
    · exact .inl h
theorem FoOk.set (H : FoOk l k S ps) (hk : 0 < k) (hu : U64 (opAt l k).imm) (P : OkP l k) (h2 : hasP (opAt l k).kind 2 = true) (h32 : hasP (opAt l k).kind 32 = false) (a r : Int) : FoOk l (k + 1) (S.set a r (toldO (opAt l k) ps)).1 (ps ++ [(S.set a r (toldO (opAt l k) ps)).2]) := by
  unfold Fo.set
  refine H.push hk hu (fun h => by rw [h32] at h; cases h) (fun x y q h => ?_)
  dsimp only [Fo.know] at h
  split at h
  · cases h
    right; left
    have := H.told_a P h2
    show Int.toNat ((ps.getD (opAt l k).a.toNat 0 : Nat) : Int) < _ ∧ hasP (opAt S.laid (Int.toNat ((ps.getD (opAt l k).a.toNat 0 : Nat) : Int))).kind 32 = true
    rw [Int.toNat_natCast]; exact this
  · exact .inl h
theorem FoOk.lay (H : FoOk l k S ps) (hk : 0 < k) (hu : U64 (opAt l k).imm) (P : OkP l k) : FoOk l (k + 1) (S.lay (toldO (opAt l k) ps)).1 (ps ++ [(S.lay (toldO (opAt l k) ps)).2]) := by
  have hput := H.put hk hu
  have hget := H.get hk hu
  have hset := H.set hk hu P
  unfold Fo.lay
  rw [toldO_kind]
  have hK := P.kind
  have hL := H.layOk P
  generalize ho : opAt l k = o at *
  have hnd : hasP o.kind 32 = false → ∀ x : Opr, U64 x.imm → ∀ v kn lf, (∀ a r q, kn a r = some q → S.known a r = some q) → FoOk l (k + 1) ⟨S.laid ++ [x], kn, lf⟩ (ps ++ [v]) := fun h x hx v kn lf hkn =>
    H.push hk hx (fun e => by rw [ho, h] at e; cases e) (fun a r q e => .inl (hkn a r q e))
  rcases isK_cases hK with h | h | h | h | h | h | h | h | h | h | h | h | h | h | h | h | h | h <;> rw [h]
  · exact hput
  · exact hget (by rw [h]; exact hp2_32)
  · exact hset (by rw [h]; exact hp3_2) (by rw [h]; exact hp3_32) 2 o.r
  · exact hget (by rw [h]; exact hp4_32)
  · exact hset (by rw [h]; exact hp5_2) (by rw [h]; exact hp5_32) 4 o.r
  · exact hget (by rw [h]; exact hp6_32)
  · show FoOk l (k + 1) (S.setFlag (toldO o ps)).1 (ps ++ [(S.setFlag (toldO o ps)).2])
    unfold Fo.setFlag
    split
    · exact hset (by rw [h]; exact hp7_2) (by rw [h]; exact hp7_32) 6 o.r
    · refine hnd (by rw [h]; exact hp7_32) (toldO o ps) hu _ _ _ (fun a r q e => ?_)
      dsimp only [Fo.drop] at e
      split at e
      · cases e
      · exact e
  · show FoOk l (k + 1) (S.put (S.reckonO (toldO o ps))) (ps ++ [S.laid.length])
    unfold Fo.reckonO
    split
    · exact H.push hk (Alu.reckon_in (H.u _) (H.u _)) (fun _ => .inr ⟨rfl, hp1_32⟩) (fun a r q e => .inl e)
    · exact hput
  · exact hput
  · exact hput
  · exact hput
  · exact hput
  · exact hput
  · exact hput
  · show FoOk l (k + 1) (S.exitIf (toldO o ps)).1 (ps ++ [(S.exitIf (toldO o ps)).2])
    have h32 : hasP o.kind 32 = false := by rw [h]; exact hp15_32
    unfold Fo.exitIf
    split
    · exact hnd h32 (toldO o ps) hu _ _ _ (fun a r q e => e)
    · split
      · exact hnd h32 ⟨16, 0, 0, 0, 0, o.imm⟩ hu _ _ _ (fun a r q e => e)
      · exact H.pass hk (fun e => by rw [ho, h32] at e; cases e)
  · exact hput
  · exact hput
  · exact hput
end
theorem right_first {pc words el : Int} {l : List Opr} (h : rightB pc words el l = true) : 0 < l.length ∧ l.length ≤ 512 ∧ opAt l 0 = ⟨14, 0, 0, 0, 0, pc⟩ := by
  unfold rightB headB at h
  simp only [Bool.and_eq_true, decide_eq_true_eq] at h
  exact ⟨by omega, by omega, h.1.2⟩
theorem right_ok {pc words el : Int} {l : List Opr} (h : rightB pc words el l = true) {k : Nat} (hk : k < l.length) : OkP l k := by
  unfold rightB at h
  simp only [Bool.and_eq_true] at h
  exact okP_of (ops_at h.2 hk)
theorem foS_zero {pc words el : Int} {l : List Opr} (h : rightB pc words el l = true) : foS l 1 = (⟨[⟨14, 0, 0, 0, 0, pc⟩], fun _ _ => none, false⟩, [0]) := by
  have h0 := (right_first h).2.2
  show (if (Fo.nil).left = true then _ else _) = _
  rw [if_neg (by decide)]
  show (((Fo.nil).lay (toldO (opAt l 0) [])).1, [] ++ [((Fo.nil).lay (toldO (opAt l 0) [])).2]) = _
  rw [h0]
  rfl
theorem foOk_all {pc words el : Int} {l : List Opr} (h : rightB pc words el l = true) (hu : ∀ k, U64 (opAt l k).imm) : ∀ k, 0 < k → k ≤ l.length → (foS l (k - 1)).1.left = false → FoOk l k (foS l k).1 (foS l k).2
  | 0, h0, _, _ => absurd h0 (by decide)
  | 1, _, _, _ => by
    have h0 := (right_first h).2.2
    rw [foS_zero h]
    refine ⟨rfl, Nat.le_refl _, fun _ => by simp, fun i hi h32 => ?_, rfl, fun a r v e => (by cases e), fun _ => h0.symm, fun j => ?_⟩
    · obtain rfl : i = 0 := by omega
      rw [h0] at h32
      exact absurd h32 (by rw [show (Opr.kind ⟨14, 0, 0, 0, 0, pc⟩) = 14 from rfl, hp14_32]; decide)
    · have := hu 0
      rw [h0] at this
      exact u_snoc (l := []) (fun j => by rw [opAt_out (by simp)]; exact u_nil) this j
  | k + 2, _, hk, hl => by
    have hl : (foS l (k + 1)).1.left = false := hl
    have hl0 : (foS l k).1.left = false := by
      cases e : (foS l k).1.left with
      | false => rfl
      | true => rw [foS_stop e (k + 1) (by omega), e] at hl; exact hl
    have ih := foOk_all h hu (k + 1) (by omega) (by omega) hl0
    rw [foS_go hl]
    exact ih.lay (by omega) (hu _) (right_ok h (by omega))
end Go.Proofs.YtilhjbhhgpoajaaDoor
