/- Kd, Ke of the seat, joined. -/
import Derived.Test.YtejlmggfeejgpaaKc
import Derived.Test.YtejlmggfeejgpaaXi
/- One step of a block and of it without what nobody sees, where it is seen: plain. -/
namespace Go.Proofs.Ytejlmggfeejgpaa
open Go.RowKit
set_option linter.unusedVariables false
set_option linter.unusedSimpArgs false
set_option maxRecDepth 8000

section
variable {pc words el : Int} {l : List Opr} {k : Nat} {D E : Dn}
theorem cnt_all {l : List Opr} {k : Nat} (hk : k < l.length) (hs : seenAt l k = true) : cntS (seenAt l) k < (onlyL l).length := by
  rw [only_len]; exact cnt_lt hs hk
theorem told_val (h : rightB pc words el l = true) (hk : k < l.length) (hs : seenAt l k = true) (hv : ∀ i, i < k → seenAt l i = true → hasP (opAt l i).kind 32 = true → D.vs.getD i 0 = E.vs.getD (cntS (seenAt l) i) 0) {u : Int} (hu : u ∈ usesL (opAt l k)) :
    E.vs.getD ((plS (seenAt l) u.toNat : Nat) : Int).toNat 0 = D.vs.getD u.toNat 0 := by
  obtain ⟨_, h1, h2⟩ := use_lt h hk hu
  have hsu := seen_uses h hk hs hu
  rw [Int.toNat_natCast, plS_on hsu]
  exact (hv _ h1 hsu h2).symm
def Res (el : Int) (l : List Opr) (k : Nat) (D E : Dn) : Prop := Gp el l (k + 1) (dStep el l D) (dStep el (onlyL l) E) ∨ Ou (dStep el l D) (dStep el (onlyL l) E) ∨ Pe el l k (dStep el l D) (dStep el (onlyL l) E)
set_option maxHeartbeats 1000000 in
/-- A step of what is seen. -/
theorem step_se (h : rightB pc words el l = true) (G : Gp el l k D E) (hs : seenAt l k = true) : E.at_ < (onlyL l).length ∧ Res el l k D E := by
  obtain ⟨cD, aD, wtD, wD, lfD, fD, woD, gD, vD⟩ := D
  obtain ⟨cE, aE, wtE, wE, lfE, fE, woE, gE, vE⟩ := E
  obtain ⟨h1, h2, lk, h4, h5, h6, h7, h8, h9, h10, nD, nE, hv, hk⟩ := G
  dsimp only at h1 h2 lk h4 h5 h6 h7 h8 h9 h10 nD nE hv
  subst h1 h2 h4 h5 h6 h7 h8 h9 h10
  have hlt := cnt_all hk hs
  refine ⟨hlt, ?_⟩
  have hok := right_at h hk
  have va : hasP (opAt l aD).kind 2 = true → vE.getD ((plS (seenAt l) (opAt l aD).a.toNat : Nat) : Int).toNat 0 = vD.getD (opAt l aD).a.toNat 0 := fun q => told_val (D := ⟨cD, aD, false, wD, false, fE, woE, gE, vD⟩) (E := ⟨cE, 0, false, wE, false, fE, woE, gE, vE⟩) h hk hs hv (uses_a q)
  have vb : hasP (opAt l aD).kind 4 = true → vE.getD ((plS (seenAt l) (opAt l aD).b.toNat : Nat) : Int).toNat 0 = vD.getD (opAt l aD).b.toNat 0 := fun q => told_val (D := ⟨cD, aD, false, wD, false, fE, woE, gE, vD⟩) (E := ⟨cE, 0, false, wE, false, fE, woE, gE, vE⟩) h hk hs hv (uses_b q)
  have vs_ := vals_set (D := ⟨cD, aD, false, wD, false, fE, woE, gE, vD⟩) (E := ⟨cE, 0, false, wE, false, fE, woE, gE, vE⟩) hv hs (by show aD < vD.length; omega) (by show _ < vE.length; omega)
  have vn_ := vals_next (D := ⟨cD, aD, false, wD, false, fE, woE, gE, vD⟩) (E := ⟨cE, 0, false, wE, false, fE, woE, gE, vE⟩) hv
  dsimp only at vs_ vn_
  have hc := cnt_succ hs
  have nl := not_last hok hk
  have rx := rng_x hok
  have rf := rng_f hok
  have hK := kind_ok hok
  rw [drop_at hk] at lk
  have stD : dStep el l ⟨cD, aD, false, wD, false, fE, woE, gE, vD⟩ = dOne el ⟨cD, aD + 1, false, wD, false, fE, woE, gE, vD⟩ (opAt l aD) := rfl
  have stE : dStep el (onlyL l) ⟨cE, cntS (seenAt l) aD, false, wE, false, fE, woE, gE, vE⟩ = dOne el ⟨cE, cntS (seenAt l) aD + 1, false, wE, false, fE, woE, gE, vE⟩ (tellO (opAt l aD) (seenAt l)) := by
    unfold dStep; dsimp only; rw [only_at l hk hs]
  unfold Res
  rw [stD, stE]
  have def_ : hasP (opAt l aD).kind 128 = false → setN (opAt l aD) = none → ∀ u, Gp el l (aD + 1) (Dn.define ⟨cD, aD + 1, false, wD, false, fE, woE, gE, vD⟩ u) (Dn.define ⟨cE, cntS (seenAt l) aD + 1, false, wE, false, fE, woE, gE, vE⟩ u) := fun hl hn u =>
    ⟨rfl, hc.symm, lk.next hn, rfl, rfl, rfl, rfl, rfl, rfl, rfl, (List.length_set ..).trans nD, (List.length_set ..).trans nE, vs_ u, nl hl⟩
  have set_ : hasP (opAt l aD).kind 128 = false → hasP (opAt l aD).kind 32 = false → ∀ n u c1 c2, setN (opAt l aD) = some n → SetC el n u cD c1 → SetC el n u cE c2 → Gp el l (aD + 1) ⟨c1, aD + 1, false, wD, false, fE, woE, gE, vD⟩ ⟨c2, cntS (seenAt l) aD + 1, false, wE, false, fE, woE, gE, vE⟩ := fun hl h32 n u c1 c2 hn s1 s2 =>
    ⟨rfl, hc.symm, lk.setB hn s1 s2, rfl, rfl, rfl, rfl, rfl, rfl, rfl, nD, nE, vn_ h32, nl hl⟩
  have ceq : lvB (opAt l aD) = true → cE = cD := fun q => (lk.eq q).symm
  have pe_ : ∀ d, (opAt l aD).kind = 9 ∨ (opAt l aD).kind = 10 ∨ (opAt l aD).kind = 11 ∨ (opAt l aD).kind = 12 → lvB (opAt l aD) = true → hasP (opAt l aD).kind 128 = false → Pe el l aD (Dn.wait ⟨cD, aD + 1, false, wD, false, fE, woE, gE, vD⟩ d) (Dn.wait ⟨cE, cntS (seenAt l) aD + 1, false, wE, false, fE, woE, gE, vE⟩ d) := fun d hw hl h128 => by
    have e := ceq hl
    subst e
    exact ⟨rfl, rfl, hs, Lk.refl _ _ _, fun _ => rfl, fun q => by omega, rfl, rfl, rfl, rfl, rfl, rfl, rfl, rfl, nD, nE, hv, by omega, nl h128⟩
  have pf_ : ∀ d, (opAt l aD).kind = 13 → d.kind = 6 → setN (opAt l aD) = none → hasP (opAt l aD).kind 128 = false → Pe el l aD (Dn.wait ⟨cD, aD + 1, false, wD, false, fE, woE, gE, vD⟩ d) (Dn.wait ⟨cE, cntS (seenAt l) aD + 1, false, wE, false, fE, woE, gE, vE⟩ d) := fun d hw hd hn h128 =>
    ⟨rfl, rfl, hs, lk.next hn, fun q => absurd hw q, fun _ => hd, rfl, rfl, rfl, rfl, rfl, rfl, rfl, rfl, nD, nE, hv, by omega, nl h128⟩
  have gx_ : lvB (opAt l aD) = true → hasP (opAt l aD).kind 32 = false → hasP (opAt l aD).kind 128 = false → Gp el l (aD + 1) ⟨cD, aD + 1, false, wD, false, fE, woE, gE, vD⟩ ⟨cE, cntS (seenAt l) aD + 1, false, wE, false, fE, woE, gE, vE⟩ := fun hl h32 h128 => by
    have e := ceq hl
    subst e
    exact ⟨rfl, hc.symm, Lk.refl _ _ _, rfl, rfl, rfl, rfl, rfl, rfl, rfl, nD, nE, vn_ h32, nl h128⟩
  clear vs_ vn_
  generalize opAt l aD = o at *
  obtain ⟨kind, r, a, b, order, imm⟩ := o
  rcases isK_cases hK with e | e | e | e | e | e | e | e | e | e | e | e | e | e | e | e | e | e
  all_goals
    have e : kind = _ := e
    subst e
  · exact .inl (def_ (by dsimp only; decide +kernel) rfl _)
  · have q : 0 ≤ r ∧ r ≤ 30 := rx (.inl rfl)
    left
    show Gp el l (aD + 1) (Dn.define _ (Dn.x _ r)) (Dn.define _ (Dn.x _ r))
    rw [reg_x (el := el) ⟨cE, cntS (seenAt l) aD + 1, false, wE, false, fE, woE, gE, vE⟩ q.1 q.2, reg_x (el := el) ⟨cD, aD + 1, false, wD, false, fE, woE, gE, vD⟩ q.1 q.2]
    rw [show regN el cE r.toNat = regN el cD r.toNat from (lk.got (by omega) rfl).symm]
    exact def_ (by dsimp only; decide +kernel) rfl _
  · have q : 0 ≤ r ∧ r ≤ 30 := rx (.inr rfl)
    have va := va (by dsimp only; decide +kernel)
    left
    show Gp el l (aD + 1) (Dn.setX _ r (vD.getD a.toNat 0)) (Dn.setX _ r (vE.getD _ 0))
    have va : vE.getD ((plS (seenAt l) a.toNat : Nat) : Int).toNat 0 = vD.getD a.toNat 0 := va
    show Gp el l (aD + 1) (Dn.setX _ r (vD.getD a.toNat 0)) (Dn.setX _ r (vE.getD ((plS (seenAt l) a.toNat : Nat) : Int).toNat 0))
    rw [va]
    exact set_ (by dsimp only; decide +kernel) (by dsimp only; decide +kernel) _ _ _ _ rfl (setC_x _ (by show r.toNat < 31; omega) _) (setC_x _ (by show r.toNat < 31; omega) _)
  · left
    show Gp el l (aD + 1) (Dn.define _ (Dn.sp _ el)) (Dn.define _ (Dn.sp _ el))
    rw [reg_sp, reg_sp]
    rw [show regN el cE 31 = regN el cD 31 from (lk.got (by omega) rfl).symm]
    exact def_ (by dsimp only; decide +kernel) rfl _
  · have va : vE.getD ((plS (seenAt l) a.toNat : Nat) : Int).toNat 0 = vD.getD a.toNat 0 := va (by dsimp only; decide +kernel)
    left
    show Gp el l (aD + 1) (Dn.setSP _ el (vD.getD a.toNat 0)) (Dn.setSP _ el (vE.getD ((plS (seenAt l) a.toNat : Nat) : Int).toNat 0))
    rw [va]
    have s1 := setC_sp (el := el) ⟨cD, aD + 1, false, wD, false, fE, woE, gE, vD⟩ (vD.getD a.toNat 0)
    have s2 := setC_sp (el := el) ⟨cE, cntS (seenAt l) aD + 1, false, wE, false, fE, woE, gE, vE⟩ (vD.getD a.toNat 0)
    have X : ∀ (X : Dn) z, X.setSP el z = { X with c := (X.setSP el z).c } := by intro X z; unfold Dn.setSP; split <;> rfl
    rw [X ⟨cD, _, _, _, _, _, _, _, _⟩, X ⟨cE, _, _, _, _, _, _, _, _⟩]
    exact set_ (by dsimp only; decide +kernel) (by dsimp only; decide +kernel) _ _ _ _ rfl s1 s2
  · have q : 0 ≤ r ∧ r ≤ 3 := rf (.inl rfl)
    left
    show Gp el l (aD + 1) (Dn.define _ (oneV (Dn.flag _ r))) (Dn.define _ (oneV (Dn.flag _ r)))
    rw [reg_f (el := el) ⟨cE, cntS (seenAt l) aD + 1, false, wE, false, fE, woE, gE, vE⟩ q.1 q.2, reg_f (el := el) ⟨cD, aD + 1, false, wD, false, fE, woE, gE, vD⟩ q.1 q.2]
    rw [show regN el cE (32 + r.toNat) = regN el cD (32 + r.toNat) from (lk.got (by omega) rfl).symm]
    exact def_ (by dsimp only; decide +kernel) rfl _
  · have q : 0 ≤ r ∧ r ≤ 3 := rf (.inr rfl)
    have va : vE.getD ((plS (seenAt l) a.toNat : Nat) : Int).toNat 0 = vD.getD a.toNat 0 := va (by dsimp only; decide +kernel)
    left
    show Gp el l (aD + 1) (Dn.setF _ r (vD.getD a.toNat 0 != 0)) (Dn.setF _ r (vE.getD ((plS (seenAt l) a.toNat : Nat) : Int).toNat 0 != 0))
    rw [va]
    have s1 := setC_f (el := el) ⟨cD, aD + 1, false, wD, false, fE, woE, gE, vD⟩ q.1 q.2 (vD.getD a.toNat 0 != 0)
    have s2 := setC_f (el := el) ⟨cE, cntS (seenAt l) aD + 1, false, wE, false, fE, woE, gE, vE⟩ q.1 q.2 (vD.getD a.toNat 0 != 0)
    have X : ∀ (X : Dn) z, X.setF r z = { X with c := (X.setF r z).c } := by intro X z; unfold Dn.setF; split; rfl; split; rfl; split <;> rfl
    rw [X ⟨cD, _, _, _, _, _, _, _, _⟩, X ⟨cE, _, _, _, _, _, _, _, _⟩]
    exact set_ (by dsimp only; decide +kernel) (by dsimp only; decide +kernel) _ _ _ _ rfl s1 s2
  · have va : vE.getD ((plS (seenAt l) a.toNat : Nat) : Int).toNat 0 = vD.getD a.toNat 0 := va (by dsimp only; decide +kernel)
    have vb : vE.getD ((plS (seenAt l) b.toNat : Nat) : Int).toNat 0 = vD.getD b.toNat 0 := vb (by dsimp only; decide +kernel)
    left
    show Gp el l (aD + 1) (Dn.define _ (Alu.reckonV r (vD.getD a.toNat 0) (vD.getD b.toNat 0))) (Dn.define _ (Alu.reckonV r (vE.getD ((plS (seenAt l) a.toNat : Nat) : Int).toNat 0) (vE.getD ((plS (seenAt l) b.toNat : Nat) : Int).toNat 0)))
    rw [va, vb]
    exact def_ (by dsimp only; decide +kernel) rfl _
  · have va : vE.getD ((plS (seenAt l) a.toNat : Nat) : Int).toNat 0 = vD.getD a.toNat 0 := va (by dsimp only; decide +kernel)
    have e := ceq (by show hasP 9 64 = true; decide +kernel)
    have p := fun d => pe_ d (by show _ ∨ _; omega) (by show hasP 9 64 = true; decide +kernel) (by dsimp only; decide +kernel)
    subst e
    show Gp el l (aD + 1) (Dn.acc _ ⟨9, r, a, b, order, imm⟩ (vD.getD a.toNat 0) (vD.getD b.toNat 0)) (Dn.acc _ (tellO ⟨9, r, a, b, order, imm⟩ (seenAt l)) (vE.getD ((plS (seenAt l) a.toNat : Nat) : Int).toNat 0) (vE.getD ((plS (seenAt l) b.toNat : Nat) : Int).toNat 0)) ∨ Ou (Dn.acc _ ⟨9, r, a, b, order, imm⟩ (vD.getD a.toNat 0) (vD.getD b.toNat 0)) (Dn.acc _ (tellO ⟨9, r, a, b, order, imm⟩ (seenAt l)) (vE.getD ((plS (seenAt l) a.toNat : Nat) : Int).toNat 0) (vE.getD ((plS (seenAt l) b.toNat : Nat) : Int).toNat 0)) ∨ Pe el l aD (Dn.acc _ ⟨9, r, a, b, order, imm⟩ (vD.getD a.toNat 0) (vD.getD b.toNat 0)) (Dn.acc _ (tellO ⟨9, r, a, b, order, imm⟩ (seenAt l)) (vE.getD ((plS (seenAt l) a.toNat : Nat) : Int).toNat 0) (vE.getD ((plS (seenAt l) b.toNat : Nat) : Int).toNat 0))
    rw [va]
    unfold Dn.acc
    by_cases h8 : vD.getD a.toNat 0 % 8 = 0
    · rw [if_pos h8, if_pos h8]
      right; right
      exact p _
    · rw [if_neg h8, if_neg h8]
      exact .inr (.inl ⟨rfl, rfl, rfl, rfl, rfl, rfl, rfl, rfl⟩)
  · have va : vE.getD ((plS (seenAt l) a.toNat : Nat) : Int).toNat 0 = vD.getD a.toNat 0 := va (by dsimp only; decide +kernel)
    have vb : vE.getD ((plS (seenAt l) b.toNat : Nat) : Int).toNat 0 = vD.getD b.toNat 0 := vb (by dsimp only; decide +kernel)
    have e := ceq (by show hasP 10 64 = true; decide +kernel)
    have p := fun d => pe_ d (by show _ ∨ _; omega) (by show hasP 10 64 = true; decide +kernel) (by dsimp only; decide +kernel)
    subst e
    show Gp el l (aD + 1) (Dn.acc _ ⟨10, r, a, b, order, imm⟩ (vD.getD a.toNat 0) (vD.getD b.toNat 0)) (Dn.acc _ (tellO ⟨10, r, a, b, order, imm⟩ (seenAt l)) (vE.getD ((plS (seenAt l) a.toNat : Nat) : Int).toNat 0) (vE.getD ((plS (seenAt l) b.toNat : Nat) : Int).toNat 0)) ∨ Ou (Dn.acc _ ⟨10, r, a, b, order, imm⟩ (vD.getD a.toNat 0) (vD.getD b.toNat 0)) (Dn.acc _ (tellO ⟨10, r, a, b, order, imm⟩ (seenAt l)) (vE.getD ((plS (seenAt l) a.toNat : Nat) : Int).toNat 0) (vE.getD ((plS (seenAt l) b.toNat : Nat) : Int).toNat 0)) ∨ Pe el l aD (Dn.acc _ ⟨10, r, a, b, order, imm⟩ (vD.getD a.toNat 0) (vD.getD b.toNat 0)) (Dn.acc _ (tellO ⟨10, r, a, b, order, imm⟩ (seenAt l)) (vE.getD ((plS (seenAt l) a.toNat : Nat) : Int).toNat 0) (vE.getD ((plS (seenAt l) b.toNat : Nat) : Int).toNat 0))
    rw [va]
    unfold Dn.acc
    by_cases h8 : vD.getD a.toNat 0 % 8 = 0
    · rw [if_pos h8, if_pos h8]
      right; right
      rw [vb]
      exact p _
    · rw [if_neg h8, if_neg h8]
      exact .inr (.inl ⟨rfl, rfl, rfl, rfl, rfl, rfl, rfl, rfl⟩)
  · have va : vE.getD ((plS (seenAt l) a.toNat : Nat) : Int).toNat 0 = vD.getD a.toNat 0 := va (by dsimp only; decide +kernel)
    have e := ceq (by show hasP 11 64 = true; decide +kernel)
    have p := fun d => pe_ d (by show _ ∨ _; omega) (by show hasP 11 64 = true; decide +kernel) (by dsimp only; decide +kernel)
    subst e
    show Gp el l (aD + 1) (Dn.acc _ ⟨11, r, a, b, order, imm⟩ (vD.getD a.toNat 0) (vD.getD b.toNat 0)) (Dn.acc _ (tellO ⟨11, r, a, b, order, imm⟩ (seenAt l)) (vE.getD ((plS (seenAt l) a.toNat : Nat) : Int).toNat 0) (vE.getD ((plS (seenAt l) b.toNat : Nat) : Int).toNat 0)) ∨ Ou (Dn.acc _ ⟨11, r, a, b, order, imm⟩ (vD.getD a.toNat 0) (vD.getD b.toNat 0)) (Dn.acc _ (tellO ⟨11, r, a, b, order, imm⟩ (seenAt l)) (vE.getD ((plS (seenAt l) a.toNat : Nat) : Int).toNat 0) (vE.getD ((plS (seenAt l) b.toNat : Nat) : Int).toNat 0)) ∨ Pe el l aD (Dn.acc _ ⟨11, r, a, b, order, imm⟩ (vD.getD a.toNat 0) (vD.getD b.toNat 0)) (Dn.acc _ (tellO ⟨11, r, a, b, order, imm⟩ (seenAt l)) (vE.getD ((plS (seenAt l) a.toNat : Nat) : Int).toNat 0) (vE.getD ((plS (seenAt l) b.toNat : Nat) : Int).toNat 0))
    rw [va]
    unfold Dn.acc
    by_cases h8 : vD.getD a.toNat 0 % 8 = 0
    · rw [if_pos h8, if_pos h8]
      right; right
      exact p _
    · rw [if_neg h8, if_neg h8]
      exact .inr (.inl ⟨rfl, rfl, rfl, rfl, rfl, rfl, rfl, rfl⟩)
  · have va : vE.getD ((plS (seenAt l) a.toNat : Nat) : Int).toNat 0 = vD.getD a.toNat 0 := va (by dsimp only; decide +kernel)
    have vb : vE.getD ((plS (seenAt l) b.toNat : Nat) : Int).toNat 0 = vD.getD b.toNat 0 := vb (by dsimp only; decide +kernel)
    have e := ceq (by show hasP 12 64 = true; decide +kernel)
    have p := fun d => pe_ d (by show _ ∨ _; omega) (by show hasP 12 64 = true; decide +kernel) (by dsimp only; decide +kernel)
    subst e
    show Gp el l (aD + 1) (Dn.acc _ ⟨12, r, a, b, order, imm⟩ (vD.getD a.toNat 0) (vD.getD b.toNat 0)) (Dn.acc _ (tellO ⟨12, r, a, b, order, imm⟩ (seenAt l)) (vE.getD ((plS (seenAt l) a.toNat : Nat) : Int).toNat 0) (vE.getD ((plS (seenAt l) b.toNat : Nat) : Int).toNat 0)) ∨ Ou (Dn.acc _ ⟨12, r, a, b, order, imm⟩ (vD.getD a.toNat 0) (vD.getD b.toNat 0)) (Dn.acc _ (tellO ⟨12, r, a, b, order, imm⟩ (seenAt l)) (vE.getD ((plS (seenAt l) a.toNat : Nat) : Int).toNat 0) (vE.getD ((plS (seenAt l) b.toNat : Nat) : Int).toNat 0)) ∨ Pe el l aD (Dn.acc _ ⟨12, r, a, b, order, imm⟩ (vD.getD a.toNat 0) (vD.getD b.toNat 0)) (Dn.acc _ (tellO ⟨12, r, a, b, order, imm⟩ (seenAt l)) (vE.getD ((plS (seenAt l) a.toNat : Nat) : Int).toNat 0) (vE.getD ((plS (seenAt l) b.toNat : Nat) : Int).toNat 0))
    rw [va]
    unfold Dn.acc
    by_cases h8 : vD.getD a.toNat 0 % 8 = 0
    · rw [if_pos h8, if_pos h8]
      right; right
      rw [vb]
      exact p _
    · rw [if_neg h8, if_neg h8]
      exact .inr (.inl ⟨rfl, rfl, rfl, rfl, rfl, rfl, rfl, rfl⟩)
  · exact .inr (.inr (pf_ _ rfl rfl rfl (by dsimp only; decide +kernel)))
  · exact .inl (set_ (by dsimp only; decide +kernel) (by dsimp only; decide +kernel) _ _ _ _ rfl (setC_pc _ _) (setC_pc _ _))
  · have va : vE.getD ((plS (seenAt l) a.toNat : Nat) : Int).toNat 0 = vD.getD a.toNat 0 := va (by dsimp only; decide +kernel)
    have e := ceq (by show hasP 15 64 = true; decide +kernel)
    have g := gx_ (by show hasP 15 64 = true; decide +kernel) (by dsimp only; decide +kernel) (by dsimp only; decide +kernel)
    subst e
    show Gp el l (aD + 1) (if (vD.getD a.toNat 0 != 0) = true then _ else _) (if (vE.getD ((plS (seenAt l) a.toNat : Nat) : Int).toNat 0 != 0) = true then _ else _) ∨ Ou (if (vD.getD a.toNat 0 != 0) = true then _ else _) (if (vE.getD ((plS (seenAt l) a.toNat : Nat) : Int).toNat 0 != 0) = true then _ else _) ∨ Pe el l aD (if (vD.getD a.toNat 0 != 0) = true then _ else _) (if (vE.getD ((plS (seenAt l) a.toNat : Nat) : Int).toNat 0 != 0) = true then _ else _)
    rw [va]
    cases hz : (vD.getD a.toNat 0 != 0) with
    | true =>
      rw [if_pos rfl, if_pos rfl]
      exact .inr (.inl ⟨rfl, rfl, rfl, rfl, rfl, rfl, rfl, rfl⟩)
    | false =>
      rw [if_neg (by decide), if_neg (by decide)]
      exact .inl g
  · have e := ceq (by show hasP 16 64 = true; decide +kernel)
    subst e
    exact .inr (.inl ⟨rfl, rfl, rfl, rfl, rfl, rfl, rfl, rfl⟩)
  · have va : vE.getD ((plS (seenAt l) a.toNat : Nat) : Int).toNat 0 = vD.getD a.toNat 0 := va (by dsimp only; decide +kernel)
    have e := ceq (by show hasP 17 64 = true; decide +kernel)
    subst e
    refine .inr (.inl ⟨?_, rfl, rfl, rfl, rfl, rfl, rfl, rfl⟩)
    show ({ cE with pc := vE.getD ((plS (seenAt l) a.toNat : Nat) : Int).toNat 0 } : Cor) = { cE with pc := vD.getD a.toNat 0 }
    rw [va]
  · have e := ceq (by show hasP 18 64 = true; decide +kernel)
    subst e
    exact .inr (.inl ⟨rfl, rfl, rfl, rfl, rfl, rfl, rfl, rfl⟩)
end
end Go.Proofs.Ytejlmggfeejgpaa
/- Both runs behind Next and Take: plain. -/
namespace Go.Proofs.Ytejlmggfeejgpaa
open Go.RowKit
set_option linter.unusedVariables false
set_option linter.unusedSimpArgs false
set_option maxRecDepth 8000

section
variable {pc words el : Int} {l m n : List Opr} {k : Nat} {D E : Dn}
/-- Behind Next: both have left, or both wait. -/
def Nx (el : Int) (l : List Opr) (k : Nat) (D E : Dn) : Prop := Ou D E ∨ ∃ j, k ≤ j ∧ Pe el l j D E
theorem Nx.mono {j : Nat} (h : Nx el l j D E) (hk : k ≤ j) : Nx el l k D E := by
  rcases h with h | ⟨i, hi, h⟩
  · exact .inl h
  · exact .inr ⟨i, by omega, h⟩
theorem gp_in (h : rightB pc words el l = true) (G : Gp el l k D E) : E.at_ < (onlyL l).length := by
  have hk := G.lt
  rw [G.atE, only_len]
  have h1 := cnt_mono (seenAt l) (show k ≤ l.length - 1 by omega)
  have h2 := cnt_lt (last_seen h (k := l.length - 1) (by omega)) (show l.length - 1 < l.length by omega)
  omega
theorem run_k (h : rightB pc words el l = true) : ∀ (f g k : Nat) (D E : Dn), Gp el l k D E → l.length ≤ k + f → (onlyL l).length ≤ E.at_ + g → Nx el l k (dRun el l f D) (dRun el (onlyL l) g E)
  | 0, g, k, D, E, G, h1, h2 => absurd G.lt (by omega)
  | f + 1, g, k, D, E, G, h1, h2 => by
    have eD : dRun el l (f + 1) D = dRun el l f (dStep el l D) := by
      show (if _ then _ else _) = _
      rw [if_pos ⟨G.lD, G.wD⟩]
    rw [eD]
    cases hs : seenAt l k with
    | false => exact (run_k h f g (k + 1) _ E (step_un h G hs) (by omega) h2).mono (by omega)
    | true =>
      obtain ⟨hlt, R⟩ := step_se h G hs
      obtain ⟨g, rfl⟩ : ∃ q, g = q + 1 := ⟨g - 1, by omega⟩
      have eE : dRun el (onlyL l) (g + 1) E = dRun el (onlyL l) g (dStep el (onlyL l) E) := by
        show (if _ then _ else _) = _
        rw [if_pos ⟨G.lE, G.wE⟩]
      rw [eE]
      rcases R with G1 | O | Q
      · exact (run_k h f g (k + 1) _ _ G1 (by omega) (by rw [dStep_at]; omega)).mono (by omega)
      · rw [dRun_stop (fun e => by have := O.lD; rw [e.1] at this; cases this), dRun_stop (fun e => by have := O.lE; rw [e.1] at this; cases this)]
        exact .inl O
      · rw [dRun_stop (fun e => by have := Q.wD; rw [e.2] at this; cases this), dRun_stop (fun e => by have := Q.wE; rw [e.2] at this; cases this)]
        exact .inr ⟨k, Nat.le_refl _, Q⟩
theorem next_k (h : rightB pc words el l = true) (G : Gp el l k D E) : Nx el l k (dNext el l D) (dNext el (onlyL l) E) :=
  run_k h _ _ k D E G (by omega) (by omega)
theorem next_o (O : Ou D E) : dNext el l D = D ∧ dNext el m E = E :=
  ⟨dRun_stop (fun e => by have := O.lD; rw [e.1] at this; cases this), dRun_stop (fun e => by have := O.lE; rw [e.1] at this; cases this)⟩
theorem take_k (h : rightB pc words el l = true) (Q : Pe el l k D E) (t : Gt) : Gp el l (k + 1) (dTake l D t) (dTake (onlyL l) E t) ∨ Ou (dTake l D t) (dTake (onlyL l) E t) := by
  obtain ⟨cD, aD, wtD, wD, lfD, fD, woD, gD, vD⟩ := D
  obtain ⟨cE, aE, wtE, wE, lfE, fE, woE, gE, vE⟩ := E
  obtain ⟨h1, h2, hs, lk, hc, _, h4, h5, hw, h6, h7, h8, h9, h10, nD, nE, hv, hwh, hlt⟩ := Q
  dsimp only at h1 h2 lk hc h4 h5 hw h6 h7 h8 h9 h10 nD nE hv
  subst h1 h2 h4 h5 hw h6 h7 h8 h9 h10
  have hkl : k < l.length := by omega
  have hm := cnt_all hkl hs
  have hkd : (opAt (onlyL l) (cntS (seenAt l) k)).kind = (opAt l k).kind := by rw [only_at l hkl hs]; rfl
  have vs_ := vals_set (D := ⟨cD, k, false, wE, false, fE, woE, gE, vD⟩) (E := ⟨cE, 0, false, wE, false, fE, woE, gE, vE⟩) hv hs (by show k < vD.length; omega) (by show _ < vE.length; omega)
  have vn_ := vals_next (D := ⟨cD, k, false, wE, false, fE, woE, gE, vD⟩) (E := ⟨cE, 0, false, wE, false, fE, woE, gE, vE⟩) hv
  dsimp only at vs_ vn_
  have hcs := cnt_succ hs
  have tD : dTake l ⟨cD, k + 1, true, wE, false, fE, woE, gE, vD⟩ t = (if accB (opAt l k).kind = false then ⟨cD, k + 1, false, wE, false, fE, woE, gE, vD⟩ else if t.fault ≠ 0 then ⟨cD, k + 1, false, wE, true, true, woE, gE, vD⟩ else if (opAt l k).kind = 12 then ⟨cD, k + 1, false, wE, false, fE, woE, gE, vD.set k (oneV (!t.ok))⟩ else if (opAt l k).kind = 10 then ⟨cD, k + 1, false, wE, false, fE, woE, gE, vD⟩ else ⟨cD, k + 1, false, wE, false, fE, woE, gE, vD.set k t.value⟩) := by
    show (if (true : Bool) = false then _ else _) = _
    rw [if_neg (by decide)]; rfl
  have tE : dTake (onlyL l) ⟨cE, cntS (seenAt l) k + 1, true, wE, false, fE, woE, gE, vE⟩ t = (if accB (opAt (onlyL l) (cntS (seenAt l) k)).kind = false then ⟨cE, cntS (seenAt l) k + 1, false, wE, false, fE, woE, gE, vE⟩ else if t.fault ≠ 0 then ⟨cE, cntS (seenAt l) k + 1, false, wE, true, true, woE, gE, vE⟩ else if (opAt (onlyL l) (cntS (seenAt l) k)).kind = 12 then ⟨cE, cntS (seenAt l) k + 1, false, wE, false, fE, woE, gE, vE.set (cntS (seenAt l) k) (oneV (!t.ok))⟩ else if (opAt (onlyL l) (cntS (seenAt l) k)).kind = 10 then ⟨cE, cntS (seenAt l) k + 1, false, wE, false, fE, woE, gE, vE⟩ else ⟨cE, cntS (seenAt l) k + 1, false, wE, false, fE, woE, gE, vE.set (cntS (seenAt l) k) t.value⟩) := by
    show (if (true : Bool) = false then _ else _) = _
    rw [if_neg (by decide)]; rfl
  rw [tD, tE, hkd]
  have plain : hasP (opAt l k).kind 32 = false → Gp el l (k + 1) ⟨cD, k + 1, false, wE, false, fE, woE, gE, vD⟩ ⟨cE, cntS (seenAt l) k + 1, false, wE, false, fE, woE, gE, vE⟩ := fun h =>
    ⟨rfl, hcs.symm, lk, rfl, rfl, rfl, rfl, rfl, rfl, rfl, nD, nE, vn_ h, hlt⟩
  have set : ∀ u, Gp el l (k + 1) ⟨cD, k + 1, false, wE, false, fE, woE, gE, vD.set k u⟩ ⟨cE, cntS (seenAt l) k + 1, false, wE, false, fE, woE, gE, vE.set (cntS (seenAt l) k) u⟩ := fun u =>
    ⟨rfl, hcs.symm, lk, rfl, rfl, rfl, rfl, rfl, rfl, rfl, (List.length_set ..).trans nD, (List.length_set ..).trans nE, vs_ u, hlt⟩
  by_cases hf : t.fault ≠ 0
  · rcases hwh with e | e | e | e | e <;> rw [e] at plain hc ⊢
    · rw [if_neg (show ¬ accB 9 = false by decide), if_neg (show ¬ accB 9 = false by decide), if_pos hf, if_pos hf]; exact .inr ⟨hc (by decide), rfl, rfl, rfl, rfl, rfl, rfl, rfl⟩
    · rw [if_neg (show ¬ accB 10 = false by decide), if_neg (show ¬ accB 10 = false by decide), if_pos hf, if_pos hf]; exact .inr ⟨hc (by decide), rfl, rfl, rfl, rfl, rfl, rfl, rfl⟩
    · rw [if_neg (show ¬ accB 11 = false by decide), if_neg (show ¬ accB 11 = false by decide), if_pos hf, if_pos hf]; exact .inr ⟨hc (by decide), rfl, rfl, rfl, rfl, rfl, rfl, rfl⟩
    · rw [if_neg (show ¬ accB 12 = false by decide), if_neg (show ¬ accB 12 = false by decide), if_pos hf, if_pos hf]; exact .inr ⟨hc (by decide), rfl, rfl, rfl, rfl, rfl, rfl, rfl⟩
    · rw [if_pos (show accB 13 = false by decide), if_pos (show accB 13 = false by decide)]; exact .inl (plain (by decide +kernel))
  · left
    rcases hwh with e | e | e | e | e <;> rw [e] at plain ⊢
    · rw [if_neg (show ¬ accB 9 = false by decide), if_neg (show ¬ accB 9 = false by decide), if_neg hf, if_neg hf, if_neg (show ¬ (9 : Int) = 12 by decide), if_neg (show ¬ (9 : Int) = 12 by decide), if_neg (show ¬ (9 : Int) = 10 by decide), if_neg (show ¬ (9 : Int) = 10 by decide)]; exact set _
    · rw [if_neg (show ¬ accB 10 = false by decide), if_neg (show ¬ accB 10 = false by decide), if_neg hf, if_neg hf, if_neg (show ¬ (10 : Int) = 12 by decide), if_neg (show ¬ (10 : Int) = 12 by decide), if_pos (show (10 : Int) = 10 from rfl), if_pos (show (10 : Int) = 10 from rfl)]; exact plain (by decide +kernel)
    · rw [if_neg (show ¬ accB 11 = false by decide), if_neg (show ¬ accB 11 = false by decide), if_neg hf, if_neg hf, if_neg (show ¬ (11 : Int) = 12 by decide), if_neg (show ¬ (11 : Int) = 12 by decide), if_neg (show ¬ (11 : Int) = 10 by decide), if_neg (show ¬ (11 : Int) = 10 by decide)]; exact set _
    · rw [if_neg (show ¬ accB 12 = false by decide), if_neg (show ¬ accB 12 = false by decide), if_neg hf, if_neg hf, if_pos (show (12 : Int) = 12 from rfl), if_pos (show (12 : Int) = 12 from rfl)]; exact set _
    · rw [if_pos (show accB 13 = false by decide), if_pos (show accB 13 = false by decide)]; exact plain (by decide +kernel)
/-- What holds between a block's run and another's. -/
structure Sim (el : Int) (l m : List Opr) (R Q : Nat → Dn → Dn → Prop) : Prop where
  first : ∀ c, R 0 (newD l.length c) (newD m.length c)
  inD : ∀ {i D E}, R i D E → DIn l D
  inE : ∀ {i D E}, R i D E → DIn m E
  next : ∀ {i D E}, R i D E → Q i (dNext el l D) (dNext el m E)
  out : ∀ {i D E}, Q i D E → E.waits = D.waits ∧ outW E = outW D ∧ ((D.waits = true ∧ D.w.kind = 6) ∨ E.c = D.c) ∧ (D.waits = false → E.flt = D.flt ∧ E.guest = D.guest ∧ E.word = D.word)
  le : ∀ {i D E}, Q i D E → D.waits = true → (1 ≤ D.at_ ∧ D.at_ ≤ l.length) ∧ (1 ≤ E.at_ ∧ E.at_ ≤ m.length)
  take : ∀ {i D E}, Q i D E → D.waits = true → ∀ t, i + 1 < l.length ∧ R (i + 1) (dTake l D t) (dTake m E t)
theorem sim_one (h : rightB pc words el l = true) : Sim el l (onlyL l) (fun i D E => (∃ k, i ≤ k ∧ Gp el l k D E) ∨ Ou D E) (fun i D E => Nx el l i D E) where
  first c := .inl ⟨0, Nat.le_refl _, rfl, rfl, Lk.refl _ _ _, rfl, rfl, rfl, rfl, rfl, rfl, rfl, by simp [newD], by simp [newD], fun i hi => absurd hi (by omega), (right_lens h).1⟩
  inD := by
    rintro i D E (⟨k, _, G⟩ | O) hl
    · rw [G.atD]; exact G.lt
    · rw [O.lD] at hl; cases hl
  inE := by
    rintro i D E (⟨k, _, G⟩ | O) hl
    · exact gp_in h G
    · rw [O.lE] at hl; cases hl
  next := by
    rintro i D E (⟨k, hk, G⟩ | O)
    · exact (next_k h G).mono hk
    · obtain ⟨e1, e2⟩ := next_o (el := el) (l := l) (m := onlyL l) O
      rw [e1, e2]; exact .inl O
  out := by
    rintro i D E (O | ⟨j, _, Q⟩)
    · exact ⟨by rw [O.wD, O.wE], by unfold outW; rw [O.wD, O.wE]; rfl, .inr O.c, fun _ => ⟨O.flt, O.guest, O.word⟩⟩
    · refine ⟨by rw [Q.wD, Q.wE], by unfold outW; rw [Q.wD, Q.wE, Q.w], ?_, fun q => by rw [Q.wD] at q; cases q⟩
      by_cases q : (opAt l j).kind = 13
      · exact .inl ⟨Q.wD, Q.w13 q⟩
      · exact .inr (Q.c q)
  le := by
    rintro i D E (O | ⟨j, _, Q⟩) hw
    · rw [O.wD] at hw; cases hw
    · have h1 := Q.lt
      have h2 := cnt_all (show j < l.length by omega) Q.seen
      have h3 := Q.atD
      have h4 := Q.atE
      omega
  take := by
    rintro i D E (O | ⟨j, hj, Q⟩) hw t
    · rw [O.wD] at hw; cases hw
    · refine ⟨by have := Q.lt; omega, ?_⟩
      rcases take_k h Q t with G | O
      · exact .inl ⟨j + 1, by omega, G⟩
      · exact .inr O
theorem Sim.then {R Q R' Q' : Nat → Dn → Dn → Prop} (A : Sim el l m R Q) (B : Sim el m n R' Q') : Sim el l n (fun i D F => ∃ E j, R i D E ∧ R' j E F) (fun i D F => ∃ E j, Q i D E ∧ Q' j E F) where
  first c := ⟨_, 0, A.first c, B.first c⟩
  inD := by rintro i D F ⟨E, j, h1, h2⟩; exact A.inD h1
  inE := by rintro i D F ⟨E, j, h1, h2⟩; exact B.inE h2
  next := by rintro i D F ⟨E, j, h1, h2⟩; exact ⟨_, j, A.next h1, B.next h2⟩
  out := by
    rintro i D F ⟨E, j, h1, h2⟩
    obtain ⟨a1, a2, a3, a4⟩ := A.out h1
    obtain ⟨b1, b2, b3, b4⟩ := B.out h2
    refine ⟨b1.trans a1, b2.trans a2, ?_, fun hw => ?_⟩
    · rcases a3 with q | q
      · exact .inl q
      · rcases b3 with ⟨r1, r2⟩ | r
        · left
          rw [a1] at r1
          refine ⟨r1, ?_⟩
          have : E.w = D.w := by
            unfold outW at a2
            rwa [a1, if_pos r1, if_pos r1] at a2
          rw [← this]; exact r2
        · exact .inr (r.trans q)
    · obtain ⟨x1, x2, x3⟩ := a4 hw
      obtain ⟨y1, y2, y3⟩ := b4 (a1.trans hw)
      exact ⟨y1.trans x1, y2.trans x2, y3.trans x3⟩
  le := by
    rintro i D F ⟨E, j, h1, h2⟩ hw
    have a1 := (A.out h1).1
    exact ⟨(A.le h1 hw).1, (B.le h2 (a1.trans hw)).2⟩
  take := by
    rintro i D F ⟨E, j, h1, h2⟩ hw t
    have a1 := (A.out h1).1
    exact ⟨(A.take h1 hw t).1, _, _, (A.take h1 hw t).2, (B.take h2 (a1.trans hw) t).2⟩
/-- Where all is seen, nothing goes. -/
theorem cnt_id {s : Nat → Bool} : ∀ k, (∀ i, i < k → s i = true) → cntS s k = k
  | 0, _ => rfl
  | k + 1, h => by rw [cnt_succ (h k (by omega)), cnt_id k (fun i hi => h i (by omega))]
theorem keep_id {s : Nat → Bool} : ∀ k, k ≤ l.length → (∀ i, i < k → s i = true ∧ tellO (opAt l i) s = opAt l i) → keepF l s k = l.take k
  | 0, _, _ => by simp [keepF]
  | k + 1, hk, h => by
    rw [keep_on (h k (by omega)).1, keep_id k (by omega) (fun i hi => h i (by omega)), (h k (by omega)).2, List.take_add_one]
    unfold opAt
    rw [List.getElem?_eq_getElem (by omega)]; rfl
theorem only_same (h : rightB pc words el l = true) (ha : allSeen l = true) : onlyL l = l := by
  have hs : ∀ i, i < l.length → seenAt l i = true := fun i hi => List.all_eq_true.1 ha i (List.mem_range.2 hi)
  unfold onlyL
  rw [keep_id l.length (Nat.le_refl _) (fun i hi => ⟨hs i hi, ?_⟩), List.take_length]
  have hok := right_at h hi
  have place : ∀ u : Int, 0 ≤ u → u.toNat < i → ((plS (seenAt l) u.toNat : Nat) : Int) = u := fun u h0 hu => by
    rw [plS_on (hs _ (by omega)), cnt_id _ (fun j hj => hs j (by omega))]; omega
  have ha : ((plS (seenAt l) (opAt l i).a.toNat : Nat) : Int) = (opAt l i).a := by
    cases q : hasP (opAt l i).kind 2 with
    | true => have := use_lt h hi (uses_a q); exact place _ this.1 this.2.1
    | false => rw [noA hok q, Int.toNat_zero, plS_zero]; rfl
  have hb : ((plS (seenAt l) (opAt l i).b.toNat : Nat) : Int) = (opAt l i).b := by
    cases q : hasP (opAt l i).kind 4 with
    | true => have := use_lt h hi (uses_b q); exact place _ this.1 this.2.1
    | false => rw [noB hok q, Int.toNat_zero, plS_zero]; rfl
  unfold tellO
  rw [ha, hb]
theorem sim_dead : ∀ (f : Nat) (l : List Opr), rightB pc words el l = true → l.length ≤ f → ∃ R Q, Sim el l (deadF f l) R Q
  | 0, l, h, hf => by have := (right_lens h).1; omega
  | f + 1, l, h, hf => by
    show ∃ R Q, Sim el l (if allSeen l = true then l else deadF f (onlyL l)) R Q
    cases hs : allSeen l with
    | true =>
      rw [if_pos rfl]
      have := sim_one h
      rw [only_same h hs] at this
      exact ⟨_, _, this⟩
    | false =>
      rw [if_neg (by decide)]
      have hl := only_less hs
      obtain ⟨R, Q, S⟩ := sim_dead f (onlyL l) (only_right h) (by omega)
      exact ⟨_, _, (sim_one h).then S⟩
theorem sim_all (h : rightB pc words el l = true) : ∃ R Q, Sim el l (deadL l) R Q := sim_dead _ l h (Nat.le_refl _)
end
end Go.Proofs.Ytejlmggfeejgpaa
