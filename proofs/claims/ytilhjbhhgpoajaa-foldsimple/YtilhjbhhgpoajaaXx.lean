/- Vc, Vd, Ve of the seat, joined. -/
import Derived.Test.YtilhjbhhgpoajaaXw
import Derived.Test.YtilhjbhhgpoajaaXi
import Derived.Test.YtilhjbhhgpoajaaXf
/- What holds between the runs of a block and of what it was laid to: plain. -/
namespace Go.Proofs.Ytilhjbhhgpoajaa
open Go.RowKit
set_option linter.unusedVariables false
set_option linter.unusedSimpArgs false
set_option maxRecDepth 8000

/-- What an operation that gets would get. -/
def regD (el : Int) (c : Cor) (a r : Int) : Int :=
  if a = 2 then c.x.toArray.getD r.toNat 0 else if a = 4 then (if el = 0 then c.sp0 else c.sp1)
  else oneV (if r = 0 then c.n else if r = 1 then c.z else if r = 2 then c.c else c.v)
def KeyD (a r : Int) : Prop := (a = 2 ∧ 0 ≤ r ∧ r ≤ 30) ∨ (a = 4 ∧ r = 0) ∨ (a = 6 ∧ 0 ≤ r ∧ r ≤ 3)
/-- Between both runs, behind k operations: what is known, and the values. -/
structure Sm (el : Int) (l : List Opr) (k : Nat) (S : Fo) (ps : List Nat) (c : Cor) (vD vE : List Int) : Prop where
  vals : ∀ i, i < k → hasP (opAt l i).kind 32 = true → vD.getD i 0 = vE.getD (ps.getD i 0) 0
  kn : ∀ a r q, S.known a r = some q → KeyD a r ∧ regD el c a r = vE.getD q 0
  con : ∀ q, q < S.laid.length → (opAt S.laid q).kind = 1 → vE.getD q 0 = (opAt S.laid q).imm
  fl : ∀ q, q < S.laid.length → flagB (opAt S.laid q) = true → vE.getD q 0 = 0 ∨ vE.getD q 0 = 1
theorem getD_set_eq {vs : List Int} {k : Nat} (h : k < vs.length) (u : Int) : (vs.set k u).getD k 0 = u := by
  rw [List.getD_eq_getElem?_getD]; simp [h]
theorem getD_set_off {vs : List Int} {k i : Nat} (h : i ≠ k) (u : Int) : (vs.set k u).getD i 0 = vs.getD i 0 := by
  rw [List.getD_eq_getElem?_getD, List.getD_eq_getElem?_getD, List.getElem?_set_ne (Ne.symm h)]
section
variable {el : Int} {l : List Opr} {k : Nat} {S : Fo} {ps : List Nat} {c c' : Cor} {vD vE : List Int} {x : Opr} {kn : Int → Int → Option Nat} {lf : Bool} {u : Int} {p : Nat}
/-- One that defines a value is laid. -/
theorem Sm.define (M : Sm el l k S ps c vD vE) (H : FoOk l k S ps) (hD : k < vD.length) (hE : S.laid.length < vE.length)
    (hkn : ∀ a r q, kn a r = some q → S.known a r = some q ∨ (q = S.laid.length ∧ KeyD a r ∧ regD el c a r = u)) (hcon : x.kind = 1 → u = x.imm) (hfl : flagB x = true → u = 0 ∨ u = 1) :
    Sm el l (k + 1) ⟨S.laid ++ [x], kn, lf⟩ (ps ++ [S.laid.length]) c (vD.set k u) (vE.set S.laid.length u) := by
  have hl := H.len
  refine ⟨fun i hi h32 => ?_, fun a r q h => ?_, fun q hq h => ?_, fun q hq h => ?_⟩
  · rcases Nat.lt_or_ge i k with e | e
    · rw [getD_snoc_lt (by omega), getD_set_off (by omega), getD_set_off (by have := (H.pl i e h32).1; omega)]
      exact M.vals i e h32
    · obtain rfl : i = k := by omega
      have := getD_snoc_eq ps S.laid.length
      rw [hl] at this
      rw [this, getD_set_eq hD, getD_set_eq hE]
  · rcases hkn a r q h with h | ⟨rfl, h2, h3⟩
    · rw [getD_set_off (by have := (H.kn a r q h).1; omega)]; exact M.kn a r q h
    · rw [getD_set_eq hE]; exact ⟨h2, h3⟩
  · have hq : q < (S.laid ++ [x]).length := hq
    have h : (opAt (S.laid ++ [x]) q).kind = 1 := h
    show _ = (opAt (S.laid ++ [x]) q).imm
    rw [List.length_append] at hq
    rcases Nat.lt_or_ge q S.laid.length with e | e
    · rw [opAt_left e] at h ⊢
      rw [getD_set_off (by omega)]; exact M.con q e h
    · obtain rfl : q = S.laid.length := by simp at hq; omega
      rw [opAt_last] at h ⊢
      rw [getD_set_eq hE]; exact hcon h
  · have hq : q < (S.laid ++ [x]).length := hq
    have h : flagB (opAt (S.laid ++ [x]) q) = true := h
    rw [List.length_append] at hq
    rcases Nat.lt_or_ge q S.laid.length with e | e
    · rw [opAt_left e] at h
      rw [getD_set_off (by omega)]; exact M.fl q e h
    · obtain rfl : q = S.laid.length := by simp at hq; omega
      rw [opAt_last] at h
      rw [getD_set_eq hE]; exact hfl h
/-- One that defines none is laid. -/
theorem Sm.plain (M : Sm el l k S ps c vD vE) (H : FoOk l k S ps) (h32 : hasP (opAt l k).kind 32 = false)
    (hkn : ∀ a r q, kn a r = some q → (S.known a r = some q ∧ regD el c' a r = regD el c a r) ∨ (KeyD a r ∧ regD el c' a r = vE.getD q 0)) (hcon : x.kind ≠ 1) (hfl : flagB x = false) :
    Sm el l (k + 1) ⟨S.laid ++ [x], kn, lf⟩ (ps ++ [p]) c' vD vE := by
  have hl := H.len
  refine ⟨fun i hi h => ?_, fun a r q h => ?_, fun q hq h => ?_, fun q hq h => ?_⟩
  · rcases Nat.lt_or_ge i k with e | e
    · rw [getD_snoc_lt (by omega)]; exact M.vals i e h
    · obtain rfl : i = k := by omega
      rw [h32] at h; cases h
  · rcases hkn a r q h with ⟨h1, h2⟩ | h
    · have := M.kn a r q h1
      exact ⟨this.1, h2.trans this.2⟩
    · exact h
  · have hq : q < (S.laid ++ [x]).length := hq
    have h : (opAt (S.laid ++ [x]) q).kind = 1 := h
    show _ = (opAt (S.laid ++ [x]) q).imm
    rw [List.length_append] at hq
    rcases Nat.lt_or_ge q S.laid.length with e | e
    · rw [opAt_left e] at h ⊢; exact M.con q e h
    · obtain rfl : q = S.laid.length := by simp at hq; omega
      rw [opAt_last] at h; exact absurd h hcon
  · have hq : q < (S.laid ++ [x]).length := hq
    have h : flagB (opAt (S.laid ++ [x]) q) = true := h
    rw [List.length_append] at hq
    rcases Nat.lt_or_ge q S.laid.length with e | e
    · rw [opAt_left e] at h; exact M.fl q e h
    · obtain rfl : q = S.laid.length := by simp at hq; omega
      rw [opAt_last, hfl] at h; cases h
/-- A value that is known already. -/
theorem Sm.again (M : Sm el l k S ps c vD vE) (H : FoOk l k S ps) (hD : k < vD.length) (hp : u = vE.getD p 0) : Sm el l (k + 1) S (ps ++ [p]) c (vD.set k u) vE := by
  have hl := H.len
  refine ⟨fun i hi h => ?_, M.kn, M.con, M.fl⟩
  rcases Nat.lt_or_ge i k with e | e
  · rw [getD_snoc_lt (by omega), getD_set_off (by omega)]; exact M.vals i e h
  · obtain rfl : i = k := by omega
    have := getD_snoc_eq ps p
    rw [hl] at this
    rw [this, getD_set_eq hD]; exact hp
theorem Sm.none (M : Sm el l k S ps c vD vE) (H : FoOk l k S ps) (h32 : hasP (opAt l k).kind 32 = false) : Sm el l (k + 1) S (ps ++ [p]) c vD vE := by
  have hl := H.len
  refine ⟨fun i hi h => ?_, M.kn, M.con, M.fl⟩
  rcases Nat.lt_or_ge i k with e | e
  · rw [getD_snoc_lt (by omega)]; exact M.vals i e h
  · obtain rfl : i = k := by omega
    rw [h32] at h; cases h
end
theorem x_same (v : Vector Int 31) {r : Int} (h0 : 0 ≤ r) (h1 : r ≤ 30) (u : Int) : (v.setIfInBounds r.toNat u).toArray.getD r.toNat 0 = u := by
  have : r.toNat < 31 := by omega
  simp [this]
theorem x_other (v : Vector Int 31) {r s : Int} (h0 : 0 ≤ r) (h1 : 0 ≤ s) (h : s ≠ r) (u : Int) : (v.setIfInBounds r.toNat u).toArray.getD s.toNat 0 = v.toArray.getD s.toNat 0 := by
  have hn : r.toNat ≠ s.toNat := by omega
  simp only [Vector.toArray_setIfInBounds]
  simp only [Array.getD_eq_getD_getElem?, Array.getElem?_setIfInBounds]
  rw [if_neg hn]
theorem reg_setX {el : Int} (c : Cor) {r : Int} (h0 : 0 ≤ r) (h1 : r ≤ 30) (u : Int) : regD el { c with x := c.x.setIfInBounds r.toNat u } 2 r = u ∧ ∀ a s, KeyD a s → ¬ (a = 2 ∧ s = r) → regD el { c with x := c.x.setIfInBounds r.toNat u } a s = regD el c a s := by
  refine ⟨x_same _ h0 h1 u, fun a s hk hn => ?_⟩
  unfold regD
  split
  · rename_i ha
    rcases hk with ⟨_, h2, _⟩ | ⟨h2, _⟩ | ⟨h2, _⟩
    · exact x_other _ h0 h2 (fun e => hn ⟨ha, e⟩) u
    · omega
    · omega
  · rfl
theorem oneV_test (v : Int) (h : v = 0 ∨ v = 1) : oneV (v != 0) = v := by
  rcases h with rfl | rfl <;> rfl
theorem oneV_01 (b : Bool) : oneV b = 0 ∨ oneV b = 1 := by cases b <;> simp [oneV]
theorem flag_reckon {o : Opr} (h : flagB o = true) (hk : o.kind = 8) (a b : Int) : Alu.reckonV o.r a b = 0 ∨ Alu.reckonV o.r a b = 1 := by
  unfold flagB at h
  rw [hk, if_neg (by decide), if_neg (by decide), if_pos rfl] at h
  simp only [Bool.or_eq_true, beq_iff_eq] at h
  have one : ∀ q : Bool, Alu.oneI q = 0 ∨ Alu.oneI q = 1 := fun q => by cases q <;> simp [Alu.oneI]
  rcases h with (h | h) | h <;> rw [h] <;> exact one _
end Go.Proofs.Ytilhjbhhgpoajaa
/- One step of a block and of what it was laid to: plain. -/
namespace Go.Proofs.Ytilhjbhhgpoajaa
open Go.RowKit
set_option linter.unusedVariables false
set_option linter.unusedSimpArgs false
set_option maxRecDepth 8000

theorem okP_key {l : List Opr} {k : Nat} (h : OkP l k) : ((opAt l k).kind = 2 ∨ (opAt l k).kind = 3 → 0 ≤ (opAt l k).r ∧ (opAt l k).r ≤ 30) ∧ ((opAt l k).kind = 4 ∨ (opAt l k).kind = 5 → (opAt l k).r = 0) ∧ ((opAt l k).kind = 6 ∨ (opAt l k).kind = 7 → 0 ≤ (opAt l k).r ∧ (opAt l k).r ≤ 3) := by
  have h := h.op
  generalize opAt l k = o at h
  obtain ⟨kind, r, a, b, order, imm⟩ := o
  dsimp only
  unfold opB at h
  simp only [Bool.and_eq_true, Bool.or_eq_true] at h
  obtain ⟨⟨⟨⟨⟨h1, _⟩, _⟩, _⟩, _⟩, hr⟩ := h
  unfold rangeB at hr
  refine ⟨fun hk => ?_, fun hk => ?_, fun hk => ?_⟩
  · rcases hk with rfl | rfl <;> (simp at hr; omega)
  · rcases hk with rfl | rfl
    · rcases h1 with h1 | h1; (rw [hp4_1] at h1; cases h1); simpa using h1
    · rcases h1 with h1 | h1; (rw [hp5_1] at h1; cases h1); simpa using h1
  · rcases hk with rfl | rfl <;> (simp at hr; omega)
/-- Where both runs go on. -/
structure Gp (el : Int) (l m : List Opr) (k : Nat) (S : Fo) (ps : List Nat) (D E : Dn) : Prop where
  atD : D.at_ = k
  atE : E.at_ = S.laid.length
  c : E.c = D.c
  wD : D.waits = false
  wE : E.waits = false
  lD : D.left = false
  lE : E.left = false
  flt : E.flt = D.flt
  word : E.word = D.word
  guest : E.guest = D.guest
  nD : D.vs.length = l.length
  nE : E.vs.length = m.length
  sm : Sm el l k S ps D.c D.vs E.vs
  nl : S.left = false
  lt : k < l.length
/-- Where both have left. -/
structure Ou (D E : Dn) : Prop where
  c : E.c = D.c
  wD : D.waits = false
  wE : E.waits = false
  lD : D.left = true
  lE : E.left = true
  flt : E.flt = D.flt
  word : E.word = D.word
  guest : E.guest = D.guest
/-- Where both wait for the same. -/
structure Pe (el : Int) (l m : List Opr) (k : Nat) (S : Fo) (ps : List Nat) (D E : Dn) : Prop where
  atD : D.at_ = k + 1
  atE : E.at_ = S.laid.length
  pos : 0 < S.laid.length
  c : E.c = D.c
  wD : D.waits = true
  wE : E.waits = true
  w : E.w = D.w
  lD : D.left = false
  lE : E.left = false
  flt : E.flt = D.flt
  word : E.word = D.word
  guest : E.guest = D.guest
  nD : D.vs.length = l.length
  nE : E.vs.length = m.length
  kind : (opAt m (S.laid.length - 1)).kind = (opAt l k).kind
  set : hasP (opAt l k).kind 32 = true → ∀ u, Sm el l (k + 1) S ps D.c (D.vs.set k u) (E.vs.set (S.laid.length - 1) u)
  plain : hasP (opAt l k).kind 32 = false → Sm el l (k + 1) S ps D.c D.vs E.vs
  which : (opAt l k).kind = 9 ∨ (opAt l k).kind = 10 ∨ (opAt l k).kind = 11 ∨ (opAt l k).kind = 12 ∨ (opAt l k).kind = 13
  nl : S.left = false
  lt : k + 1 < l.length
def Res (el : Int) (l m : List Opr) (k : Nat) (D E : Dn) (S : Fo) (ps : List Nat) : Prop :=
  Gp el l m (k + 1) S ps (dStep el l D) E ∨ (E.at_ < m.length ∧ (Gp el l m (k + 1) S ps (dStep el l D) (dStep el m E) ∨ Ou (dStep el l D) (dStep el m E) ∨ Pe el l m k S ps (dStep el l D) (dStep el m E)))
theorem reg_pc {el : Int} {c : Cor} {u a r : Int} : regD el { c with pc := u } a r = regD el c a r := rfl
theorem reg_setSP {el : Int} (c : Cor) (u : Int) (hel : el = 0 ∨ el = 1) : (∀ E : Dn, E.c = c → regD el (E.setSP el u).c 4 0 = u ∧ ∀ a s, KeyD a s → ¬ (a = 4 ∧ s = 0) → regD el (E.setSP el u).c a s = regD el c a s) := by
  rintro E rfl
  have e4 : ¬ (4 : Int) = 2 := by decide
  unfold Dn.setSP regD
  rcases hel with rfl | rfl
  · refine ⟨by simp, fun a s hk hn => ?_⟩
    rcases hk with ⟨rfl, _⟩ | ⟨rfl, rfl⟩ | ⟨rfl, _⟩
    · simp
    · exact absurd ⟨rfl, rfl⟩ hn
    · simp
  · refine ⟨by simp, fun a s hk hn => ?_⟩
    rcases hk with ⟨rfl, _⟩ | ⟨rfl, rfl⟩ | ⟨rfl, _⟩
    · simp
    · exact absurd ⟨rfl, rfl⟩ hn
    · simp
theorem reg_setF {el : Int} (c : Cor) (b : Bool) {r : Int} (h0 : 0 ≤ r) (h3 : r ≤ 3) : (∀ E : Dn, E.c = c → regD el (E.setF r b).c 6 r = oneV b ∧ ∀ a s, KeyD a s → ¬ (a = 6 ∧ s = r) → regD el (E.setF r b).c a s = regD el c a s) := by
  rintro E rfl
  unfold Dn.setF regD
  have hr : r = 0 ∨ r = 1 ∨ r = 2 ∨ r = 3 := by omega
  rcases hr with rfl | rfl | rfl | rfl
  all_goals
    refine ⟨by simp, fun a s hk hn => ?_⟩
    rcases hk with ⟨rfl, _⟩ | ⟨rfl, rfl⟩ | ⟨rfl, h1, h2⟩
    · simp
    · simp
    · have hs : s = 0 ∨ s = 1 ∨ s = 2 ∨ s = 3 := by omega
      rcases hs with rfl | rfl | rfl | rfl <;> first | exact absurd ⟨rfl, rfl⟩ hn | simp
/-- One step of both. -/
theorem step_gp {el : Int} {l m : List Opr} {k : Nat} {S : Fo} {ps : List Nat} {D E : Dn} (G : Gp el l m k S ps D E) (hel : el = 0 ∨ el = 1) (P : OkP l k) (H : FoOk l k S ps) (hu : ∀ j, U64 (opAt l j).imm) (hb : Begins m (S.lay (toldO (opAt l k) ps)).1.laid) :
    Res el l m k D E (S.lay (toldO (opAt l k) ps)).1 (ps ++ [(S.lay (toldO (opAt l k) ps)).2]) := by
  obtain ⟨cD, aD, wtD, wD, lfD, fD, woD, gD, vD⟩ := D
  obtain ⟨cE, aE, wtE, wE, lfE, fE, woE, gE, vE⟩ := E
  obtain ⟨h1, h2, h3, h4, h5, h6, h7, h8, h9, h10, nD, nE, M, nl, hk⟩ := G
  dsimp only at h1 h2 h3 h4 h5 h6 h7 h8 h9 h10 nD nE M
  subst h1 h2 h3 h4 h5 h6 h7 h8 h9 h10
  obtain ⟨K1, K2, K3⟩ := okP_key P
  have hK := P.kind
  have hlast := P.last
  have u0 := hu aD
  have va : hasP (opAt l aD).kind 2 = true → vD.getD (opAt l aD).a.toNat 0 = vE.getD (ps.getD (opAt l aD).a.toNat 0) 0 := fun h => M.vals _ (P.a h).2.1 (P.a h).2.2
  have vb : hasP (opAt l aD).kind 4 = true → vD.getD (opAt l aD).b.toNat 0 = vE.getD (ps.getD (opAt l aD).b.toNat 0) 0 := fun h => M.vals _ (P.b h).2.1 (P.b h).2.2
  have pa : hasP (opAt l aD).kind 2 = true → ps.getD (opAt l aD).a.toNat 0 < S.laid.length := fun h => (H.told_a P h).1
  have pb : hasP (opAt l aD).kind 4 = true → ps.getD (opAt l aD).b.toNat 0 < S.laid.length := fun h => (H.told_b P h).1
  have hlt : hasP (opAt l aD).kind 128 = false → aD + 1 < l.length := fun h => by
    rw [h] at hlast
    have := of_decide_eq_false hlast.symm
    omega
  have Hu := H.u
  clear P
  generalize ho : opAt l aD = o at *
  obtain ⟨kind, r, a, b, order, imm⟩ := o
  dsimp only at K1 K2 K3 hK hlast u0 va vb pa pb hlt
  generalize hR : S.lay (toldO ⟨kind, r, a, b, order, imm⟩ ps) = R at hb ⊢
  have eD : ∀ w0, dStep el l ⟨cE, aD, false, wD, false, fE, woE, gE, vD⟩ = w0 → True := fun _ _ => trivial
  clear eD
  -- what the run of l does
  have stD : dStep el l ⟨cE, aD, false, wD, false, fE, woE, gE, vD⟩ = dOne el ⟨cE, aD + 1, false, wD, false, fE, woE, gE, vD⟩ ⟨kind, r, a, b, order, imm⟩ := by unfold dStep; dsimp only; rw [ho]
  have stE : ∀ x, opAt m S.laid.length = x → dStep el m ⟨cE, S.laid.length, false, wE, false, fE, woE, gE, vE⟩ = dOne el ⟨cE, S.laid.length + 1, false, wE, false, fE, woE, gE, vE⟩ x := fun x hx => by unfold dStep; dsimp only; rw [hx]
  unfold Res
  rw [stD]
  have app : ∀ x : Opr, S.laid.length + 1 = (S.laid ++ [x]).length := fun x => by simp
  rcases isK_cases hK with rfl | rfl | rfl | rfl | rfl | rfl | rfl | rfl | rfl | rfl | rfl | rfl | rfl | rfl | rfl | rfl | rfl | rfl
  · -- 1
    obtain rfl : R = (S.put (toldO ⟨1, r, a, b, order, imm⟩ ps), S.laid.length) := hR.symm
    obtain ⟨hx, hj⟩ := Begins.at hb
    rw [stE _ hx]
    refine .inr ⟨hj, .inl ?_⟩
    exact ⟨rfl, app _, rfl, rfl, rfl, rfl, rfl, rfl, rfl, rfl, (List.length_set ..).trans nD, (List.length_set ..).trans nE,
      M.define H (by omega) (by omega) (fun a r q h => .inl h) (fun _ => rfl) (fun hf => by
        have : imm ≤ 1 := of_decide_eq_true hf
        have := u0.1
        show imm = 0 ∨ imm = 1
        omega), nl, hlt hp1_128⟩
  · -- 2
    obtain ⟨r0, r30⟩ := K1 (.inl rfl)
    have kd : KeyD 2 r := .inl ⟨rfl, r0, r30⟩
    obtain rfl : R = S.get (toldO ⟨2, r, a, b, order, imm⟩ ps) := hR.symm
    revert hb
    unfold Fo.get
    cases e : S.known (toldO ⟨2, r, a, b, order, imm⟩ ps).kind (toldO ⟨2, r, a, b, order, imm⟩ ps).r with
    | some v =>
      intro hb
      refine .inl ⟨rfl, rfl, rfl, rfl, rfl, rfl, rfl, rfl, rfl, rfl, (List.length_set ..).trans nD, nE, ?_, nl, hlt hp2_128⟩
      exact M.again H (by omega) (M.kn _ _ _ e).2
    | none =>
      intro hb
      obtain ⟨hx, hj⟩ := Begins.at hb
      rw [stE _ hx]
      refine .inr ⟨hj, .inl ⟨rfl, app _, rfl, rfl, rfl, rfl, rfl, rfl, rfl, rfl, (List.length_set ..).trans nD, (List.length_set ..).trans nE, ?_, nl, hlt hp2_128⟩⟩
      refine M.define H (by omega) (by omega) (fun a' r' q h => ?_) (fun h => absurd (show (2 : Int) = 1 from h) (by decide)) (fun h => absurd (show false = true from h) (by decide))
      dsimp only [Fo.put, Fo.know] at h
      split at h
      · rename_i hh
        obtain ⟨rfl, rfl⟩ := hh
        cases h
        exact .inr ⟨rfl, kd, rfl⟩
      · exact .inl h
  · -- 3
    obtain ⟨r0, r30⟩ := K1 (.inr rfl)
    have kd : KeyD 2 r := .inl ⟨rfl, r0, r30⟩
    obtain rfl : R = S.set 2 r (toldO ⟨3, r, a, b, order, imm⟩ ps) := hR.symm
    obtain ⟨hx, hj⟩ := Begins.at hb
    rw [stE _ hx]
    have va := va hp3_2
    refine .inr ⟨hj, .inl ⟨rfl, app _, ?_, rfl, rfl, rfl, rfl, rfl, rfl, rfl, nD, nE, ?_, nl, hlt hp3_128⟩⟩
    · show ({ cE with x := cE.x.setIfInBounds r.toNat (vE.getD (Int.toNat ((ps.getD a.toNat 0 : Nat) : Int)) 0) } : Cor) = { cE with x := cE.x.setIfInBounds r.toNat (vD.getD a.toNat 0) }
      rw [Int.toNat_natCast, va]
    · obtain ⟨e1, e2⟩ := reg_setX (el := el) cE r0 r30 (vD.getD a.toNat 0)
      refine M.plain H (by rw [ho]; exact hp3_32) (fun a' r' q h => ?_) (show (3 : Int) ≠ 1 by decide) rfl
      dsimp only [Fo.know] at h
      split at h
      · rename_i hh
        obtain ⟨rfl, rfl⟩ := hh
        cases h
        exact .inr ⟨kd, e1.trans va⟩
      · rename_i hh
        exact .inl ⟨h, e2 a' r' (M.kn _ _ _ h).1 hh⟩
  · -- 4
    have hr := K2 (.inl rfl)
    subst hr
    have kd : KeyD 4 0 := .inr (.inl ⟨rfl, rfl⟩)
    obtain rfl : R = S.get (toldO ⟨4, 0, a, b, order, imm⟩ ps) := hR.symm
    revert hb
    unfold Fo.get
    cases e : S.known (toldO ⟨4, 0, a, b, order, imm⟩ ps).kind (toldO ⟨4, 0, a, b, order, imm⟩ ps).r with
    | some v =>
      intro hb
      refine .inl ⟨rfl, rfl, rfl, rfl, rfl, rfl, rfl, rfl, rfl, rfl, (List.length_set ..).trans nD, nE, ?_, nl, hlt hp4_128⟩
      exact M.again H (by omega) (M.kn _ _ _ e).2
    | none =>
      intro hb
      obtain ⟨hx, hj⟩ := Begins.at hb
      rw [stE _ hx]
      refine .inr ⟨hj, .inl ⟨rfl, app _, rfl, rfl, rfl, rfl, rfl, rfl, rfl, rfl, (List.length_set ..).trans nD, (List.length_set ..).trans nE, ?_, nl, hlt hp4_128⟩⟩
      refine M.define H (by omega) (by omega) (fun a' r' q h => ?_) (fun h => absurd (show (4 : Int) = 1 from h) (by decide)) (fun h => absurd (show false = true from h) (by decide))
      dsimp only [Fo.put, Fo.know] at h
      split at h
      · rename_i hh
        obtain ⟨rfl, rfl⟩ := hh
        cases h
        exact .inr ⟨rfl, kd, rfl⟩
      · exact .inl h
  · -- 5
    have hr := K2 (.inr rfl)
    subst hr
    have kd : KeyD 4 0 := .inr (.inl ⟨rfl, rfl⟩)
    obtain rfl : R = S.set 4 0 (toldO ⟨5, 0, a, b, order, imm⟩ ps) := hR.symm
    obtain ⟨hx, hj⟩ := Begins.at hb
    rw [stE _ hx]
    have va := va hp5_2
    show Gp _ _ _ _ _ _ (Dn.setSP _ el (vD.getD a.toNat 0)) _ ∨ (_ ∧ (Gp _ _ _ _ _ _ (Dn.setSP _ el (vD.getD a.toNat 0)) (Dn.setSP _ el (vE.getD (Int.toNat ((ps.getD a.toNat 0 : Nat) : Int)) 0)) ∨ _))
    rw [Int.toNat_natCast, ← va]
    obtain ⟨e1, e2⟩ := reg_setSP (el := el) cE (vD.getD a.toNat 0) hel ⟨cE, aD + 1, false, wD, false, fE, woE, gE, vD⟩ rfl
    refine .inr ⟨hj, .inl ?_⟩
    have Q : Sm el l (aD + 1) (S.set 4 0 (toldO ⟨5, 0, a, b, order, imm⟩ ps)).1 (ps ++ [S.laid.length]) (Dn.setSP ⟨cE, aD + 1, false, wD, false, fE, woE, gE, vD⟩ el (vD.getD a.toNat 0)).c vD vE := by
      refine M.plain H (by rw [ho]; exact hp5_32) (fun a' r' q h => ?_) (show (5 : Int) ≠ 1 by decide) rfl
      dsimp only [Fo.know] at h
      split at h
      · rename_i hh
        obtain ⟨rfl, rfl⟩ := hh
        cases h
        exact .inr ⟨kd, e1.trans va⟩
      · rename_i hh
        exact .inl ⟨h, e2 a' r' (M.kn _ _ _ h).1 hh⟩
    rcases hel with rfl | rfl
    · exact ⟨rfl, app _, rfl, rfl, rfl, rfl, rfl, rfl, rfl, rfl, nD, nE, Q, nl, hlt hp5_128⟩
    · exact ⟨rfl, app _, rfl, rfl, rfl, rfl, rfl, rfl, rfl, rfl, nD, nE, Q, nl, hlt hp5_128⟩
  · -- 6
    obtain ⟨r0, r3⟩ := K3 (.inl rfl)
    have kd : KeyD 6 r := .inr (.inr ⟨rfl, r0, r3⟩)
    obtain rfl : R = S.get (toldO ⟨6, r, a, b, order, imm⟩ ps) := hR.symm
    revert hb
    unfold Fo.get
    cases e : S.known (toldO ⟨6, r, a, b, order, imm⟩ ps).kind (toldO ⟨6, r, a, b, order, imm⟩ ps).r with
    | some v =>
      intro hb
      refine .inl ⟨rfl, rfl, rfl, rfl, rfl, rfl, rfl, rfl, rfl, rfl, (List.length_set ..).trans nD, nE, ?_, nl, hlt hp6_128⟩
      exact M.again H (by omega) (M.kn _ _ _ e).2
    | none =>
      intro hb
      obtain ⟨hx, hj⟩ := Begins.at hb
      rw [stE _ hx]
      refine .inr ⟨hj, .inl ⟨rfl, app _, rfl, rfl, rfl, rfl, rfl, rfl, rfl, rfl, (List.length_set ..).trans nD, (List.length_set ..).trans nE, ?_, nl, hlt hp6_128⟩⟩
      refine M.define H (by omega) (by omega) (fun a' r' q h => ?_) (fun h => absurd (show (6 : Int) = 1 from h) (by decide)) (fun _ => oneV_01 _)
      dsimp only [Fo.put, Fo.know] at h
      split at h
      · rename_i hh
        obtain ⟨rfl, rfl⟩ := hh
        cases h
        exact .inr ⟨rfl, kd, rfl⟩
      · exact .inl h
  · -- 7
    obtain ⟨r0, r3⟩ := K3 (.inr rfl)
    have kd : KeyD 6 r := .inr (.inr ⟨rfl, r0, r3⟩)
    obtain rfl : R = S.setFlag (toldO ⟨7, r, a, b, order, imm⟩ ps) := hR.symm
    have va := va hp7_2
    have pa := pa hp7_2
    obtain ⟨e1, e2⟩ := reg_setF (el := el) cE (vD.getD a.toNat 0 != 0) r0 r3 ⟨cE, aD + 1, false, wD, false, fE, woE, gE, vD⟩ rfl
    have cc : ∀ (w1 w2 : Wnt) k1 k2 (v1 v2 : List Int) (bb : Bool), (Dn.setF ⟨cE, k1, false, w1, false, fE, woE, gE, v1⟩ r bb) = { (⟨cE, k1, false, w1, false, fE, woE, gE, v1⟩ : Dn) with c := (Dn.setF ⟨cE, k2, false, w2, false, fE, woE, gE, v2⟩ r bb).c } := fun w1 w2 k1 k2 v1 v2 bb => by
      unfold Dn.setF
      split <;> (try split) <;> (try split) <;> rfl
    revert hb
    unfold Fo.setFlag
    split
    · rename_i hf
      intro hb
      obtain ⟨hx, hj⟩ := Begins.at hb
      rw [stE _ hx]
      show Gp _ _ _ _ _ _ (Dn.setF _ r (vD.getD a.toNat 0 != 0)) _ ∨ (_ ∧ (Gp _ _ _ _ _ _ (Dn.setF _ r (vD.getD a.toNat 0 != 0)) (Dn.setF _ r (vE.getD (Int.toNat ((ps.getD a.toNat 0 : Nat) : Int)) 0 != 0)) ∨ _))
      rw [Int.toNat_natCast, ← va]
      rw [cc wE wD (S.laid.length + 1) (aD + 1) vE vD, cc wD wD (aD + 1) (aD + 1) vD vD]
      have hf1 := M.fl _ pa hf
      refine .inr ⟨hj, .inl ⟨rfl, app _, rfl, rfl, rfl, rfl, rfl, rfl, rfl, rfl, nD, nE, ?_, nl, hlt hp7_128⟩⟩
      refine M.plain H (by rw [ho]; exact hp7_32) (fun a' r' q h => ?_) (show (7 : Int) ≠ 1 by decide) rfl
      dsimp only [Fo.know] at h
      split at h
      · rename_i hh
        obtain ⟨rfl, rfl⟩ := hh
        cases h
        refine .inr ⟨kd, e1.trans ?_⟩
        rw [va]
        exact oneV_test _ hf1
      · rename_i hh
        exact .inl ⟨h, e2 a' r' (M.kn _ _ _ h).1 hh⟩
    · intro hb
      obtain ⟨hx, hj⟩ := Begins.at hb
      rw [stE _ hx]
      show Gp _ _ _ _ _ _ (Dn.setF _ r (vD.getD a.toNat 0 != 0)) _ ∨ (_ ∧ (Gp _ _ _ _ _ _ (Dn.setF _ r (vD.getD a.toNat 0 != 0)) (Dn.setF _ r (vE.getD (Int.toNat ((ps.getD a.toNat 0 : Nat) : Int)) 0 != 0)) ∨ _))
      rw [Int.toNat_natCast, ← va]
      rw [cc wE wD (S.laid.length + 1) (aD + 1) vE vD, cc wD wD (aD + 1) (aD + 1) vD vD]
      refine .inr ⟨hj, .inl ⟨rfl, app _, rfl, rfl, rfl, rfl, rfl, rfl, rfl, rfl, nD, nE, ?_, nl, hlt hp7_128⟩⟩
      refine M.plain H (by rw [ho]; exact hp7_32) (fun a' r' q h => ?_) (show (7 : Int) ≠ 1 by decide) rfl
      dsimp only [Fo.drop] at h
      split at h
      · cases h
      · rename_i hh
        exact .inl ⟨h, e2 a' r' (M.kn _ _ _ h).1 hh⟩
  · -- 8
    have va := va hp8_2
    have vb := vb hp8_4
    have pa := pa hp8_2
    have pb := pb hp8_4
    obtain rfl : R = S.reckon (toldO ⟨8, r, a, b, order, imm⟩ ps) := hR.symm
    revert hb
    unfold Fo.reckon Fo.reckonO
    split
    · rename_i hc
      intro hb
      obtain ⟨hx, hj⟩ := Begins.at hb
      rw [stE _ hx]
      obtain ⟨c1, c2⟩ := hc
      have w1 : vD.getD a.toNat 0 = (opAt S.laid (ps.getD a.toNat 0)).imm := va.trans (M.con _ pa c1)
      have w2 : vD.getD b.toNat 0 = (opAt S.laid (ps.getD b.toNat 0)).imm := vb.trans (M.con _ pb c2)
      show Gp _ _ _ _ _ _ (Dn.define _ (Alu.reckonV r (vD.getD a.toNat 0) (vD.getD b.toNat 0))) _ ∨ (_ ∧ (Gp _ _ _ _ _ _ (Dn.define _ (Alu.reckonV r (vD.getD a.toNat 0) (vD.getD b.toNat 0))) (Dn.define _ (Alu.reckonV r (opAt S.laid (ps.getD a.toNat 0)).imm (opAt S.laid (ps.getD b.toNat 0)).imm)) ∨ _))
      rw [w1, w2]
      refine .inr ⟨hj, .inl ⟨rfl, app _, rfl, rfl, rfl, rfl, rfl, rfl, rfl, rfl, (List.length_set ..).trans nD, (List.length_set ..).trans nE, ?_, nl, hlt hp8_128⟩⟩
      have u1 := Alu.reckon_in (k := r) (Hu (ps.getD a.toNat 0)) (Hu (ps.getD b.toNat 0))
      refine M.define H (by omega) (by omega) (fun a' r' q h => .inl h) (fun _ => rfl) (fun hf => ?_)
      have f1 : Alu.reckonV r (opAt S.laid (ps.getD a.toNat 0)).imm (opAt S.laid (ps.getD b.toNat 0)).imm ≤ 1 := of_decide_eq_true hf
      have f2 := u1.1
      omega
    · intro hb
      obtain ⟨hx, hj⟩ := Begins.at hb
      rw [stE _ hx]
      show Gp _ _ _ _ _ _ (Dn.define _ (Alu.reckonV r (vD.getD a.toNat 0) (vD.getD b.toNat 0))) _ ∨ (_ ∧ (Gp _ _ _ _ _ _ (Dn.define _ (Alu.reckonV r (vD.getD a.toNat 0) (vD.getD b.toNat 0))) (Dn.define _ (Alu.reckonV r (vE.getD (Int.toNat ((ps.getD a.toNat 0 : Nat) : Int)) 0) (vE.getD (Int.toNat ((ps.getD b.toNat 0 : Nat) : Int)) 0))) ∨ _))
      rw [Int.toNat_natCast, Int.toNat_natCast, ← va, ← vb]
      refine .inr ⟨hj, .inl ⟨rfl, app _, rfl, rfl, rfl, rfl, rfl, rfl, rfl, rfl, (List.length_set ..).trans nD, (List.length_set ..).trans nE, ?_, nl, hlt hp8_128⟩⟩
      exact M.define H (by omega) (by omega) (fun a' r' q h => .inl h) (fun h => absurd (show (8 : Int) = 1 from h) (by decide)) (fun hf => flag_reckon hf rfl _ _)
  · -- 9
    obtain rfl : R = (S.put (toldO ⟨9, r, a, b, order, imm⟩ ps), S.laid.length) := hR.symm
    obtain ⟨hx, hj⟩ := Begins.at hb
    rw [stE _ hx]
    have va := va hp9_2
    show Gp _ _ _ _ _ _ (Dn.acc _ ⟨9, r, a, b, order, imm⟩ (vD.getD a.toNat 0) (vD.getD b.toNat 0)) _ ∨ (_ ∧ (Gp _ _ _ _ _ _ (Dn.acc _ ⟨9, r, a, b, order, imm⟩ (vD.getD a.toNat 0) (vD.getD b.toNat 0)) (Dn.acc _ (toldO ⟨9, r, a, b, order, imm⟩ ps) (vE.getD (Int.toNat ((ps.getD a.toNat 0 : Nat) : Int)) 0) (vE.getD (Int.toNat ((ps.getD b.toNat 0 : Nat) : Int)) 0)) ∨ Ou (Dn.acc _ ⟨9, r, a, b, order, imm⟩ (vD.getD a.toNat 0) (vD.getD b.toNat 0)) (Dn.acc _ (toldO ⟨9, r, a, b, order, imm⟩ ps) (vE.getD (Int.toNat ((ps.getD a.toNat 0 : Nat) : Int)) 0) (vE.getD (Int.toNat ((ps.getD b.toNat 0 : Nat) : Int)) 0)) ∨ Pe _ _ _ _ _ _ (Dn.acc _ ⟨9, r, a, b, order, imm⟩ (vD.getD a.toNat 0) (vD.getD b.toNat 0)) (Dn.acc _ (toldO ⟨9, r, a, b, order, imm⟩ ps) (vE.getD (Int.toNat ((ps.getD a.toNat 0 : Nat) : Int)) 0) (vE.getD (Int.toNat ((ps.getD b.toNat 0 : Nat) : Int)) 0))))
    rw [Int.toNat_natCast, Int.toNat_natCast, ← va]
    unfold Dn.acc
    refine .inr ⟨hj, .inr ?_⟩
    by_cases h8 : vD.getD a.toNat 0 % 8 = 0
    · rw [if_pos h8, if_pos h8]
      right
      have e0 : (S.put (toldO ⟨9, r, a, b, order, imm⟩ ps)).laid.length - 1 = S.laid.length := by simp [Fo.put]
      exact ⟨rfl, app _, by simp [Fo.put], rfl, rfl, rfl, rfl, rfl, rfl, rfl, rfl, rfl, nD, nE, by rw [e0, hx, ho]; rfl, (fun _ u => by rw [e0]; exact M.define H (by omega) (by omega) (fun a r q h => .inl h) (fun h => absurd (show (9 : Int) = 1 from h) (by decide)) (fun h => absurd (show false = true from h) (by decide))), (fun h => by rw [ho, hp9_32] at h; cases h), by rw [ho]; exact .inl rfl, nl, hlt hp9_128⟩
    · rw [if_neg h8, if_neg h8]
      exact .inl ⟨rfl, rfl, rfl, rfl, rfl, rfl, rfl, rfl⟩
  · -- 10
    obtain rfl : R = (S.put (toldO ⟨10, r, a, b, order, imm⟩ ps), S.laid.length) := hR.symm
    obtain ⟨hx, hj⟩ := Begins.at hb
    rw [stE _ hx]
    have va := va hp10_2
    have vb := vb hp10_4
    show Gp _ _ _ _ _ _ (Dn.acc _ ⟨10, r, a, b, order, imm⟩ (vD.getD a.toNat 0) (vD.getD b.toNat 0)) _ ∨ (_ ∧ (Gp _ _ _ _ _ _ (Dn.acc _ ⟨10, r, a, b, order, imm⟩ (vD.getD a.toNat 0) (vD.getD b.toNat 0)) (Dn.acc _ (toldO ⟨10, r, a, b, order, imm⟩ ps) (vE.getD (Int.toNat ((ps.getD a.toNat 0 : Nat) : Int)) 0) (vE.getD (Int.toNat ((ps.getD b.toNat 0 : Nat) : Int)) 0)) ∨ Ou (Dn.acc _ ⟨10, r, a, b, order, imm⟩ (vD.getD a.toNat 0) (vD.getD b.toNat 0)) (Dn.acc _ (toldO ⟨10, r, a, b, order, imm⟩ ps) (vE.getD (Int.toNat ((ps.getD a.toNat 0 : Nat) : Int)) 0) (vE.getD (Int.toNat ((ps.getD b.toNat 0 : Nat) : Int)) 0)) ∨ Pe _ _ _ _ _ _ (Dn.acc _ ⟨10, r, a, b, order, imm⟩ (vD.getD a.toNat 0) (vD.getD b.toNat 0)) (Dn.acc _ (toldO ⟨10, r, a, b, order, imm⟩ ps) (vE.getD (Int.toNat ((ps.getD a.toNat 0 : Nat) : Int)) 0) (vE.getD (Int.toNat ((ps.getD b.toNat 0 : Nat) : Int)) 0))))
    rw [Int.toNat_natCast, Int.toNat_natCast, ← va]
    unfold Dn.acc
    refine .inr ⟨hj, .inr ?_⟩
    by_cases h8 : vD.getD a.toNat 0 % 8 = 0
    · rw [if_pos h8, if_pos h8]
      right
      have e0 : (S.put (toldO ⟨10, r, a, b, order, imm⟩ ps)).laid.length - 1 = S.laid.length := by simp [Fo.put]
      exact ⟨rfl, app _, by simp [Fo.put], rfl, rfl, rfl, (by rw [← vb]; rfl), rfl, rfl, rfl, rfl, rfl, nD, nE, by rw [e0, hx, ho]; rfl, (fun h => by rw [ho, hp10_32] at h; cases h), (fun _ => M.plain H (by rw [ho]; exact hp10_32) (fun a r q h => .inl ⟨h, rfl⟩) (show (10 : Int) ≠ 1 by decide) rfl), by rw [ho]; exact .inr (.inl rfl), nl, hlt hp10_128⟩
    · rw [if_neg h8, if_neg h8]
      exact .inl ⟨rfl, rfl, rfl, rfl, rfl, rfl, rfl, rfl⟩
  · -- 11
    obtain rfl : R = (S.put (toldO ⟨11, r, a, b, order, imm⟩ ps), S.laid.length) := hR.symm
    obtain ⟨hx, hj⟩ := Begins.at hb
    rw [stE _ hx]
    have va := va hp11_2
    show Gp _ _ _ _ _ _ (Dn.acc _ ⟨11, r, a, b, order, imm⟩ (vD.getD a.toNat 0) (vD.getD b.toNat 0)) _ ∨ (_ ∧ (Gp _ _ _ _ _ _ (Dn.acc _ ⟨11, r, a, b, order, imm⟩ (vD.getD a.toNat 0) (vD.getD b.toNat 0)) (Dn.acc _ (toldO ⟨11, r, a, b, order, imm⟩ ps) (vE.getD (Int.toNat ((ps.getD a.toNat 0 : Nat) : Int)) 0) (vE.getD (Int.toNat ((ps.getD b.toNat 0 : Nat) : Int)) 0)) ∨ Ou (Dn.acc _ ⟨11, r, a, b, order, imm⟩ (vD.getD a.toNat 0) (vD.getD b.toNat 0)) (Dn.acc _ (toldO ⟨11, r, a, b, order, imm⟩ ps) (vE.getD (Int.toNat ((ps.getD a.toNat 0 : Nat) : Int)) 0) (vE.getD (Int.toNat ((ps.getD b.toNat 0 : Nat) : Int)) 0)) ∨ Pe _ _ _ _ _ _ (Dn.acc _ ⟨11, r, a, b, order, imm⟩ (vD.getD a.toNat 0) (vD.getD b.toNat 0)) (Dn.acc _ (toldO ⟨11, r, a, b, order, imm⟩ ps) (vE.getD (Int.toNat ((ps.getD a.toNat 0 : Nat) : Int)) 0) (vE.getD (Int.toNat ((ps.getD b.toNat 0 : Nat) : Int)) 0))))
    rw [Int.toNat_natCast, Int.toNat_natCast, ← va]
    unfold Dn.acc
    refine .inr ⟨hj, .inr ?_⟩
    by_cases h8 : vD.getD a.toNat 0 % 8 = 0
    · rw [if_pos h8, if_pos h8]
      right
      have e0 : (S.put (toldO ⟨11, r, a, b, order, imm⟩ ps)).laid.length - 1 = S.laid.length := by simp [Fo.put]
      exact ⟨rfl, app _, by simp [Fo.put], rfl, rfl, rfl, rfl, rfl, rfl, rfl, rfl, rfl, nD, nE, by rw [e0, hx, ho]; rfl, (fun _ u => by rw [e0]; exact M.define H (by omega) (by omega) (fun a r q h => .inl h) (fun h => absurd (show (11 : Int) = 1 from h) (by decide)) (fun h => absurd (show false = true from h) (by decide))), (fun h => by rw [ho, hp11_32] at h; cases h), by rw [ho]; exact .inr (.inr (.inl rfl)), nl, hlt hp11_128⟩
    · rw [if_neg h8, if_neg h8]
      exact .inl ⟨rfl, rfl, rfl, rfl, rfl, rfl, rfl, rfl⟩
  · -- 12
    obtain rfl : R = (S.put (toldO ⟨12, r, a, b, order, imm⟩ ps), S.laid.length) := hR.symm
    obtain ⟨hx, hj⟩ := Begins.at hb
    rw [stE _ hx]
    have va := va hp12_2
    have vb := vb hp12_4
    show Gp _ _ _ _ _ _ (Dn.acc _ ⟨12, r, a, b, order, imm⟩ (vD.getD a.toNat 0) (vD.getD b.toNat 0)) _ ∨ (_ ∧ (Gp _ _ _ _ _ _ (Dn.acc _ ⟨12, r, a, b, order, imm⟩ (vD.getD a.toNat 0) (vD.getD b.toNat 0)) (Dn.acc _ (toldO ⟨12, r, a, b, order, imm⟩ ps) (vE.getD (Int.toNat ((ps.getD a.toNat 0 : Nat) : Int)) 0) (vE.getD (Int.toNat ((ps.getD b.toNat 0 : Nat) : Int)) 0)) ∨ Ou (Dn.acc _ ⟨12, r, a, b, order, imm⟩ (vD.getD a.toNat 0) (vD.getD b.toNat 0)) (Dn.acc _ (toldO ⟨12, r, a, b, order, imm⟩ ps) (vE.getD (Int.toNat ((ps.getD a.toNat 0 : Nat) : Int)) 0) (vE.getD (Int.toNat ((ps.getD b.toNat 0 : Nat) : Int)) 0)) ∨ Pe _ _ _ _ _ _ (Dn.acc _ ⟨12, r, a, b, order, imm⟩ (vD.getD a.toNat 0) (vD.getD b.toNat 0)) (Dn.acc _ (toldO ⟨12, r, a, b, order, imm⟩ ps) (vE.getD (Int.toNat ((ps.getD a.toNat 0 : Nat) : Int)) 0) (vE.getD (Int.toNat ((ps.getD b.toNat 0 : Nat) : Int)) 0))))
    rw [Int.toNat_natCast, Int.toNat_natCast, ← va]
    unfold Dn.acc
    refine .inr ⟨hj, .inr ?_⟩
    by_cases h8 : vD.getD a.toNat 0 % 8 = 0
    · rw [if_pos h8, if_pos h8]
      right
      have e0 : (S.put (toldO ⟨12, r, a, b, order, imm⟩ ps)).laid.length - 1 = S.laid.length := by simp [Fo.put]
      exact ⟨rfl, app _, by simp [Fo.put], rfl, rfl, rfl, (by rw [← vb]; rfl), rfl, rfl, rfl, rfl, rfl, nD, nE, by rw [e0, hx, ho]; rfl, (fun _ u => by rw [e0]; exact M.define H (by omega) (by omega) (fun a r q h => .inl h) (fun h => absurd (show (12 : Int) = 1 from h) (by decide)) (fun h => absurd (show false = true from h) (by decide))), (fun h => by rw [ho, hp12_32] at h; cases h), by rw [ho]; exact .inr (.inr (.inr (.inl rfl))), nl, hlt hp12_128⟩
    · rw [if_neg h8, if_neg h8]
      exact .inl ⟨rfl, rfl, rfl, rfl, rfl, rfl, rfl, rfl⟩
  · -- 13
    obtain rfl : R = (S.put (toldO ⟨13, r, a, b, order, imm⟩ ps), S.laid.length) := hR.symm
    obtain ⟨hx, hj⟩ := Begins.at hb
    rw [stE _ hx]
    refine .inr ⟨hj, .inr (.inr ?_)⟩
    have e0 : (S.put (toldO ⟨13, r, a, b, order, imm⟩ ps)).laid.length - 1 = S.laid.length := by simp [Fo.put]
    exact ⟨rfl, app _, by simp [Fo.put], rfl, rfl, rfl, rfl, rfl, rfl, rfl, rfl, rfl, nD, nE, by rw [e0, hx, ho]; rfl, (fun h => by rw [ho, hp13_32] at h; cases h), (fun _ => M.plain H (by rw [ho]; exact hp13_32) (fun a' r' q h => .inl ⟨h, rfl⟩) (show (13 : Int) ≠ 1 by decide) rfl), by rw [ho]; exact .inr (.inr (.inr (.inr rfl))), nl, hlt hp13_128⟩
  · -- 14
    obtain rfl : R = (S.put (toldO ⟨14, r, a, b, order, imm⟩ ps), S.laid.length) := hR.symm
    obtain ⟨hx, hj⟩ := Begins.at hb
    rw [stE _ hx]
    refine .inr ⟨hj, .inl ⟨rfl, app _, rfl, rfl, rfl, rfl, rfl, rfl, rfl, rfl, nD, nE, ?_, nl, hlt hp14_128⟩⟩
    exact M.plain H (by rw [ho]; exact hp14_32) (fun a' r' q h => .inl ⟨h, reg_pc⟩) (show (14 : Int) ≠ 1 by decide) rfl
  · -- 15
    have va := va hp15_2
    have pa := pa hp15_2
    obtain rfl : R = S.exitIf (toldO ⟨15, r, a, b, order, imm⟩ ps) := hR.symm
    revert hb
    show Begins m (S.exitIf (toldO ⟨15, r, a, b, order, imm⟩ ps)).1.laid → (Gp el l m (aD + 1) (S.exitIf (toldO ⟨15, r, a, b, order, imm⟩ ps)).1 (ps ++ [(S.exitIf (toldO ⟨15, r, a, b, order, imm⟩ ps)).2]) (if (vD.getD a.toNat 0 != 0) = true then (Dn.pc _ imm).out else _) _ ∨ (_ ∧ (Gp _ _ _ _ _ _ (if (vD.getD a.toNat 0 != 0) = true then (Dn.pc _ imm).out else _) _ ∨ Ou (if (vD.getD a.toNat 0 != 0) = true then (Dn.pc _ imm).out else _) _ ∨ Pe _ _ _ _ _ _ (if (vD.getD a.toNat 0 != 0) = true then (Dn.pc _ imm).out else _) _)))
    unfold Fo.exitIf
    split
    · rename_i hk1
      intro hb
      obtain ⟨hx, hj⟩ := Begins.at hb
      rw [stE _ hx]
      have eE : dOne el ⟨cE, S.laid.length + 1, false, wE, false, fE, woE, gE, vE⟩ (toldO ⟨15, r, a, b, order, imm⟩ ps) = if (vE.getD (Int.toNat ((ps.getD a.toNat 0 : Nat) : Int)) 0 != 0) = true then (Dn.pc ⟨cE, S.laid.length + 1, false, wE, false, fE, woE, gE, vE⟩ imm).out else ⟨cE, S.laid.length + 1, false, wE, false, fE, woE, gE, vE⟩ := rfl
      rw [eE, Int.toNat_natCast, ← va]
      cases hz : (vD.getD a.toNat 0 != 0) with
      | true =>
        rw [if_pos rfl, if_pos rfl]
        exact .inr ⟨hj, .inr (.inl ⟨rfl, rfl, rfl, rfl, rfl, rfl, rfl, rfl⟩)⟩
      | false =>
        rw [if_neg (by decide), if_neg (by decide)]
        refine .inr ⟨hj, .inl ⟨rfl, app _, rfl, rfl, rfl, rfl, rfl, rfl, rfl, rfl, nD, nE, ?_, nl, hlt hp15_128⟩⟩
        exact M.plain H (by rw [ho]; exact hp15_32) (fun a' r' q h => .inl ⟨h, rfl⟩) (show (15 : Int) ≠ 1 by decide) rfl
    · rename_i hk1
      have hk1 : (opAt S.laid (ps.getD a.toNat 0)).kind = 1 := Decidable.not_not.1 hk1
      have w1 : vD.getD a.toNat 0 = (opAt S.laid (ps.getD a.toNat 0)).imm := va.trans (M.con _ pa hk1)
      split
      · rename_i hi
        intro hb
        obtain ⟨hx, hj⟩ := Begins.at hb
        rw [stE _ hx]
        have hi : (opAt S.laid (ps.getD a.toNat 0)).imm ≠ 0 := hi
        rw [w1, if_pos (by simpa using hi)]
        exact .inr ⟨hj, .inr (.inl ⟨rfl, rfl, rfl, rfl, rfl, rfl, rfl, rfl⟩)⟩
      · rename_i hi
        intro hb
        have hi : (opAt S.laid (ps.getD a.toNat 0)).imm = 0 := Decidable.not_not.1 hi
        rw [w1, if_neg (by rw [hi]; decide)]
        refine .inl ⟨rfl, rfl, rfl, rfl, rfl, rfl, rfl, rfl, rfl, rfl, nD, nE, ?_, nl, hlt hp15_128⟩
        exact M.none H (by rw [ho]; exact hp15_32)
  · -- 16
    obtain rfl : R = (S.put (toldO ⟨16, r, a, b, order, imm⟩ ps), S.laid.length) := hR.symm
    obtain ⟨hx, hj⟩ := Begins.at hb
    rw [stE _ hx]
    exact .inr ⟨hj, .inr (.inl ⟨rfl, rfl, rfl, rfl, rfl, rfl, rfl, rfl⟩)⟩
  · -- 17
    have va := va hp17_2
    obtain rfl : R = (S.put (toldO ⟨17, r, a, b, order, imm⟩ ps), S.laid.length) := hR.symm
    obtain ⟨hx, hj⟩ := Begins.at hb
    rw [stE _ hx]
    refine .inr ⟨hj, .inr (.inl ⟨?_, rfl, rfl, rfl, rfl, rfl, rfl, rfl⟩)⟩
    show ({ cE with pc := vE.getD (Int.toNat ((ps.getD a.toNat 0 : Nat) : Int)) 0 } : Cor) = { cE with pc := vD.getD a.toNat 0 }
    rw [Int.toNat_natCast, va]
  · -- 18
    obtain rfl : R = (S.put (toldO ⟨18, r, a, b, order, imm⟩ ps), S.laid.length) := hR.symm
    obtain ⟨hx, hj⟩ := Begins.at hb
    rw [stE _ hx]
    exact .inr ⟨hj, .inr (.inl ⟨rfl, rfl, rfl, rfl, rfl, rfl, rfl, rfl⟩)⟩
end Go.Proofs.Ytilhjbhhgpoajaa
/- The run of a block and of what it was laid to, behind Next and Take: plain. -/
namespace Go.Proofs.Ytilhjbhhgpoajaa
open Go.RowKit
set_option linter.unusedVariables false
set_option linter.unusedSimpArgs false
set_option maxRecDepth 8000

section
variable {pc words el : Int} {l : List Opr} {k : Nat} {D E : Dn}
theorem fo_at (h : rightB pc words el l = true) (hu : ∀ k, U64 (opAt l k).imm) (hk : k ≤ l.length) (hl : (foS l k).1.left = false) : FoOk l k (foS l k).1 (foS l k).2 := by
  obtain ⟨j, hj, e, hd, _, H, R⟩ := foS_stops h hu k hk
  have hkj : k = j := by
    rcases hd with hd | hd
    · exact hd
    · rw [← e, hl] at hd; cases hd
  subst hkj
  exact H
theorem begins_all (h : rightB pc words el l = true) : ∀ d k, k + d = l.length → Begins (layAll l) (foS l k).1.laid
  | 0, k, hk => by
    have : k = l.length := by omega
    subst this
    exact ⟨[], by simp [layAll]⟩
  | d + 1, k, hk => by
    have ih := begins_all h d (k + 1) (by omega)
    cases hl : (foS l k).1.left with
    | true => rwa [foS_stop hl (k + 1) (by omega)] at ih
    | false =>
      rw [foS_go hl] at ih
      rcases lay_emits (foS l k).1 (toldO (opAt l k) (foS l k).2) (right_ok h (show k < l.length by omega)).kind hl with hs | ⟨x, X⟩
      · dsimp only at ih; rwa [hs] at ih
      · dsimp only at ih
        rw [X.laid] at ih
        exact ih.left
def Gk (el : Int) (l : List Opr) (k : Nat) (D E : Dn) : Prop := Gp el l (layAll l) k (foS l k).1 (foS l k).2 D E
def Pk (el : Int) (l : List Opr) (k : Nat) (D E : Dn) : Prop := Pe el l (layAll l) k (foS l (k + 1)).1 (foS l (k + 1)).2 D E
theorem step_k (h : rightB pc words el l = true) (hu : ∀ k, U64 (opAt l k).imm) (hel : el = 0 ∨ el = 1) (G : Gk el l k D E) :
    Gk el l (k + 1) (dStep el l D) E ∨ (E.at_ < (layAll l).length ∧ (Gk el l (k + 1) (dStep el l D) (dStep el (layAll l) E) ∨ Ou (dStep el l D) (dStep el (layAll l) E) ∨ Pk el l k (dStep el l D) (dStep el (layAll l) E))) := by
  have hb := begins_all h (l.length - (k + 1)) (k + 1) (by have := G.lt; omega)
  rw [foS_go G.nl] at hb
  have R := step_gp G hel (right_ok h G.lt) (fo_at h hu (Nat.le_of_lt G.lt) G.nl) hu hb
  unfold Gk Pk
  rw [foS_go G.nl]
  exact R
/-- Behind Next: both have left, or both wait. -/
def Nx (el : Int) (l : List Opr) (k : Nat) (D E : Dn) : Prop := Ou D E ∨ ∃ j, k ≤ j ∧ Pk el l j D E
theorem Nx.mono {j : Nat} (h : Nx el l j D E) (hk : k ≤ j) : Nx el l k D E := by
  rcases h with h | ⟨i, hi, h⟩
  · exact .inl h
  · exact .inr ⟨i, by omega, h⟩
theorem run_k (h : rightB pc words el l = true) (hu : ∀ k, U64 (opAt l k).imm) (hel : el = 0 ∨ el = 1) : ∀ (f g k : Nat) (D E : Dn), Gk el l k D E → l.length ≤ k + f → (layAll l).length ≤ E.at_ + g → Nx el l k (dRun el l f D) (dRun el (layAll l) g E)
  | 0, g, k, D, E, G, h1, h2 => absurd G.lt (by omega)
  | f + 1, g, k, D, E, G, h1, h2 => by
    have eD : dRun el l (f + 1) D = dRun el l f (dStep el l D) := by
      show (if _ then _ else _) = _
      rw [if_pos ⟨G.lD, G.wD⟩]
    rw [eD]
    rcases step_k h hu hel G with G1 | ⟨hlt, R⟩
    · exact (run_k h hu hel f g (k + 1) _ E G1 (by omega) h2).mono (by omega)
    · obtain ⟨g, rfl⟩ : ∃ q, g = q + 1 := ⟨g - 1, by omega⟩
      have eE : dRun el (layAll l) (g + 1) E = dRun el (layAll l) g (dStep el (layAll l) E) := by
        show (if _ then _ else _) = _
        rw [if_pos ⟨G.lE, G.wE⟩]
      rw [eE]
      rcases R with G1 | O | Q
      · exact (run_k h hu hel f g (k + 1) _ _ G1 (by omega) (by rw [dStep_at]; omega)).mono (by omega)
      · rw [dRun_stop (fun e => by have := O.lD; rw [e.1] at this; cases this), dRun_stop (fun e => by have := O.lE; rw [e.1] at this; cases this)]
        exact .inl O
      · rw [dRun_stop (fun e => by have := Q.wD; rw [e.2] at this; cases this), dRun_stop (fun e => by have := Q.wE; rw [e.2] at this; cases this)]
        exact .inr ⟨k, Nat.le_refl _, Q⟩
theorem next_k (h : rightB pc words el l = true) (hu : ∀ k, U64 (opAt l k).imm) (hel : el = 0 ∨ el = 1) (G : Gk el l k D E) : Nx el l k (dNext el l D) (dNext el (layAll l) E) :=
  run_k h hu hel _ _ k D E G (by omega) (by omega)
theorem next_o {m : List Opr} (O : Ou D E) : dNext el l D = D ∧ dNext el m E = E :=
  ⟨dRun_stop (fun e => by have := O.lD; rw [e.1] at this; cases this), dRun_stop (fun e => by have := O.lE; rw [e.1] at this; cases this)⟩
theorem take_k (Q : Pk el l k D E) (t : Gt) : Gk el l (k + 1) (dTake l D t) (dTake (layAll l) E t) ∨ Ou (dTake l D t) (dTake (layAll l) E t) := by
  unfold Pk at Q
  unfold Gk
  have hkd := Q.kind
  generalize foS l (k + 1) = Sp at *
  obtain ⟨S, ps⟩ := Sp
  dsimp only at Q hkd ⊢
  generalize layAll l = m at *
  obtain ⟨cD, aD, wtD, wD, lfD, fD, woD, gD, vD⟩ := D
  obtain ⟨cE, aE, wtE, wE, lfE, fE, woE, gE, vE⟩ := E
  obtain ⟨h1, h2, h0, h3, h4, h5, hw, h6, h7, h8, h9, h10, nD, nE, _, hset, hpl, hwh, nl, hlt⟩ := Q
  dsimp only at h1 h2 h3 h4 h5 hw h6 h7 h8 h9 h10 nD nE hset hpl
  subst h1 h2 h3 h4 h5 hw h6 h7 h8 h9 h10
  have tD : dTake l ⟨cE, k + 1, true, wE, false, fE, woE, gE, vD⟩ t = (if accB (opAt l k).kind = false then ⟨cE, k + 1, false, wE, false, fE, woE, gE, vD⟩ else if t.fault ≠ 0 then ⟨cE, k + 1, false, wE, true, true, woE, gE, vD⟩ else if (opAt l k).kind = 12 then ⟨cE, k + 1, false, wE, false, fE, woE, gE, vD.set k (oneV (!t.ok))⟩ else if (opAt l k).kind = 10 then ⟨cE, k + 1, false, wE, false, fE, woE, gE, vD⟩ else ⟨cE, k + 1, false, wE, false, fE, woE, gE, vD.set k t.value⟩) := by
    show (if (true : Bool) = false then _ else _) = _
    rw [if_neg (by decide)]; rfl
  have tE : dTake m ⟨cE, S.laid.length, true, wE, false, fE, woE, gE, vE⟩ t = (if accB (opAt m (S.laid.length - 1)).kind = false then ⟨cE, S.laid.length, false, wE, false, fE, woE, gE, vE⟩ else if t.fault ≠ 0 then ⟨cE, S.laid.length, false, wE, true, true, woE, gE, vE⟩ else if (opAt m (S.laid.length - 1)).kind = 12 then ⟨cE, S.laid.length, false, wE, false, fE, woE, gE, vE.set (S.laid.length - 1) (oneV (!t.ok))⟩ else if (opAt m (S.laid.length - 1)).kind = 10 then ⟨cE, S.laid.length, false, wE, false, fE, woE, gE, vE⟩ else ⟨cE, S.laid.length, false, wE, false, fE, woE, gE, vE.set (S.laid.length - 1) t.value⟩) := by
    show (if (true : Bool) = false then _ else _) = _
    rw [if_neg (by decide)]; rfl
  rw [tD, tE, hkd]
  have plain : hasP (opAt l k).kind 32 = false → Gp el l m (k + 1) S ps ⟨cE, k + 1, false, wE, false, fE, woE, gE, vD⟩ ⟨cE, S.laid.length, false, wE, false, fE, woE, gE, vE⟩ := fun h =>
    ⟨rfl, rfl, rfl, rfl, rfl, rfl, rfl, rfl, rfl, rfl, nD, nE, hpl h, nl, hlt⟩
  have set : hasP (opAt l k).kind 32 = true → ∀ u, Gp el l m (k + 1) S ps ⟨cE, k + 1, false, wE, false, fE, woE, gE, vD.set k u⟩ ⟨cE, S.laid.length, false, wE, false, fE, woE, gE, vE.set (S.laid.length - 1) u⟩ := fun h u =>
    ⟨rfl, rfl, rfl, rfl, rfl, rfl, rfl, rfl, rfl, rfl, (List.length_set ..).trans nD, (List.length_set ..).trans nE, hset h u, nl, hlt⟩
  by_cases hf : t.fault ≠ 0
  · rcases hwh with e | e | e | e | e <;> rw [e] at plain ⊢
    · rw [if_neg (show ¬ accB 9 = false by decide), if_neg (show ¬ accB 9 = false by decide), if_pos hf, if_pos hf]; exact .inr ⟨rfl, rfl, rfl, rfl, rfl, rfl, rfl, rfl⟩
    · rw [if_neg (show ¬ accB 10 = false by decide), if_neg (show ¬ accB 10 = false by decide), if_pos hf, if_pos hf]; exact .inr ⟨rfl, rfl, rfl, rfl, rfl, rfl, rfl, rfl⟩
    · rw [if_neg (show ¬ accB 11 = false by decide), if_neg (show ¬ accB 11 = false by decide), if_pos hf, if_pos hf]; exact .inr ⟨rfl, rfl, rfl, rfl, rfl, rfl, rfl, rfl⟩
    · rw [if_neg (show ¬ accB 12 = false by decide), if_neg (show ¬ accB 12 = false by decide), if_pos hf, if_pos hf]; exact .inr ⟨rfl, rfl, rfl, rfl, rfl, rfl, rfl, rfl⟩
    · rw [if_pos (show accB 13 = false by decide), if_pos (show accB 13 = false by decide)]; exact .inl (plain hp13_32)
  · left
    rcases hwh with e | e | e | e | e <;> rw [e] at plain set ⊢
    · rw [if_neg (show ¬ accB 9 = false by decide), if_neg (show ¬ accB 9 = false by decide), if_neg hf, if_neg hf, if_neg (show ¬ (9 : Int) = 12 by decide), if_neg (show ¬ (9 : Int) = 12 by decide), if_neg (show ¬ (9 : Int) = 10 by decide), if_neg (show ¬ (9 : Int) = 10 by decide)]; exact set hp9_32 _
    · rw [if_neg (show ¬ accB 10 = false by decide), if_neg (show ¬ accB 10 = false by decide), if_neg hf, if_neg hf, if_neg (show ¬ (10 : Int) = 12 by decide), if_neg (show ¬ (10 : Int) = 12 by decide), if_pos (show (10 : Int) = 10 from rfl), if_pos (show (10 : Int) = 10 from rfl)]; exact plain hp10_32
    · rw [if_neg (show ¬ accB 11 = false by decide), if_neg (show ¬ accB 11 = false by decide), if_neg hf, if_neg hf, if_neg (show ¬ (11 : Int) = 12 by decide), if_neg (show ¬ (11 : Int) = 12 by decide), if_neg (show ¬ (11 : Int) = 10 by decide), if_neg (show ¬ (11 : Int) = 10 by decide)]; exact set hp11_32 _
    · rw [if_neg (show ¬ accB 12 = false by decide), if_neg (show ¬ accB 12 = false by decide), if_neg hf, if_neg hf, if_pos (show (12 : Int) = 12 from rfl), if_pos (show (12 : Int) = 12 from rfl)]; exact set hp12_32 _
    · rw [if_pos (show accB 13 = false by decide), if_pos (show accB 13 = false by decide)]; exact plain hp13_32
/-- Where both stand ahead of the i-th Next. -/
def Rr (el : Int) (l : List Opr) (i : Nat) (D E : Dn) : Prop := (∃ k, i ≤ k ∧ Gk el l k D E) ∨ Ou D E
theorem rr_first (h : rightB pc words el l = true) (c : Cor) : Rr el l 0 (newD l.length c) (newD (layAll l).length c) := by
  refine .inl ⟨0, Nat.le_refl _, rfl, rfl, rfl, rfl, rfl, rfl, rfl, rfl, rfl, rfl, by simp [newD], by simp [newD], ⟨fun i hi => absurd hi (by omega), fun a r q e => (by cases e), fun q hq => absurd hq (by simp [foS, Fo.nil]), fun q hq => absurd hq (by simp [foS, Fo.nil])⟩, rfl, (right_first h).1⟩
theorem rr_next (h : rightB pc words el l = true) (hu : ∀ k, U64 (opAt l k).imm) (hel : el = 0 ∨ el = 1) {i : Nat} (R : Rr el l i D E) : Nx el l i (dNext el l D) (dNext el (layAll l) E) := by
  rcases R with ⟨k, hk, G⟩ | O
  · exact (next_k h hu hel G).mono hk
  · obtain ⟨e1, e2⟩ := next_o (el := el) (l := l) (m := layAll l) O
    rw [e1, e2]; exact .inl O
theorem rr_take {i k : Nat} (hk : i ≤ k) (Q : Pk el l k D E) (t : Gt) : i + 1 < l.length ∧ Rr el l (i + 1) (dTake l D t) (dTake (layAll l) E t) := by
  refine ⟨by have := Q.lt; omega, ?_⟩
  rcases take_k Q t with G | O
  · exact .inl ⟨k + 1, by omega, G⟩
  · exact .inr O
theorem nx_out {i : Nat} (h : Nx el l i D E) : E.c = D.c ∧ E.waits = D.waits ∧ outW E = outW D := by
  rcases h with O | ⟨j, _, Q⟩
  · exact ⟨O.c, by rw [O.wD, O.wE], by unfold outW; rw [O.wD, O.wE]; rfl⟩
  · exact ⟨Q.c, by rw [Q.wD, Q.wE], by unfold outW; rw [Q.wD, Q.wE, Q.w]⟩
end
end Go.Proofs.Ytilhjbhhgpoajaa
