/- RelMakes: the copy of the argument. -/
import Derived.Test.YtfgbhdcoemkdoaaDoorWe
namespace Go.Proofs.YtfgbhdcoemkdoaaDoor
open Go.RowKit
set_option linter.unusedVariables false
set_option linter.unusedSimpArgs false
set_option maxRecDepth 8000

open Rlw
def flatI (ps : List (Int × Int)) : List Value := ps.flatMap fun p => [vI p.1, vI p.2]
theorem flatI_len (l : List (Int × Int)) : (flatI l).length = l.length * 2 := by
  induction l with
  | nil => rfl
  | cons p l ih => simp only [flatI, List.flatMap_cons, List.length_append, List.length_cons, List.length_nil] at *; omega
theorem flatI_get : ∀ {ps : List (Int × Int)} {i : Nat} {p : Int × Int}, ps[i]? = some p → (flatI ps)[i * 2]? = some (vI p.1) ∧ (flatI ps)[i * 2 + 1]? = some (vI p.2)
  | [], _, _, h => by simp at h
  | q :: ps, 0, p, h => by
    obtain rfl : q = p := by simpa using h
    exact ⟨rfl, rfl⟩
  | q :: ps, i + 1, p, h => by
    have := flatI_get (ps := ps) (i := i) (p := p) (by simpa using h)
    have e : (i + 1) * 2 = i * 2 + 2 := by omega
    rw [e]
    exact ⟨this.1, this.2⟩
theorem one_flatI (l : List (Int × Int)) : ∀ u ∈ flatI l, u.oneCell' = true := fun u hu => by
  obtain ⟨p, _, h⟩ := List.mem_flatMap.1 hu
  rcases List.mem_cons.1 h with rfl | h
  · rfl
  · rw [List.mem_singleton.1 h]; rfl
theorem own_prs {base : Nat} {v : Value} {ps : List (Int × Int)} {w : World} (R : w.ownsRow base 60 2 v ps.length (flatI ps)) : Prs w v ps := by
  obtain ⟨ao, cap, ev, h1, h2⟩ := own_len R
  refine ⟨⟨ao, cap, ev⟩, by omega, fun h0 => ?_⟩
  obtain ⟨g, c, e, _, _, hg, hc, _⟩ := own_addr R h0
  refine ⟨⟨g, 0, none⟩, c, e, fun i p hp => ?_⟩
  have hi := (List.getElem?_eq_some_iff.1 hp).1
  obtain ⟨g1, g2⟩ := flatI_get hp
  have e0 : (⟨g, 0, none⟩ : Addr).add (i * 2) = ⟨g, i * 2, none⟩ := by rw [Addr.add_mid, Nat.zero_add]
  rw [e0]
  exact ⟨hg, by rw [hc _ (by omega)]; exact g1, by show w.cell? ⟨g, i * 2 + 1, none⟩ = _; rw [hc _ (by omega)]; exact g2⟩
theorem wpList_copyP {ops : Array Oper} {rest : List Oper} {o : Oper} {a : Act} {w : World} {Q : Exit → Act → World → Prop} (hgd : o.guard = none) (s x : Operand) (ho : o.op = .call { callee := .builtin .append, args := #[s, x], argTypes := #[22, 22] }) (hs : a.eval s = .slice none 0 0) {v : Value} {ps : List (Int × Int)} (hx : a.eval x = v) (hv : Prs w v ps) (hl : ps.length * 16 ≤ 140737488355328)
    (h : ∀ v' w', Prs w' v' ps → Below w.heap.size w w' → wpList Tryd.prog ops Q rest (a.put o.dst v') w') : wpList Tryd.prog ops Q (o :: rest) a w :=
  wpList_plain hgd fun _ hK => by
    obtain ⟨i, h1, h2, h3, h4⟩ := info_parts info60
    have hown : w.ownsRow w.heap.size 60 2 (.slice none 0 0) 0 [] := ⟨rfl, .inl ⟨rfl, rfl⟩⟩
    obtain ⟨ao, cap, ev⟩ := hv.len
    have hmx := hv.max
    cases ao with
    | none =>
      obtain rfl : ps = [] := by
        cases ps with
        | nil => rfl
        | cons p l =>
          obtain ⟨ra, c2, e2, _⟩ := hv.cell (by simp)
          rw [ev] at e2; cases e2
      have hr : (Builtin.append_ #[22, 22] o.type #[.slice none 0 0, .slice none 0 cap]).run Tryd.prog w = .ok (.slice none 0 0) w := by
        simp [Builtin.append_, run_underlying Tryd.underlying22, sizeOf, typeInfo, h1, Builtin.lenOf, Builtin.firstCells]
      rw [List.length_nil] at ev
      unfold Oper.wp execOp
      simp only [ho, resolve, invoke, builtin, Sem.run_bind, Sem.run_pure, Result.andThen_ok, List.map_toArray, List.map_cons, List.map_nil, hs, hx, ev, hr]
      exact hK _ _ (h _ w ⟨⟨none, 0, rfl⟩, Nat.zero_le _, fun h => by simp at h⟩ (Below.refl _ _))
    | some ra =>
      have hc : ∀ (i : Nat) p, ps[i]? = some p → PAt w (ra.add (i * 2)) p := fun i p hp => by
        obtain ⟨ra2, c2, e2, hc2⟩ := hv.cell (Nat.lt_of_le_of_lt (Nat.zero_le _) (List.getElem?_eq_some_iff.1 hp).1)
        rw [ev] at e2; cases e2
        exact hc2 i p hp
      obtain ⟨v', w', hr, q1, q2, _, _⟩ := run_append_own_at (P := Tryd.prog) w w.heap.size 22 o.type 60 i (.agg #[vI 0, vI 0]) 2 16 Tryd.underlying22 h1 h2 h3 h4 rfl (by decide) (.slice none 0 0) 0 [] hown ra ps.length cap (flatI ps) (flatI_len ps) (by
        intro j u hj
        have hjl : j < ps.length * 2 := by have := (List.getElem?_eq_some_iff.1 hj).1; rwa [flatI_len] at this
        have hp : ps[j / 2]? = some (ps[j / 2]'(by omega)) := List.getElem?_eq_getElem _
        have hc2 := hc _ _ hp
        obtain ⟨g1, g2⟩ := flatI_get hp
        by_cases e : j % 2 = 0
        · have ej : j / 2 * 2 = j := by omega
          rw [ej] at g1
          rw [hj] at g1
          have := hc2.c0
          rw [ej] at this
          rw [this, ← g1]
        · have ej : j / 2 * 2 + 1 = j := by omega
          rw [ej] at g2
          rw [hj] at g2
          have := hc2.c1
          rw [← g2] at this
          have ea : ra.add j = ⟨(ra.add (j / 2 * 2)).block, (ra.add (j / 2 * 2)).off + 1, none⟩ := by
            have e1 : ra.add j = ⟨ra.block, ra.off + j, none⟩ := by unfold Addr.add; rw [if_neg (by omega)]
            rw [e1]
            unfold Addr.add
            by_cases h : j / 2 * 2 = 0
            · rw [if_pos h]
              have : j = 1 := by omega
              rw [this]
            · rw [if_neg h]
              show (⟨ra.block, ra.off + j, none⟩ : Addr) = ⟨ra.block, ra.off + j / 2 * 2 + 1, none⟩
              rw [Nat.add_assoc, ej]
          rw [ea]; exact this) (one_flatI ps) (by omega) (by omega) (Nat.le_refl _)
      unfold Oper.wp execOp
      simp only [ho, resolve, invoke, builtin, Sem.run_bind, Sem.run_pure, Result.andThen_ok, List.map_toArray, List.map_cons, List.map_nil, hs, hx, ev, hr]
      refine hK _ _ (h v' w' ?_ ((Below.refl _ w).grown q2 (Nat.le_refl _) fun k e => by cases e))
      rw [Nat.zero_add, List.nil_append] at q1
      exact own_prs q1
theorem docOf_yes {m : Nat} {v : Value} {ps : List (Int × Int)} {w : World} (hv : Prs w v ps) (hn : newE m = 0) (ho : ofOk m ps = true) : Calls Tryd.prog 9 #[vI m, v] w fun e w' => ∃ r, e = .returned (.tuple #[ptr r 0, vI 0]) ∧ RefAt r m (ofR ps) w' ∧ Below w.heap.size w w' :=
  (docOf_c m hv).mono fun e w' h => by
    obtain ⟨hB, h | ⟨m', hm, _, h | ⟨_, r, h1, h2⟩⟩⟩ := h
    · exact absurd hn h.1
    · obtain rfl : m = m' := by omega
      rw [ho] at h; exact absurd h.1 (by decide)
    · obtain rfl : m = m' := by omega
      exact ⟨r, h1, h2, hB⟩
theorem docOf_no {m : Nat} {v : Value} {ps : List (Int × Int)} {w : World} (hv : Prs w v ps) (hn : newE m = 0) (ho : ofOk m ps = false) : Calls Tryd.prog 9 #[vI m, v] w fun e w' => e = .returned (.tuple #[.pointer none, vI 1]) ∧ Below w.heap.size w w' :=
  (docOf_c m hv).mono fun e w' h => by
    obtain ⟨hB, h | ⟨m', hm, _, h | ⟨h, _⟩⟩⟩ := h
    · exact absurd hn h.1
    · exact ⟨h.2, hB⟩
    · obtain rfl : m = m' := by omega
      rw [ho] at h; exact absurd h (by decide)
theorem docOf_bad {n : Int} {v : Value} {ps : List (Int × Int)} {w : World} (hv : Prs w v ps) (hn : newE n ≠ 0) : Calls Tryd.prog 9 #[vI n, v] w fun e w' => e = .returned (.tuple #[.pointer none, vI (newE n)]) ∧ Below w.heap.size w w' :=
  (docOf_c n hv).mono fun e w' h => by
    obtain ⟨hB, h | ⟨m', hm, h0, _⟩⟩ := h
    · exact ⟨h.2, hB⟩
    · exact absurd h0 hn
theorem of_bad {n : Int} {v : Value} {ps : List (Int × Int)} {w : World} (hv : Prs w v ps) (hn : newE n ≠ 0) : Calls Tryd.prog 10 #[vI n, v] w fun e w' => e = .returned (.tuple #[.pointer none, vI (newE n)]) ∧ Below w.heap.size w w' :=
  (of_c n hv).mono fun e w' h => by
    obtain ⟨hB, h | ⟨m', hm, h0, _⟩⟩ := h
    · exact ⟨h.2, hB⟩
    · exact absurd h0 hn
theorem ordV_len (n : Nat) (R : Nat → Nat → Bool) : (ordV n R).length ≤ n := by
  unfold ordV
  split
  · exact ordL_len n R n
  · exact Nat.zero_le _
theorem ofR_fits {m : Nat} : ∀ {ps : List (Int × Int)}, ofOk m ps = true → ∀ {R : Nat → Nat → Bool}, Fits m R → Fits m (ps.foldl (fun R p => Rlw.addR R p.1.toNat p.2.toNat) R)
  | [], _, _, h => h
  | p :: ps, ho, R, h => by
    have h2 : okP m p = true ∧ ofOk m ps = true := by simpa [ofOk] using ho
    have h3 : inB m p.1 = true ∧ inB m p.2 = true := by simpa [okP] using h2.1
    obtain ⟨a, ea, ha⟩ := inB_nat h3.1
    obtain ⟨b, eb, hb⟩ := inB_nat h3.2
    refine ofR_fits (ps := ps) h2.2 (h.add (by rw [ea, Int.toNat_natCast]; exact ha) (by rw [eb, Int.toNat_natCast]; exact hb))
end Go.Proofs.YtfgbhdcoemkdoaaDoor
