/- Are the values that are used ones that were defined? -/
import Derived.Test.YtilhjbhhgpoajaaDoorIc
namespace Go.Proofs.YtilhjbhhgpoajaaDoor
open Go.RowKit
set_option linter.unusedVariables false
set_option linter.unusedSimpArgs false
set_option maxRecDepth 8000

/-- What is asked of the values that are used. -/
theorem defB_no {l : List Opr} {k : Nat} {p : Int} (h : p < 0 ∨ (k : Int) ≤ p) : defB l k p = false := by
  unfold defB
  rcases h with h | h
  · rw [decide_eq_false (by omega)]; rfl
  · rw [decide_eq_false (p := p < k) (by omega)]; simp
theorem defB_at {l : List Opr} {k p : Nat} {o : Opr} (hp : p < k) (ho : l[p]? = some o) : defB l k (p : Int) = hasP o.kind 32 := by
  unfold defB
  rw [decide_eq_true (by omega), decide_eq_true (by omega), Int.toNat_natCast, opAt_of ho]; rfl
set_option maxHeartbeats 4000000 in
theorem areDefined_c {w : World} {v u : Value} {zs : List Int} {l : List Opr} {k : Nat} (Z : RawI w v zs) (hz : zs.length ≤ 2) (O : Ops w u (l.take k)) (hk : k ≤ l.length) (hk5 : k ≤ 512) (hl : ∀ j, j < k → isK (opAt l j).kind = true) :
    Calls Tryd.prog 24 #[v, u] w fun e w' => e = .returned (.bool (zs.all (defB l k))) ∧ Below w.heap.size w w' := by
  obtain ⟨ao, cap, ev⟩ := Z.len
  obtain ⟨uo, ucap, eu⟩ := O.len
  have hlen : (l.take k).length = k := by rw [List.length_take]; omega
  rw [hlen] at eu
  have hkm : k ≤ 4398046511104 := by omega
  subst ev
  subst eu
  go_enter Tryd.func24, Tryd.ntmps24
  go_wp2
  go_loopw [9] (fun s9 wr => ∃ i : Nat, i ≤ zs.length ∧ s9 = vI i ∧ (zs.take i).all (defB l k) = true ∧ Below w.heap.size w wr) (fun s9 _ => ((zs.length : Int) - intOf s9).toNat)
  case atStart => exact ⟨0, Nat.zero_le _, rfl, rfl, Below.refl _ _⟩
  case round =>
    obtain ⟨i, hi, rfl, hall, hB⟩ := hrel
    by_cases hlt : (i : Int) < zs.length
    · have hil : i < zs.length := by omega
      obtain ⟨p, hp⟩ : ∃ p, zs[i]? = some p := ⟨zs[i], List.getElem?_eq_getElem hil⟩
      obtain ⟨ra, cap', ev', hc⟩ := (Z.grow hB).cell (by omega)
      cases ev'
      have c0 := (hc i p hp).2
      have hstep : ∀ b, defB l k p = b → ((zs.take (i + 1)).all (defB l k)) = b := fun b hb => by
        rw [List.take_add_one, hp, List.all_append, hall]; simp [hb]
      have hno : defB l k p = false → zs.all (defB l k) = false := fun h => by
        rw [List.all_eq_false]; exact ⟨p, List.mem_of_getElem? hp, by simp [h]⟩
      clear hc
      by_cases h0 : p < 0
      · have hd := hno (defB_no (.inl h0))
        go_wp2
        go_ret
        first | exact ⟨r_bool hd.symm, hB⟩ | exact ⟨rfl, hB⟩
      · by_cases h1 : (k : Int) ≤ p
        · have hd := hno (defB_no (.inr h1))
          go_wp2
          go_ret
          first | exact ⟨r_bool hd.symm, hB⟩ | exact ⟨rfl, hB⟩
        · obtain ⟨q, rfl⟩ : ∃ q : Nat, p = q := ⟨p.toNat, by omega⟩
          have hqk : q < k := by omega
          obtain ⟨o, ho⟩ : ∃ o, l[q]? = some o := ⟨l[q]'(by omega), List.getElem?_eq_getElem _⟩
          have hat : (l.take k)[q]? = some o := by rw [List.getElem?_take, if_pos hqk]; exact ho
          obtain ⟨ub, ucap', eu', hcu⟩ := (O.grow hB).cell (by omega)
          rw [hlen] at eu'
          cases eu'
          have d0 := (hcu q o hat).c0
          have hko := hl q hqk
          rw [opAt_of ho] at hko
          have hd := defB_at (l := l) hqk ho
          have h2 : (q : Int) < k := by omega
          clear hcu
          cases hv : hasP o.kind 32 with
          | false =>
            rw [hv] at hd
            have hd := hno hd
            go_wp2_with (first | (go_at_call 21; refine (shapeOf_c _ hko _).mono ?_; rintro e w1 ⟨rfl, B⟩; dsimp only; replace hB := below_then hB (Nat.le_refl _) B; clear B) | (go_at_call 22; refine (hasK_c _ _ _).mono ?_; rintro e w1 ⟨rfl, B⟩; dsimp only; replace hB := below_then hB (Nat.le_refl _) B; clear B; simp only [hv]))
            go_ret
            first | exact ⟨r_bool hd.symm, hB⟩ | exact ⟨rfl, hB⟩
          | true =>
            rw [hv] at hd
            have hd := hstep _ hd
            go_wp2_with (first | (go_at_call 21; refine (shapeOf_c _ hko _).mono ?_; rintro e w1 ⟨rfl, B⟩; dsimp only; replace hB := below_then hB (Nat.le_refl _) B; clear B) | (go_at_call 22; refine (hasK_c _ _ _).mono ?_; rintro e w1 ⟨rfl, B⟩; dsimp only; replace hB := below_then hB (Nat.le_refl _) B; clear B; simp only [hv]))
            go_roundw
            case rel => exact ⟨i + 1, by omega, by simp, hd, hB⟩
            case measure => simp [intOf]; omega
    · have hie : i = zs.length := by omega
      have hd : zs.all (defB l k) = true := by rw [hie, List.take_length] at hall; exact hall
      go_wp2
      go_ret
      first | exact ⟨r_bool hd.symm, hB⟩ | exact ⟨rfl, hB⟩
end Go.Proofs.YtilhjbhhgpoajaaDoor
