/- DeadUsed: the walk. -/
import Derived.Test.YtejlmggfeejgpaaXo
namespace Go.Proofs.Ytejlmggfeejgpaa
open Go.RowKit
set_option linter.unusedVariables false
set_option linter.unusedSimpArgs false
set_option maxRecDepth 8000

theorem bl_c3 {x : World} {t : Nat} {pc words el : Int} {v : Value} (h : x.heap[t]? = some (.cells (blA pc words el v) 25)) : x.cell? ⟨t, 3, none⟩ = some v := by rw [cell_of_row _ _ _ _ _ _ h]; rfl
/-- What DeadUsed holds. -/
structure DuW (w : World) (pc words el : Int) (v : Value) (l : List Opr) (b1 g : Nat) (x : World) : Prop where
  r1 : x.heap[b1]? = some (.cells (blA pc words el v) 25)
  row : x.heap[g]? = some (.cells (boC (seenL l) []) 4)
  ops : Ops x v l
  below : Below w.heap.size w x
theorem DuW.grow {w x y : World} {pc words el : Int} {v : Value} {l : List Opr} {b1 g : Nat} (h : DuW w pc words el v l b1 g x) (hb : Below x.heap.size x y) : DuW w pc words el v l b1 g y :=
  ⟨keepRow h.r1 hb, keepRow h.row hb, h.ops.grow hb, below_then h.below (Nat.le_refl _) hb⟩
theorem DuW.at_ {w x : World} {pc words el : Int} {v : Value} {l : List Opr} {b1 g : Nat} (h : DuW w pc words el v l b1 g x) {k : Nat} (hk : k < l.length) : x.cell? ⟨g, k, none⟩ = some (.bool (seenAt l k)) := bo_cell h.row (by rw [seenL_len]; exact hk)
section
variable {w : World} {pc words el : Int} {v : Value} {l : List Opr}
set_option maxHeartbeats 16000000 in
theorem used_walk (hpc : 0 ≤ pc) (O : Ops w v l) (himm : ∀ k, 0 ≤ (opAt l k).imm) (hcap : ∀ ao n cap, v = .slice ao n cap → n ≤ cap) : Calls Try.prog 5 #[blV pc words el v] w fun e w' => e = .returned (.bool true) ∧ Below w.heap.size w w' := by
  have hb := below_alloc w (.cells (blA pc words el v) 25)
  have r1 : (w.alloc (.cells (blA pc words el v) 25)).heap[w.heap.size]? = some (.cells (blA pc words el v) 25) := heap_alloc_new _ _
  have O1 := O.grow hb
  clear O
  go_enter Try.func5, Try.ntmps5
  go_upto_region 1 with fail
  generalize w.alloc (.cells (blA pc words el v) 25) = w1 at *
  generalize hb1 : w.heap.size = b1 at r1 ⊢
  clear hb1
  go_upto_region 2 with (first | (go_at_call 6; (with_reducible refine (examples_c _).mono ?_); rintro e w2 ⟨rfl, B⟩; dsimp only))
  replace hb := below_then hb (Nat.le_refl _) B
  replace r1 := keepRow r1 B
  replace O1 := O1.grow B
  clear B
  have ks := seen_c (words := words) (el := el) hpc O1 himm hcap
  cases hR : rightB pc words el l with
  | false =>
    replace hR := show Hid _ from hR
    go_wp2_with (first | ((with_reducible refine wpList_load_if rfl 25 _ rfl _ rfl 25 _ (0, 0) _ r1 Try.underlying25 rfl (bl_inf _ _ _ _) ?_); simp only [Act.put, List.setIfInBounds_toArray, List.set_cons_succ, List.set_cons_zero]) | (go_at_call 9; (with_reducible refine ks.mono ?_); clear ks; rintro e w3 ⟨B, ⟨hr, rfl⟩ | ⟨hr, _⟩⟩; rotate_left; (exfalso; rw [hR.out] at hr; cases hr); dsimp only; clear hr))
    go_ret
    exact ⟨rfl, below_then hb (Nat.le_refl _) B⟩
  | true =>
    obtain ⟨h0, h512, -⟩ := right_lens hR
    have hlast := last_seen hR (k := l.length - 1) (by omega)
    have hfirst := seen_first h0
    have huse : ∀ j, j < l.length → seenAt l j = true → ∀ u ∈ usesL (opAt l j), 0 ≤ u ∧ u.toNat < l.length ∧ seenAt l u.toNat = true := fun j hj hs u hu => ⟨(use_lt hR hj hu).1, by have := (use_lt hR hj hu).2.1; omega, seen_uses hR hj hs hu⟩
    have hlv : ∀ j, j < l.length → seenAt l j = false → hasP (opAt l j).kind 64 = false := fun j hj hs => by
      cases q : hasP (opAt l j).kind 64 with
      | false => rfl
      | true => have := seen_leaves hR hj (.inl q); rw [hs] at this; cases this
    replace hR := show Hid _ from hR
    go_upto_region 3 with (first | ((with_reducible refine wpList_load_if rfl 25 _ rfl _ rfl 25 _ (0, 0) _ r1 Try.underlying25 rfl (bl_inf _ _ _ _) ?_); simp only [Act.put, List.setIfInBounds_toArray, List.set_cons_succ, List.set_cons_zero]) | (go_at_call 9; (with_reducible refine ks.mono ?_); clear ks; rintro e w3 ⟨B, ⟨hr, _⟩ | ⟨hr, g, hg, rfl, hrow⟩⟩; (exfalso; rw [hR.out] at hr; cases hr); dsimp only; clear hr))
    have X : DuW w pc words el v l b1 g w3 := ⟨keepRow r1 B, hrow, O1.grow B, below_then hb (Nat.le_refl _) B⟩
    clear r1 hrow O1 hb B hR hg
    obtain ⟨ao, cap, rfl⟩ := X.ops.len
    have z3 := bl_c3 X.r1
    have z0 := X.at_ h0
    have zl := X.at_ (show l.length - 1 < l.length by omega)
    rw [hfirst] at z0
    rw [hlast] at zl
    have hl1 : ((l.length : Int) - 1) = ((l.length - 1 : Nat) : Int) := by omega
    have h0i : (0 : Int) < l.length := by omega
    clear hfirst hlast
    go_upto_region 7 with fail
    clear z3 z0 zl hl1 h0i
    go_upto_region 8 with fail
    go_loopw [6] (fun s6 wr => ∃ i : Nat, i ≤ l.length ∧ s6 = vI i ∧ DuW w pc words el (.slice ao l.length cap) l b1 g wr) (fun s6 _ => ((l.length : Int) - intOf s6).toNat)
    case atStart => exact ⟨0, Nat.zero_le _, rfl, X⟩
    case round =>
      clear X
      obtain ⟨i, hi, rfl, X⟩ := hrel
      by_cases hlt : (i : Int) < l.length
      · have hil : i < l.length := by omega
        have z3 := bl_c3 X.r1
        obtain ⟨ra, cap', e', hc⟩ := X.ops.cell (by omega)
        cases e'
        have A := hc i _ (opAt_some hil)
        clear hc
        have ku := usesF_c (opAt l i)
        have kl := leaves_c (opAt l i)
        go_upto_region 11 with (first | ((with_reducible refine wpList_load42 rfl _ rfl _ rfl _ A ?_); simp only [Act.put, List.setIfInBounds_toArray, List.set_cons_succ, List.set_cons_zero]) | (go_at_call 18; (with_reducible refine (ku _).mono ?_); clear ku; rintro e w4 ⟨uv, rfl, RI, B⟩; dsimp only; obtain ⟨uo, uc, e4⟩ := RI.len; subst e4))
        replace X := X.grow B
        clear z3 A B
        have hus := huse i hil
        have hli := hlv i hil
        have hul := usesL_len (opAt l i)
        obtain ⟨zs, hzs⟩ : ∃ zs, zs = usesL (opAt l i) := ⟨_, rfl⟩
        rw [← hzs] at hus hul RI ⊢
        clear hzs
        go_upto_region 12 with fail
        go_loopw [8] (fun s8 wr => ∃ k : Nat, k ≤ zs.length ∧ s8 = vI k ∧ DuW w pc words el (.slice (some ra) l.length cap) l b1 g wr ∧ RawI wr (.slice uo zs.length uc) zs) (fun s8 _ => ((zs.length : Int) - intOf s8).toNat)
        case atStart => exact ⟨0, Nat.zero_le _, rfl, X, RI⟩
        case round =>
          clear X RI
          obtain ⟨k, hk, rfl, X, RI⟩ := hrel
          have zi := X.at_ hil
          cases hs : seenAt l i with
          | true =>
            rw [hs] at zi
            by_cases hkt : (k : Int) < zs.length
            · have hkl : k < zs.length := by omega
              obtain ⟨ua, uc', e', hcu⟩ := RI.cell (by omega)
              cases e'
              obtain ⟨_, c1⟩ := hcu k _ (List.getElem?_eq_getElem hkl)
              obtain ⟨u0, u1, u2⟩ := hus hs _ (List.getElem_mem hkl)
              obtain ⟨uu, huu⟩ : ∃ uu : Nat, zs[k] = uu := ⟨zs[k].toNat, by omega⟩
              rw [huu] at c1 u1 u2
              rw [Int.toNat_natCast] at u1 u2
              have zu := X.at_ u1
              rw [u2] at zu
              have hult : (uu : Int) < l.length := by omega
              clear hcu huu u0 u2
              go_wp2
              go_roundw
              case rel => exact ⟨k + 1, by omega, by go_num, X, RI⟩
              case measure => simp [intOf]; omega
            · go_upto_region 16 with fail
              clear RI
              go_wp2
              go_roundw
              case rel => exact ⟨i + 1, by omega, by go_num, X⟩
              case measure => simp [intOf]; omega
          | false =>
            rw [hs] at zi
            have z3 := bl_c3 X.r1
            obtain ⟨ra', cap', e', hc⟩ := X.ops.cell (by omega)
            cases e'
            have A := hc i _ (opAt_some hil)
            have hno := hli hs
            clear hc
            by_cases hkt : (k : Int) < zs.length
            all_goals
              go_wp2_with (first | ((with_reducible refine wpList_load42 rfl _ rfl _ rfl _ A ?_); simp only [Act.put, List.setIfInBounds_toArray, List.set_cons_succ, List.set_cons_zero]) | (go_at_call 19; (with_reducible refine (kl _).mono ?_); rintro e w5 ⟨rfl, B⟩; dsimp only; rw [hno]))
              replace X := X.grow B
              go_roundw
              case rel => exact ⟨i + 1, by omega, by go_num, X⟩
              case measure => simp [intOf]; omega
      · have hB := X.below
        clear X
        go_wp2
        go_ret
        exact ⟨rfl, hB⟩
end
end Go.Proofs.Ytejlmggfeejgpaa
