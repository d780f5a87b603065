/- The document's own: is a trace right? -/
import Derived.Test.YtbdmemjenpnjgaaLc
import Derived.Test.YtbdmemjenpnjgaaPd
namespace Go.Proofs.Ytbdmemjenpnjgaa
open Go.RowKit
set_option linter.unusedVariables false
set_option linter.unusedSimpArgs false
set_option maxRecDepth 8000

open Go.Shelf Go.Maps
set_option maxHeartbeats 4000000 in
theorem docRight_c {tr : List Nt} {v : Value} {w : World} (N : Nts w v tr) (ok : TrOk tr) : Calls Try.prog 21 #[v] w fun e w' => e = .returned (.bool (rightL tr)) ∧ Below w.heap.size w w' := by
  obtain ⟨ao, cap, ev⟩ := N.len
  subst ev
  have hmax := N.max
  go_enter Try.func21, Try.ntmps21
  go_wp2
  go_loopw [3] (fun s3 wr => Below w.heap.size w wr ∧ ∃ k : Nat, k ≤ tr.length ∧ s3 = vI k ∧ rightL (tr.take k) = true) (fun s3 _ => ((tr.length : Int) - intOf s3).toNat)
  case atStart => exact ⟨Below.refl _ _, 0, Nat.zero_le _, rfl, rfl⟩
  case round =>
    obtain ⟨hB, k, hk, rfl, hno⟩ := hrel
    by_cases hlt : (k : Int) < tr.length
    · have hkl : k < tr.length := by omega
      obtain ⟨n, hn⟩ : ∃ n, tr[k]? = some n := ⟨tr[k], List.getElem?_eq_getElem hkl⟩
      obtain ⟨ra, cap', ev', hc⟩ := (N.low hB.size fun b hb => hB.block b hb).cell (by omega)
      cases ev'
      obtain ⟨_, c0, c1, c2, c3⟩ := hc k n hn
      have okn := ok n (List.mem_of_getElem? hn)
      clear hc

      have hall : wrongB n = true → rightL tr = false := fun h => by
        unfold rightL
        rw [List.all_eq_false]
        exact ⟨n, List.mem_of_getElem? hn, by simp [h]⟩
      have hno2 : wrongB n = false → rightL (tr.take (k + 1)) = true := fun h => by
        rw [List.take_add_one, hn]
        show rightL (tr.take k ++ [n]) = true
        rw [rightL_app, hno, h]; rfl
      have hB2 := below_then hB (Nat.le_refl _) (below_alloc wr (.cells (ntA n) 34))
      have hsz : w.heap.size ≤ wr.heap.size := hB.size
      clear hno hn N ok
      obtain ⟨kind, core, addr, word⟩ := n
      have ha := okn.addr
      clear okn
      dsimp only at *
      go_upto_region 5 with fail
      have L3 := LocN.new wr ⟨kind, core, addr, word⟩
      have d0 := L3.c0
      have d1 := L3.c1
      have d2 := L3.c2
      have d3 := L3.c3
      clear c0 c1 c2 c3 L3
      generalize wr.alloc (Obj.cells _ 34) = w3 at *
      by_cases h1 : kind = 1
      · subst h1
        by_cases h_n : core < 0
        · go_wp2
          go_ret
          exact ⟨by rw [hall (by simp [wrongB, coreB, ofWord] <;> omega)]; rfl, hB2⟩
        · by_cases h_g : core > 7
          · go_wp2
            go_ret
            exact ⟨by rw [hall (by simp [wrongB, coreB, ofWord] <;> omega)]; rfl, hB2⟩
          · by_cases h_z : core = 0
            · subst h_z
              by_cases h_4 : addr % 4 = 0
              · have g_4 : ((((addr : Nat) : Int) % 4) != 0) = false := by simp; omega
                go_wp2
                go_roundw
                case rel => exact ⟨hB2, k + 1, by omega, by simp, hno2 (by simp [wrongB, coreB, ofWord] <;> omega)⟩
                case measure => simp [intOf]; omega
              · have g_4 : ((((addr : Nat) : Int) % 4) != 0) = true := by simp; omega
                go_wp2
                go_ret
                exact ⟨by rw [hall (by simp [wrongB, coreB, ofWord] <;> omega)]; rfl, hB2⟩
            · have g_z : ((core : Int) != 0) = true := bne_iff_ne.2 h_z
              go_wp2
              go_ret
              exact ⟨by rw [hall (by simp [wrongB, coreB, ofWord] <;> omega)]; rfl, hB2⟩
      have g1 : ((kind : Int) == 1) = false := beq_eq_false_iff_ne.2 h1
      by_cases h2 : kind = 2
      · subst h2
        by_cases h_n : core < 0
        · go_wp2
          go_ret
          exact ⟨by rw [hall (by simp [wrongB, coreB, ofWord] <;> omega)]; rfl, hB2⟩
        · by_cases h_g : core > 7
          · go_wp2
            go_ret
            exact ⟨by rw [hall (by simp [wrongB, coreB, ofWord] <;> omega)]; rfl, hB2⟩
          · by_cases h_z : core = 0
            · subst h_z
              by_cases h_w : word = 0
              · subst h_w
                go_wp2
                go_roundw
                case rel => exact ⟨hB2, k + 1, by omega, by simp, hno2 (by simp [wrongB, coreB, ofWord] <;> omega)⟩
                case measure => simp [intOf]; omega
              · have g_w : (((word : Nat) : Int) != 0) = true := bne_iff_ne.2 (by omega)
                go_wp2
                go_ret
                exact ⟨by rw [hall (by simp [wrongB, coreB, ofWord] <;> omega)]; rfl, hB2⟩
            · have g_z : ((core : Int) != 0) = true := bne_iff_ne.2 h_z
              go_wp2
              go_ret
              exact ⟨by rw [hall (by simp [wrongB, coreB, ofWord] <;> omega)]; rfl, hB2⟩
      have g2 : ((kind : Int) == 2) = false := beq_eq_false_iff_ne.2 h2
      by_cases h3 : kind = 3
      · subst h3
        by_cases h_n : core < 0
        · go_wp2
          go_ret
          exact ⟨by rw [hall (by simp [wrongB, coreB, ofWord] <;> omega)]; rfl, hB2⟩
        · by_cases h_g : core > 7
          · go_wp2
            go_ret
            exact ⟨by rw [hall (by simp [wrongB, coreB, ofWord] <;> omega)]; rfl, hB2⟩
          · by_cases h_z : core = 0
            · subst h_z
              by_cases h_a : addr = 0
              · subst h_a
                by_cases h_w : word = 0
                · subst h_w
                  go_wp2
                  go_roundw
                  case rel => exact ⟨hB2, k + 1, by omega, by simp, hno2 (by simp [wrongB, coreB, ofWord] <;> omega)⟩
                  case measure => simp [intOf]; omega
                · have g_w : (((word : Nat) : Int) != 0) = true := bne_iff_ne.2 (by omega)
                  go_wp2
                  go_ret
                  exact ⟨by rw [hall (by simp [wrongB, coreB, ofWord] <;> omega)]; rfl, hB2⟩
              · have g_a : (((addr : Nat) : Int) != 0) = true := bne_iff_ne.2 (by omega)
                go_wp2
                go_ret
                exact ⟨by rw [hall (by simp [wrongB, coreB, ofWord] <;> omega)]; rfl, hB2⟩
            · have g_z : ((core : Int) != 0) = true := bne_iff_ne.2 h_z
              go_wp2
              go_ret
              exact ⟨by rw [hall (by simp [wrongB, coreB, ofWord] <;> omega)]; rfl, hB2⟩
      have g3 : ((kind : Int) == 3) = false := beq_eq_false_iff_ne.2 h3
      by_cases h4 : kind = 4
      · subst h4
        by_cases h_n : core < 0
        · go_wp2
          go_ret
          exact ⟨by rw [hall (by simp [wrongB, coreB, ofWord] <;> omega)]; rfl, hB2⟩
        · by_cases h_g : core > 7
          · go_wp2
            go_ret
            exact ⟨by rw [hall (by simp [wrongB, coreB, ofWord] <;> omega)]; rfl, hB2⟩
          · by_cases h_a : addr = 0
            · subst h_a
              by_cases h_w : word = 0
              · subst h_w
                go_wp2
                go_roundw
                case rel => exact ⟨hB2, k + 1, by omega, by simp, hno2 (by simp [wrongB, coreB, ofWord] <;> omega)⟩
                case measure => simp [intOf]; omega
              · have g_w : (((word : Nat) : Int) != 0) = true := bne_iff_ne.2 (by omega)
                go_wp2
                go_ret
                exact ⟨by rw [hall (by simp [wrongB, coreB, ofWord] <;> omega)]; rfl, hB2⟩
            · have g_a : (((addr : Nat) : Int) != 0) = true := bne_iff_ne.2 (by omega)
              go_wp2
              go_ret
              exact ⟨by rw [hall (by simp [wrongB, coreB, ofWord] <;> omega)]; rfl, hB2⟩
      have g4 : ((kind : Int) == 4) = false := beq_eq_false_iff_ne.2 h4
      by_cases h5 : kind = 5
      · subst h5
        by_cases h_n : core < 0
        · go_wp2
          go_ret
          exact ⟨by rw [hall (by simp [wrongB, coreB, ofWord] <;> omega)]; rfl, hB2⟩
        · by_cases h_g : core > 7
          · go_wp2
            go_ret
            exact ⟨by rw [hall (by simp [wrongB, coreB, ofWord] <;> omega)]; rfl, hB2⟩
          · by_cases h_4 : addr % 4 = 0
            · have g_4 : ((((addr : Nat) : Int) % 4) != 0) = false := by simp; omega
              go_wp2
              go_roundw
              case rel => exact ⟨hB2, k + 1, by omega, by simp, hno2 (by simp [wrongB, coreB, ofWord] <;> omega)⟩
              case measure => simp [intOf]; omega
            · have g_4 : ((((addr : Nat) : Int) % 4) != 0) = true := by simp; omega
              go_wp2
              go_ret
              exact ⟨by rw [hall (by simp [wrongB, coreB, ofWord] <;> omega)]; rfl, hB2⟩
      have g5 : ((kind : Int) == 5) = false := beq_eq_false_iff_ne.2 h5
      by_cases hl : kind < 1
      · go_wp2
        go_ret
        exact ⟨by rw [hall (by simp [wrongB, g1, g2, g3, g4, g5])]; rfl, hB2⟩
      · have hg : kind > 5 := by omega
        go_wp2
        go_ret
        exact ⟨by rw [hall (by simp [wrongB, g1, g2, g3, g4, g5])]; rfl, hB2⟩

    · have e : k = tr.length := by omega
      subst e
      rw [List.take_length] at hno
      go_wp2
      go_ret
      exact ⟨by first | rfl | (rw [hno]; rfl), hB⟩
end Go.Proofs.Ytbdmemjenpnjgaa
