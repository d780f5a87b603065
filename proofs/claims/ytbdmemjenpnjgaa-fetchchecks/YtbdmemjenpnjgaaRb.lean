/- The document's own: is a version lost? -/
import Derived.Test.YtbdmemjenpnjgaaLc
import Derived.Test.YtbdmemjenpnjgaaPd
namespace Go.Proofs.Ytbdmemjenpnjgaa
open Go.RowKit
set_option linter.unusedVariables false
set_option linter.unusedSimpArgs false
set_option maxRecDepth 8000

open Go.Shelf Go.Maps
theorem div64 (a b : Nat) : (((a : Int) / 64) == ((b : Int) / 64)) = (a / 64 == b / 64) := by
  by_cases h : a / 64 = b / 64
  · rw [beq_iff_eq.2 h, beq_iff_eq.2 (by omega)]
  · rw [beq_eq_false_iff_ne.2 h, beq_eq_false_iff_ne.2 (by omega)]
set_option maxHeartbeats 4000000 in
theorem docLost_c {tr : List Nt} {v : Value} {w : World} {c : Int} {a p : Nat} (N : Nts w v tr) (ok : TrOk tr) (ha : a < 18446744073709551616) (hp : p < tr.length) : Calls Try.prog 22 #[v, vI c, vU a, vI p] w fun e w' => e = .returned (.bool (lostF c a false (tr.drop (p + 1)))) ∧ Below w.heap.size w w' := by
  obtain ⟨ao, cap, ev⟩ := N.len
  subst ev
  have hmax := N.max
  obtain ⟨R, hR⟩ : ∃ R, lostF c a false (tr.drop (p + 1)) = R := ⟨_, rfl⟩
  rw [hR]
  replace hR : Hid (lostF c a false (tr.drop (p + 1)) = R) := hR
  go_enter Try.func22, Try.ntmps22
  go_wp2
  go_loopw [9, 10] (fun s9 s10 wr => Below w.heap.size w wr ∧ ∃ (k : Nat) (b : Bool), k ≤ tr.length ∧ s10 = vI k ∧ s9 = .bool b ∧ lostF c a b (tr.drop k) = R) (fun _ s10 _ => ((tr.length : Int) - intOf s10).toNat)
  case atStart => exact ⟨Below.refl _ _, p + 1, false, by omega, by simp, rfl, hR.out⟩
  case round =>
    obtain ⟨hB, k, b, hk, rfl, rfl, hno⟩ := hrel
    clear hR
    by_cases hlt : (k : Int) < tr.length
    · have hkl : k < tr.length := by omega
      obtain ⟨n, hn⟩ : ∃ n, tr[k]? = some n := ⟨tr[k], List.getElem?_eq_getElem hkl⟩
      obtain ⟨ra, cap', ev', hc⟩ := (N.low hB.size fun b hb => hB.block b hb).cell (by omega)
      cases ev'
      obtain ⟨_, c0, c1, c2, c3⟩ := hc k n hn
      have okn := ok n (List.mem_of_getElem? hn)
      have hdr : lostF c a b (tr.drop k) = if isI c n && (b || isT a n) then true else lostF c a (b || isT a n) (tr.drop (k + 1)) := by
        rw [List.drop_eq_getElem_cons hkl, show tr[k] = n from (List.getElem?_eq_some_iff.1 hn).2]
        rfl
      rw [hdr] at hno
      clear hc hdr
      have hB2 := below_then hB (Nat.le_refl _) (below_alloc wr (.cells (ntA n) 34))
      have hsz : w.heap.size ≤ wr.heap.size := hB.size
      clear hn N ok
      obtain ⟨kind, core, addr, word⟩ := n
      have hadr := okn.addr
      clear okn
      dsimp only at *
      replace hno : Hid (_ = R) := hno
      go_upto_region 6 with fail
      have L3 := LocN.new wr ⟨kind, core, addr, word⟩
      have d0 := L3.c0
      have d1 := L3.c1
      have d2 := L3.c2
      have d3 := L3.c3
      clear c0 c1 c2 c3 L3
      generalize wr.alloc (Obj.cells _ 34) = w3 at *
      have next : ∀ (b' : Bool), (isI c (⟨kind, core, addr, word⟩ : Nt) && (b || isT a (⟨kind, core, addr, word⟩ : Nt))) = false → (b || isT a (⟨kind, core, addr, word⟩ : Nt)) = b' → lostF c a b' (tr.drop (k + 1)) = R := fun b' h1 h2 => by
        have := hno.out
        rw [h1, h2] at this
        simpa using this
      have stop : (isI c (⟨kind, core, addr, word⟩ : Nt) && (b || isT a (⟨kind, core, addr, word⟩ : Nt))) = true → R = true := fun h1 => by
        have := hno.out
        rw [h1] at this
        simpa using this.symm
      clear hno
      by_cases h3 : kind = 3
      · subst h3
        replace next := next true (by simp [isI]) (by simp [isT])
        clear stop
        go_wp2
        go_roundw
        case rel => exact ⟨hB2, k + 1, true, by omega, by simp, rfl, next⟩
        case measure => simp [intOf]; omega
      have g3 : ((kind : Int) == 3) = false := beq_eq_false_iff_ne.2 h3
      by_cases h2 : kind = 2
      · subst h2
        clear stop g3 h3
        by_cases hl : addr / 64 = a / 64
        · have gl : (((addr : Int) / 64) == ((a : Int) / 64)) = true := by rw [div64, hl]; simp
          replace next := next true (by simp [isI]) (by simp [isT, hl])
          clear hl
          go_wp2
          go_roundw
          case rel => exact ⟨hB2, k + 1, true, by omega, by simp, rfl, next⟩
          case measure => simp [intOf]; omega
        · have gl : (((addr : Int) / 64) == ((a : Int) / 64)) = false := by rw [div64]; simpa using hl
          replace next := next b (by simp [isI]) (by simp [isT, hl])
          clear hl
          go_wp2
          go_roundw
          case rel => exact ⟨hB2, k + 1, b, by omega, by simp, rfl, next⟩
          case measure => simp [intOf]; omega
      have g2 : ((kind : Int) == 2) = false := beq_eq_false_iff_ne.2 h2
      have hT : isT a (⟨kind, core, addr, word⟩ : Nt) = false := by simp [isT, h2, h3]
      by_cases h4 : kind = 4
      · subst h4
        clear g2 g3 h2 h3
        by_cases hcc : core = c
        · subst hcc
          cases b with
          | true =>
            replace stop := stop (by simp [isI])
            subst stop
            clear next
            go_wp2
            go_ret
            exact ⟨rfl, hB2⟩
          | false =>
            replace next := next false (by simp [hT]) (by simp [hT])
            clear stop
            go_wp2
            go_roundw
            case rel => exact ⟨hB2, k + 1, false, by omega, by simp, rfl, next⟩
            case measure => simp [intOf]; omega
        · have gc : (core == c) = false := beq_eq_false_iff_ne.2 hcc
          replace next := next b (by simp [isI, hcc]) (by simp [hT])
          clear stop
          go_wp2
          go_roundw
          case rel => exact ⟨hB2, k + 1, b, by omega, by simp, rfl, next⟩
          case measure => simp [intOf]; omega
      have g4 : ((kind : Int) == 4) = false := beq_eq_false_iff_ne.2 h4
      replace next := next b (by simp [isI, h4]) (by simp [hT])
      clear stop
      go_wp2
      go_roundw
      case rel => exact ⟨hB2, k + 1, b, by omega, by simp, rfl, next⟩
      case measure => simp [intOf]; omega
    · have e : k = tr.length := by omega
      subst e
      have hR2 : R = false := by rw [← hno, List.drop_length]; rfl
      subst hR2
      clear hno
      go_wp2
      go_ret
      exact ⟨rfl, hB⟩
end Go.Proofs.Ytbdmemjenpnjgaa
