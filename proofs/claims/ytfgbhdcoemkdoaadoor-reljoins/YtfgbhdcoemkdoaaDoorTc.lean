/- Of. -/
import Derived.Test.YtfgbhdcoemkdoaaDoorTb
namespace Go.Proofs.YtfgbhdcoemkdoaaDoor
open Go.RowKit
set_option linter.unusedVariables false
set_option linter.unusedSimpArgs false
set_option maxRecDepth 8000

/-- Pairs put in, one behind the other. -/
def ofR (ps : List (Int × Int)) : Nat → Nat → Bool := ps.foldl (fun R p => Rlw.addR R p.1.toNat p.2.toNat) (fun _ _ => false)
def okP (m : Nat) (p : Int × Int) : Bool := inB m p.1 && inB m p.2
def ofOk (m : Nat) (ps : List (Int × Int)) : Bool := ps.all (okP m)
theorem ofR_snoc (ps : List (Int × Int)) (p : Int × Int) : ofR (ps ++ [p]) = Rlw.addR (ofR ps) p.1.toNat p.2.toNat := by simp [ofR]
theorem take_snoc {α : Type} {l : List α} {i : Nat} {a : α} (h : l[i]? = some a) : l.take (i + 1) = l.take i ++ [a] := by
  obtain ⟨h1, h2⟩ := List.getElem?_eq_some_iff.1 h
  rw [List.take_add_one, h]; rfl
def OfP (n : Int) (ps : List (Int × Int)) (w : World) (e : Ending) (w' : World) : Prop := Below w.heap.size w w' ∧
  ((newE n ≠ 0 ∧ e = .returned (.tuple #[.pointer none, vI (newE n)])) ∨
   (∃ m : Nat, n = m ∧ newE n = 0 ∧ ((ofOk m ps = false ∧ e = .returned (.tuple #[.pointer none, vI 1])) ∨ (ofOk m ps = true ∧ ∃ r, e = .returned (.tuple #[ptr r 0, vI 0]) ∧ RelAt r m (ofR ps) w' ∧ w.heap.size ≤ r))))
set_option maxHeartbeats 4000000 in
theorem of_c (n : Int) {v : Value} {ps : List (Int × Int)} {w : World} (hv : Prs w v ps) : Calls Tryd.prog 10 #[vI n, v] w (OfP n ps w) := by
  by_cases hn : newE n = 0
  · have hn' := show Hid _ from hn
    obtain ⟨m, rfl, hm⟩ := new_nat hn
    clear hn
    have hx := new_ok hm w
    obtain ⟨ao, cap, ev⟩ := hv.len
    have hmax := hv.max
    simp only [maxLen] at hmax
    go_enter Tryd.func10, Tryd.ntmps10
    go_upto_region 2 with (first | (go_at_call 39; with_reducible refine hx.mono ?_; rintro e w1 ⟨r, rfl, HR, hr1, hB1⟩; dsimp only))
    clear hx
    rw [ev]
    go_wp2
    go_loopw [21] (fun s21 wr => ∃ i : Nat, i ≤ ps.length ∧ s21 = vI i ∧ Hid (RelAt r m (ofR (ps.take i)) wr ∧ Below w.heap.size w wr ∧ ofOk m (ps.take i) = true)) (fun s21 _ => ps.length - (intOf s21).toNat)
    case atStart => exact ⟨0, Nat.zero_le _, rfl, HR, hB1, rfl⟩
    case round =>
      clear HR hB1
      obtain ⟨i, hi, rfl, hH⟩ := hrel
      obtain ⟨HR, hB, hok⟩ := hH.out
      clear hH
      replace hok := show Hid _ from hok
      by_cases hlt : (i : Int) < ps.length
      · obtain ⟨ra, cap2, ev2, hcell⟩ := hv.cell (by omega)
        have hpi : ps[i]? = some ps[i] := List.getElem?_eq_getElem (by omega)
        have hp0 := hcell i _ hpi
        generalize ps[i] = p at hp0 hpi
        clear hcell
        have hp := hp0.grow hB
        rw [ev] at ev2
        cases ev2
        subst ev
        have cp0 := hp.1
        have cp1 := hp.2
        have htk := show Hid _ from take_snoc hpi
        clear hpi hp hp0
        go_upto_region 7 with fail
        have hG : Below wr.heap.size wr (wr.alloc (Obj.cells #[vI p.1, vI p.2] 60)) := below_alloc _ _
        have c1 : (wr.alloc (Obj.cells #[vI p.1, vI p.2] 60)).cell? ⟨wr.heap.size, 0, none⟩ = some (vI p.1) := by rw [cell_of_row _ _ _ _ _ _ (World.alloc_heap_new wr _)]; rfl
        have c2 : (wr.alloc (Obj.cells #[vI p.1, vI p.2] 60)).cell? ⟨wr.heap.size, 1, none⟩ = some (vI p.2) := by rw [cell_of_row _ _ _ _ _ _ (World.alloc_heap_new wr _)]; rfl
        generalize (wr.alloc (Obj.cells #[vI p.1, vI p.2] 60)) = w3 at *
        have hadd := radd_p (HR.grow hG) p.1 p.2
        cases hin : okP m p with
        | true =>
          have hin' : (inB m p.1 && inB m p.2) = true := hin
          have e1 : addE m p.1 p.2 = 0 := by unfold addE; rw [hin', if_pos rfl]
          have e2 : addP m (ofR (ps.take i)) p.1 p.2 = ofR (ps.take (i + 1)) := by unfold addP; rw [hin', if_pos rfl, htk.out, ofR_snoc]
          rw [e1, e2] at hadd
          replace hin := show Hid _ from hin
          clear hin' e1 e2 cp0 cp1
          go_wp2_with (first | (go_at_call 42; (with_reducible refine hadd.mono ?_); rintro e w4 ⟨rfl, HR4, hG4⟩; dsimp only))
          go_roundw
          case rel => exact ⟨i + 1, by omega, by go_num, HR4, (hB.trans (hG.mono hB.size)).trans (hG4.below (Nat.le_trans hB.size hG.size) (fun k hk => by rw [hk]; exact hr1)), by rw [htk.out, ofOk, List.all_append]; have := hok.out; rw [ofOk] at this; rw [this]; simpa using hin.out⟩
          case measure => simp [intOf]; omega
        | false =>
          have hin' : (inB m p.1 && inB m p.2) = false := hin
          have e1 : addE m p.1 p.2 = 1 := by unfold addE; rw [hin', if_neg (by decide)]
          rw [e1] at hadd
          replace hin := show Hid _ from hin
          clear hin' e1 cp0 cp1
          go_wp2_with (first | (go_at_call 42; (with_reducible refine hadd.mono ?_); rintro e w4 ⟨rfl, HR4, hG4⟩; dsimp only))
          go_ret2
          refine ⟨(hB.trans (hG.mono hB.size)).trans (hG4.below (Nat.le_trans hB.size hG.size) (fun k hk => by rw [hk]; exact hr1)), .inr ⟨m, rfl, hn'.out, .inl ⟨?_, rfl⟩⟩⟩
          unfold ofOk
          rw [Bool.eq_false_iff]
          intro h
          have hmem : p ∈ ps := by
            have : p ∈ ps.take (i + 1) := by rw [htk.out]; simp
            exact List.mem_of_mem_take this
          have := List.all_eq_true.1 h p hmem
          rw [hin.out] at this; cases this
      · obtain rfl : i = ps.length := by omega
        rw [List.take_length] at HR
        rw [List.take_length] at hok
        go_wp2
        go_ret2
        exact ⟨hB, .inr ⟨m, rfl, hn'.out, .inr ⟨hok.out, r, rfl, HR, hr1⟩⟩⟩
  · have hx := new_bad hn w
    have hne := newE_ne hn
    have hn' := show Hid _ from hn
    clear hn
    go_enter Tryd.func10, Tryd.ntmps10
    go_wp2_with (first | (go_at_call 39; with_reducible refine hx.mono ?_; rintro e w ⟨rfl, rfl⟩; dsimp only))
    go_ret2
    exact ⟨Below.refl _ _, .inl ⟨hn'.out, rfl⟩⟩
end Go.Proofs.YtfgbhdcoemkdoaaDoor
