/- places. -/
import Derived.Test.YtnedkielehmneaaGreatDoorFa
namespace Go.Proofs.YtnedkielehmneaaGreatDoor
open Go.RowKit
open Go.Shelf
set_option linter.unusedVariables false
set_option linter.unusedSimpArgs false
set_option maxRecDepth 8000

open Axm
theorem info3 : (Tryz.prog.info? 3).map (fun i => (i.zero, i.size, i.bytes)) = some (some (vI 0), 1, 8) := by kernel_rfl
def flI (zs : List Int) : List Value := zs.map vI
theorem raw_own {w : World} {base : Nat} {v : Value} {zs : List Int} (h : w.ownsRow base 3 1 v zs.length (flI zs)) : RawI w v zs := by
  rcases h.2 with ⟨h1, h2⟩ | ⟨g, cap, cur, h1, _, h3, h4, h5, h6, h7⟩
  · have : zs = [] := List.length_eq_zero_iff.1 h2
    subst this
    rw [h1]
    exact RawI.nil w
  · rw [h1]
    refine ⟨⟨_, _, rfl⟩, by simp only [maxLen] at *; omega, fun _ => ⟨_, _, rfl, fun i x hx => ?_⟩⟩
    rw [Addr.add_mid, Nat.zero_add]
    refine ⟨lt_of_some h3, ?_⟩
    rw [cell_of_row _ _ _ _ _ _ h3]
    have hu : (flI zs)[i]? = some (vI x) := by simp [flI, hx]
    rw [← h7] at hu
    have hk := (List.getElem?_eq_some_iff.1 hu).1
    rw [List.length_take] at hk
    rw [List.getElem?_take, if_pos (by omega)] at hu
    simpa using hu
/-- Of a list's own block: it holds numbers. -/
def IntB (w : World) (v : Value) : Prop := ∀ k, v.ownBlock = some k → ∃ c f, w.heap[k]? = some (.cells c 3 f)
theorem intB_own {w : World} {base : Nat} {v : Value} {n : Nat} {xs : List Value} (h : w.ownsRow base 3 1 v n xs) : IntB w v := fun k hk => by
  rcases h.2 with ⟨h1, _⟩ | ⟨g, cap, cur, h1, _, h3, _⟩
  · rw [h1] at hk; cases hk
  · rw [h1] at hk; cases hk; exact ⟨cur, _, h3⟩
theorem IntB.goes {w w' : World} {v : Value} {F : Nat → Prop} (h : IntB w v) (G : Goes F w w') (hF : ∀ k, F k → v.ownBlock ≠ some k) : IntB w' v := fun k hk => by
  obtain ⟨c, f, e⟩ := h k hk
  exact ⟨c, f, by rw [G.block k (lt_of_some e) (fun hf => hF k hf hk)]; exact e⟩
theorem IntB.ne {w : World} {v : Value} (h : IntB w v) {k : Nat} {c : Array Value} {t : TypeId} {f : Nat × Nat} (hk : w.heap[k]? = some (.cells c t f)) (ht : t ≠ 3) : v.ownBlock ≠ some k := fun e => by
  obtain ⟨c', f', e'⟩ := h k e
  rw [hk] at e'
  cases e'
  exact ht rfl
theorem IntB.grow {w w' : World} {v : Value} (h : IntB w v) (hb : Below w.heap.size w w') : IntB w' v := fun k hk => by
  obtain ⟨c, f, e⟩ := h k hk
  exact ⟨c, f, by rw [hb.block k (lt_of_some e)]; exact e⟩
theorem run_one34 (p : Int) (w : World) : (Instr.buildSlice 34 1 #[(0, vI p)]).run Tryz.prog w = .ok (.slice (some ⟨w.heap.size, 0, none⟩) 1 1) (w.alloc (.cells #[vI p] 3)) := by
  obtain ⟨i, hi, hz, hs, hby⟩ := info_parts info3
  exact run_buildSlice (P := Tryz.prog) w 34 3 1 _ _ i (vI 0) Tryz.underlying34 hi hz (by rw [hs]; decide) (by rw [hs]; decide) (by rw [hs]; kernel_rfl)
theorem wpList_one34 {ops : Array Oper} {rest : List Oper} {o : Oper} {a : Act} {w : World} {Q : Exit → Act → World → Prop} (hg : o.guard = none) (y : Operand) (ho : o.op = .buildSlice 34 1 #[(0, y)]) (p : Int) (hy : a.eval y = vI p)
    (h : wpList Tryz.prog ops Q rest (a.put o.dst (.slice (some ⟨w.heap.size, 0, none⟩) 1 1)) (w.alloc (.cells #[vI p] 3))) : wpList Tryz.prog ops Q (o :: rest) a w :=
  wpList_plain hg fun _ hK => by
    unfold Oper.wp execOp
    simp only [ho, Sem.run_bind, List.map_toArray, List.map_cons, List.map_nil, hy, run_one34, Result.andThen_ok]
    exact hK _ _ h
theorem wpList_appI {ops : Array Oper} {rest : List Oper} {o : Oper} {a : Act} {w : World} {Q : Exit → Act → World → Prop} (hg : o.guard = none) (s x : Operand) (ho : o.op = .call { callee := .builtin .append, args := #[s, x], argTypes := #[34, 34] }) {base : Nat} {v : Value} {zs : List Int} {p : Int} (hs : a.eval s = v) (hx : a.eval x = .slice (some ⟨w.heap.size, 0, none⟩) 1 1) (O : w.ownsRow base 3 1 v zs.length (flI zs)) (hl : zs.length ≤ 1000) (hbase : base ≤ w.heap.size)
    (h : ∀ v' w', w'.ownsRow base 3 1 v' (zs ++ [p]).length (flI (zs ++ [p])) → Below base w w' → wpList Tryz.prog ops Q rest (a.put o.dst v') w') : wpList Tryz.prog ops Q (o :: rest) a (w.alloc (.cells #[vI p] 3)) := by
  obtain ⟨i, hi, hz, hsz, hby⟩ := info_parts info3
  refine wpList_append_own _ hg s x 34 ho base 3 i (vI 0) 1 8 Tryz.underlying34 hi hz hsz hby rfl (by decide) v zs.length (flI zs) hs (O.alloc _) ⟨w.heap.size, 0, none⟩ 1 1 [vI p] hx rfl (cell_one_new _ _ _) (by simp [Value.oneCell']) (by simp only [maxLen]; omega) (by omega) (by simp; omega) ?_
  intro v' w' hR hgr _
  refine h v' w' (by simpa [flI] using hR) ?_
  have hG : Goes (fun k => v.ownBlock = some k) (w.alloc (.cells #[vI p] 3)) w' := goes_grown hgr (fun k hk => hk)
  exact ((below_alloc w _).mono hbase).trans (hG.below (by simp; omega) (fun k hk => (O.lt k hk).1))
/-- places: numbers of reads of a core. -/
def PlcP (n : Nat) (x : Nat → Ev) (core : Int) (w : World) (e : Ending) (w' : World) : Prop := ∃ v zs, e = .returned v ∧ RawI w' v zs ∧ IntB w' v ∧ (∀ p ∈ zs, ∃ a, a < n ∧ rd x a = true ∧ (x a).core = core ∧ p = (x a).po) ∧ Below w.heap.size w w'
set_option maxHeartbeats 4000000 in
theorem places_c {w : World} {v : Value} {n : Nat} {x : Nat → Ev} (E : Evs w v n x) (hn : n ≤ 60) (core : Int) {s : Value} {rs : List Int} (R : RawI w s rs) (hI : ∀ r ∈ rs, I64 r) : Calls Tryz.prog 48 #[v, vI core, s] w (PlcP n x core w) := by
  obtain ⟨ao, cap, hv⟩ := E.len
  obtain ⟨so, scap, hs⟩ := R.len
  have hsm := R.max
  simp only [maxLen] at hsm
  subst hv
  rw [hs]
  go_enter Tryz.func48, Tryz.ntmps48
  go_wp2
  go_loopw [7, 8, 9] (fun s7 s8 _ wr => ∃ (i : Nat) (zs : List Int), i ≤ 4 ∧ s8 = vI i ∧ Hid (wr.ownsRow w.heap.size 3 1 s7 zs.length (flI zs) ∧ zs.length ≤ i ∧ (∀ p ∈ zs, ∃ a, a < n ∧ rd x a = true ∧ (x a).core = core ∧ p = (x a).po) ∧ Below w.heap.size w wr)) (fun _ s8 _ _ => 4 - (intOf s8).toNat)
  case atStart => exact ⟨0, [], by omega, rfl, World.ownsRow_nil _ _ _ _, by simp, fun p hp => by simp at hp, Below.refl _ _⟩
  case round =>
    obtain ⟨i, zs, hi4, rfl, hH⟩ := hrel
    obtain ⟨O, hzl, hzs, G⟩ := hH.out
    clear hH
    have done : PlcP n x core w (.returned u7) wr := ⟨u7, zs, rfl, raw_own O, intB_own O, hzs, G⟩
    by_cases hlt : (i : Int) < rs.length
    · by_cases h4 : (i : Int) < 4
      · by_cases h0 : n = 0
        · subst h0
          go_wp2
          go_ret
          exact done
        · clear done
          have h0i : ¬ ((n : Int) = 0) := by omega
          obtain ⟨pa, pcap, pe, hcell⟩ := R.cell (by omega)
          rw [hs] at pe
          cases pe
          have hpj : rs[i]? = some rs[i] := List.getElem?_eq_getElem (by omega)
          obtain ⟨hb1, hc1⟩ := hcell i _ hpj
          have hmem := List.mem_of_getElem? hpj
          generalize rs[i] = r at hpj hc1 hmem
          have cz : wr.cell? (pa.add i) = some (vI r) := by rw [G.cell hb1]; exact hc1
          have hp := pick_c r n (by omega) (by omega) (hI r hmem) wr
          have hk : pickV r n < n := pick_lt (by omega)
          generalize pickV r n = k at hp hk
          obtain ⟨ra, cap2, ev, hc⟩ := E.cell (by omega)
          cases ev
          obtain ⟨s0, s1, s2, A0⟩ := hc k hk
          have A := A0.grow G
          have hone := A.one
          have hki : (k : Int) < n := by omega
          clear hcell hc1 hc A0
          go_upto_region 7 with (first | (go_at_call 22; with_reducible refine hp.mono ?_; clear hp; rintro e wr ⟨rfl, rfl⟩; dsimp only) | (with_reducible refine wpList_load36 rfl _ rfl rfl A ?_; simp only [Act.put, List.setIfInBounds_toArray, List.set_cons_succ, List.set_cons_zero]) | (with_reducible refine wpList_new36 rfl rfl ?_; intro w3 L3 hB3 hsz3; simp only [Act.put, List.setIfInBounds_toArray, List.set_cons_succ, List.set_cons_zero]) | (with_reducible refine wpList_store36 rfl _ _ rfl rfl L3 rfl rfl hone ?_; intro w4 L hG4 hsz4; simp only [Act.put, List.setIfInBounds_toArray, List.set_cons_succ, List.set_cons_zero]))
          have hB4 : Below wr.heap.size wr w4 := hB3.trans (hG4.below hB3.size (fun k hk => by rw [hk]; exact Nat.le_refl _))
          have G4 : Below w.heap.size w w4 := G.trans (hB4.mono G.size)
          have O4 : w4.ownsRow w.heap.size 3 1 u7 zs.length (flI zs) := own_of_block O fun k hk => hB4.block k (O.lt k hk).2
          have d0 : w4.cell? ⟨wr.heap.size, 0, none⟩ = some (vI (x k).core) := L.cell 0
          have d1 : w4.cell? ⟨wr.heap.size, 1, none⟩ = some (vI (x k).po) := L.cell 1
          have d2 : w4.cell? ⟨wr.heap.size, 2, none⟩ = some (vI (x k).kind) := L.cell 2
          have hsz4' := G4.size
          clear hB3 L3 hG4 hB4 G O A hone L hsz3
          by_cases q1 : (x k).core = core
          · by_cases q2 : (x k).kind = 1
            · have hin : ∀ p ∈ zs ++ [(x k).po], ∃ a, a < n ∧ rd x a = true ∧ (x a).core = core ∧ p = (x a).po := fun p hp => by
                rcases List.mem_append.1 hp with hp | hp
                · exact hzs p hp
                · rw [List.mem_singleton.1 hp]
                  exact ⟨k, hk, by simp [rd, q2], q1, rfl⟩
              replace hin := show Hid _ from hin
              have hz1000 : zs.length ≤ 1000 := by omega
              go_wp2_with (first | (with_reducible refine wpList_one34 rfl _ rfl (x k).po rfl ?_; simp only [Act.put, List.setIfInBounds_toArray, List.set_cons_succ, List.set_cons_zero]) | (refine @wpList_appI _ _ _ _ w4 _ rfl _ _ rfl w.heap.size u7 zs (x k).po rfl rfl O4 hz1000 hsz4' ?_; intro v' w5 O5 g5; simp only [Act.put, List.setIfInBounds_toArray, List.set_cons_succ, List.set_cons_zero]))
              go_roundw
              case rel => exact ⟨i + 1, zs ++ [(x k).po], by omega, by go_num, O5, by simp; omega, hin.out, G4.trans g5⟩
              case measure => simp [intOf]; omega
            · go_wp2
              go_roundw
              case rel => exact ⟨i + 1, zs, by omega, by go_num, O4, by omega, hzs, G4⟩
              case measure => simp [intOf]; omega
          · go_wp2
            go_roundw
            case rel => exact ⟨i + 1, zs, by omega, by go_num, O4, by omega, hzs, G4⟩
            case measure => simp [intOf]; omega
      · go_wp2
        go_ret
        exact done
    · go_wp2
      go_ret
      exact done
end Go.Proofs.YtnedkielehmneaaGreatDoor
