/- FetchLess: the walk. -/
import Derived.Test.YtbdmemjenpnjgaaLs
namespace Go.Proofs.Ytbdmemjenpnjgaa
open Go.RowKit
set_option linter.unusedVariables false
set_option linter.unusedSimpArgs false
set_option maxRecDepth 8000

open Go.Shelf Go.Maps
set_option maxHeartbeats 4000000 in
theorem less_walk {tr more : List Nt} {v0 v1 : Value} {c : Int} {a f : Nat} {w : World} (N : Nts w v0 tr) (ok : TrOk tr) (N1 : Nts w v1 more) (ok1 : TrOk more) (hroom : tr.length + more.length ≤ 4398046511103) (ha : a < 18446744073709551616) (hf : f < 4294967296) : Calls Try.prog 6 #[v0, v1, vI c, vU a, v32 f] w fun e w' => e = .returned (.bool true) ∧ Below w.heap.size w w' := by
  have ke := examples_c w
  have kM := fun (W : World) (B : Below w.heap.size w W) => may_all (f := f) (c := c) (a := a) (N.grow B) ok ha hf
  obtain ⟨ao, cap, ev⟩ := N.len
  subst ev
  obtain ⟨bo, cap1, ev⟩ := N1.len
  subst ev
  go_enter Try.func6, Try.ntmps6
  go_upto_region 3 with (first
    | (go_at_call 8; (with_reducible refine ke.mono ?_); clear ke; rintro e w1 ⟨rfl, B1⟩; dsimp only; have k1 := kM w1 B1; clear kM)
    | (go_at_call 10; (with_reducible refine k1.mono ?_); clear k1; rintro e w2 ⟨uA, rfl, RA, B2⟩; dsimp only))
  replace B1 := below_then B1 (Nat.le_refl _) B2
  clear B2
  cases hmo : mayOk tr c a with
  | false =>
    have e1 : mayE tr c a = 1 := by unfold mayE; rw [hmo]; rfl
    rw [e1]
    go_wp2
    go_ret
    exact ⟨rfl, B1⟩
  | true =>
    have e1 : mayE tr c a = 0 := by unfold mayE; rw [hmo]; rfl
    have e2 : mayW tr c a f = mayL tr c a f := by unfold mayW; rw [hmo]; rfl
    rw [e1]
    rw [e2] at RA
    clear e1 e2
    have WA2 := wds_of_own RA (Nat.le_trans (mayL_len _ _ _ _) (by omega))
    clear RA
    have N2 := N.grow B1
    go_upto_region 7 with (first
      | (at_builtin; refine wpList_copyN rfl _ _ rfl rfl rfl N2 ?_; intro vl w3 R3 B3; simp only [Act.put, List.setIfInBounds_toArray, List.set_cons_succ, List.set_cons_zero]; have N3 := N2.grow B3; clear N2; have hs3 := B3.size)
      | (at_builtin; refine wpList_copyN rfl _ _ rfl rfl rfl N3 ?_; intro vm w4 R4 B4; simp only [Act.put, List.setIfInBounds_toArray, List.set_cons_succ, List.set_cons_zero]))
    have hI0 : LsI w2 (lA tr (more.take 0) a) (lB tr (more.take 0) c a) vl vm w4 := by
      have eA : lA tr (more.take 0) a = tr := by simp [lA]
      have eB : lB tr (more.take 0) c a = tr := by simp [lB]
      rw [eA, eB]
      refine ⟨own_grow R3 B4, own_mono R4 hs3, fun k hk hv => ?_, below_then B3 (Nat.le_refl _) B4⟩
      have h1 := (R3.lt k hk).2
      have h2 := (R4.lt k hv).1
      omega
    clear R3 R4 B3 B4 hs3 N3
    have hNs : ∀ W, Below w2.heap.size w2 W → Nts W (.slice bo more.length cap1) more := fun W hB => N1.grow (B1.trans (hB.mono B1.size))
    go_wp2
    go_loopw [14, 15, 16] (fun s14 s15 s16 wr => ∃ k : Nat, k ≤ more.length ∧ s16 = vI k ∧ LsI w2 (lA tr (more.take k) a) (lB tr (more.take k) c a) s14 s15 wr) (fun _ _ s16 _ => ((more.length : Int) - intOf s16).toNat)
    case atStart => exact ⟨0, Nat.zero_le _, rfl, hI0⟩
    case round =>
      obtain ⟨k, hk, rfl, hI⟩ := hrel
      clear hI0
      by_cases hlt : (k : Int) < more.length
      · have hkl : k < more.length := by omega
        obtain ⟨n, hn⟩ : ∃ n, more[k]? = some n := ⟨more[k], List.getElem?_eq_getElem hkl⟩
        obtain ⟨ra, cap', ev', _⟩ := (hNs wr hI.low).cell (by omega)
        cases ev'
        have hNN : ∀ W, Below w2.heap.size w2 W → NtAt W (ra.add (k * 4)) n := fun W hB => by
          obtain ⟨rb, cb, eb, hc⟩ := (hNs W hB).cell (by omega)
          cases eb
          exact hc k n hn
        obtain ⟨_, c0, c1, c2, c3⟩ := hNN wr hI.low
        have nA := lA_next (tr := tr) (a := a) hn
        have nB := lB_next (tr := tr) (c := c) (a := a) hn
        have l1 := lA_len tr (more.take k) a
        have l2 := lB_len tr (more.take k) c a
        rw [List.length_take, Nat.min_eq_left (by omega)] at l1 l2
        obtain ⟨L, hL⟩ : ∃ L, lA tr (more.take k) a = L := ⟨_, rfl⟩
        obtain ⟨M, hM⟩ : ∃ M, lB tr (more.take k) c a = M := ⟨_, rfl⟩
        rw [hL] at nA l1 hI
        rw [hM] at nB l2 hI
        have s1 := hI.low.size
        clear hL hM hn hNs
        cases hw : isW a n with
        | true =>
          have hp : pB c a n = false := by simp [pB, hw]
          rw [hw, if_pos rfl, List.append_nil] at nA
          rw [hp, if_neg (by simp), List.append_nil] at nB
          replace nA : Hid (_ = L) := nA
          replace nB : Hid (_ = M) := nB
          have hkd : n.kind = 1 ∧ n.addr = a := by simpa [isW] using hw
          rw [hkd.1] at c0
          rw [hkd.2] at c2
          clear hw hkd hp
          go_wp2
          go_roundw
          case rel => exact ⟨k + 1, by omega, by simp, by rw [nA.out, nB.out]; exact hI⟩
          case measure => simp [intOf]; omega
        | false =>
          rw [hw, if_neg (by simp)] at nA
          replace nA : Hid (_ = L ++ [n]) := nA
          by_cases h1 : n.kind = 1
          · have hp : pB c a n = true := by simp [pB, hw, h1]
            rw [hp, if_pos rfl] at nB
            replace nB : Hid (_ = M ++ [n]) := nB
            have h2 : ((n.addr : Int) == (a : Int)) = false := by
              rw [beq_eq_false_iff_ne]
              intro e
              have : n.addr = a := by omega
              simp [isW, h1, this] at hw
            have h1i : ((n.kind : Int) == 1) = true := by simp [h1]
            have h4i : ((n.kind : Int) != 4) = true := by simp [h1]
            replace h1 : Hid (n.kind = 1) := h1
            clear hw hp
            go_upto_region 12 with (at_builtin; refine wpList_appN rfl _ _ rfl (tr := L) (ns := [n]) rfl rfl (own_grow hI.rl (below_alloc wr (.cells (ntA n) 34))) (by simp; omega) (World.alloc_heap_new _ _) rfl (by omega) ?_; intro v5 w5 hown hgr hat; simp only [Act.put, List.setIfInBounds_toArray, List.set_cons_succ, List.set_cons_zero])
            have I2 := hI.left hown hgr hat
            have s2 := I2.low.size
            obtain ⟨_, c0, c1, c2, c3⟩ := hNN w5 (I2.low)
            clear hown hgr hat
            go_wp2_with (at_builtin; refine wpList_appN rfl _ _ rfl (tr := M) (ns := [n]) rfl rfl (own_grow I2.rm (below_alloc w5 (.cells (ntA n) 34))) (by simp; omega) (World.alloc_heap_new _ _) rfl (by omega) ?_; intro v7 w7 hown7 hgr7 hat7; simp only [Act.put, List.setIfInBounds_toArray, List.set_cons_succ, List.set_cons_zero])
            have I3 := I2.right hown7 hgr7 hat7
            go_roundw
            case rel => exact ⟨k + 1, by omega, by simp, by rw [nA.out, nB.out]; exact I3⟩
            case measure => simp [intOf]; omega
          have h1i : ((n.kind : Int) == 1) = false := beq_eq_false_iff_ne.2 h1
          by_cases h4 : n.kind = 4
          · have h4i : ((n.kind : Int) != 4) = false := by simp [h4]
            by_cases hcc : n.core = c
            · have hp : pB c a n = true := by simp [pB, hw, hcc]
              rw [hp, if_pos rfl] at nB
              replace nB : Hid (_ = M ++ [n]) := nB
              have hci : ((n.core : Int) == c) = true := by simp [hcc]
              replace h4 : Hid (n.kind = 4) := h4
              replace hcc : Hid (n.core = c) := hcc
              clear hw hp h1
              go_upto_region 12 with (at_builtin; refine wpList_appN rfl _ _ rfl (tr := L) (ns := [n]) rfl rfl (own_grow hI.rl (below_alloc wr (.cells (ntA n) 34))) (by simp; omega) (World.alloc_heap_new _ _) rfl (by omega) ?_; intro v5 w5 hown hgr hat; simp only [Act.put, List.setIfInBounds_toArray, List.set_cons_succ, List.set_cons_zero])
              have I2 := hI.left hown hgr hat
              have s2 := I2.low.size
              obtain ⟨_, c0, c1, c2, c3⟩ := hNN w5 (I2.low)
              clear hown hgr hat
              go_wp2_with (at_builtin; refine wpList_appN rfl _ _ rfl (tr := M) (ns := [n]) rfl rfl (own_grow I2.rm (below_alloc w5 (.cells (ntA n) 34))) (by simp; omega) (World.alloc_heap_new _ _) rfl (by omega) ?_; intro v7 w7 hown7 hgr7 hat7; simp only [Act.put, List.setIfInBounds_toArray, List.set_cons_succ, List.set_cons_zero])
              have I3 := I2.right hown7 hgr7 hat7
              go_roundw
              case rel => exact ⟨k + 1, by omega, by simp, by rw [nA.out, nB.out]; exact I3⟩
              case measure => simp [intOf]; omega
            · have hp : pB c a n = false := by simp [pB, hw, hcc, h4]
              rw [hp, if_neg (by simp), List.append_nil] at nB
              replace nB : Hid (_ = M) := nB
              have hci : ((n.core : Int) == c) = false := by simp [hcc]
              replace h4 : Hid (n.kind = 4) := h4
              clear hw hp h1 hcc
              go_upto_region 12 with (at_builtin; refine wpList_appN rfl _ _ rfl (tr := L) (ns := [n]) rfl rfl (own_grow hI.rl (below_alloc wr (.cells (ntA n) 34))) (by simp; omega) (World.alloc_heap_new _ _) rfl (by omega) ?_; intro v5 w5 hown hgr hat; simp only [Act.put, List.setIfInBounds_toArray, List.set_cons_succ, List.set_cons_zero])
              have I2 := hI.left hown hgr hat
              obtain ⟨_, c0, c1, c2, c3⟩ := hNN w5 (I2.low)
              clear hown hgr hat
              go_wp2
              go_roundw
              case rel => exact ⟨k + 1, by omega, by simp, by rw [nA.out, nB.out]; exact I2⟩
              case measure => simp [intOf]; omega
          · have h4i : ((n.kind : Int) != 4) = true := by simp [h4]
            have hp : pB c a n = true := by simp [pB, hw, h4]
            rw [hp, if_pos rfl] at nB
            replace nB : Hid (_ = M ++ [n]) := nB
            clear hw hp h1 h4
            go_upto_region 12 with (at_builtin; refine wpList_appN rfl _ _ rfl (tr := L) (ns := [n]) rfl rfl (own_grow hI.rl (below_alloc wr (.cells (ntA n) 34))) (by simp; omega) (World.alloc_heap_new _ _) rfl (by omega) ?_; intro v5 w5 hown hgr hat; simp only [Act.put, List.setIfInBounds_toArray, List.set_cons_succ, List.set_cons_zero])
            have I2 := hI.left hown hgr hat
            have s2 := I2.low.size
            obtain ⟨_, c0, c1, c2, c3⟩ := hNN w5 (I2.low)
            clear hown hgr hat
            go_wp2_with (at_builtin; refine wpList_appN rfl _ _ rfl (tr := M) (ns := [n]) rfl rfl (own_grow I2.rm (below_alloc w5 (.cells (ntA n) 34))) (by simp; omega) (World.alloc_heap_new _ _) rfl (by omega) ?_; intro v7 w7 hown7 hgr7 hat7; simp only [Act.put, List.setIfInBounds_toArray, List.set_cons_succ, List.set_cons_zero])
            have I3 := I2.right hown7 hgr7 hat7
            go_roundw
            case rel => exact ⟨k + 1, by omega, by simp, by rw [nA.out, nB.out]; exact I3⟩
            case measure => simp [intOf]; omega
      · have e : k = more.length := by omega
        rw [e, List.take_length] at hI
        clear e hk hNs
        have okL := lA_ok (a := a) ok ok1
        have okM := lB_ok (c := c) (a := a) ok ok1
        have l1 := lA_len tr more a
        have l2 := lB_len tr more c a
        have hp := fun h => less_plain (tr := tr) (more := more) (c := c) (a := a) (f := f) h
        obtain ⟨L, hL⟩ : ∃ L, lA tr more a = L := ⟨_, rfl⟩
        obtain ⟨M, hM⟩ : ∃ M, lB tr more c a = M := ⟨_, rfl⟩
        simp only [hL, hM] at hI okL okM l1 l2 hp
        clear hL hM
        have x1 := mayL_len L c a f
        have x2 := mayL_pos L c a f
        have kL := may_all (f := f) (c := c) (a := a) (own_nts hI.rl (by omega)) okL ha hf
        have kN := fun (W : World) (B : Below wr.heap.size wr W) => may_all (f := f) (c := c) (a := a) (own_nts (own_grow hI.rm B) (by omega)) okM ha hf
        obtain ⟨aL, cL, eL, _⟩ := own_len hI.rl
        subst eL
        obtain ⟨aM, cM, eM, _⟩ := own_len hI.rm
        subst eM
        have low := hI.low
        clear hI okL okM
        go_upto_region 16 with (first
          | (go_at_call 10; (with_reducible refine kL.mono ?_); clear kL; rintro e w5 ⟨uB, rfl, RB, B5⟩; dsimp only; have k6 := kN w5 B5; clear kN)
          | (go_at_call 10; (with_reducible refine k6.mono ?_); clear k6; rintro e w6 ⟨uC, rfl, RC, B6⟩; dsimp only))
        have low6 : Below w2.heap.size w2 w6 := below_then (below_then low (Nat.le_refl _) B5) (Nat.le_refl _) B6
        have low06 : Below w.heap.size w w6 := B1.trans (low6.mono B1.size)
        cases hmL : mayOk L c a with
        | false =>
          have e1 : mayE L c a = 1 := by unfold mayE; rw [hmL]; rfl
          have e2 : mayW L c a f = [] := by unfold mayW; rw [hmL]; rfl
          rw [e1]
          rw [e2] at RB
          obtain ⟨aB, cB, eB, _⟩ := own_len RB
          subst eB
          go_wp2
          go_ret
          exact ⟨rfl, low06⟩
        | true =>
          obtain ⟨p1, p2, p3⟩ := hp hmL
          have e1 : mayE L c a = 0 := by unfold mayE; rw [hmL]; rfl
          have e2 : mayW L c a f = mayL L c a f := by unfold mayW; rw [hmL]; rfl
          have e3 : mayE M c a = 0 := by unfold mayE; rw [p2]; rfl
          have e4 : mayW M c a f = mayL L c a f := by unfold mayW; rw [p2, ← p3]; rfl
          rw [e1, e3]
          rw [e2] at RB
          rw [e4] at RC
          clear e1 e2 e3 e4 p2 p3 hp
          have WB := (wds_of_own RB (by omega)).grow B6
          have WC := wds_of_own RC (by omega)
          have WA := WA2.grow low6
          obtain ⟨X, hX⟩ : ∃ X, mayL L c a f = X := ⟨_, rfl⟩
          rw [hX] at WB WC p1 x1 x2
          obtain ⟨A, hA⟩ : ∃ A, mayL tr c a f = A := ⟨_, rfl⟩
          rw [hA] at WA p1
          obtain ⟨aB, cB, eB⟩ := WB.len
          subst eB
          obtain ⟨aC, cC, eC⟩ := WC.len
          subst eC
          obtain ⟨aA, cA, eA⟩ := WA.len
          subst eA
          clear hX hA RB RC B5 B6 low
          go_wp2
          go_loopw [21] (fun s21 wq => wq = w6 ∧ ∃ q : Nat, q ≤ X.length ∧ s21 = vI q) (fun s21 _ => ((X.length : Int) - intOf s21).toNat)
          case atStart => exact ⟨rfl, 0, Nat.zero_le _, rfl⟩
          case round =>
            obtain ⟨rfl, q, hq, rfl⟩ := hrel
            by_cases hql : (q : Int) < X.length
            · obtain ⟨z, hz⟩ : ∃ z, X[q]? = some z := ⟨X[q]'(by omega), List.getElem?_eq_getElem (by omega)⟩
              obtain ⟨g, off, cap', ev', hg, hcz⟩ := WB.cell (by omega)
              cases ev'
              have hcy := hcz q z hz
              have ki := in_c WA z
              have hin : A.contains z = true := by simpa using p1 z (List.mem_of_getElem? hz)
              rw [hin] at ki
              clear hcz hin hz WB
              go_wp2_with (go_at_call 18; (with_reducible refine ki.mono ?_); clear ki; rintro e wz ⟨rfl, rfl⟩; dsimp only)
              go_roundw
              case rel => exact ⟨trivial, q + 1, by omega, by simp⟩
              case measure => simp [intOf]; omega
            · have ks := same_c WB WC
              rw [decide_eq_true rfl] at ks
              clear WA WB WC
              have hgt : (X.length : Int) > 0 := by omega
              go_wp2_with (go_at_call 11; (with_reducible refine ks.mono ?_); clear ks; rintro e wz ⟨rfl, Bz⟩; dsimp only)
              go_ret
              exact ⟨by simp [x2], below_then low06 (Nat.le_refl _) Bz⟩
end Go.Proofs.Ytbdmemjenpnjgaa
