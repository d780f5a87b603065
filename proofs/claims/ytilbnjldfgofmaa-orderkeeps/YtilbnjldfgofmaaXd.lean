/- Do, Dp, Dq of the seat, joined. -/
import Derived.Test.YtilbnjldfgofmaaDn
import Derived.Test.YtilbnjldfgofmaaIg
import Derived.StillTail
import Derived.StillTactics
/- The document's own Right: its head. -/
namespace Go.Proofs.Ytilbnjldfgofmaa
open Go.RowKit
set_option linter.unusedVariables false
set_option linter.unusedSimpArgs false
set_option maxRecDepth 8000

/-- What is held of the world while a block is looked at. -/
structure RgW (w : World) (pc words el : Int) (v : Value) (l : List Opr) (b : Nat) (x : World) : Prop where
  r1 : x.heap[b]? = some (.cells (blA pc words el v) 25)
  ops : Ops x v l
  below : Below w.heap.size w x
theorem RgW.grow {w x y : World} {pc words el : Int} {v : Value} {l : List Opr} {b : Nat} (h : RgW w pc words el v l b x) (hb : Below x.heap.size x y) : RgW w pc words el v l b y :=
  ⟨by rw [hb.block _ (lt_of_some h.r1)]; exact h.r1, h.ops.grow hb, below_then h.below (Nat.le_refl _) hb⟩
theorem RgW.c0 {w x : World} {pc words el : Int} {v : Value} {l : List Opr} {b : Nat} (h : RgW w pc words el v l b x) : x.cell? ⟨b, 0, none⟩ = some (vU pc) := by rw [cell_of_row _ _ _ _ _ _ h.r1]; rfl
theorem RgW.c1 {w x : World} {pc words el : Int} {v : Value} {l : List Opr} {b : Nat} (h : RgW w pc words el v l b x) : x.cell? ⟨b, 1, none⟩ = some (vI words) := by rw [cell_of_row _ _ _ _ _ _ h.r1]; rfl
theorem RgW.c2 {w x : World} {pc words el : Int} {v : Value} {l : List Opr} {b : Nat} (h : RgW w pc words el v l b x) : x.cell? ⟨b, 2, none⟩ = some (vI el) := by rw [cell_of_row _ _ _ _ _ _ h.r1]; rfl
theorem RgW.c3 {w x : World} {pc words el : Int} {v : Value} {l : List Opr} {b : Nat} (h : RgW w pc words el v l b x) : x.cell? ⟨b, 3, none⟩ = some v := by rw [cell_of_row _ _ _ _ _ _ h.r1]; rfl
theorem okD_no {l : List Opr} {k : Nat} (hk : k < l.length) (h : okD l k = false) : (List.range l.length).all (okD l) = false := by
  rw [List.all_eq_false]; exact ⟨k, List.mem_range.2 hk, by rw [h]; decide⟩
theorem okD_yes {l : List Opr} (h : ∀ k, k < l.length → okD l k = true) : (List.range l.length).all (okD l) = true := List.all_eq_true.2 fun k hk => h k (List.mem_range.1 hk)
theorem add_zero6 (ra : Addr) : ra.add (0 * 6) = ra := by
  obtain ⟨bl, off, e⟩ := ra
  unfold Addr.add
  split <;> simp_all
def rightD (pc words el : Int) (l : List Opr) : Bool := headD pc words el l && (List.range l.length).all (okD l)
theorem in_yes {n a b : Int} (h1 : a ≤ n) (h2 : n ≤ b) : (decide (a ≤ n) && decide (n ≤ b)) = true := by simp [h1, h2]
theorem in_no {n a b : Int} (h : n < a ∨ b < n) : (decide (a ≤ n) && decide (n ≤ b)) = false := by
  rw [Bool.and_eq_false_iff, decide_eq_false_iff_not, decide_eq_false_iff_not]; omega
set_option maxHeartbeats 8000000 in
theorem dRight_head {w : World} {v : Value} {l : List Opr} {pc words el : Int} (hpc : 0 ≤ pc) (O : Ops w v l) (hH : headD pc words el l = false) : Calls Try.prog 8 #[blV pc words el v] w fun e w' => e = .returned (.bool false) ∧ Below w.heap.size w w' := by
  have N0 : RgW w pc words el v l w.heap.size (w.alloc (.cells (blA pc words el v) 25)) := ⟨heap_alloc_new _ _, O.grow (below_alloc _ _), below_alloc _ _⟩
  obtain ⟨ao, cap, ev⟩ := O.len
  have hlen : (l.length : Int) ≤ 9223372036854775807 := by have := O.max; simp only [maxLen] at this; omega
  subst ev
  go_enter Try.func8, Try.ntmps8
  go_upto_region 1 with fail
  generalize w.alloc (.cells (blA pc words el (.slice ao l.length cap)) 25) = w1 at *
  have z3 := N0.c3
  have z0 := N0.c0
  have z1 := N0.c1
  have z2 := N0.c2
  go_upto_region 2 with fail
  have hpt : pc % 4 = pc.tmod 4 := (Int.tmod_eq_emod_of_nonneg hpc).symm
  have k1 := fun x => dIn_c words 1 16 x
  have k2 := fun x => dIn_c el 0 1 x
  have k3 := fun x => dIn_c (l.length : Int) 1 512 x
  have fin : ∀ {e : Ending} {x : World} (n : Nat), x = w1.drewN n → e = .returned (.bool false) → e = .returned (.bool false) ∧ Below w.heap.size w x := fun n hx he => ⟨he, by rw [hx]; exact (N0.grow (below_drewN (Below.refl _ w1) (n := n))).below⟩
  by_cases h1 : pc.tmod 4 = 0
  · have e1 : (pc.tmod 4 != 0) = false := by simp [h1]
    by_cases h2 : 1 ≤ words ∧ words ≤ 16
    · rw [in_yes h2.1 h2.2] at k1
      by_cases h3 : 0 ≤ el ∧ el ≤ 1
      · rw [in_yes h3.1 h3.2] at k2
        by_cases h4 : (1 : Int) ≤ l.length ∧ (l.length : Int) ≤ 512
        · rw [in_yes h4.1 h4.2] at k3
          obtain ⟨ra, cap', ev', hops⟩ := N0.ops.cell (by omega)
          cases ev'
          have A := hops 0 _ (opAt_some (by omega))
          have e00 : ra.add (0 * 6) = ra := add_zero6 ra
          rw [e00] at A
          have y0 := A.c0
          have y5 := A.c5
          clear hops
          have hl1 : (0 : Int) < l.length := by omega
          by_cases h5 : (opAt l 0).kind = 14
          · rw [h5] at y0
            have h6 : ¬ (opAt l 0).imm = pc := fun h6 => by
              unfold headD at hH
              rw [hpt, h1, h5, h6] at hH
              simp [h2, h3] at hH
              omega
            have e6 : ((opAt l 0).imm != pc) = true := by simp [h6]
            clear hH hpt h2 h3 h4 h5 h6
            go_quiet (first | (go_at_call 21; with_reducible exact Calls.quiet_of_same (k1 _)) | (go_at_call 21; with_reducible exact Calls.quiet_of_same (k2 _)) | (go_at_call 21; with_reducible exact Calls.quiet_of_same (k3 _)))
            go_wp2
            go_ret
            exact fin _ rfl rfl
          · have e5 : ((opAt l 0).kind != 14) = true := by simp [h5]
            clear hH hpt h2 h3 h4 h5
            go_quiet (first | (go_at_call 21; with_reducible exact Calls.quiet_of_same (k1 _)) | (go_at_call 21; with_reducible exact Calls.quiet_of_same (k2 _)) | (go_at_call 21; with_reducible exact Calls.quiet_of_same (k3 _)))
            go_wp2
            go_ret
            exact fin _ rfl rfl
        · rw [in_no (by omega)] at k3
          clear hH hpt h2 h3 h4
          go_quiet (first | (go_at_call 21; with_reducible exact Calls.quiet_of_same (k1 _)) | (go_at_call 21; with_reducible exact Calls.quiet_of_same (k2 _)) | (go_at_call 21; with_reducible exact Calls.quiet_of_same (k3 _)))
          go_wp2
          go_ret
          exact fin _ rfl rfl
      · rw [in_no (by omega)] at k2
        clear hH hpt h2 h3
        go_quiet (first | (go_at_call 21; with_reducible exact Calls.quiet_of_same (k1 _)) | (go_at_call 21; with_reducible exact Calls.quiet_of_same (k2 _)) | (go_at_call 21; with_reducible exact Calls.quiet_of_same (k3 _)))
        go_wp2
        go_ret
        exact fin _ rfl rfl
    · rw [in_no (by omega)] at k1
      clear hH hpt h2
      go_quiet (first | (go_at_call 21; with_reducible exact Calls.quiet_of_same (k1 _)) | (go_at_call 21; with_reducible exact Calls.quiet_of_same (k2 _)) | (go_at_call 21; with_reducible exact Calls.quiet_of_same (k3 _)))
      go_wp2
      go_ret
      exact fin _ rfl rfl
  · have e1 : (pc.tmod 4 != 0) = true := by simp [h1]
    clear hH hpt h1
    go_quiet (first | (go_at_call 21; with_reducible exact Calls.quiet_of_same (k1 _)) | (go_at_call 21; with_reducible exact Calls.quiet_of_same (k2 _)) | (go_at_call 21; with_reducible exact Calls.quiet_of_same (k3 _)))
    go_wp2
    go_ret
    exact fin _ rfl rfl
end Go.Proofs.Ytilbnjldfgofmaa
/- The document's own Right: the operations. -/
namespace Go.Proofs.Ytilbnjldfgofmaa
open Go.RowKit
set_option linter.unusedVariables false
set_option linter.unusedSimpArgs false
set_option maxRecDepth 8000

theorem dField_c (o : Opr) (hi : 0 ≤ o.imm) (w : World) : Calls Try.prog 22 #[opV o] w fun e w' => e = .returned (.bool (fieldB o)) ∧ Below w.heap.size w w' := by
  cases h : isK o.kind with
  | false =>
    have : fieldB o = false := by unfold fieldB; rw [h]; rfl
    rw [this]
    exact field_no o h w
  | true =>
    obtain ⟨kind, r, a, b, order, imm⟩ := o
    rcases isK_cases h with rfl | rfl | rfl | rfl | rfl | rfl | rfl | rfl | rfl | rfl | rfl | rfl | rfl | rfl | rfl | rfl | rfl | rfl
    · exact field_1 hi w
    · exact field_2 hi w
    · exact field_3 hi w
    · exact field_4 hi w
    · exact field_5 hi w
    · exact field_6 hi w
    · exact field_7 hi w
    · exact field_8 hi w
    · exact field_9 hi w
    · exact field_10 hi w
    · exact field_11 hi w
    · exact field_12 hi w
    · exact field_13 hi w
    · exact field_14 hi w
    · exact field_15 hi w
    · exact field_16 hi w
    · exact field_17 hi w
    · exact field_18 hi w
set_option maxHeartbeats 16000000 in
theorem dRight_loop {w : World} {l : List Opr} {pc words el : Int} {ra : Addr} {cap : Nat} (hpc : 0 ≤ pc) (O : Ops w (.slice (some ra) l.length cap) l) (hcap : l.length ≤ cap) (himm : ∀ k, 0 ≤ (opAt l k).imm) (hops0 : ∀ i o, l[i]? = some o → OpAt w (ra.add (i * 6)) o) (hH : headD pc words el l = true) : Calls Try.prog 8 #[blV pc words el (.slice (some ra) l.length cap)] w fun e w' => e = .returned (.bool ((List.range l.length).all (okD l))) ∧ Below w.heap.size w w' := by
  have N0 : RgW w pc words el (.slice (some ra) l.length cap) l w.heap.size (w.alloc (.cells (blA pc words el (.slice (some ra) l.length cap)) 25)) := ⟨heap_alloc_new _ _, O.grow (below_alloc _ _), below_alloc _ _⟩
  have hpt : pc % 4 = pc.tmod 4 := (Int.tmod_eq_emod_of_nonneg hpc).symm
  unfold headD at hH
  simp only [Bool.and_eq_true, decide_eq_true_eq, beq_iff_eq] at hH
  obtain ⟨⟨⟨⟨⟨⟨⟨⟨h1, h2⟩, h2'⟩, h3⟩, h3'⟩, h4⟩, h4'⟩, h5⟩, h6⟩ := hH
  rw [hpt] at h1
  have hl512 : (l.length : Int) ≤ 512 := by omega
  have hl1 : (1 : Int) ≤ l.length := by omega
  have hl0 : (0 : Int) < l.length := by omega
  go_enter Try.func8, Try.ntmps8
  go_upto_region 1 with fail
  generalize w.alloc (.cells (blA pc words el (.slice (some ra) l.length cap)) 25) = w1 at *
  generalize hb1 : w.heap.size = b1 at N0 ⊢
  have z3 := N0.c3
  have z0 := N0.c0
  have z1 := N0.c1
  have z2 := N0.c2
  go_upto_region 2 with fail
  have k1 := fun x => dIn_c words 1 16 x
  have k2 := fun x => dIn_c el 0 1 x
  have k3 := fun x => dIn_c (l.length : Int) 1 512 x
  rw [in_yes h2 h2'] at k1
  rw [in_yes h3 h3'] at k2
  rw [in_yes hl1 hl512] at k3
  obtain ⟨ra', cap', ev', hops⟩ := N0.ops.cell (by omega)
  cases ev'
  have A := hops 0 _ (opAt_some (by omega))
  rw [add_zero6] at A
  have y0 := A.c0
  have y5 := A.c5
  rw [h5] at y0
  rw [h6] at y5
  clear A hops h2 h2' h3 h3' h4 h4' h5 h6 hpt
  go_quiet (first | (go_at_call 21; with_reducible exact Calls.quiet_of_same (k1 _)) | (go_at_call 21; with_reducible exact Calls.quiet_of_same (k2 _)) | (go_at_call 21; with_reducible exact Calls.quiet_of_same (k3 _)))
  have N1 := N0.grow (below_drewN (Below.refl _ w1) (n := nq))
  generalize w1.drewN nq = w2 at N1 ⊢
  clear N0 z0 z1 z2 z3 y0 y5 k1 k2 k3
  go_upto_region 5 with fail
  go_loopw [4] (fun s4 wr => ∃ k : Nat, k ≤ l.length ∧ s4 = vI k ∧ (∀ j, j < k → okD l j = true) ∧ RgW w pc words el (.slice (some ra) l.length cap) l b1 wr) (fun s4 _ => ((l.length : Int) - intOf s4).toNat)
  case atStart => exact ⟨0, Nat.zero_le _, rfl, fun _ h => absurd h (by omega), N1⟩
  case round =>
    clear N1
    obtain ⟨k, hk, rfl, hall, N⟩ := hrel
    by_cases hlt : (k : Int) < l.length
    · have hkl : k < l.length := by omega
      obtain ⟨ra', cap', ev', hops⟩ := N.ops.cell (by omega)
      cases ev'
      have A := hops k _ (opAt_some hkl)
      have z3 := N.c3
      have hi := himm k
      have hokk : okD l k = (fieldB (opAt l k) && (lastD (opAt l k) == decide (k + 1 = l.length)) && (usesD (opAt l k)).all (defD l k) && zeroD (opAt l k)) := rfl
      have hno := fun h => okD_no (l := l) hkl h
      generalize opAt l k = o at *
      have Hn := has_none wr
      go_upto_region 8 with (first | ((with_reducible refine wpList_load42 rfl _ rfl _ rfl _ A ?_); try simp only [Act.put]) | ((with_reducible refine wpList_store_new Hn rfl 40 _ _ rfl (opA o) rfl rfl (op_inf _) (by kernel_rfl) (op_one _) ?_); clear Hn; intro w3 Hn; try simp only [Act.put]))
      have N3 := N.grow Hn.below
      have L : LocO wr.heap.size o w3 := Hn.get List.mem_cons_self
      clear Hn hops A z3
      generalize wr.heap.size = t at L ⊢
      have zl := L.at_
      have kf := fun x => dField_c o hi x
      have N9 := N3
      go_upto_region 9 with (first | ((with_reducible refine wpList_load42 rfl _ rfl _ rfl _ zl ?_); try simp only [Act.put]) | (go_at_call 22; (with_reducible refine (kf _).mono ?_); rintro e w4 ⟨rfl, B⟩; dsimp only; have N4 := N9.grow B; have L4 := L.grow B; clear B))
      clear N3 N9 L zl kf N
      have y0 := L4.c0
      have y2 := L4.c2
      have y3 := L4.c3
      go_cut [7] from 53 to 137 (fun s7 wc => s7 = .bool (lastD o) ∧ Hid (wc = w4))
      case first =>
        by_cases c16 : o.kind = 16
        · have hv : lastD o = true := by unfold lastD; rw [c16]; rfl
          go_wp2
          go_meet
          case rel => exact ⟨by rw [hv], rfl⟩
        · by_cases c17 : o.kind = 17
          · have hv : lastD o = true := by unfold lastD; rw [c17]; rfl
            go_wp2
            go_meet
            case rel => exact ⟨by rw [hv], rfl⟩
          · by_cases c18 : o.kind = 18
            · have hv : lastD o = true := by unfold lastD; rw [c18]; rfl
              go_wp2
              go_meet
              case rel => exact ⟨by rw [hv], rfl⟩
            · have hv : lastD o = false := by unfold lastD; simp [c16, c17, c18]
              go_wp2
              go_meet
              case rel => exact ⟨by rw [hv]; simp [c16, c17, c18], rfl⟩
      case rest =>
        obtain ⟨rfl, hq⟩ := hcut
        obtain rfl := hq.out
        clear hq
        generalize lastD o = la at *
        generalize fieldB o = fo at *
        go_upto_region 10 with fail
        go_cut [87] from 53 to 137 (fun s87 wd => s87 = .bool (!fo || (la != decide (k + 1 = l.length))) ∧ Hid (wd = wc))
        case first =>
          by_cases hz : (k : Int) = (l.length : Int) - 1
          · have hd : decide (k + 1 = l.length) = true := decide_eq_true (by omega)
            cases fo <;> cases la <;> (go_wp2; go_meet; case rel => first | exact ⟨by rw [hd]; rfl, rfl⟩ | exact ⟨by rw [hd]; simp [hz], rfl⟩)
          · have hd : decide (k + 1 = l.length) = false := decide_eq_false (by omega)
            cases fo <;> cases la <;> (go_wp2; go_meet; case rel => first | exact ⟨by rw [hd]; rfl, rfl⟩ | exact ⟨by rw [hd]; simp [hz], rfl⟩)
        case rest =>
          obtain ⟨rfl, hq⟩ := hcut
          obtain rfl := hq.out
          clear hq
          have hB := N4.below
          cases hE : (!fo || (la != decide (k + 1 = l.length))) with
          | true =>
            have hf : okD l k = false := by
              rw [hokk]
              cases fo <;> cases la <;> cases hd : decide (k + 1 = l.length) <;> simp_all
            have hf2 := hno hf
            go_wp2
            go_ret
            first | exact ⟨rfl, hB⟩ | exact ⟨r_bool hf2.symm, hB⟩ | (rw [hb1] at hB; first | exact ⟨rfl, hB⟩ | exact ⟨r_bool hf2.symm, hB⟩) | (rw [← hb1] at hB; first | exact ⟨rfl, hB⟩ | exact ⟨r_bool hf2.symm, hB⟩)
          | false =>
            have hok2 : okD l k = ((usesD o).all (defD l k) && zeroD o) := by
              rw [hokk]
              cases fo <;> cases la <;> cases hd : decide (k + 1 = l.length) <;> simp_all
            clear hokk hE
            have ku := fun x => dUses_c o x
            have zl := L4.at_
            generalize hzs : usesD o = zs at *
            go_upto_region 13 with (first | ((with_reducible refine wpList_load42 rfl _ rfl _ rfl _ zl ?_); try simp only [Act.put]) | (go_at_call 23; (with_reducible refine (ku _).mono ?_); rintro e w5 ⟨u, rfl, Z, B⟩; dsimp only))
            have N5 := N4.grow B
            have L5 := L4.grow B
            clear zl ku B L4 N4 y0 y2 y3
            obtain ⟨uo, uc, eu⟩ := Z.len
            have hum := Z.max
            have humm : (zs.length : Int) ≤ 9223372036854775807 := by simp only [maxLen] at hum; omega
            subst eu
            go_upto_region 14 with fail
            go_loopw [9] (fun s9 wq => ∃ i : Nat, i ≤ zs.length ∧ s9 = vI i ∧ (zs.take i).all (defD l k) = true ∧ RgW w pc words el (.slice (some ra) l.length cap) l b1 wq ∧ LocO t o wq ∧ RawI wq (.slice uo zs.length uc) zs) (fun s9 _ => ((zs.length : Int) - intOf s9).toNat)
            case atStart => exact ⟨0, Nat.zero_le _, rfl, rfl, N5, L5, Z⟩
            case round =>
              clear N5 L5 Z
              obtain ⟨i, hi9, rfl, hai, N5, L5, Z⟩ := hrel
              have hB := N5.below
              by_cases hil : (i : Int) < zs.length
              · have hil2 : i < zs.length := by omega
                obtain ⟨p, hp⟩ : ∃ p, zs[i]? = some p := ⟨zs[i], List.getElem?_eq_getElem hil2⟩
                obtain ⟨ua, uc', eu', hcu⟩ := Z.cell (by omega)
                cases eu'
                have c0 := (hcu i p hp).2
                clear hcu
                have hnd : defD l k p = false → okD l k = false := fun h => by
                  rw [hok2, List.all_eq_false.2 ⟨p, List.mem_of_getElem? hp, by rw [h]; decide⟩]; rfl
                by_cases h0 : p < 0
                · have hf2 := hno (hnd (by unfold defD; rw [decide_eq_false (by omega)]; rfl))
                  go_wp2
                  go_ret
                  first | exact ⟨rfl, hB⟩ | exact ⟨r_bool hf2.symm, hB⟩ | (rw [hb1] at hB; first | exact ⟨rfl, hB⟩ | exact ⟨r_bool hf2.symm, hB⟩) | (rw [← hb1] at hB; first | exact ⟨rfl, hB⟩ | exact ⟨r_bool hf2.symm, hB⟩)
                · by_cases h1 : (k : Int) ≤ p
                  · have hf2 := hno (hnd (by unfold defD; rw [decide_eq_false (p := p < (k : Int)) (by omega)]; simp))
                    go_wp2
                    go_ret
                    first | exact ⟨rfl, hB⟩ | exact ⟨r_bool hf2.symm, hB⟩ | (rw [hb1] at hB; first | exact ⟨rfl, hB⟩ | exact ⟨r_bool hf2.symm, hB⟩) | (rw [← hb1] at hB; first | exact ⟨rfl, hB⟩ | exact ⟨r_bool hf2.symm, hB⟩)
                  · obtain ⟨q, rfl⟩ : ∃ q : Nat, p = q := ⟨p.toNat, by omega⟩
                    have hqk : q < k := by omega
                    have hql : (q : Int) < l.length := by omega
                    obtain ⟨ra', cap', ev', hops⟩ := N5.ops.cell (by omega)
                    cases ev'
                    have A := hops q _ (opAt_some (by omega))
                    clear hops
                    have z3 := N5.c3
                    have hdq : defD l k (q : Int) = defsB (opAt l q).kind := by
                      unfold defD
                      rw [decide_eq_true (by omega), decide_eq_true (by omega), Int.toNat_natCast]; rfl
                    have kd := fun x => dDefs_c (opAt l q) x
                    have c00 : ¬ (q : Int) < 0 := by omega
                    have c01 : ¬ (k : Int) ≤ (q : Int) := by omega
                    go_upto_region 18 with fail
                    refine wp_region_still_tail 8 (by kernel_rfl) (by kernel_rfl) ?_
                    replace N5 := N5.grow (below_dr wr)
                    replace L5 := L5.grow (below_dr wr)
                    replace A := A.grow (below_dr wr)
                    replace Z := Z.grow (below_dr wr)
                    have c0' := c0
                    have z3' := z3
                    clear hB
                    generalize hw6 : ({ wr with drawn := wr.drawn + 1 } : World) = w6 at *
                    have c0 : w6.cell? (ua.add i) = some (vI (q : Int)) := by rw [← hw6]; exact c0'
                    have z3 := N5.c3
                    clear hw6 c0' z3'
                    have y0 := A.c0
                    have y1 := A.c1
                    have y2 := A.c2
                    have y3 := A.c3
                    have y4 := A.c4
                    have y5 := A.c5
                    simp only [List.take_succ_cons, List.take_zero, List.drop_succ_cons, List.drop_zero]
                    iterate 8 still_step
                    refine wpStill_nil ?_
                    cases hdv : defsB (opAt l q).kind with
                    | false =>
                      have hf2 := hno (hnd (by rw [hdq, hdv]))
                      rw [hdv] at kd
                      go_wp2_with (go_at_call 24; (with_reducible refine (kd _).mono ?_); rintro e w7 ⟨rfl, B⟩; dsimp only)
                      have hB := (N5.grow B).below
                      go_ret
                      first | exact ⟨rfl, hB⟩ | exact ⟨r_bool hf2.symm, hB⟩ | (rw [hb1] at hB; first | exact ⟨rfl, hB⟩ | exact ⟨r_bool hf2.symm, hB⟩) | (rw [← hb1] at hB; first | exact ⟨rfl, hB⟩ | exact ⟨r_bool hf2.symm, hB⟩)
                    | true =>
                      rw [hdv] at kd
                      have hst : (zs.take (i + 1)).all (defD l k) = true := by
                        rw [List.take_add_one, hp, List.all_append, hai]; simp [hdq, hdv]
                      go_wp2_with (go_at_call 24; (with_reducible refine (kd _).mono ?_); rintro e w7 ⟨rfl, B⟩; dsimp only)
                      go_roundw
                      case rel => exact ⟨i + 1, by omega, by simp, hst, N5.grow B, L5.grow B, Z.grow B⟩
                      case measure => simp [intOf]; omega
              · have hie : i = zs.length := by omega
                rw [hie, List.take_length] at hai
                rw [hai, Bool.true_and] at hok2
                have y2 := L5.c2
                have y3 := L5.c3
                have hz3 : zs = [] ∨ (∃ p, zs = [p]) ∨ ∃ p q, zs = [p, q] := by
                  rw [← hzs]; unfold usesD
                  split
                  · exact .inr (.inl ⟨_, rfl⟩)
                  · split
                    · exact .inr (.inr ⟨_, _, rfl⟩)
                    · exact .inl rfl
                have hzd : zeroD o = (!(decide ((zs.length : Int) < 2) && o.b != 0) && !(decide ((zs.length : Int) < 1) && o.a != 0)) := by
                  have e2 : decide (zs.length < 2) = decide ((zs.length : Int) < 2) := by rw [decide_eq_decide]; omega
                  have e1 : decide (zs.length < 1) = decide ((zs.length : Int) < 1) := by rw [decide_eq_decide]; omega
                  unfold zeroD; rw [hzs, e2, e1]
                have hlc : (zs.length : Int) = 0 ∨ (zs.length : Int) = 1 ∨ (zs.length : Int) = 2 := by
                  rcases hz3 with h | ⟨p, h⟩ | ⟨p, q, h⟩ <;> rw [h] <;> simp
                clear hz3 hzs hai Z
                go_upto_region 21 with fail
                clear hil hie hi9
                go_cut [137] from 53 to 137 (fun s137 wd => s137 = .bool (!zeroD o) ∧ Hid (wd = wr))
                case first =>
                  by_cases ha : o.a = 0 <;> by_cases hbb : o.b = 0
                  all_goals
                    rcases hlc with hlc | hlc | hlc
                    all_goals
                      (go_wp2; go_meet; case rel => exact ⟨by rw [hzd, hlc]; simp [ha, hbb], rfl⟩)
                case rest =>
                  obtain ⟨rfl, hq⟩ := hcut
                  obtain rfl := hq.out
                  clear hq
                  cases hzz : zeroD o with
                  | false =>
                    have hf2 := hno (by rw [hok2, hzz])
                    go_wp2
                    go_ret
                    first | exact ⟨rfl, hB⟩ | exact ⟨r_bool hf2.symm, hB⟩ | (rw [hb1] at hB; first | exact ⟨rfl, hB⟩ | exact ⟨r_bool hf2.symm, hB⟩) | (rw [← hb1] at hB; first | exact ⟨rfl, hB⟩ | exact ⟨r_bool hf2.symm, hB⟩)
                  | true =>
                    go_wp2
                    go_roundw
                    case rel => exact ⟨k + 1, by omega, by simp, fun j hj => by
                      rcases Nat.lt_or_ge j k with h | h
                      · exact hall j h
                      · obtain rfl : j = k := by omega
                        rw [hok2, hzz], N5⟩
                    case measure => simp [intOf]; omega
    · have hke : k = l.length := by omega
      subst hke
      have hf := okD_yes hall
      have hB := N.below
      go_wp2
      go_ret
      have hB2 : Below b1 w wr := by rw [← hb1]; exact hB
      first | exact ⟨rfl, hB⟩ | exact ⟨r_bool hf.symm, hB⟩ | exact ⟨rfl, hB2⟩ | exact ⟨r_bool hf.symm, hB2⟩
end Go.Proofs.Ytilbnjldfgofmaa
/- The document's own Right and New. -/
namespace Go.Proofs.Ytilbnjldfgofmaa
open Go.RowKit
set_option linter.unusedVariables false
set_option linter.unusedSimpArgs false
set_option maxRecDepth 8000

theorem rightD_eq (pc words el : Int) (l : List Opr) : rightD pc words el l = rightB pc words el l := by
  unfold rightD rightB
  have e : (List.range l.length).all (okD l) = opsB l := by
    unfold opsB
    congr 1
    funext k
    exact okD_eq l k
  rw [e]
  cases h : opsB l with
  | false => simp
  | true =>
    rw [Bool.and_true, Bool.and_true]
    unfold headD headB
    by_cases hl : 1 ≤ l.length
    · have ho := ops_at h (show 0 < l.length by omega)
      unfold okAt at ho
      simp only [Bool.and_eq_true] at ho
      obtain ⟨⟨⟨hk, _⟩, hop⟩, _⟩ := ho
      have hE : ((opAt l 0).kind == 14 && (opAt l 0).imm == pc) = decide (opAt l 0 = ⟨14, 0, 0, 0, 0, pc⟩) := by
        generalize opAt l 0 = o at *
        obtain ⟨kind, r, a, b, order, imm⟩ := o
        by_cases h14 : kind = 14
        · subst h14
          unfold opB at hop
          simp [hp14_1, hp14_2, hp14_4, hp14_8, hp14_16] at hop
          obtain ⟨⟨⟨⟨q1, q2⟩, q3⟩, q4⟩, _⟩ := hop
          subst q1; subst q2; subst q3; subst q4
          rw [Bool.eq_iff_iff]
          simp
        · rw [Bool.eq_iff_iff]
          simp [h14]
      have hE2 : (decide (0 ≤ el) && decide (el ≤ 1)) = (el == 0 || el == 1) := by
        rw [Bool.eq_iff_iff]
        simp
        omega
      rw [← hE, ← hE2]
      simp only [Bool.and_assoc]
    · have : decide (1 ≤ l.length) = false := decide_eq_false hl
      rw [this]
      simp
theorem dRight_c {w : World} {v : Value} {l : List Opr} {pc words el : Int} (hpc : 0 ≤ pc) (O : Ops w v l) (himm : ∀ k, 0 ≤ (opAt l k).imm) (hcap : ∀ ao n cap, v = .slice ao n cap → n ≤ cap) : Calls Try.prog 8 #[blV pc words el v] w fun e w' => e = .returned (.bool (rightB pc words el l)) ∧ Below w.heap.size w w' := by
  rw [← rightD_eq]
  unfold rightD
  cases hH : headD pc words el l with
  | false => exact dRight_head hpc O hH
  | true =>
    rw [Bool.true_and]
    have h1 : 0 < l.length := by
      unfold headD at hH
      simp only [Bool.and_eq_true, decide_eq_true_eq] at hH
      have := hH.1.1.1.2
      omega
    obtain ⟨ra, cap, rfl, hops⟩ := O.cell h1
    exact dRight_loop hpc O (hcap _ _ _ rfl) himm hops hH
end Go.Proofs.Ytilbnjldfgofmaa
