/- Ranks and routes: the walk. -/
import Derived.Test.YteklkololojamaaGreatLy
import Derived.Test.YteklkololojamaaGreatLa
import Derived.Test.YteklkololojamaaGreatFr
import Derived.Test.YteklkololojamaaGreatRelG
namespace Go.Proofs.YteklkololojamaaGreat
open Go.RowKit
set_option linter.unusedVariables false
set_option linter.unusedSimpArgs false
set_option maxRecDepth 8000

theorem arr_new (w : World) (C : Array Value) (h : C = Array.replicate 64 (vU 0)) : ArrAt w.heap.size (fun _ => 0) (w.alloc (.cells C 64)) :=
  ⟨C, heap_alloc_new _ _, by rw [h]; simp, fun j hj => by rw [h, Array.getElem?_replicate, if_pos hj]; rfl⟩
theorem RkW.bel {W w : World} {b g t q1 q2 : Nat} {rk tg : Nat → Nat} {S : Bs} (H : RkW W b g t q1 q2 rk tg S w) : Below W.heap.size W w := by
  obtain ⟨Y, K⟩ := H.bus
  exact K.below

set_option maxHeartbeats 8000000 in
theorem ranks_all (core : Int) (v1 v2 : Value) (ids vs : List Int) (W : World) (hI : I64 core) (R1 : RawI W v1 ids) (R2 : Raw W v2 vs) : Calls Tryz.prog 6 #[vI core, v1, v2] W fun e w' => e = .returned (.bool true) ∧ Below W.heap.size W w' := by
  obtain ⟨ao, cap, ev⟩ := R1.len
  obtain ⟨ao2, cap2, ev2⟩ := R2.len
  have hc : pickV core 4 < 4 := pick_lt (by decide)
  have hpick : ∀ w, Calls Tryz.prog 35 #[vI core, vI 4] w fun e w' => e = .returned (vI (pickV core 4)) ∧ w' = w := pick_c core 4 (by decide) (by decide) hI
  generalize pickV core 4 = c at *
  have hnew : ∀ w : World, Calls Tryz.prog 9 #[vI 4] w fun e w' => ∃ b, e = .returned (.tuple #[ptr b 0, vI 0]) ∧ ∃ g t, BW w.heap.size w b g t 4 newS w' := bnew_c 4 (by decide) (by decide)
  go_enter Tryz.func6, Tryz.ntmps6
  go_upto_region 5 with (first | (go_at_call 8; refine (known_c _).mono ?_; rintro e wk ⟨rfl, HK⟩; dsimp only) | (go_at_call 9; refine (hnew wk).mono ?_; rintro e w1 ⟨b, rfl, g, t, Y, K⟩; dsimp only))
  clear hnew
  replace K : BK W.heap.size W b g t 4 newS Y w1 := ⟨K.at_, fun k hk => Nat.le_trans HK.size (K.foot k hk), below_then HK (Nat.le_refl _) K.below, Nat.le_refl _⟩
  clear HK
  go_upto_region 6 with (first | (go_at_call 35; refine (hpick _).mono ?_; rintro e w2 ⟨rfl, rfl⟩; dsimp only))
  clear hpick
  have hle2 : W.heap.size ≤ w2.heap.size := K.below.size
  rw [ev, ev2]
  go_upto_region 7 with fail
  generalize hw3 : World.alloc _ _ = w3
  have A1 : ArrAt w2.heap.size (fun _ => 0) w3 := by rw [← hw3]; exact arr_new _ _ (by kernel_rfl)
  have B3 : Below w2.heap.size w2 w3 := by rw [← hw3]; exact below_alloc _ _
  have hlt3 : w2.heap.size < w3.heap.size := A1.lt
  replace K := K.grow B3
  clear hw3 B3
  generalize w2.heap.size = q1 at *
  go_upto_region 8 with fail
  generalize hw4 : World.alloc _ _ = w4
  have A2 : ArrAt w3.heap.size (fun _ => 0) w4 := by rw [← hw4]; exact arr_new _ _ (by kernel_rfl)
  have B4 : Below w3.heap.size w3 w4 := by rw [← hw4]; exact below_alloc _ _
  have hle3 : W.heap.size ≤ w3.heap.size := K.below.size
  have hR0 : RkW W b g t q1 w3.heap.size (fun _ => 0) (fun _ => 0) newS w4 := ⟨⟨Y, K.grow B4⟩, A1.keep (B4.block _ A1.lt), A2, by omega, hle2, hle3⟩
  clear hw4 B4 A1 A2 K hlt3 hle2 hle3
  generalize w3.heap.size = q2 at *
  clear w3
  go_wp2
  go_loopw [13] (fun s13 wr => ∃ i : Nat, i ≤ 64 ∧ s13 = .int .i64 i ∧ Hid (RkW W b g t q1 q2 (fun j => if j < i then 160 else 0) (fun _ => 0) newS wr)) (fun s13 _ => 64 - (intOf s13).toNat)
  case atStart => exact ⟨0, by omega, rfl, hR0⟩
  case round =>
    clear hR0
    obtain ⟨i, hi, rfl, hM⟩ := hrel
    have hR := hM.out
    clear hM
    by_cases hlt : (i : Int) < 64
    · have z := hR.a1.cell (j := i) (by omega)
      have f := hR.a1.frz i
      have hP := hR.put1 (j := i) (by omega) 160
      have hN : up (fun j => if j < i then 160 else 0) i 160 = fun j => if j < i + 1 then 160 else 0 := by
        funext j
        unfold up
        dsimp only
        by_cases e : j = i
        · rw [if_pos e, if_pos (by omega)]
        · rw [if_neg e]
          by_cases h : j < i
          · rw [if_pos h, if_pos (by omega)]
          · rw [if_neg h, if_neg (by omega)]
      rw [hN] at hP
      clear hR hN
      go_upto_region 10 with fail
      replace hP : RkW W b g t q1 q2 (fun j => if j < i + 1 then 160 else 0) (fun _ => 0) newS (wr.setCell ⟨q1, i, none⟩ (.int .u64 160)) := hP
      generalize World.setCell _ _ _ = w5 at hP ⊢
      clear z f
      go_wp2
      go_roundw
      case rel => exact ⟨i + 1, by omega, by go_num, hP⟩
      case measure => simp [intOf]; omega
    · obtain rfl : i = 64 := by omega
      have hS0 : RkS c (fun _ => 160) (fun _ => 0) newS := RkS.new hc
      have hS : RkS c (fun j => if j < 64 then 160 else 0) (fun _ => 0) newS := ⟨fun j hj => by show _ = ((if j < 64 then 160 else 0 : Nat) : Int) ∧ (if j < 64 then 160 else 0 : Nat) < 256; rw [if_pos hj]; exact hS0.r j hj, hS0.t⟩
      clear hS0
      clear hlt hi
      go_wp2
      go_loopw [14] (fun s14 wr => ∃ i : Nat, i ≤ 60 ∧ s14 = .int .i64 i ∧ Hid (∃ rk tg S, RkS c rk tg S ∧ RkW W b g t q1 q2 rk tg S wr)) (fun s14 _ => 60 - (intOf s14).toNat)
      case atStart => exact ⟨0, by omega, rfl, _, _, _, hS, hR⟩
      case round =>
        clear hR hS
        obtain ⟨i, hi, rfl, hM⟩ := hrel
        obtain ⟨rk, tg, S, hS, hR⟩ := hM.out
        clear hM
        by_cases hend : (i : Int) < ids.length ∧ (i : Int) < vs.length ∧ (i : Int) < 60
        · obtain ⟨n1, n2, n3⟩ := hend
          have hs1 := List.getElem?_eq_getElem (l := ids) (i := i) (by omega)
          have hs2 := List.getElem?_eq_getElem (l := vs) (i := i) (by omega)
          generalize ids[i] = x at hs1
          generalize vs[i] = y at hs2
          obtain ⟨ra, cap3, ev', hcl⟩ := R1.cell (by omega)
          rw [ev] at ev'
          cases ev'
          obtain ⟨ra2, cap4, ev2', hcl2⟩ := R2.cell (by omega)
          rw [ev2] at ev2'
          cases ev2'
          have hx := R1.wf x (List.mem_of_getElem? hs1)
          obtain ⟨v, rfl, hv⟩ := nat_of (R2.wf y (List.mem_of_getElem? hs2))
          have hidx : ∀ w, Below W.heap.size W w → w.cell? (ra.add i) = some (vI x) := fun w hb => by rw [hb.cell (hcl i x hs1).1]; exact (hcl i x hs1).2
          have hval : ∀ w, Below W.heap.size W w → w.cell? (ra2.add i) = some (vU v) := fun w hb => by rw [hb.cell (hcl2 i _ hs2).1]; exact (hcl2 i _ hs2).2
          have hid : pickV x 64 < 64 := pick_lt (by decide)
          have hpick : ∀ w, Calls Tryz.prog 35 #[vI x, vI 64] w fun e w' => e = .returned (vI (pickV x 64)) ∧ w' = w := pick_c x 64 (by decide) (by decide) hx
          generalize pickV x 64 = id at *
          clear hcl hcl2 hs1 hs2 hx
          have zi := hidx wr hR.bel
          go_upto_region 16 with (first | (go_at_call 35; refine (hpick _).mono ?_; rintro e w6 ⟨rfl, rfl⟩; dsimp only))
          clear hpick zi hidx
          obtain ⟨Y, K⟩ := hR.bus
          have zv := hval _ hR.bel
          have e1 : wrap64 (8 * (id : Int)) = 8 * (id : Int) := IntWalk.wrap64_in _ ⟨by omega, by omega⟩
          have e2 : IntKind.u64.wrap (8 * (id : Int)) = 8 * (id : Int) := by rw [IntKind.wrap_u64]; omega
          have e3 : IntKind.u64.wrap (134218240 + 8 * (id : Int)) = 134218240 + 8 * (id : Int) := by rw [IntKind.wrap_u64]; omega
          have hm : Calls Tryz.prog 16 #[ptr b 0, vI c, vU (134218240 + 8 * (id : Int)), vU v] w6 fun e w' => e = .returned (vI 0) ∧ BT b g t 4 Y { S with P := grankP 4 S.P c id (v % 256 : Nat) } w6 w' := by
            have := bwrite_c K.at_ c (134218240 + 8 * (id : Int)) v hv
            rw [(rd_rank hS hc hid).2, wr_rank hc hid] at this
            exact this
          have hv' := hv
          replace hv := show Hid _ from hv
          go_upto_region 18 with (first | (go_at_call 16; refine hm.mono ?_; rintro e w7 ⟨rfl, hT⟩; dsimp only))
          have hR7 := hR.bt K hT
          have hS7 := hS.rank (v := v) hc hid
          generalize ({ S with P := grankP 4 S.P c id (v % 256 : Nat) } : Bs) = S7 at hR7 hS7
          clear hR hS hT K hm e1 e2 e3 zv
          have zv := hval _ hR7.bel
          have z1 := hR7.a1.cell hid
          have f1 := hR7.a1.frz id
          have a8 := and8 v hv'
          have hP := hR7.put1 hid (v % 256)
          generalize hm8 : ((v % 256 : Nat) : Int) = m8 at a8 hP
          replace hm8 := show Hid _ from hm8
          clear hv'
          go_upto_region 19 with fail
          replace hP : RkW W b g t q1 q2 (up rk id (v % 256)) tg S7 (w7.setCell ⟨q1, id, none⟩ (.int .u64 m8)) := hP
          generalize World.setCell _ _ _ = w8 at hP ⊢
          clear z1 f1 a8 zv hR7
          by_cases h32 : 32 ≤ (id : Int)
          · obtain ⟨p, rfl⟩ : ∃ p, id = 32 + p := ⟨id - 32, by omega⟩
            have hp : p < 32 := by omega
            have i1 : wrap64 (((32 + p : Nat) : Int) - 32) = (p : Int) := by rw [IntWalk.wrap64_in _ ⟨by omega, by omega⟩]; omega
            have e1 : wrap64 (8 * (p : Int)) = 8 * (p : Int) := IntWalk.wrap64_in _ ⟨by omega, by omega⟩
            have e2 : IntKind.u64.wrap (8 * (p : Int)) = 8 * (p : Int) := by rw [IntKind.wrap_u64]; omega
            have e3 : IntKind.u64.wrap (134218752 + 8 * (p : Int)) = 134218752 + 8 * (p : Int) := by rw [IntKind.wrap_u64]; omega
            have ed : (v : Int) / 256 = ((v / 256 : Nat) : Int) := by omega
            obtain ⟨Y8, K8⟩ := hP.bus
            have zv := hval _ hP.bel
            have hm : Calls Tryz.prog 16 #[ptr b 0, vI c, vU (134218752 + 8 * (p : Int)), vU (v / 256 : Nat)] w8 fun e w' => e = .returned (vI 0) ∧ BT b g t 4 Y8 (routeS 4 S7 p (v / 256)) w8 w' := by
              have := bwrite_c K8.at_ c (134218752 + 8 * (p : Int)) (v / 256) (Nat.lt_of_le_of_lt (Nat.div_le_self _ _) hv.out)
              rw [(rd_route hS7 hc hp).2, wr_route hc hp] at this
              exact this
            generalize hv8 : ((v / 256 : Nat) : Int) = v8 at ed hm
            replace hv8 := show Hid _ from hv8
            have hb1 : decide ((32 : Int) ≤ ((32 + p : Nat) : Int)) = true := decide_eq_true h32
            generalize hid' : ((32 + p : Nat) : Int) = iid at *
            replace hid' := show Hid _ from hid'
            go_upto_region 20 with fail
            go_upto_region 22 with (first | (go_at_call 16; refine hm.mono ?_; rintro e w9 ⟨rfl, hT⟩; dsimp only))
            have hR9 := hP.bt K8 hT
            clear hm hT K8 zv hP e1 e2 e3 i1 hb1
            have zv := hval _ hR9.bel
            by_cases hv4 : v / 256 < 4
            · have hv4i : v8 < 4 := by rw [← hv8.out]; omega
              have hS9 := hS7.route hc hp hv4
              generalize routeS 4 S7 p (v / 256) = S9 at hR9 hS9
              have z2 := hR9.a2.cell hid
              have f2 := hR9.a2.frz (32 + p)
              have hQ := hR9.put2 hid (v / 256)
              rw [hv8.out] at hQ
              go_upto_region 23 with fail
              have hid2 := hid'.out
              subst hid2
              go_upto_region 14 with fail
              replace hQ : RkW W b g t q1 q2 (up rk (32 + p) (v % 256)) (up tg (32 + p) (v / 256)) S9 (w9.setCell ⟨q2, 32 + p, none⟩ (.int .u64 v8)) := hQ
              generalize World.setCell _ _ _ = w10 at hQ ⊢
              clear z2 f2 zv hR9
              go_wp2
              go_roundw
              case rel => exact ⟨i + 1, by omega, by go_num, _, _, _, hS9, hQ⟩
              case measure => simp [intOf]; omega
            · have hv4i : ¬ v8 < 4 := by rw [← hv8.out]; omega
              have hS9 := hS7.no (p := p) hv4
              generalize routeS 4 S7 p (v / 256) = S9 at hR9 hS9
              go_wp2
              go_roundw
              case rel => exact ⟨i + 1, by omega, by go_num, _, _, _, hS9, hR9⟩
              case measure => simp [intOf]; omega
          · go_wp2
            go_roundw
            case rel => exact ⟨i + 1, by omega, by go_num, _, _, _, hS7, hP⟩
            case measure => simp [intOf]; omega
        · have hout : ¬ (i : Int) < ids.length ∨ ((i : Int) < ids.length ∧ ¬ (i : Int) < vs.length) ∨ ((i : Int) < ids.length ∧ (i : Int) < vs.length ∧ ¬ (i : Int) < 60) := by omega
          have hC3 : ∀ w, RkW W b g t q1 q2 rk tg S w → Calls Tryz.prog 26 #[ptr b 0] w fun e w' => e = .returned (ptr g 0) ∧ w' = w := fun w h => by
            obtain ⟨Y, K⟩ := h.bus
            exact bgic_c K.at_
          clear hend
          rcases hout with hx1 | ⟨hx1, hx2⟩ | ⟨hx1, hx2, hx3⟩
          · go_wp2
            go_loopw [16] (fun s16 wr => ∃ id : Nat, id ≤ 64 ∧ s16 = .int .i64 id ∧ Hid (RkW W b g t q1 q2 rk tg S wr)) (fun s16 _ => 64 - (intOf s16).toNat)
            case atStart => exact ⟨0, by omega, rfl, hR⟩
            case round =>
              clear hR
              obtain ⟨id, hidle, rfl, hM⟩ := hrel
              have hR := hM.out
              clear hM
              by_cases hlt : (id : Int) < 64
              · have hid : id < 64 := by omega
                obtain ⟨Y, K⟩ := hR.bus
                have e1 : wrap64 (8 * (id : Int)) = 8 * (id : Int) := IntWalk.wrap64_in _ ⟨by omega, by omega⟩
                have e2 : IntKind.u64.wrap (8 * (id : Int)) = 8 * (id : Int) := by rw [IntKind.wrap_u64]; omega
                have e3 : IntKind.u64.wrap (134218240 + 8 * (id : Int)) = 134218240 + 8 * (id : Int) := by rw [IntKind.wrap_u64]; omega
                have hm := bread_c K.at_ c (134218240 + 8 * (id : Int))
                rw [(rd_rank hS hc hid).2, (rd_rank hS hc hid).1] at hm
                have hrk := hS.r id hid
                generalize hrv : ((rk id : Nat) : Int) = rv at hm hrk
                have ew : wrap64 rv = rv := IntWalk.wrap64_in _ ⟨by omega, by omega⟩
                have ewi : IntKind.i64.wrap rv = rv := by rw [IntKind.wrap_i64]; omega
                have hrate : ∀ w, RkW W b g t q1 q2 rk tg S w → Calls Tryz.prog 36 #[ptr g 0, vI c, vI id] w fun e w' => e = .returned (vI rv) ∧ Below w.heap.size w w' := fun w h => by
                  obtain ⟨Y, K⟩ := h.bus
                  have := rate_c K.at_.gic c id
                  rw [hrk.1] at this
                  exact this
                replace hrv := show Hid _ from hrv
                clear hrk
                go_upto_region 28 with (first | (go_at_call 13; refine hm.mono ?_; rintro e w5 ⟨rfl, hB⟩; dsimp only))
                replace hR := hR.grow hB
                clear hB hm K e1 e2 e3
                refine RelG.wp_region_rel RelG.Grows (RkW W b g t q1 q2 rk tg S) [.inl (vI 0), .inl (.bool false), .inl (.bool false), .inl (vU rv), .inl (vI id), .inl (ptr q1 id), .inl (vU rv), .inl (.bool false), .inl (.bool false), .inl (.bool false), .inl (ptr b 0), .inl (ptr g 0), .inl (vI c), .inl (vI id), .inl (vI rv), .inl (vI id), .inl (ptr q1 id), .inl (vU rv), .inl (vI rv), .inl (.bool false), .inl (.bool false)] (by kernel_rfl) (by kernel_rfl) RelG.grows_refl (fun _ _ h hb => h.grow hb) (hR.grow ⟨rfl, rfl, rfl, Nat.le_refl _, fun _ _ => rfl⟩) (by simp [RelG.upK]) ?_
                refine ⟨fun w3 hC _ => RelG.uponG_yes rfl ((by go_simp; first | exact RelG.grows_refl _ | exact ⟨RelG.grows_refl _, rfl⟩ | exact ⟨RelG.grows_refl _, ewi⟩)), ?_⟩
                simp only [Act.put, List.setIfInBounds_toArray, List.set_cons_succ, List.set_cons_zero]
                refine ⟨fun w3 hC _ => RelG.uponG_yes rfl ((by go_simp; first | exact RelG.grows_refl _ | exact ⟨RelG.grows_refl _, rfl⟩ | exact ⟨RelG.grows_refl _, ewi⟩)), ?_⟩
                simp only [Act.put, List.setIfInBounds_toArray, List.set_cons_succ, List.set_cons_zero]
                refine ⟨fun w3 hC _ => RelG.uponG_yes rfl ((by go_simp; first | exact RelG.grows_refl _ | exact ⟨RelG.grows_refl _, rfl⟩ | exact ⟨RelG.grows_refl _, ewi⟩)), ?_⟩
                simp only [Act.put, List.setIfInBounds_toArray, List.set_cons_succ, List.set_cons_zero]
                refine ⟨fun w3 hC _ => RelG.uponG_yes rfl ((by go_simp; first | exact RelG.grows_refl _ | exact ⟨RelG.grows_refl _, rfl⟩ | exact ⟨RelG.grows_refl _, ewi⟩)), ?_⟩
                simp only [Act.put, List.setIfInBounds_toArray, List.set_cons_succ, List.set_cons_zero]
                refine ⟨fun w3 hC _ => RelG.uponG_yes rfl ((by go_simp; first | exact RelG.grows_refl _ | exact ⟨RelG.grows_refl _, rfl⟩ | exact ⟨RelG.grows_refl _, ewi⟩)), ?_⟩
                simp only [Act.put, List.setIfInBounds_toArray, List.set_cons_succ, List.set_cons_zero]
                refine ⟨fun w3 hC _ => RelG.uponG_yes rfl ((by go_simp; first | exact RelG.grows_refl _ | exact ⟨RelG.grows_refl _, rfl⟩ | exact ⟨RelG.grows_refl _, ewi⟩)), ?_⟩
                simp only [Act.put, List.setIfInBounds_toArray, List.set_cons_succ, List.set_cons_zero]
                refine ⟨fun w3 hC _ => RelG.uponG_yes rfl ((by have z := hC.a1.cell hid; rw [hrv.out] at z; go_simp; first | exact RelG.grows_refl _ | exact ⟨RelG.grows_refl _, rfl⟩ | exact ⟨RelG.grows_refl _, ewi⟩)), ?_⟩
                simp only [Act.put, List.setIfInBounds_toArray, List.set_cons_succ, List.set_cons_zero]
                refine ⟨fun w3 hC _ => RelG.uponG_yes rfl ((by go_simp; first | exact RelG.grows_refl _ | exact ⟨RelG.grows_refl _, rfl⟩ | exact ⟨RelG.grows_refl _, ewi⟩)), ?_⟩
                simp only [Act.put, List.setIfInBounds_toArray, List.set_cons_succ, List.set_cons_zero]
                refine ⟨fun w3 hC _ => RelG.uponG_yes rfl ((by go_simp; first | exact RelG.grows_refl _ | exact ⟨RelG.grows_refl _, rfl⟩ | exact ⟨RelG.grows_refl _, ewi⟩)), ?_⟩
                simp only [Act.put, List.setIfInBounds_toArray, List.set_cons_succ, List.set_cons_zero]
                refine ⟨fun w3 hC _ => RelG.uponG_yes rfl ((by go_simp; first | exact RelG.grows_refl _ | exact ⟨RelG.grows_refl _, rfl⟩ | exact ⟨RelG.grows_refl _, ewi⟩)), ?_⟩
                simp only [Act.put, List.setIfInBounds_toArray, List.set_cons_succ, List.set_cons_zero]
                refine ⟨fun w3 hC _ => RelG.uponG_yes rfl ((by go_simp; first | exact RelG.grows_refl _ | exact ⟨RelG.grows_refl _, rfl⟩ | exact ⟨RelG.grows_refl _, ewi⟩)), ?_⟩
                simp only [Act.put, List.setIfInBounds_toArray, List.set_cons_succ, List.set_cons_zero]
                refine ⟨fun w3 hC _ => RelG.uponG_yes rfl ((by go_simp; refine (hC3 w3 hC).mono ?_; rintro e w4 ⟨rfl, rfl⟩; exact ⟨rfl, RelG.grows_refl _⟩)), ?_⟩
                simp only [Act.put, List.setIfInBounds_toArray, List.set_cons_succ, List.set_cons_zero]
                refine ⟨fun w3 hC _ => RelG.uponG_yes rfl ((by go_simp; first | exact RelG.grows_refl _ | exact ⟨RelG.grows_refl _, rfl⟩ | exact ⟨RelG.grows_refl _, ewi⟩)), ?_⟩
                simp only [Act.put, List.setIfInBounds_toArray, List.set_cons_succ, List.set_cons_zero]
                refine ⟨fun w3 hC _ => RelG.uponG_yes rfl ((by go_simp; first | exact RelG.grows_refl _ | exact ⟨RelG.grows_refl _, rfl⟩ | exact ⟨RelG.grows_refl _, ewi⟩)), ?_⟩
                simp only [Act.put, List.setIfInBounds_toArray, List.set_cons_succ, List.set_cons_zero]
                refine ⟨fun w3 hC _ => RelG.uponG_yes rfl ((by go_simp; refine (hrate w3 hC).mono ?_; rintro e w4 ⟨rfl, hb⟩; exact ⟨rfl, hb⟩)), ?_⟩
                simp only [Act.put, List.setIfInBounds_toArray, List.set_cons_succ, List.set_cons_zero]
                refine ⟨fun w3 hC _ => RelG.uponG_yes rfl ((by go_simp; first | exact RelG.grows_refl _ | exact ⟨RelG.grows_refl _, rfl⟩ | exact ⟨RelG.grows_refl _, ewi⟩)), ?_⟩
                simp only [Act.put, List.setIfInBounds_toArray, List.set_cons_succ, List.set_cons_zero]
                refine ⟨fun w3 hC _ => RelG.uponG_yes rfl ((by go_simp; first | exact RelG.grows_refl _ | exact ⟨RelG.grows_refl _, rfl⟩ | exact ⟨RelG.grows_refl _, ewi⟩)), ?_⟩
                simp only [Act.put, List.setIfInBounds_toArray, List.set_cons_succ, List.set_cons_zero]
                refine ⟨fun w3 hC _ => RelG.uponG_yes rfl ((by have z := hC.a1.cell hid; rw [hrv.out] at z; go_simp; first | exact RelG.grows_refl _ | exact ⟨RelG.grows_refl _, rfl⟩ | exact ⟨RelG.grows_refl _, ewi⟩)), ?_⟩
                simp only [Act.put, List.setIfInBounds_toArray, List.set_cons_succ, List.set_cons_zero]
                refine ⟨fun w3 hC _ => RelG.uponG_yes rfl ((by go_simp; first | exact RelG.grows_refl _ | exact ⟨RelG.grows_refl _, rfl⟩ | exact ⟨RelG.grows_refl _, ewi⟩)), ?_⟩
                simp only [Act.put, List.setIfInBounds_toArray, List.set_cons_succ, List.set_cons_zero]
                refine ⟨fun w3 hC _ => RelG.uponG_yes rfl ((by go_simp; first | exact RelG.grows_refl _ | exact ⟨RelG.grows_refl _, rfl⟩ | exact ⟨RelG.grows_refl _, ewi⟩)), ?_⟩
                simp only [Act.put, List.setIfInBounds_toArray, List.set_cons_succ, List.set_cons_zero]
                refine ⟨fun w3 hC _ => RelG.uponG_yes rfl ((by go_simp; first | exact RelG.grows_refl _ | exact ⟨RelG.grows_refl _, rfl⟩ | exact ⟨RelG.grows_refl _, ewi⟩)), ?_⟩
                simp only [Act.put, List.setIfInBounds_toArray, List.set_cons_succ, List.set_cons_zero]
                clear hR
                intro w9 hR _
                go_upto_region 30 with fail
                by_cases h32 : 32 ≤ (id : Int)
                · obtain ⟨p, rfl⟩ : ∃ p, id = 32 + p := ⟨id - 32, by omega⟩
                  have hp : p < 32 := by omega
                  have i1 : wrap64 (((32 + p : Nat) : Int) - 32) = (p : Int) := by rw [IntWalk.wrap64_in _ ⟨by omega, by omega⟩]; omega
                  have e1 : wrap64 (8 * (p : Int)) = 8 * (p : Int) := IntWalk.wrap64_in _ ⟨by omega, by omega⟩
                  have e2 : IntKind.u64.wrap (8 * (p : Int)) = 8 * (p : Int) := by rw [IntKind.wrap_u64]; omega
                  have e3 : IntKind.u64.wrap (134218752 + 8 * (p : Int)) = 134218752 + 8 * (p : Int) := by rw [IntKind.wrap_u64]; omega
                  obtain ⟨Y, K⟩ := hR.bus
                  have hm := bread_c K.at_ c (134218752 + 8 * (p : Int))
                  rw [(rd_route hS hc hp).2, (rd_route hS hc hp).1] at hm
                  generalize htv : ((tg (32 + p) : Nat) : Int) = tv at hm
                  replace htv := show Hid _ from htv
                  have hb1 : decide ((32 : Int) ≤ ((32 + p : Nat) : Int)) = true := decide_eq_true h32
                  clear hrate ew ewi hlt
                  generalize hid' : ((32 + p : Nat) : Int) = iid at *
                  replace hid' := show Hid _ from hid'
                  go_upto_region 31 with fail
                  go_upto_region 32 with (first | (go_at_call 13; refine hm.mono ?_; rintro e w5 ⟨rfl, hB⟩; dsimp only))
                  replace hR := hR.grow hB
                  have z2 := hR.a2.cell hid
                  rw [htv.out] at z2
                  clear hB hm K e1 e2 e3 i1 hb1
                  have hid2 := hid'.out
                  subst hid2
                  go_wp2
                  go_roundw
                  case rel => exact ⟨32 + p + 1, by omega, by go_num, hR⟩
                  case measure => simp [intOf]; omega
                · go_wp2
                  go_roundw
                  case rel => exact ⟨id + 1, by omega, by go_num, hR⟩
                  case measure => simp [intOf]; omega
              · obtain rfl : id = 64 := by omega
                go_wp2
                go_ret
                exact ⟨rfl, hR.bel⟩
          · go_wp2
            go_loopw [16] (fun s16 wr => ∃ id : Nat, id ≤ 64 ∧ s16 = .int .i64 id ∧ Hid (RkW W b g t q1 q2 rk tg S wr)) (fun s16 _ => 64 - (intOf s16).toNat)
            case atStart => exact ⟨0, by omega, rfl, hR⟩
            case round =>
              clear hR
              obtain ⟨id, hidle, rfl, hM⟩ := hrel
              have hR := hM.out
              clear hM
              by_cases hlt : (id : Int) < 64
              · have hid : id < 64 := by omega
                obtain ⟨Y, K⟩ := hR.bus
                have e1 : wrap64 (8 * (id : Int)) = 8 * (id : Int) := IntWalk.wrap64_in _ ⟨by omega, by omega⟩
                have e2 : IntKind.u64.wrap (8 * (id : Int)) = 8 * (id : Int) := by rw [IntKind.wrap_u64]; omega
                have e3 : IntKind.u64.wrap (134218240 + 8 * (id : Int)) = 134218240 + 8 * (id : Int) := by rw [IntKind.wrap_u64]; omega
                have hm := bread_c K.at_ c (134218240 + 8 * (id : Int))
                rw [(rd_rank hS hc hid).2, (rd_rank hS hc hid).1] at hm
                have hrk := hS.r id hid
                generalize hrv : ((rk id : Nat) : Int) = rv at hm hrk
                have ew : wrap64 rv = rv := IntWalk.wrap64_in _ ⟨by omega, by omega⟩
                have ewi : IntKind.i64.wrap rv = rv := by rw [IntKind.wrap_i64]; omega
                have hrate : ∀ w, RkW W b g t q1 q2 rk tg S w → Calls Tryz.prog 36 #[ptr g 0, vI c, vI id] w fun e w' => e = .returned (vI rv) ∧ Below w.heap.size w w' := fun w h => by
                  obtain ⟨Y, K⟩ := h.bus
                  have := rate_c K.at_.gic c id
                  rw [hrk.1] at this
                  exact this
                replace hrv := show Hid _ from hrv
                clear hrk
                go_upto_region 28 with (first | (go_at_call 13; refine hm.mono ?_; rintro e w5 ⟨rfl, hB⟩; dsimp only))
                replace hR := hR.grow hB
                clear hB hm K e1 e2 e3
                refine RelG.wp_region_rel RelG.Grows (RkW W b g t q1 q2 rk tg S) [.inl (vI 0), .inl (.bool false), .inl (.bool false), .inl (vU rv), .inl (vI id), .inl (ptr q1 id), .inl (vU rv), .inl (.bool false), .inl (.bool false), .inl (.bool false), .inl (ptr b 0), .inl (ptr g 0), .inl (vI c), .inl (vI id), .inl (vI rv), .inl (vI id), .inl (ptr q1 id), .inl (vU rv), .inl (vI rv), .inl (.bool false), .inl (.bool false)] (by kernel_rfl) (by kernel_rfl) RelG.grows_refl (fun _ _ h hb => h.grow hb) (hR.grow ⟨rfl, rfl, rfl, Nat.le_refl _, fun _ _ => rfl⟩) (by simp [RelG.upK]) ?_
                refine ⟨fun w3 hC _ => RelG.uponG_yes rfl ((by go_simp; first | exact RelG.grows_refl _ | exact ⟨RelG.grows_refl _, rfl⟩ | exact ⟨RelG.grows_refl _, ewi⟩)), ?_⟩
                simp only [Act.put, List.setIfInBounds_toArray, List.set_cons_succ, List.set_cons_zero]
                refine ⟨fun w3 hC _ => RelG.uponG_yes rfl ((by go_simp; first | exact RelG.grows_refl _ | exact ⟨RelG.grows_refl _, rfl⟩ | exact ⟨RelG.grows_refl _, ewi⟩)), ?_⟩
                simp only [Act.put, List.setIfInBounds_toArray, List.set_cons_succ, List.set_cons_zero]
                refine ⟨fun w3 hC _ => RelG.uponG_yes rfl ((by go_simp; first | exact RelG.grows_refl _ | exact ⟨RelG.grows_refl _, rfl⟩ | exact ⟨RelG.grows_refl _, ewi⟩)), ?_⟩
                simp only [Act.put, List.setIfInBounds_toArray, List.set_cons_succ, List.set_cons_zero]
                refine ⟨fun w3 hC _ => RelG.uponG_yes rfl ((by go_simp; first | exact RelG.grows_refl _ | exact ⟨RelG.grows_refl _, rfl⟩ | exact ⟨RelG.grows_refl _, ewi⟩)), ?_⟩
                simp only [Act.put, List.setIfInBounds_toArray, List.set_cons_succ, List.set_cons_zero]
                refine ⟨fun w3 hC _ => RelG.uponG_yes rfl ((by go_simp; first | exact RelG.grows_refl _ | exact ⟨RelG.grows_refl _, rfl⟩ | exact ⟨RelG.grows_refl _, ewi⟩)), ?_⟩
                simp only [Act.put, List.setIfInBounds_toArray, List.set_cons_succ, List.set_cons_zero]
                refine ⟨fun w3 hC _ => RelG.uponG_yes rfl ((by go_simp; first | exact RelG.grows_refl _ | exact ⟨RelG.grows_refl _, rfl⟩ | exact ⟨RelG.grows_refl _, ewi⟩)), ?_⟩
                simp only [Act.put, List.setIfInBounds_toArray, List.set_cons_succ, List.set_cons_zero]
                refine ⟨fun w3 hC _ => RelG.uponG_yes rfl ((by have z := hC.a1.cell hid; rw [hrv.out] at z; go_simp; first | exact RelG.grows_refl _ | exact ⟨RelG.grows_refl _, rfl⟩ | exact ⟨RelG.grows_refl _, ewi⟩)), ?_⟩
                simp only [Act.put, List.setIfInBounds_toArray, List.set_cons_succ, List.set_cons_zero]
                refine ⟨fun w3 hC _ => RelG.uponG_yes rfl ((by go_simp; first | exact RelG.grows_refl _ | exact ⟨RelG.grows_refl _, rfl⟩ | exact ⟨RelG.grows_refl _, ewi⟩)), ?_⟩
                simp only [Act.put, List.setIfInBounds_toArray, List.set_cons_succ, List.set_cons_zero]
                refine ⟨fun w3 hC _ => RelG.uponG_yes rfl ((by go_simp; first | exact RelG.grows_refl _ | exact ⟨RelG.grows_refl _, rfl⟩ | exact ⟨RelG.grows_refl _, ewi⟩)), ?_⟩
                simp only [Act.put, List.setIfInBounds_toArray, List.set_cons_succ, List.set_cons_zero]
                refine ⟨fun w3 hC _ => RelG.uponG_yes rfl ((by go_simp; first | exact RelG.grows_refl _ | exact ⟨RelG.grows_refl _, rfl⟩ | exact ⟨RelG.grows_refl _, ewi⟩)), ?_⟩
                simp only [Act.put, List.setIfInBounds_toArray, List.set_cons_succ, List.set_cons_zero]
                refine ⟨fun w3 hC _ => RelG.uponG_yes rfl ((by go_simp; first | exact RelG.grows_refl _ | exact ⟨RelG.grows_refl _, rfl⟩ | exact ⟨RelG.grows_refl _, ewi⟩)), ?_⟩
                simp only [Act.put, List.setIfInBounds_toArray, List.set_cons_succ, List.set_cons_zero]
                refine ⟨fun w3 hC _ => RelG.uponG_yes rfl ((by go_simp; refine (hC3 w3 hC).mono ?_; rintro e w4 ⟨rfl, rfl⟩; exact ⟨rfl, RelG.grows_refl _⟩)), ?_⟩
                simp only [Act.put, List.setIfInBounds_toArray, List.set_cons_succ, List.set_cons_zero]
                refine ⟨fun w3 hC _ => RelG.uponG_yes rfl ((by go_simp; first | exact RelG.grows_refl _ | exact ⟨RelG.grows_refl _, rfl⟩ | exact ⟨RelG.grows_refl _, ewi⟩)), ?_⟩
                simp only [Act.put, List.setIfInBounds_toArray, List.set_cons_succ, List.set_cons_zero]
                refine ⟨fun w3 hC _ => RelG.uponG_yes rfl ((by go_simp; first | exact RelG.grows_refl _ | exact ⟨RelG.grows_refl _, rfl⟩ | exact ⟨RelG.grows_refl _, ewi⟩)), ?_⟩
                simp only [Act.put, List.setIfInBounds_toArray, List.set_cons_succ, List.set_cons_zero]
                refine ⟨fun w3 hC _ => RelG.uponG_yes rfl ((by go_simp; refine (hrate w3 hC).mono ?_; rintro e w4 ⟨rfl, hb⟩; exact ⟨rfl, hb⟩)), ?_⟩
                simp only [Act.put, List.setIfInBounds_toArray, List.set_cons_succ, List.set_cons_zero]
                refine ⟨fun w3 hC _ => RelG.uponG_yes rfl ((by go_simp; first | exact RelG.grows_refl _ | exact ⟨RelG.grows_refl _, rfl⟩ | exact ⟨RelG.grows_refl _, ewi⟩)), ?_⟩
                simp only [Act.put, List.setIfInBounds_toArray, List.set_cons_succ, List.set_cons_zero]
                refine ⟨fun w3 hC _ => RelG.uponG_yes rfl ((by go_simp; first | exact RelG.grows_refl _ | exact ⟨RelG.grows_refl _, rfl⟩ | exact ⟨RelG.grows_refl _, ewi⟩)), ?_⟩
                simp only [Act.put, List.setIfInBounds_toArray, List.set_cons_succ, List.set_cons_zero]
                refine ⟨fun w3 hC _ => RelG.uponG_yes rfl ((by have z := hC.a1.cell hid; rw [hrv.out] at z; go_simp; first | exact RelG.grows_refl _ | exact ⟨RelG.grows_refl _, rfl⟩ | exact ⟨RelG.grows_refl _, ewi⟩)), ?_⟩
                simp only [Act.put, List.setIfInBounds_toArray, List.set_cons_succ, List.set_cons_zero]
                refine ⟨fun w3 hC _ => RelG.uponG_yes rfl ((by go_simp; first | exact RelG.grows_refl _ | exact ⟨RelG.grows_refl _, rfl⟩ | exact ⟨RelG.grows_refl _, ewi⟩)), ?_⟩
                simp only [Act.put, List.setIfInBounds_toArray, List.set_cons_succ, List.set_cons_zero]
                refine ⟨fun w3 hC _ => RelG.uponG_yes rfl ((by go_simp; first | exact RelG.grows_refl _ | exact ⟨RelG.grows_refl _, rfl⟩ | exact ⟨RelG.grows_refl _, ewi⟩)), ?_⟩
                simp only [Act.put, List.setIfInBounds_toArray, List.set_cons_succ, List.set_cons_zero]
                refine ⟨fun w3 hC _ => RelG.uponG_yes rfl ((by go_simp; first | exact RelG.grows_refl _ | exact ⟨RelG.grows_refl _, rfl⟩ | exact ⟨RelG.grows_refl _, ewi⟩)), ?_⟩
                simp only [Act.put, List.setIfInBounds_toArray, List.set_cons_succ, List.set_cons_zero]
                clear hR
                intro w9 hR _
                go_upto_region 30 with fail
                by_cases h32 : 32 ≤ (id : Int)
                · obtain ⟨p, rfl⟩ : ∃ p, id = 32 + p := ⟨id - 32, by omega⟩
                  have hp : p < 32 := by omega
                  have i1 : wrap64 (((32 + p : Nat) : Int) - 32) = (p : Int) := by rw [IntWalk.wrap64_in _ ⟨by omega, by omega⟩]; omega
                  have e1 : wrap64 (8 * (p : Int)) = 8 * (p : Int) := IntWalk.wrap64_in _ ⟨by omega, by omega⟩
                  have e2 : IntKind.u64.wrap (8 * (p : Int)) = 8 * (p : Int) := by rw [IntKind.wrap_u64]; omega
                  have e3 : IntKind.u64.wrap (134218752 + 8 * (p : Int)) = 134218752 + 8 * (p : Int) := by rw [IntKind.wrap_u64]; omega
                  obtain ⟨Y, K⟩ := hR.bus
                  have hm := bread_c K.at_ c (134218752 + 8 * (p : Int))
                  rw [(rd_route hS hc hp).2, (rd_route hS hc hp).1] at hm
                  generalize htv : ((tg (32 + p) : Nat) : Int) = tv at hm
                  replace htv := show Hid _ from htv
                  have hb1 : decide ((32 : Int) ≤ ((32 + p : Nat) : Int)) = true := decide_eq_true h32
                  clear hrate ew ewi hlt
                  generalize hid' : ((32 + p : Nat) : Int) = iid at *
                  replace hid' := show Hid _ from hid'
                  go_upto_region 31 with fail
                  go_upto_region 32 with (first | (go_at_call 13; refine hm.mono ?_; rintro e w5 ⟨rfl, hB⟩; dsimp only))
                  replace hR := hR.grow hB
                  have z2 := hR.a2.cell hid
                  rw [htv.out] at z2
                  clear hB hm K e1 e2 e3 i1 hb1
                  have hid2 := hid'.out
                  subst hid2
                  go_wp2
                  go_roundw
                  case rel => exact ⟨32 + p + 1, by omega, by go_num, hR⟩
                  case measure => simp [intOf]; omega
                · go_wp2
                  go_roundw
                  case rel => exact ⟨id + 1, by omega, by go_num, hR⟩
                  case measure => simp [intOf]; omega
              · obtain rfl : id = 64 := by omega
                go_wp2
                go_ret
                exact ⟨rfl, hR.bel⟩
          · go_wp2
            go_loopw [16] (fun s16 wr => ∃ id : Nat, id ≤ 64 ∧ s16 = .int .i64 id ∧ Hid (RkW W b g t q1 q2 rk tg S wr)) (fun s16 _ => 64 - (intOf s16).toNat)
            case atStart => exact ⟨0, by omega, rfl, hR⟩
            case round =>
              clear hR
              obtain ⟨id, hidle, rfl, hM⟩ := hrel
              have hR := hM.out
              clear hM
              by_cases hlt : (id : Int) < 64
              · have hid : id < 64 := by omega
                obtain ⟨Y, K⟩ := hR.bus
                have e1 : wrap64 (8 * (id : Int)) = 8 * (id : Int) := IntWalk.wrap64_in _ ⟨by omega, by omega⟩
                have e2 : IntKind.u64.wrap (8 * (id : Int)) = 8 * (id : Int) := by rw [IntKind.wrap_u64]; omega
                have e3 : IntKind.u64.wrap (134218240 + 8 * (id : Int)) = 134218240 + 8 * (id : Int) := by rw [IntKind.wrap_u64]; omega
                have hm := bread_c K.at_ c (134218240 + 8 * (id : Int))
                rw [(rd_rank hS hc hid).2, (rd_rank hS hc hid).1] at hm
                have hrk := hS.r id hid
                generalize hrv : ((rk id : Nat) : Int) = rv at hm hrk
                have ew : wrap64 rv = rv := IntWalk.wrap64_in _ ⟨by omega, by omega⟩
                have ewi : IntKind.i64.wrap rv = rv := by rw [IntKind.wrap_i64]; omega
                have hrate : ∀ w, RkW W b g t q1 q2 rk tg S w → Calls Tryz.prog 36 #[ptr g 0, vI c, vI id] w fun e w' => e = .returned (vI rv) ∧ Below w.heap.size w w' := fun w h => by
                  obtain ⟨Y, K⟩ := h.bus
                  have := rate_c K.at_.gic c id
                  rw [hrk.1] at this
                  exact this
                replace hrv := show Hid _ from hrv
                clear hrk
                go_upto_region 28 with (first | (go_at_call 13; refine hm.mono ?_; rintro e w5 ⟨rfl, hB⟩; dsimp only))
                replace hR := hR.grow hB
                clear hB hm K e1 e2 e3
                refine RelG.wp_region_rel RelG.Grows (RkW W b g t q1 q2 rk tg S) [.inl (vI 0), .inl (.bool false), .inl (.bool false), .inl (vU rv), .inl (vI id), .inl (ptr q1 id), .inl (vU rv), .inl (.bool false), .inl (.bool false), .inl (.bool false), .inl (ptr b 0), .inl (ptr g 0), .inl (vI c), .inl (vI id), .inl (vI rv), .inl (vI id), .inl (ptr q1 id), .inl (vU rv), .inl (vI rv), .inl (.bool false), .inl (.bool false)] (by kernel_rfl) (by kernel_rfl) RelG.grows_refl (fun _ _ h hb => h.grow hb) (hR.grow ⟨rfl, rfl, rfl, Nat.le_refl _, fun _ _ => rfl⟩) (by simp [RelG.upK]) ?_
                refine ⟨fun w3 hC _ => RelG.uponG_yes rfl ((by go_simp; first | exact RelG.grows_refl _ | exact ⟨RelG.grows_refl _, rfl⟩ | exact ⟨RelG.grows_refl _, ewi⟩)), ?_⟩
                simp only [Act.put, List.setIfInBounds_toArray, List.set_cons_succ, List.set_cons_zero]
                refine ⟨fun w3 hC _ => RelG.uponG_yes rfl ((by go_simp; first | exact RelG.grows_refl _ | exact ⟨RelG.grows_refl _, rfl⟩ | exact ⟨RelG.grows_refl _, ewi⟩)), ?_⟩
                simp only [Act.put, List.setIfInBounds_toArray, List.set_cons_succ, List.set_cons_zero]
                refine ⟨fun w3 hC _ => RelG.uponG_yes rfl ((by go_simp; first | exact RelG.grows_refl _ | exact ⟨RelG.grows_refl _, rfl⟩ | exact ⟨RelG.grows_refl _, ewi⟩)), ?_⟩
                simp only [Act.put, List.setIfInBounds_toArray, List.set_cons_succ, List.set_cons_zero]
                refine ⟨fun w3 hC _ => RelG.uponG_yes rfl ((by go_simp; first | exact RelG.grows_refl _ | exact ⟨RelG.grows_refl _, rfl⟩ | exact ⟨RelG.grows_refl _, ewi⟩)), ?_⟩
                simp only [Act.put, List.setIfInBounds_toArray, List.set_cons_succ, List.set_cons_zero]
                refine ⟨fun w3 hC _ => RelG.uponG_yes rfl ((by go_simp; first | exact RelG.grows_refl _ | exact ⟨RelG.grows_refl _, rfl⟩ | exact ⟨RelG.grows_refl _, ewi⟩)), ?_⟩
                simp only [Act.put, List.setIfInBounds_toArray, List.set_cons_succ, List.set_cons_zero]
                refine ⟨fun w3 hC _ => RelG.uponG_yes rfl ((by go_simp; first | exact RelG.grows_refl _ | exact ⟨RelG.grows_refl _, rfl⟩ | exact ⟨RelG.grows_refl _, ewi⟩)), ?_⟩
                simp only [Act.put, List.setIfInBounds_toArray, List.set_cons_succ, List.set_cons_zero]
                refine ⟨fun w3 hC _ => RelG.uponG_yes rfl ((by have z := hC.a1.cell hid; rw [hrv.out] at z; go_simp; first | exact RelG.grows_refl _ | exact ⟨RelG.grows_refl _, rfl⟩ | exact ⟨RelG.grows_refl _, ewi⟩)), ?_⟩
                simp only [Act.put, List.setIfInBounds_toArray, List.set_cons_succ, List.set_cons_zero]
                refine ⟨fun w3 hC _ => RelG.uponG_yes rfl ((by go_simp; first | exact RelG.grows_refl _ | exact ⟨RelG.grows_refl _, rfl⟩ | exact ⟨RelG.grows_refl _, ewi⟩)), ?_⟩
                simp only [Act.put, List.setIfInBounds_toArray, List.set_cons_succ, List.set_cons_zero]
                refine ⟨fun w3 hC _ => RelG.uponG_yes rfl ((by go_simp; first | exact RelG.grows_refl _ | exact ⟨RelG.grows_refl _, rfl⟩ | exact ⟨RelG.grows_refl _, ewi⟩)), ?_⟩
                simp only [Act.put, List.setIfInBounds_toArray, List.set_cons_succ, List.set_cons_zero]
                refine ⟨fun w3 hC _ => RelG.uponG_yes rfl ((by go_simp; first | exact RelG.grows_refl _ | exact ⟨RelG.grows_refl _, rfl⟩ | exact ⟨RelG.grows_refl _, ewi⟩)), ?_⟩
                simp only [Act.put, List.setIfInBounds_toArray, List.set_cons_succ, List.set_cons_zero]
                refine ⟨fun w3 hC _ => RelG.uponG_yes rfl ((by go_simp; first | exact RelG.grows_refl _ | exact ⟨RelG.grows_refl _, rfl⟩ | exact ⟨RelG.grows_refl _, ewi⟩)), ?_⟩
                simp only [Act.put, List.setIfInBounds_toArray, List.set_cons_succ, List.set_cons_zero]
                refine ⟨fun w3 hC _ => RelG.uponG_yes rfl ((by go_simp; refine (hC3 w3 hC).mono ?_; rintro e w4 ⟨rfl, rfl⟩; exact ⟨rfl, RelG.grows_refl _⟩)), ?_⟩
                simp only [Act.put, List.setIfInBounds_toArray, List.set_cons_succ, List.set_cons_zero]
                refine ⟨fun w3 hC _ => RelG.uponG_yes rfl ((by go_simp; first | exact RelG.grows_refl _ | exact ⟨RelG.grows_refl _, rfl⟩ | exact ⟨RelG.grows_refl _, ewi⟩)), ?_⟩
                simp only [Act.put, List.setIfInBounds_toArray, List.set_cons_succ, List.set_cons_zero]
                refine ⟨fun w3 hC _ => RelG.uponG_yes rfl ((by go_simp; first | exact RelG.grows_refl _ | exact ⟨RelG.grows_refl _, rfl⟩ | exact ⟨RelG.grows_refl _, ewi⟩)), ?_⟩
                simp only [Act.put, List.setIfInBounds_toArray, List.set_cons_succ, List.set_cons_zero]
                refine ⟨fun w3 hC _ => RelG.uponG_yes rfl ((by go_simp; refine (hrate w3 hC).mono ?_; rintro e w4 ⟨rfl, hb⟩; exact ⟨rfl, hb⟩)), ?_⟩
                simp only [Act.put, List.setIfInBounds_toArray, List.set_cons_succ, List.set_cons_zero]
                refine ⟨fun w3 hC _ => RelG.uponG_yes rfl ((by go_simp; first | exact RelG.grows_refl _ | exact ⟨RelG.grows_refl _, rfl⟩ | exact ⟨RelG.grows_refl _, ewi⟩)), ?_⟩
                simp only [Act.put, List.setIfInBounds_toArray, List.set_cons_succ, List.set_cons_zero]
                refine ⟨fun w3 hC _ => RelG.uponG_yes rfl ((by go_simp; first | exact RelG.grows_refl _ | exact ⟨RelG.grows_refl _, rfl⟩ | exact ⟨RelG.grows_refl _, ewi⟩)), ?_⟩
                simp only [Act.put, List.setIfInBounds_toArray, List.set_cons_succ, List.set_cons_zero]
                refine ⟨fun w3 hC _ => RelG.uponG_yes rfl ((by have z := hC.a1.cell hid; rw [hrv.out] at z; go_simp; first | exact RelG.grows_refl _ | exact ⟨RelG.grows_refl _, rfl⟩ | exact ⟨RelG.grows_refl _, ewi⟩)), ?_⟩
                simp only [Act.put, List.setIfInBounds_toArray, List.set_cons_succ, List.set_cons_zero]
                refine ⟨fun w3 hC _ => RelG.uponG_yes rfl ((by go_simp; first | exact RelG.grows_refl _ | exact ⟨RelG.grows_refl _, rfl⟩ | exact ⟨RelG.grows_refl _, ewi⟩)), ?_⟩
                simp only [Act.put, List.setIfInBounds_toArray, List.set_cons_succ, List.set_cons_zero]
                refine ⟨fun w3 hC _ => RelG.uponG_yes rfl ((by go_simp; first | exact RelG.grows_refl _ | exact ⟨RelG.grows_refl _, rfl⟩ | exact ⟨RelG.grows_refl _, ewi⟩)), ?_⟩
                simp only [Act.put, List.setIfInBounds_toArray, List.set_cons_succ, List.set_cons_zero]
                refine ⟨fun w3 hC _ => RelG.uponG_yes rfl ((by go_simp; first | exact RelG.grows_refl _ | exact ⟨RelG.grows_refl _, rfl⟩ | exact ⟨RelG.grows_refl _, ewi⟩)), ?_⟩
                simp only [Act.put, List.setIfInBounds_toArray, List.set_cons_succ, List.set_cons_zero]
                clear hR
                intro w9 hR _
                go_upto_region 30 with fail
                by_cases h32 : 32 ≤ (id : Int)
                · obtain ⟨p, rfl⟩ : ∃ p, id = 32 + p := ⟨id - 32, by omega⟩
                  have hp : p < 32 := by omega
                  have i1 : wrap64 (((32 + p : Nat) : Int) - 32) = (p : Int) := by rw [IntWalk.wrap64_in _ ⟨by omega, by omega⟩]; omega
                  have e1 : wrap64 (8 * (p : Int)) = 8 * (p : Int) := IntWalk.wrap64_in _ ⟨by omega, by omega⟩
                  have e2 : IntKind.u64.wrap (8 * (p : Int)) = 8 * (p : Int) := by rw [IntKind.wrap_u64]; omega
                  have e3 : IntKind.u64.wrap (134218752 + 8 * (p : Int)) = 134218752 + 8 * (p : Int) := by rw [IntKind.wrap_u64]; omega
                  obtain ⟨Y, K⟩ := hR.bus
                  have hm := bread_c K.at_ c (134218752 + 8 * (p : Int))
                  rw [(rd_route hS hc hp).2, (rd_route hS hc hp).1] at hm
                  generalize htv : ((tg (32 + p) : Nat) : Int) = tv at hm
                  replace htv := show Hid _ from htv
                  have hb1 : decide ((32 : Int) ≤ ((32 + p : Nat) : Int)) = true := decide_eq_true h32
                  clear hrate ew ewi hlt
                  generalize hid' : ((32 + p : Nat) : Int) = iid at *
                  replace hid' := show Hid _ from hid'
                  go_upto_region 31 with fail
                  go_upto_region 32 with (first | (go_at_call 13; refine hm.mono ?_; rintro e w5 ⟨rfl, hB⟩; dsimp only))
                  replace hR := hR.grow hB
                  have z2 := hR.a2.cell hid
                  rw [htv.out] at z2
                  clear hB hm K e1 e2 e3 i1 hb1
                  have hid2 := hid'.out
                  subst hid2
                  go_wp2
                  go_roundw
                  case rel => exact ⟨32 + p + 1, by omega, by go_num, hR⟩
                  case measure => simp [intOf]; omega
                · go_wp2
                  go_roundw
                  case rel => exact ⟨id + 1, by omega, by go_num, hR⟩
                  case measure => simp [intOf]; omega
              · obtain rfl : id = 64 := by omega
                go_wp2
                go_ret
                exact ⟨rfl, hR.bel⟩
end Go.Proofs.YteklkololojamaaGreat
