/- Devices and their registers answer, call by call, just as the chapter says: BusPlays returns true, whatever its arguments. -/
import Derived.Test.YteklkololojamaaGreatXe
import Derived.Test.YteklkololojamaaGreatXf
import Derived.Test.YteklkololojamaaGreatRelG
import Derived.Test.YteklkololojamaaGreatXg
/- Devices and their registers answer as the chapter says: the walk. -/
namespace Go.Proofs.YteklkololojamaaGreat
open Go.RowKit
set_option linter.unusedVariables false
set_option linter.unusedSimpArgs false
set_option maxRecDepth 8000

section
variable {W w w' : World} {b g t d h r n : Nat} {Z : DLay} {Y : BLay} {S S' : Bs} {D D' : Ds} {q : Nat} {o : St5}
theorem BusAt.typ (H : BusAt b g t n S Y w) {k : Nat} (hk : BFoot b g t n Y k) : HasT w k [74, 122, 119, 106, 126, 110, 5] := by
  rcases hk with rfl | (rfl | rfl | ⟨c, hc, e⟩) | (rfl | rfl) | hk
  · exact ⟨_, _, _, H.top, by simp⟩
  · obtain ⟨C, hC, _⟩ := H.gic.top
    exact ⟨_, _, _, hC, by simp⟩
  · obtain ⟨C, hC, _⟩ := H.gic.cor
    exact ⟨_, _, _, hC, by simp⟩
  · obtain ⟨C, _, hC⟩ := own_kind (H.gic.wks c hc) e
    exact ⟨_, _, _, hC, by simp⟩
  · exact ⟨_, _, _, H.tim.top, by simp⟩
  · obtain ⟨C, hC, _⟩ := H.tim.cor
    exact ⟨_, _, _, hC, by simp⟩
  · obtain ⟨C, hC⟩ := H.outBlock hk
    exact ⟨_, _, _, hC, by simp⟩
/-- Both buses beside each other. -/
structure PW (W : World) (b g t d h r n : Nat) (Z : DLay) (S : Bs) (D : Ds) (w : World) : Prop where
  bus : ∃ Y, BK W.heap.size W b g t n S Y w
  doc : DocAt d h r n D Z w
  ft : ∀ k, DFoot d h r n Z k → W.heap.size ≤ k
theorem PW.bel (P : PW W b g t d h r n Z S D w) : Below W.heap.size W w := by
  obtain ⟨Y, K⟩ := P.bus
  exact K.below
theorem PW.grow (P : PW W b g t d h r n Z S D w) (hb : Below w.heap.size w w') : PW W b g t d h r n Z S D w' := by
  obtain ⟨Y, K⟩ := P.bus
  exact ⟨⟨Y, K.grow hb⟩, P.doc.grow hb, P.ft⟩
theorem PW.bt (P : PW W b g t d h r n Z S D w) (K : BK W.heap.size W b g t n S Y w) (hT : BT b g t n Y S' w w') : PW W b g t d h r n Z S' D w' := by
  have hT' := hT
  obtain ⟨Q, h1, h2, h3⟩ := hT
  exact ⟨K.bt hT', P.doc.keep fun k hk => h2.block k (lt_of_T (P.doc.typ hk)) fun hf => (K.at_.typ hf).apart (P.doc.typ hk) (by decide), P.ft⟩
theorem PW.dt (P : PW W b g t d h r n Z S D w) (hT : DT d h r n Z D' w w') : PW W b g t d h r n Z S D' w' := by
  obtain ⟨Y, K⟩ := P.bus
  refine ⟨⟨Y, K.at_.keep fun k hk => hT.2.block k (lt_of_T (K.at_.typ hk)) fun hf => (K.at_.typ hk).apart (P.doc.typ hf) (by decide), K.foot, K.below.trans (hT.2.below (Nat.le_trans K.le K.below.size) P.ft), K.le⟩, hT.1, P.ft⟩
theorem st_bt (h : StAt q o w) (H : BusAt b g t n S Y w) (hT : BT b g t n Y S' w w') : StAt q o w' := by
  obtain ⟨Q, h1, h2, h3⟩ := hT
  unfold StAt
  rw [h2.block q (lt_of_some h) fun hf => (H.typ hf).apart (M := [32]) ⟨_, _, _, h, by simp⟩ (by decide)]
  exact h
theorem st_dt (hs : StAt q o w) (H : DocAt d h r n D Z w) (hT : DT d h r n Z D' w w') : StAt q o w' := by
  unfold StAt
  rw [hT.2.block q (lt_of_some hs) fun hf => (H.typ hf).apart (M := [32]) ⟨_, _, _, hs, by simp⟩ (by decide)]
  exact hs
theorem best_two (H : Lk n S.P D.X) (c : Int) : ∃ (bi : Int) (bs : Bool), (∀ w, Doc.RefAt h n D.X Z.M w → Calls Tryz.prog 25 #[ptr h 0, vI c] w fun e w' => e = .returned (.tuple #[vI bi, .bool bs]) ∧ Below w.heap.size w w') ∧ (∀ L w, GicAt g n S.P L w → Calls Tryz.prog 27 #[ptr g 0, vI c] w fun e w' => e = .returned (.tuple #[vI bi, .bool bs]) ∧ Below w.heap.size w w') := by
  refine ⟨(nextT n S.P c).id, (nextV n S.P c).isSome, fun w h1 => (Doc.best_c h1 c).mono ?_, fun L w h1 => gbest_c h1 c⟩
  rintro e w' ⟨rfl, A⟩
  refine ⟨?_, A.below⟩
  have hb := H.bestV c
  cases hx : nextV n S.P c with
  | none =>
    rw [hx] at hb
    rw [hb, if_pos (by decide), nextT, hx]
    rfl
  | some t =>
    rw [hx] at hb
    have := next_id hx
    rw [hb, if_neg (by dsimp only; omega), nextT, hx]
    rfl
theorem addr_u {m : Int} : U64 (addrV m) := by
  have hk : pickV m 200 < 200 := pick_lt (by decide)
  unfold addrV addrK
  generalize pickV m 200 = k at *
  unfold U64
  split
  · omega
  split
  · omega
  split
  · omega
  split
  · omega
  split
  · omega
  · omega
end

theorem nat_ofB {x : Int} (h : U64 x) : ∃ v : Nat, x = v ∧ v < 2 ^ 64 := ⟨x.toNat, by have := h.1; omega, by have := h.2; omega⟩
theorem WkLe.up {S : Bs} {m : Nat} (H : WkLe S m) : WkLe S (m + 1) := fun c => Nat.le_succ_of_le (H c)
set_option maxHeartbeats 8000000 in
theorem plays_in (n : Nat) (n1 : 1 ≤ n) (n8 : n ≤ 8) (v1 : Value) (ss : List St5) (W : World) (R : Scr W v1 ss) : Calls Tryz.prog 3 #[vI n, v1] W fun e w' => e = .returned (.bool true) ∧ Below W.heap.size W w' := by
  obtain ⟨ao, cap, ev⟩ := R.len
  have hnew := bnew_c n n1 n8
  have hdn := dnew_c n n1 n8
  have i1 : ¬ (n : Int) < 1 := by omega
  have i8 : ¬ 8 < (n : Int) := by omega
  go_enter Tryz.func3, Tryz.ntmps3
  go_upto_region 3 with (first | (go_at_call 8; refine (known_c _).mono ?_; rintro e wk ⟨rfl, HK⟩; dsimp only) | (go_at_call 9; refine (hnew wk).mono ?_; rintro e w1 ⟨b, rfl, g, t, Y, K⟩; dsimp only))
  clear hnew
  replace K : BK W.heap.size W b g t n newS Y w1 := ⟨K.at_, fun k hk => Nat.le_trans HK.size (K.foot k hk), below_then HK (Nat.le_refl _) K.below, Nat.le_refl _⟩
  clear HK
  go_upto_region 8 with (first | (go_at_call 10; refine (hdn w1).mono ?_; rintro e w2 ⟨d, rfl, h, r, Z, D1, B1, F1⟩; dsimp only))
  have P : PW W b g t d h r n Z newS ⟨Doc.newR n, Tim.zeroT, []⟩ w2 := ⟨⟨Y, K.grow B1⟩, D1, fun k hk => Nat.le_trans K.below.size (F1 k hk)⟩
  have hlk := new_lkB n
  have hwk : WkLe newS 0 := fun c => Nat.le_refl _
  clear hdn K D1 B1 F1
  generalize newS = S0 at *
  generalize (⟨Doc.newR n, Tim.zeroT, []⟩ : Ds) = D0 at *
  rw [ev]
  go_wp2
  go_loopw [9] (fun s9 wr => ∃ i : Nat, i ≤ min ss.length 200 ∧ s9 = .int .i64 i ∧ ∃ S D, LkB n S D ∧ WkLe S i ∧ PW W b g t d h r n Z S D wr) (fun s9 _ => 200 - (intOf s9).toNat)
  case atStart => exact ⟨0, Nat.zero_le _, rfl, S0, D0, hlk, hwk, P⟩
  case round =>
    clear P hlk hwk
    obtain ⟨i, hi, rfl, S, D, hlk, hwk, P⟩ := hrel
    by_cases hend : (i : Int) < ss.length ∧ (i : Int) < 200
    · obtain ⟨h1, h2⟩ := hend
      have hs := List.getElem?_eq_getElem (l := ss) (i := i) (by omega)
      generalize ss[i] = o at hs
      obtain ⟨ra, cap2, ev', hc⟩ := R.at P.bel hs
      rw [ev] at ev'
      cases ev'
      have hwf := R.wf o (List.mem_of_getElem? hs)
      obtain ⟨v, hvv, hv⟩ := nat_ofB hwf.v
      replace hi := show Hid _ from hi
      go_upto_region 12 with (first | (refine wpList_load32 rfl _ rfl _ rfl o hc ?_; simp only [Act.put]) | (refine st32 rfl _ _ rfl wr.heap.size rfl o _ (by kernel_rfl) rfl (heap_alloc_new _ _) ?_; simp only [Act.put]))
      generalize hw3 : World.setRow _ _ _ = w3
      have hq : StAt wr.heap.size o w3 := by rw [← hw3]; exact setRow_heap _ _ _ _ _ _ (heap_alloc_new _ _)
      have hB3 : Below wr.heap.size wr w3 := by rw [← hw3]; exact below_setRow (below_alloc _ _) (Nat.le_refl _)
      replace P := P.grow hB3
      clear hw3 hB3 hc hs
      generalize wr.heap.size = q at *
      have hv4 : ∀ {w : World}, w.cell? ⟨q, 4, none⟩ = some (vU o.v) → w.cell? ⟨q, 4, none⟩ = some (vU v) := fun {w} h => by rw [h, hvv]
      clear hvv
      have hau : U64 (addrV o.s) := addr_u
      replace hau := hau
      have z3 := hq.c3
      go_upto_region 13 with (first | (go_at_call 11; refine (addr_c o.s hwf.s _).mono ?_; rintro e w4 ⟨rfl, rfl⟩; dsimp only))
      clear z3
      have z3 := hq.c3
      go_upto_region 15 with (first | (go_at_call 12; refine (sys_c o.s hwf.s _).mono ?_; rintro e w5 ⟨rfl, hB⟩; dsimp only))
      replace P := P.grow hB
      replace hq := hq.grow hB
      clear hB z3
      by_cases k1 : o.k = 1
      · skip
        have hb1 : (o.k == 1) = true := by simpa using k1
        clear k1
        have z0 := hq.c0
        have z1 := hq.c1
        obtain ⟨Y, K⟩ := P.bus
        have hm := bread_c K.at_ o.c (addrV o.s)
        rw [hlk.read o.c (addrV o.s)] at hm
        have hd := fun w (H : DocAt d h r n D Z w) => dread_c H o.c (addrV o.s) hau
        generalize ddrV n D o.c (addrV o.s) = rv at *
        generalize brdE n o.c (addrV o.s) = re at *
        go_upto_region 18 with (first | (go_at_call 13; refine hm.mono ?_; rintro e w5 ⟨rfl, hB⟩; dsimp only))
        replace P := P.grow hB
        replace hq := hq.grow hB
        clear hB hm K z0 z1
        have z1 := hq.c1
        have hd := hd _ P.doc
        go_upto_region 19 with (first | (go_at_call 14; refine hd.mono ?_; rintro e w6 ⟨rfl, rfl⟩; dsimp only))
        clear hd z1
        go_wp2
        go_roundw
        case rel => exact ⟨i + 1, by have := hi.out; omega, by go_num, S, D, hlk, hwk.up, P⟩
        case measure => simp [intOf]; omega
      have b1 : (o.k == 1) = false := by simpa using k1
      clear k1
      by_cases k2 : o.k = 2
      · skip
        have hb2 : (o.k == 2) = true := by simpa using k2
        clear k2
        have z0 := hq.c0
        have z1 := hq.c1
        have z4 := hv4 hq.c4
        have hd := dwrite_c P.doc o.c (addrV o.s) hau v hv
        have hm := fun Y w (H : BusAt b g t n S Y w) => bwrite_c H o.c (addrV o.s) v hv
        have hlk2 := hlk.write o.c (addrV o.s) v
        have hwk2 := hwk.write (n := n) o.c (addrV o.s) v
        generalize bwrS n S o.c (addrV o.s) v = S2 at *
        generalize ddwS n D o.c (addrV o.s) v = D2 at *
        generalize brdE n o.c (addrV o.s) = re at *
        go_upto_region 22 with (first | (go_at_call 15; refine hd.mono ?_; rintro e w5 ⟨rfl, hT⟩; dsimp only))
        replace hq := st_dt hq P.doc hT
        replace P := P.dt hT
        clear hT hd z0 z1 z4
        have z1 := hq.c1
        have z4 := hv4 hq.c4
        obtain ⟨Y, K⟩ := P.bus
        have hm := hm _ _ K.at_
        go_upto_region 36 with (first | (go_at_call 16; refine hm.mono ?_; rintro e w6 ⟨rfl, hT⟩; dsimp only))
        replace P := P.bt K hT
        clear hT hm K z1 z4
        go_wp2
        go_roundw
        case rel => exact ⟨i + 1, by have := hi.out; omega, by go_num, S2, D2, hlk2, hwk2.up, P⟩
        case measure => simp [intOf]; omega
      have b2 : (o.k == 2) = false := by simpa using k2
      clear k2
      by_cases k3 : o.k = 3
      · skip
        have hb3 : (o.k == 3) = true := by simpa using k3
        clear k3
        have z0 := hq.c0
        have z1 := hq.c1
        have z2 := hq.c2
        obtain ⟨Y, K⟩ := P.bus
        have hm := bsys_c K.at_ o.c o.l (sysV o.s) (fun c _ => by have := hwk c; have := hi.out; omega)
        rw [hlk.sysV] at hm
        have hd := fun w (H : DocAt d h r n D Z w) => dsys_c H o.c o.l (sysV o.s)
        have hlk2 := hlk.sysS o.c o.l (sysV o.s)
        have hwk2 := hwk.sys (n := n) o.c o.l (sysV o.s)
        generalize bsysS n S o.c o.l (sysV o.s) = S2 at *
        generalize dsyS n D o.c o.l (sysV o.s) = D2 at *
        generalize dsyV n D o.c o.l (sysV o.s) = rv at *
        generalize bsysE n o.c o.l (sysV o.s) = re at *
        go_upto_region 25 with (first | (go_at_call 17; refine hm.mono ?_; rintro e w5 ⟨rfl, hT⟩; dsimp only))
        replace hq := st_bt hq K.at_ hT
        replace P := P.bt K hT
        clear hT hm K z0 z1 z2
        have z1 := hq.c1
        have z2 := hq.c2
        have hd := hd _ P.doc
        go_upto_region 26 with (first | (go_at_call 18; refine hd.mono ?_; rintro e w6 ⟨rfl, hT⟩; dsimp only))
        replace P := P.dt hT
        clear hT hd z1 z2
        go_wp2
        go_roundw
        case rel => exact ⟨i + 1, by have := hi.out; omega, by go_num, S2, D2, hlk2, hwk2, P⟩
        case measure => simp [intOf]; omega
      have b3 : (o.k == 3) = false := by simpa using k3
      clear k3
      by_cases k4 : o.k = 4
      · skip
        have hb4 : (o.k == 4) = true := by simpa using k4
        clear k4
        have z0 := hq.c0
        have z1 := hq.c1
        have z2 := hq.c2
        have z4 := hv4 hq.c4
        have hd := dset_c P.doc o.c o.l (sysV o.s) v hv
        have hm := fun Y w (H : BusAt b g t n S Y w) => bset_c H o.c o.l (sysV o.s) v hv
        have hlk2 := hlk.setS o.c o.l (sysV o.s) v
        have hwk2 := hwk.set (n := n) o.c o.l (sysV o.s) v
        generalize bsetS n S o.c o.l (sysV o.s) v = S2 at *
        generalize dseS n D o.c o.l (sysV o.s) v = D2 at *
        generalize bsetE n o.c o.l (sysV o.s) = re at *
        go_upto_region 29 with (first | (go_at_call 19; refine hd.mono ?_; rintro e w5 ⟨rfl, hT⟩; dsimp only))
        replace hq := st_dt hq P.doc hT
        replace P := P.dt hT
        clear hT hd z0 z1 z2 z4
        have z1 := hq.c1
        have z2 := hq.c2
        have z4 := hv4 hq.c4
        obtain ⟨Y, K⟩ := P.bus
        have hm := hm _ _ K.at_
        go_upto_region 36 with (first | (go_at_call 20; refine hm.mono ?_; rintro e w6 ⟨rfl, hT⟩; dsimp only))
        replace P := P.bt K hT
        clear hT hm K z1 z2 z4
        go_wp2
        go_roundw
        case rel => exact ⟨i + 1, by have := hi.out; omega, by go_num, S2, D2, hlk2, hwk2.up, P⟩
        case measure => simp [intOf]; omega
      have b4 : (o.k == 4) = false := by simpa using k4
      clear k4
      by_cases k5 : o.k = 5
      · skip
        have hb5 : (o.k == 5) = true := by simpa using k5
        clear k5
        have z0 := hq.c0
        have z4 := hv4 hq.c4
        have hd := dtick_c P.doc v
        have hm := fun Y w (H : BusAt b g t n S Y w) => btick_c H v
        have hlk2 := hlk.tick v
        have hwk2 := hwk.tick (n := n) v
        generalize tickS n S v = S2 at *
        generalize dtickS n D v = D2 at *
        go_upto_region 32 with (first | (go_at_call 21; refine hd.mono ?_; rintro e w5 ⟨rfl, hT⟩; dsimp only))
        replace hq := st_dt hq P.doc hT
        replace P := P.dt hT
        clear hT hd z0 z4
        have z4 := hv4 hq.c4
        obtain ⟨Y, K⟩ := P.bus
        have hm := hm _ _ K.at_
        go_upto_region 36 with (first | (go_at_call 22; refine hm.mono ?_; rintro e w6 ⟨rfl, hT⟩; dsimp only))
        replace P := P.bt K hT
        clear hT hm K z4
        go_wp2
        go_roundw
        case rel => exact ⟨i + 1, by have := hi.out; omega, by go_num, S2, D2, hlk2, hwk2.up, P⟩
        case measure => simp [intOf]; omega
      have b5 : (o.k == 5) = false := by simpa using k5
      clear k5
      by_cases k6 : o.k = 6
      · skip
        have hb6 : (o.k == 6) = true := by simpa using k6
        clear k6
        have z0 := hq.c0
        have hd := dis_c (addrV o.s)
        have hm := is_c b (addrV o.s)
        rw [is_eq hau] at hm
        generalize docIs (addrV o.s) = ib at *
        go_upto_region 36 with (first | (go_at_call 23; refine (hd _).mono ?_; rintro e w6 ⟨rfl, rfl⟩; dsimp only) | (go_at_call 24; refine (hm _).mono ?_; rintro e w6 ⟨rfl, rfl⟩; dsimp only))
        clear hd hm z0
        go_wp2
        go_roundw
        case rel => exact ⟨i + 1, by have := hi.out; omega, by go_num, S, D, hlk, hwk.up, P⟩
        case measure => simp [intOf]; omega
      have b6 : (o.k == 6) = false := by simpa using k6
      clear k6
      have z0 := hq.c0
      go_wp2
      go_roundw
      case rel => exact ⟨i + 1, by have := hi.out; omega, by go_num, S, D, hlk, hwk.up, P⟩
      case measure => simp [intOf]; omega
    · clear hi
      have hor : ¬ (i : Int) < ss.length ∨ ((i : Int) < ss.length ∧ ¬ (i : Int) < 200) := by omega
      clear hend
      have q29 : ∀ w, PW W b g t d h r n Z S D w → Calls Tryz.prog 29 #[ptr b 0] w fun e w' => e = .returned (ptr t 0) ∧ w' = w := fun w h => by
        obtain ⟨Y, K⟩ := h.bus
        exact btim_c K.at_
      have q26 : ∀ w, PW W b g t d h r n Z S D w → Calls Tryz.prog 26 #[ptr b 0] w fun e w' => e = .returned (ptr g 0) ∧ w' = w := fun w h => by
        obtain ⟨Y, K⟩ := h.bus
        exact bgic_c K.at_
      have q33 : ∀ w, PW W b g t d h r n Z S D w → Calls Tryz.prog 33 #[ptr b 0] w fun e w' => e = .returned (.string (strOfNums D.O)) ∧ w' = w := fun w h => by
        obtain ⟨Y, K⟩ := h.bus
        have := bout_c K.at_
        rw [hlk.o] at this
        exact this
      have q34 : ∀ w, PW W b g t d h r n Z S D w → Calls Tryz.prog 34 #[ptr t 0] w fun e w' => e = .returned (vU D.T.cnt) ∧ w' = w := fun w h => by
        obtain ⟨Y, K⟩ := h.bus
        have := Tmr.count_c K.at_.tim
        rw [hlk.t] at this
        exact this
      rcases hor with hx | ⟨hx, hx2⟩
      · go_wp2
        go_loopw [25] (fun s25 wr => ∃ c : Nat, c ≤ n ∧ s25 = .int .i64 c ∧ Hid (PW W b g t d h r n Z S D wr)) (fun s25 _ => 8 - (intOf s25).toNat)
        case atStart => exact ⟨0, Nat.zero_le _, rfl, P⟩
        case round =>
          clear P
          obtain ⟨c, hcn, rfl, hM⟩ := hrel
          have P := hM.out
          clear hM
          by_cases hlt : (c : Int) < n
          · have hc : c < n := by omega
            obtain ⟨bi, bs, qb1, qb2⟩ := best_two (h := h) (g := g) (Z := Z) hlk.g (c : Int)
            have c1 := P.doc.c1
            go_upto_region 42 with (first | (go_at_call 25; refine (qb1 _ P.doc.gic).mono ?_; rintro e w5 ⟨rfl, hB⟩; dsimp only))
            replace P := P.grow hB
            clear hB c1 qb1
            obtain ⟨Y, K⟩ := P.bus
            go_upto_region 43 with (first | (go_at_call 26; refine (q26 _ P).mono ?_; rintro e w5 ⟨rfl, rfl⟩; dsimp only) | (go_at_call 27; refine (qb2 _ _ K.at_.gic).mono ?_; rintro e w6 ⟨rfl, hB⟩; dsimp only))
            replace P := P.grow hB
            clear hB qb2 K
            have c2 := P.doc.c2
            have hh := Tmr.rhigh_c P.doc.tim c
            have q30 : ∀ w, PW W b g t d h r n Z S D w → Calls Tryz.prog 30 #[ptr t 0, vI c] w fun e w' => e = .returned (.bool (Tmr.highV n D.T c)) ∧ Below w.heap.size w w' := fun w h => by
              obtain ⟨Y, K⟩ := h.bus
              have := Tmr.thigh_c K.at_.tim c
              rw [hlk.t] at this
              exact this
            have q31 : ∀ w, PW W b g t d h r n Z S D w → Calls Tryz.prog 31 #[ptr g 0, vI c] w fun e w' => e = .returned (vI (Doc.runF D.X n c 64)) ∧ Below w.heap.size w w' := fun w h => by
              obtain ⟨Y, K⟩ := h.bus
              have := grun_c K.at_.gic c
              rw [run_nat hc, ← hlk.g.run hc] at this
              exact this
            have q32 : ∀ w, PW W b g t d h r n Z S D w → Calls Tryz.prog 32 #[ptr h 0, vI c] w fun e w' => e = .returned (vI (Doc.runF D.X n c 64)) ∧ w' = w := fun w h => Doc.run_c h.doc.gic c (by omega) (by omega)
            generalize Tmr.highV n D.T c = hv at *
            generalize Doc.runF D.X n c 64 = rn at *
            go_upto_region 44 with (first | (go_at_call 28; refine hh.mono ?_; rintro e w6 ⟨rfl, hB⟩; dsimp only))
            replace P := P.grow hB
            clear hB hh c2
            refine RelG.wp_region_rel RelG.Grows (PW W b g t d h r n Z S D) [.inl (vI bi), .inl (vI bi), .inl (.bool false), .inl (.bool false), .inl (.bool bs), .inl (.bool bs), .inl (.bool false), .inl (.bool false), .inl (.bool false), .inl (ptr b 0), .inl (ptr t 0), .inl (vI c), .inl (.bool hv), .inl (.bool hv), .inl (.bool false), .inl (.bool false), .inl (.bool false), .inl (ptr b 0), .inl (ptr g 0), .inl (vI c), .inl (vI rn), .inl (ptr d 0), .inl (ptr d 0), .inl (ptr d 1), .inl (ptr h 0), .inl (vI c), .inl (vI rn), .inl (.bool false), .inl (.bool false)] (by kernel_rfl) (by kernel_rfl) RelG.grows_refl (fun _ _ h hb => h.grow hb) (P.grow ⟨rfl, rfl, rfl, Nat.le_refl _, fun _ _ => rfl⟩) (by simp [RelG.upK]) ?_
            refine ⟨fun w3 hC _ => RelG.uponG_yes rfl ((by go_simp; first | exact RelG.grows_refl _ | exact ⟨RelG.grows_refl _, rfl⟩)), ?_⟩
            simp only [Act.put, List.setIfInBounds_toArray, List.set_cons_succ, List.set_cons_zero]
            refine ⟨fun w3 hC _ => RelG.uponG_yes rfl ((by go_simp; first | exact RelG.grows_refl _ | exact ⟨RelG.grows_refl _, rfl⟩)), ?_⟩
            simp only [Act.put, List.setIfInBounds_toArray, List.set_cons_succ, List.set_cons_zero]
            refine ⟨fun w3 hC _ => RelG.uponG_yes rfl ((by go_simp; first | exact RelG.grows_refl _ | exact ⟨RelG.grows_refl _, rfl⟩)), ?_⟩
            simp only [Act.put, List.setIfInBounds_toArray, List.set_cons_succ, List.set_cons_zero]
            refine ⟨fun w3 hC _ => RelG.uponG_yes rfl ((by go_simp; first | exact RelG.grows_refl _ | exact ⟨RelG.grows_refl _, rfl⟩)), ?_⟩
            simp only [Act.put, List.setIfInBounds_toArray, List.set_cons_succ, List.set_cons_zero]
            refine ⟨fun w3 hC _ => RelG.uponG_yes rfl ((by go_simp; first | exact RelG.grows_refl _ | exact ⟨RelG.grows_refl _, rfl⟩)), ?_⟩
            simp only [Act.put, List.setIfInBounds_toArray, List.set_cons_succ, List.set_cons_zero]
            refine ⟨fun w3 hC _ => RelG.uponG_yes rfl ((by go_simp; first | exact RelG.grows_refl _ | exact ⟨RelG.grows_refl _, rfl⟩)), ?_⟩
            simp only [Act.put, List.setIfInBounds_toArray, List.set_cons_succ, List.set_cons_zero]
            refine ⟨fun w3 hC _ => RelG.uponG_yes rfl ((by go_simp; first | exact RelG.grows_refl _ | exact ⟨RelG.grows_refl _, rfl⟩)), ?_⟩
            simp only [Act.put, List.setIfInBounds_toArray, List.set_cons_succ, List.set_cons_zero]
            refine ⟨fun w3 hC _ => RelG.uponG_yes rfl ((by go_simp; first | exact RelG.grows_refl _ | exact ⟨RelG.grows_refl _, rfl⟩)), ?_⟩
            simp only [Act.put, List.setIfInBounds_toArray, List.set_cons_succ, List.set_cons_zero]
            refine ⟨fun w3 hC _ => RelG.uponG_yes rfl ((by go_simp; first | exact RelG.grows_refl _ | exact ⟨RelG.grows_refl _, rfl⟩)), ?_⟩
            simp only [Act.put, List.setIfInBounds_toArray, List.set_cons_succ, List.set_cons_zero]
            refine ⟨fun w3 hC _ => RelG.uponG_yes rfl ((by go_simp; first | exact RelG.grows_refl _ | exact ⟨RelG.grows_refl _, rfl⟩)), ?_⟩
            simp only [Act.put, List.setIfInBounds_toArray, List.set_cons_succ, List.set_cons_zero]
            refine ⟨fun w3 hC _ => RelG.uponG_yes rfl ((by go_simp; refine (q29 w3 hC).mono ?_; rintro e w4 ⟨rfl, rfl⟩; exact ⟨rfl, RelG.grows_refl _⟩)), ?_⟩
            simp only [Act.put, List.setIfInBounds_toArray, List.set_cons_succ, List.set_cons_zero]
            refine ⟨fun w3 hC _ => RelG.uponG_yes rfl ((by go_simp; first | exact RelG.grows_refl _ | exact ⟨RelG.grows_refl _, rfl⟩)), ?_⟩
            simp only [Act.put, List.setIfInBounds_toArray, List.set_cons_succ, List.set_cons_zero]
            refine ⟨fun w3 hC _ => RelG.uponG_yes rfl ((by go_simp; refine (q30 w3 hC).mono ?_; rintro e w4 ⟨rfl, hb⟩; exact ⟨rfl, hb⟩)), ?_⟩
            simp only [Act.put, List.setIfInBounds_toArray, List.set_cons_succ, List.set_cons_zero]
            refine ⟨fun w3 hC _ => RelG.uponG_yes rfl ((by go_simp; first | exact RelG.grows_refl _ | exact ⟨RelG.grows_refl _, rfl⟩)), ?_⟩
            simp only [Act.put, List.setIfInBounds_toArray, List.set_cons_succ, List.set_cons_zero]
            refine ⟨fun w3 hC _ => RelG.uponG_yes rfl ((by go_simp; first | exact RelG.grows_refl _ | exact ⟨RelG.grows_refl _, rfl⟩)), ?_⟩
            simp only [Act.put, List.setIfInBounds_toArray, List.set_cons_succ, List.set_cons_zero]
            refine ⟨fun w3 hC _ => RelG.uponG_yes rfl ((by go_simp; first | exact RelG.grows_refl _ | exact ⟨RelG.grows_refl _, rfl⟩)), ?_⟩
            simp only [Act.put, List.setIfInBounds_toArray, List.set_cons_succ, List.set_cons_zero]
            refine ⟨fun w3 hC _ => RelG.uponG_yes rfl ((by go_simp; first | exact RelG.grows_refl _ | exact ⟨RelG.grows_refl _, rfl⟩)), ?_⟩
            simp only [Act.put, List.setIfInBounds_toArray, List.set_cons_succ, List.set_cons_zero]
            refine ⟨fun w3 hC _ => RelG.uponG_yes rfl ((by go_simp; first | exact RelG.grows_refl _ | exact ⟨RelG.grows_refl _, rfl⟩)), ?_⟩
            simp only [Act.put, List.setIfInBounds_toArray, List.set_cons_succ, List.set_cons_zero]
            refine ⟨fun w3 hC _ => RelG.uponG_yes rfl ((by go_simp; refine (q26 w3 hC).mono ?_; rintro e w4 ⟨rfl, rfl⟩; exact ⟨rfl, RelG.grows_refl _⟩)), ?_⟩
            simp only [Act.put, List.setIfInBounds_toArray, List.set_cons_succ, List.set_cons_zero]
            refine ⟨fun w3 hC _ => RelG.uponG_yes rfl ((by go_simp; first | exact RelG.grows_refl _ | exact ⟨RelG.grows_refl _, rfl⟩)), ?_⟩
            simp only [Act.put, List.setIfInBounds_toArray, List.set_cons_succ, List.set_cons_zero]
            refine ⟨fun w3 hC _ => RelG.uponG_yes rfl ((by go_simp; refine (q31 w3 hC).mono ?_; rintro e w4 ⟨rfl, hb⟩; exact ⟨rfl, hb⟩)), ?_⟩
            simp only [Act.put, List.setIfInBounds_toArray, List.set_cons_succ, List.set_cons_zero]
            refine ⟨fun w3 hC _ => RelG.uponG_yes rfl ((by go_simp; first | exact RelG.grows_refl _ | exact ⟨RelG.grows_refl _, rfl⟩)), ?_⟩
            simp only [Act.put, List.setIfInBounds_toArray, List.set_cons_succ, List.set_cons_zero]
            refine ⟨fun w3 hC _ => RelG.uponG_yes rfl ((by go_simp; first | exact RelG.grows_refl _ | exact ⟨RelG.grows_refl _, rfl⟩)), ?_⟩
            simp only [Act.put, List.setIfInBounds_toArray, List.set_cons_succ, List.set_cons_zero]
            refine ⟨fun w3 hC _ => RelG.uponG_yes rfl ((by go_simp; first | exact RelG.grows_refl _ | exact ⟨RelG.grows_refl _, rfl⟩)), ?_⟩
            simp only [Act.put, List.setIfInBounds_toArray, List.set_cons_succ, List.set_cons_zero]
            refine ⟨fun w3 hC _ => RelG.uponG_yes rfl ((by have z := hC.doc.c1; go_simp; first | exact RelG.grows_refl _ | exact ⟨RelG.grows_refl _, rfl⟩)), ?_⟩
            simp only [Act.put, List.setIfInBounds_toArray, List.set_cons_succ, List.set_cons_zero]
            refine ⟨fun w3 hC _ => RelG.uponG_yes rfl ((by go_simp; first | exact RelG.grows_refl _ | exact ⟨RelG.grows_refl _, rfl⟩)), ?_⟩
            simp only [Act.put, List.setIfInBounds_toArray, List.set_cons_succ, List.set_cons_zero]
            refine ⟨fun w3 hC _ => RelG.uponG_yes rfl ((by go_simp; refine (q32 w3 hC).mono ?_; rintro e w4 ⟨rfl, rfl⟩; exact ⟨rfl, RelG.grows_refl _⟩)), ?_⟩
            simp only [Act.put, List.setIfInBounds_toArray, List.set_cons_succ, List.set_cons_zero]
            refine ⟨fun w3 hC _ => RelG.uponG_yes rfl ((by go_simp; first | exact RelG.grows_refl _ | exact ⟨RelG.grows_refl _, rfl⟩)), ?_⟩
            simp only [Act.put, List.setIfInBounds_toArray, List.set_cons_succ, List.set_cons_zero]
            refine ⟨fun w3 hC _ => RelG.uponG_yes rfl ((by go_simp; first | exact RelG.grows_refl _ | exact ⟨RelG.grows_refl _, rfl⟩)), ?_⟩
            simp only [Act.put, List.setIfInBounds_toArray, List.set_cons_succ, List.set_cons_zero]
            clear P
            intro w9 P _
            clear q30 q31 q32
            go_wp2
            go_roundw
            case rel => exact ⟨c + 1, by omega, by go_num, P⟩
            case measure => simp [intOf]; omega
          · have hcn2 : c = n := by omega
            go_upto_region 46 with fail
            refine RelG.wp_region_rel RelG.Grows (PW W b g t d h r n Z S D) [.inl (ptr b 0), .inl (.string (strOfNums D.O)), .inl (ptr d 0), .inl (ptr d 0), .inl (ptr d 3), .inl (.string (strOfNums D.O)), .inl (.bool true), .inl (.bool true), .inl (ptr b 0), .inl (ptr t 0), .inl (vU D.T.cnt), .inl (ptr d 0), .inl (ptr d 0), .inl (ptr d 2), .inl (ptr r 0), .inl (ptr r 0), .inl (ptr r 0), .inl (vU D.T.cnt), .inl (.bool true), .inl (.bool true), .inl (.bool true)] (by kernel_rfl) (by kernel_rfl) RelG.grows_refl (fun _ _ h hb => h.grow hb) (P.grow ⟨rfl, rfl, rfl, Nat.le_refl _, fun _ _ => rfl⟩) (by simp [RelG.upK]) ?_
            refine ⟨fun w3 hC _ => RelG.uponG_yes rfl ((by go_simp; first | exact RelG.grows_refl _ | exact ⟨RelG.grows_refl _, rfl⟩)), ?_⟩
            simp only [Act.put, List.setIfInBounds_toArray, List.set_cons_succ, List.set_cons_zero]
            refine ⟨fun w3 hC _ => RelG.uponG_yes rfl ((by go_simp; refine (q33 w3 hC).mono ?_; rintro e w4 ⟨rfl, rfl⟩; exact ⟨rfl, RelG.grows_refl _⟩)), ?_⟩
            simp only [Act.put, List.setIfInBounds_toArray, List.set_cons_succ, List.set_cons_zero]
            refine ⟨fun w3 hC _ => RelG.uponG_yes rfl ((by go_simp; first | exact RelG.grows_refl _ | exact ⟨RelG.grows_refl _, rfl⟩)), ?_⟩
            simp only [Act.put, List.setIfInBounds_toArray, List.set_cons_succ, List.set_cons_zero]
            refine ⟨fun w3 hC _ => RelG.uponG_yes rfl ((by go_simp; first | exact RelG.grows_refl _ | exact ⟨RelG.grows_refl _, rfl⟩)), ?_⟩
            simp only [Act.put, List.setIfInBounds_toArray, List.set_cons_succ, List.set_cons_zero]
            refine ⟨fun w3 hC _ => RelG.uponG_yes rfl ((by go_simp; first | exact RelG.grows_refl _ | exact ⟨RelG.grows_refl _, rfl⟩)), ?_⟩
            simp only [Act.put, List.setIfInBounds_toArray, List.set_cons_succ, List.set_cons_zero]
            refine ⟨fun w3 hC _ => RelG.uponG_yes rfl ((by have z := hC.doc.c3; go_simp; first | exact RelG.grows_refl _ | exact ⟨RelG.grows_refl _, rfl⟩)), ?_⟩
            simp only [Act.put, List.setIfInBounds_toArray, List.set_cons_succ, List.set_cons_zero]
            refine ⟨fun w3 hC _ => RelG.uponG_yes rfl ((by go_simp; first | exact RelG.grows_refl _ | exact ⟨RelG.grows_refl _, rfl⟩)), ?_⟩
            simp only [Act.put, List.setIfInBounds_toArray, List.set_cons_succ, List.set_cons_zero]
            refine ⟨fun w3 hC _ => RelG.uponG_yes rfl ((by go_simp; first | exact RelG.grows_refl _ | exact ⟨RelG.grows_refl _, rfl⟩)), ?_⟩
            simp only [Act.put, List.setIfInBounds_toArray, List.set_cons_succ, List.set_cons_zero]
            refine ⟨fun w3 hC _ => RelG.uponG_yes rfl ((by go_simp; first | exact RelG.grows_refl _ | exact ⟨RelG.grows_refl _, rfl⟩)), ?_⟩
            simp only [Act.put, List.setIfInBounds_toArray, List.set_cons_succ, List.set_cons_zero]
            refine ⟨fun w3 hC _ => RelG.uponG_yes rfl ((by go_simp; refine (q29 w3 hC).mono ?_; rintro e w4 ⟨rfl, rfl⟩; exact ⟨rfl, RelG.grows_refl _⟩)), ?_⟩
            simp only [Act.put, List.setIfInBounds_toArray, List.set_cons_succ, List.set_cons_zero]
            refine ⟨fun w3 hC _ => RelG.uponG_yes rfl ((by go_simp; refine (q34 w3 hC).mono ?_; rintro e w4 ⟨rfl, rfl⟩; exact ⟨rfl, RelG.grows_refl _⟩)), ?_⟩
            simp only [Act.put, List.setIfInBounds_toArray, List.set_cons_succ, List.set_cons_zero]
            refine ⟨fun w3 hC _ => RelG.uponG_yes rfl ((by go_simp; first | exact RelG.grows_refl _ | exact ⟨RelG.grows_refl _, rfl⟩)), ?_⟩
            simp only [Act.put, List.setIfInBounds_toArray, List.set_cons_succ, List.set_cons_zero]
            refine ⟨fun w3 hC _ => RelG.uponG_yes rfl ((by go_simp; first | exact RelG.grows_refl _ | exact ⟨RelG.grows_refl _, rfl⟩)), ?_⟩
            simp only [Act.put, List.setIfInBounds_toArray, List.set_cons_succ, List.set_cons_zero]
            refine ⟨fun w3 hC _ => RelG.uponG_yes rfl ((by go_simp; first | exact RelG.grows_refl _ | exact ⟨RelG.grows_refl _, rfl⟩)), ?_⟩
            simp only [Act.put, List.setIfInBounds_toArray, List.set_cons_succ, List.set_cons_zero]
            refine ⟨fun w3 hC _ => RelG.uponG_yes rfl ((by have z := hC.doc.c2; go_simp; first | exact RelG.grows_refl _ | exact ⟨RelG.grows_refl _, rfl⟩)), ?_⟩
            simp only [Act.put, List.setIfInBounds_toArray, List.set_cons_succ, List.set_cons_zero]
            refine ⟨fun w3 hC _ => RelG.uponG_yes rfl ((by go_simp; first | exact RelG.grows_refl _ | exact ⟨RelG.grows_refl _, rfl⟩)), ?_⟩
            simp only [Act.put, List.setIfInBounds_toArray, List.set_cons_succ, List.set_cons_zero]
            refine ⟨fun w3 hC _ => RelG.uponG_yes rfl ((by go_simp; first | exact RelG.grows_refl _ | exact ⟨RelG.grows_refl _, rfl⟩)), ?_⟩
            simp only [Act.put, List.setIfInBounds_toArray, List.set_cons_succ, List.set_cons_zero]
            refine ⟨fun w3 hC _ => RelG.uponG_yes rfl ((by have z := hC.doc.tim.c0; go_simp; first | exact RelG.grows_refl _ | exact ⟨RelG.grows_refl _, rfl⟩)), ?_⟩
            simp only [Act.put, List.setIfInBounds_toArray, List.set_cons_succ, List.set_cons_zero]
            refine ⟨fun w3 hC _ => RelG.uponG_yes rfl ((by go_simp; first | exact RelG.grows_refl _ | exact ⟨RelG.grows_refl _, rfl⟩)), ?_⟩
            simp only [Act.put, List.setIfInBounds_toArray, List.set_cons_succ, List.set_cons_zero]
            refine ⟨fun w3 hC _ => RelG.uponG_yes rfl ((by go_simp; first | exact RelG.grows_refl _ | exact ⟨RelG.grows_refl _, rfl⟩)), ?_⟩
            simp only [Act.put, List.setIfInBounds_toArray, List.set_cons_succ, List.set_cons_zero]
            refine ⟨fun w3 hC _ => RelG.uponG_yes rfl ((by go_simp; first | exact RelG.grows_refl _ | exact ⟨RelG.grows_refl _, rfl⟩)), ?_⟩
            simp only [Act.put, List.setIfInBounds_toArray, List.set_cons_succ, List.set_cons_zero]
            clear P
            intro w9 P _
            go_wp2
            go_ret
            exact ⟨rfl, P.bel⟩
      · go_wp2
        go_loopw [25] (fun s25 wr => ∃ c : Nat, c ≤ n ∧ s25 = .int .i64 c ∧ Hid (PW W b g t d h r n Z S D wr)) (fun s25 _ => 8 - (intOf s25).toNat)
        case atStart => exact ⟨0, Nat.zero_le _, rfl, P⟩
        case round =>
          clear P
          obtain ⟨c, hcn, rfl, hM⟩ := hrel
          have P := hM.out
          clear hM
          by_cases hlt : (c : Int) < n
          · have hc : c < n := by omega
            obtain ⟨bi, bs, qb1, qb2⟩ := best_two (h := h) (g := g) (Z := Z) hlk.g (c : Int)
            have c1 := P.doc.c1
            go_upto_region 42 with (first | (go_at_call 25; refine (qb1 _ P.doc.gic).mono ?_; rintro e w5 ⟨rfl, hB⟩; dsimp only))
            replace P := P.grow hB
            clear hB c1 qb1
            obtain ⟨Y, K⟩ := P.bus
            go_upto_region 43 with (first | (go_at_call 26; refine (q26 _ P).mono ?_; rintro e w5 ⟨rfl, rfl⟩; dsimp only) | (go_at_call 27; refine (qb2 _ _ K.at_.gic).mono ?_; rintro e w6 ⟨rfl, hB⟩; dsimp only))
            replace P := P.grow hB
            clear hB qb2 K
            have c2 := P.doc.c2
            have hh := Tmr.rhigh_c P.doc.tim c
            have q30 : ∀ w, PW W b g t d h r n Z S D w → Calls Tryz.prog 30 #[ptr t 0, vI c] w fun e w' => e = .returned (.bool (Tmr.highV n D.T c)) ∧ Below w.heap.size w w' := fun w h => by
              obtain ⟨Y, K⟩ := h.bus
              have := Tmr.thigh_c K.at_.tim c
              rw [hlk.t] at this
              exact this
            have q31 : ∀ w, PW W b g t d h r n Z S D w → Calls Tryz.prog 31 #[ptr g 0, vI c] w fun e w' => e = .returned (vI (Doc.runF D.X n c 64)) ∧ Below w.heap.size w w' := fun w h => by
              obtain ⟨Y, K⟩ := h.bus
              have := grun_c K.at_.gic c
              rw [run_nat hc, ← hlk.g.run hc] at this
              exact this
            have q32 : ∀ w, PW W b g t d h r n Z S D w → Calls Tryz.prog 32 #[ptr h 0, vI c] w fun e w' => e = .returned (vI (Doc.runF D.X n c 64)) ∧ w' = w := fun w h => Doc.run_c h.doc.gic c (by omega) (by omega)
            generalize Tmr.highV n D.T c = hv at *
            generalize Doc.runF D.X n c 64 = rn at *
            go_upto_region 44 with (first | (go_at_call 28; refine hh.mono ?_; rintro e w6 ⟨rfl, hB⟩; dsimp only))
            replace P := P.grow hB
            clear hB hh c2
            refine RelG.wp_region_rel RelG.Grows (PW W b g t d h r n Z S D) [.inl (vI bi), .inl (vI bi), .inl (.bool false), .inl (.bool false), .inl (.bool bs), .inl (.bool bs), .inl (.bool false), .inl (.bool false), .inl (.bool false), .inl (ptr b 0), .inl (ptr t 0), .inl (vI c), .inl (.bool hv), .inl (.bool hv), .inl (.bool false), .inl (.bool false), .inl (.bool false), .inl (ptr b 0), .inl (ptr g 0), .inl (vI c), .inl (vI rn), .inl (ptr d 0), .inl (ptr d 0), .inl (ptr d 1), .inl (ptr h 0), .inl (vI c), .inl (vI rn), .inl (.bool false), .inl (.bool false)] (by kernel_rfl) (by kernel_rfl) RelG.grows_refl (fun _ _ h hb => h.grow hb) (P.grow ⟨rfl, rfl, rfl, Nat.le_refl _, fun _ _ => rfl⟩) (by simp [RelG.upK]) ?_
            refine ⟨fun w3 hC _ => RelG.uponG_yes rfl ((by go_simp; first | exact RelG.grows_refl _ | exact ⟨RelG.grows_refl _, rfl⟩)), ?_⟩
            simp only [Act.put, List.setIfInBounds_toArray, List.set_cons_succ, List.set_cons_zero]
            refine ⟨fun w3 hC _ => RelG.uponG_yes rfl ((by go_simp; first | exact RelG.grows_refl _ | exact ⟨RelG.grows_refl _, rfl⟩)), ?_⟩
            simp only [Act.put, List.setIfInBounds_toArray, List.set_cons_succ, List.set_cons_zero]
            refine ⟨fun w3 hC _ => RelG.uponG_yes rfl ((by go_simp; first | exact RelG.grows_refl _ | exact ⟨RelG.grows_refl _, rfl⟩)), ?_⟩
            simp only [Act.put, List.setIfInBounds_toArray, List.set_cons_succ, List.set_cons_zero]
            refine ⟨fun w3 hC _ => RelG.uponG_yes rfl ((by go_simp; first | exact RelG.grows_refl _ | exact ⟨RelG.grows_refl _, rfl⟩)), ?_⟩
            simp only [Act.put, List.setIfInBounds_toArray, List.set_cons_succ, List.set_cons_zero]
            refine ⟨fun w3 hC _ => RelG.uponG_yes rfl ((by go_simp; first | exact RelG.grows_refl _ | exact ⟨RelG.grows_refl _, rfl⟩)), ?_⟩
            simp only [Act.put, List.setIfInBounds_toArray, List.set_cons_succ, List.set_cons_zero]
            refine ⟨fun w3 hC _ => RelG.uponG_yes rfl ((by go_simp; first | exact RelG.grows_refl _ | exact ⟨RelG.grows_refl _, rfl⟩)), ?_⟩
            simp only [Act.put, List.setIfInBounds_toArray, List.set_cons_succ, List.set_cons_zero]
            refine ⟨fun w3 hC _ => RelG.uponG_yes rfl ((by go_simp; first | exact RelG.grows_refl _ | exact ⟨RelG.grows_refl _, rfl⟩)), ?_⟩
            simp only [Act.put, List.setIfInBounds_toArray, List.set_cons_succ, List.set_cons_zero]
            refine ⟨fun w3 hC _ => RelG.uponG_yes rfl ((by go_simp; first | exact RelG.grows_refl _ | exact ⟨RelG.grows_refl _, rfl⟩)), ?_⟩
            simp only [Act.put, List.setIfInBounds_toArray, List.set_cons_succ, List.set_cons_zero]
            refine ⟨fun w3 hC _ => RelG.uponG_yes rfl ((by go_simp; first | exact RelG.grows_refl _ | exact ⟨RelG.grows_refl _, rfl⟩)), ?_⟩
            simp only [Act.put, List.setIfInBounds_toArray, List.set_cons_succ, List.set_cons_zero]
            refine ⟨fun w3 hC _ => RelG.uponG_yes rfl ((by go_simp; first | exact RelG.grows_refl _ | exact ⟨RelG.grows_refl _, rfl⟩)), ?_⟩
            simp only [Act.put, List.setIfInBounds_toArray, List.set_cons_succ, List.set_cons_zero]
            refine ⟨fun w3 hC _ => RelG.uponG_yes rfl ((by go_simp; refine (q29 w3 hC).mono ?_; rintro e w4 ⟨rfl, rfl⟩; exact ⟨rfl, RelG.grows_refl _⟩)), ?_⟩
            simp only [Act.put, List.setIfInBounds_toArray, List.set_cons_succ, List.set_cons_zero]
            refine ⟨fun w3 hC _ => RelG.uponG_yes rfl ((by go_simp; first | exact RelG.grows_refl _ | exact ⟨RelG.grows_refl _, rfl⟩)), ?_⟩
            simp only [Act.put, List.setIfInBounds_toArray, List.set_cons_succ, List.set_cons_zero]
            refine ⟨fun w3 hC _ => RelG.uponG_yes rfl ((by go_simp; refine (q30 w3 hC).mono ?_; rintro e w4 ⟨rfl, hb⟩; exact ⟨rfl, hb⟩)), ?_⟩
            simp only [Act.put, List.setIfInBounds_toArray, List.set_cons_succ, List.set_cons_zero]
            refine ⟨fun w3 hC _ => RelG.uponG_yes rfl ((by go_simp; first | exact RelG.grows_refl _ | exact ⟨RelG.grows_refl _, rfl⟩)), ?_⟩
            simp only [Act.put, List.setIfInBounds_toArray, List.set_cons_succ, List.set_cons_zero]
            refine ⟨fun w3 hC _ => RelG.uponG_yes rfl ((by go_simp; first | exact RelG.grows_refl _ | exact ⟨RelG.grows_refl _, rfl⟩)), ?_⟩
            simp only [Act.put, List.setIfInBounds_toArray, List.set_cons_succ, List.set_cons_zero]
            refine ⟨fun w3 hC _ => RelG.uponG_yes rfl ((by go_simp; first | exact RelG.grows_refl _ | exact ⟨RelG.grows_refl _, rfl⟩)), ?_⟩
            simp only [Act.put, List.setIfInBounds_toArray, List.set_cons_succ, List.set_cons_zero]
            refine ⟨fun w3 hC _ => RelG.uponG_yes rfl ((by go_simp; first | exact RelG.grows_refl _ | exact ⟨RelG.grows_refl _, rfl⟩)), ?_⟩
            simp only [Act.put, List.setIfInBounds_toArray, List.set_cons_succ, List.set_cons_zero]
            refine ⟨fun w3 hC _ => RelG.uponG_yes rfl ((by go_simp; first | exact RelG.grows_refl _ | exact ⟨RelG.grows_refl _, rfl⟩)), ?_⟩
            simp only [Act.put, List.setIfInBounds_toArray, List.set_cons_succ, List.set_cons_zero]
            refine ⟨fun w3 hC _ => RelG.uponG_yes rfl ((by go_simp; refine (q26 w3 hC).mono ?_; rintro e w4 ⟨rfl, rfl⟩; exact ⟨rfl, RelG.grows_refl _⟩)), ?_⟩
            simp only [Act.put, List.setIfInBounds_toArray, List.set_cons_succ, List.set_cons_zero]
            refine ⟨fun w3 hC _ => RelG.uponG_yes rfl ((by go_simp; first | exact RelG.grows_refl _ | exact ⟨RelG.grows_refl _, rfl⟩)), ?_⟩
            simp only [Act.put, List.setIfInBounds_toArray, List.set_cons_succ, List.set_cons_zero]
            refine ⟨fun w3 hC _ => RelG.uponG_yes rfl ((by go_simp; refine (q31 w3 hC).mono ?_; rintro e w4 ⟨rfl, hb⟩; exact ⟨rfl, hb⟩)), ?_⟩
            simp only [Act.put, List.setIfInBounds_toArray, List.set_cons_succ, List.set_cons_zero]
            refine ⟨fun w3 hC _ => RelG.uponG_yes rfl ((by go_simp; first | exact RelG.grows_refl _ | exact ⟨RelG.grows_refl _, rfl⟩)), ?_⟩
            simp only [Act.put, List.setIfInBounds_toArray, List.set_cons_succ, List.set_cons_zero]
            refine ⟨fun w3 hC _ => RelG.uponG_yes rfl ((by go_simp; first | exact RelG.grows_refl _ | exact ⟨RelG.grows_refl _, rfl⟩)), ?_⟩
            simp only [Act.put, List.setIfInBounds_toArray, List.set_cons_succ, List.set_cons_zero]
            refine ⟨fun w3 hC _ => RelG.uponG_yes rfl ((by go_simp; first | exact RelG.grows_refl _ | exact ⟨RelG.grows_refl _, rfl⟩)), ?_⟩
            simp only [Act.put, List.setIfInBounds_toArray, List.set_cons_succ, List.set_cons_zero]
            refine ⟨fun w3 hC _ => RelG.uponG_yes rfl ((by have z := hC.doc.c1; go_simp; first | exact RelG.grows_refl _ | exact ⟨RelG.grows_refl _, rfl⟩)), ?_⟩
            simp only [Act.put, List.setIfInBounds_toArray, List.set_cons_succ, List.set_cons_zero]
            refine ⟨fun w3 hC _ => RelG.uponG_yes rfl ((by go_simp; first | exact RelG.grows_refl _ | exact ⟨RelG.grows_refl _, rfl⟩)), ?_⟩
            simp only [Act.put, List.setIfInBounds_toArray, List.set_cons_succ, List.set_cons_zero]
            refine ⟨fun w3 hC _ => RelG.uponG_yes rfl ((by go_simp; refine (q32 w3 hC).mono ?_; rintro e w4 ⟨rfl, rfl⟩; exact ⟨rfl, RelG.grows_refl _⟩)), ?_⟩
            simp only [Act.put, List.setIfInBounds_toArray, List.set_cons_succ, List.set_cons_zero]
            refine ⟨fun w3 hC _ => RelG.uponG_yes rfl ((by go_simp; first | exact RelG.grows_refl _ | exact ⟨RelG.grows_refl _, rfl⟩)), ?_⟩
            simp only [Act.put, List.setIfInBounds_toArray, List.set_cons_succ, List.set_cons_zero]
            refine ⟨fun w3 hC _ => RelG.uponG_yes rfl ((by go_simp; first | exact RelG.grows_refl _ | exact ⟨RelG.grows_refl _, rfl⟩)), ?_⟩
            simp only [Act.put, List.setIfInBounds_toArray, List.set_cons_succ, List.set_cons_zero]
            clear P
            intro w9 P _
            clear q30 q31 q32
            go_wp2
            go_roundw
            case rel => exact ⟨c + 1, by omega, by go_num, P⟩
            case measure => simp [intOf]; omega
          · have hcn2 : c = n := by omega
            go_upto_region 46 with fail
            refine RelG.wp_region_rel RelG.Grows (PW W b g t d h r n Z S D) [.inl (ptr b 0), .inl (.string (strOfNums D.O)), .inl (ptr d 0), .inl (ptr d 0), .inl (ptr d 3), .inl (.string (strOfNums D.O)), .inl (.bool true), .inl (.bool true), .inl (ptr b 0), .inl (ptr t 0), .inl (vU D.T.cnt), .inl (ptr d 0), .inl (ptr d 0), .inl (ptr d 2), .inl (ptr r 0), .inl (ptr r 0), .inl (ptr r 0), .inl (vU D.T.cnt), .inl (.bool true), .inl (.bool true), .inl (.bool true)] (by kernel_rfl) (by kernel_rfl) RelG.grows_refl (fun _ _ h hb => h.grow hb) (P.grow ⟨rfl, rfl, rfl, Nat.le_refl _, fun _ _ => rfl⟩) (by simp [RelG.upK]) ?_
            refine ⟨fun w3 hC _ => RelG.uponG_yes rfl ((by go_simp; first | exact RelG.grows_refl _ | exact ⟨RelG.grows_refl _, rfl⟩)), ?_⟩
            simp only [Act.put, List.setIfInBounds_toArray, List.set_cons_succ, List.set_cons_zero]
            refine ⟨fun w3 hC _ => RelG.uponG_yes rfl ((by go_simp; refine (q33 w3 hC).mono ?_; rintro e w4 ⟨rfl, rfl⟩; exact ⟨rfl, RelG.grows_refl _⟩)), ?_⟩
            simp only [Act.put, List.setIfInBounds_toArray, List.set_cons_succ, List.set_cons_zero]
            refine ⟨fun w3 hC _ => RelG.uponG_yes rfl ((by go_simp; first | exact RelG.grows_refl _ | exact ⟨RelG.grows_refl _, rfl⟩)), ?_⟩
            simp only [Act.put, List.setIfInBounds_toArray, List.set_cons_succ, List.set_cons_zero]
            refine ⟨fun w3 hC _ => RelG.uponG_yes rfl ((by go_simp; first | exact RelG.grows_refl _ | exact ⟨RelG.grows_refl _, rfl⟩)), ?_⟩
            simp only [Act.put, List.setIfInBounds_toArray, List.set_cons_succ, List.set_cons_zero]
            refine ⟨fun w3 hC _ => RelG.uponG_yes rfl ((by go_simp; first | exact RelG.grows_refl _ | exact ⟨RelG.grows_refl _, rfl⟩)), ?_⟩
            simp only [Act.put, List.setIfInBounds_toArray, List.set_cons_succ, List.set_cons_zero]
            refine ⟨fun w3 hC _ => RelG.uponG_yes rfl ((by have z := hC.doc.c3; go_simp; first | exact RelG.grows_refl _ | exact ⟨RelG.grows_refl _, rfl⟩)), ?_⟩
            simp only [Act.put, List.setIfInBounds_toArray, List.set_cons_succ, List.set_cons_zero]
            refine ⟨fun w3 hC _ => RelG.uponG_yes rfl ((by go_simp; first | exact RelG.grows_refl _ | exact ⟨RelG.grows_refl _, rfl⟩)), ?_⟩
            simp only [Act.put, List.setIfInBounds_toArray, List.set_cons_succ, List.set_cons_zero]
            refine ⟨fun w3 hC _ => RelG.uponG_yes rfl ((by go_simp; first | exact RelG.grows_refl _ | exact ⟨RelG.grows_refl _, rfl⟩)), ?_⟩
            simp only [Act.put, List.setIfInBounds_toArray, List.set_cons_succ, List.set_cons_zero]
            refine ⟨fun w3 hC _ => RelG.uponG_yes rfl ((by go_simp; first | exact RelG.grows_refl _ | exact ⟨RelG.grows_refl _, rfl⟩)), ?_⟩
            simp only [Act.put, List.setIfInBounds_toArray, List.set_cons_succ, List.set_cons_zero]
            refine ⟨fun w3 hC _ => RelG.uponG_yes rfl ((by go_simp; refine (q29 w3 hC).mono ?_; rintro e w4 ⟨rfl, rfl⟩; exact ⟨rfl, RelG.grows_refl _⟩)), ?_⟩
            simp only [Act.put, List.setIfInBounds_toArray, List.set_cons_succ, List.set_cons_zero]
            refine ⟨fun w3 hC _ => RelG.uponG_yes rfl ((by go_simp; refine (q34 w3 hC).mono ?_; rintro e w4 ⟨rfl, rfl⟩; exact ⟨rfl, RelG.grows_refl _⟩)), ?_⟩
            simp only [Act.put, List.setIfInBounds_toArray, List.set_cons_succ, List.set_cons_zero]
            refine ⟨fun w3 hC _ => RelG.uponG_yes rfl ((by go_simp; first | exact RelG.grows_refl _ | exact ⟨RelG.grows_refl _, rfl⟩)), ?_⟩
            simp only [Act.put, List.setIfInBounds_toArray, List.set_cons_succ, List.set_cons_zero]
            refine ⟨fun w3 hC _ => RelG.uponG_yes rfl ((by go_simp; first | exact RelG.grows_refl _ | exact ⟨RelG.grows_refl _, rfl⟩)), ?_⟩
            simp only [Act.put, List.setIfInBounds_toArray, List.set_cons_succ, List.set_cons_zero]
            refine ⟨fun w3 hC _ => RelG.uponG_yes rfl ((by go_simp; first | exact RelG.grows_refl _ | exact ⟨RelG.grows_refl _, rfl⟩)), ?_⟩
            simp only [Act.put, List.setIfInBounds_toArray, List.set_cons_succ, List.set_cons_zero]
            refine ⟨fun w3 hC _ => RelG.uponG_yes rfl ((by have z := hC.doc.c2; go_simp; first | exact RelG.grows_refl _ | exact ⟨RelG.grows_refl _, rfl⟩)), ?_⟩
            simp only [Act.put, List.setIfInBounds_toArray, List.set_cons_succ, List.set_cons_zero]
            refine ⟨fun w3 hC _ => RelG.uponG_yes rfl ((by go_simp; first | exact RelG.grows_refl _ | exact ⟨RelG.grows_refl _, rfl⟩)), ?_⟩
            simp only [Act.put, List.setIfInBounds_toArray, List.set_cons_succ, List.set_cons_zero]
            refine ⟨fun w3 hC _ => RelG.uponG_yes rfl ((by go_simp; first | exact RelG.grows_refl _ | exact ⟨RelG.grows_refl _, rfl⟩)), ?_⟩
            simp only [Act.put, List.setIfInBounds_toArray, List.set_cons_succ, List.set_cons_zero]
            refine ⟨fun w3 hC _ => RelG.uponG_yes rfl ((by have z := hC.doc.tim.c0; go_simp; first | exact RelG.grows_refl _ | exact ⟨RelG.grows_refl _, rfl⟩)), ?_⟩
            simp only [Act.put, List.setIfInBounds_toArray, List.set_cons_succ, List.set_cons_zero]
            refine ⟨fun w3 hC _ => RelG.uponG_yes rfl ((by go_simp; first | exact RelG.grows_refl _ | exact ⟨RelG.grows_refl _, rfl⟩)), ?_⟩
            simp only [Act.put, List.setIfInBounds_toArray, List.set_cons_succ, List.set_cons_zero]
            refine ⟨fun w3 hC _ => RelG.uponG_yes rfl ((by go_simp; first | exact RelG.grows_refl _ | exact ⟨RelG.grows_refl _, rfl⟩)), ?_⟩
            simp only [Act.put, List.setIfInBounds_toArray, List.set_cons_succ, List.set_cons_zero]
            refine ⟨fun w3 hC _ => RelG.uponG_yes rfl ((by go_simp; first | exact RelG.grows_refl _ | exact ⟨RelG.grows_refl _, rfl⟩)), ?_⟩
            simp only [Act.put, List.setIfInBounds_toArray, List.set_cons_succ, List.set_cons_zero]
            clear P
            intro w9 P _
            go_wp2
            go_ret
            exact ⟨rfl, P.bel⟩
end Go.Proofs.YteklkololojamaaGreat
/- Any number of cores. -/
namespace Go.Proofs.YteklkololojamaaGreat
open Go.RowKit
set_option linter.unusedVariables false
set_option linter.unusedSimpArgs false
set_option maxRecDepth 8000

theorem plays_out (n : Int) (h : n < 1 ∨ 8 < n) (v1 : Value) (W : World) : Calls Tryz.prog 3 #[vI n, v1] W fun e w' => e = .returned (.bool true) ∧ Below W.heap.size W w' := by
  have hnew := bnew_no n h
  by_cases h1 : n < 1
  · clear h
    go_enter Tryz.func3, Tryz.ntmps3
    go_wp2_with (first | (go_at_call 8; refine (known_c _).mono ?_; rintro e wk ⟨rfl, HK⟩; dsimp only) | (go_at_call 9; refine (hnew _).mono ?_; rintro e w1 ⟨rfl, rfl⟩; dsimp only))
    go_ret
    exact ⟨rfl, HK⟩
  · have h2 : 8 < n := by omega
    clear h
    go_enter Tryz.func3, Tryz.ntmps3
    go_wp2_with (first | (go_at_call 8; refine (known_c _).mono ?_; rintro e wk ⟨rfl, HK⟩; dsimp only) | (go_at_call 9; refine (hnew _).mono ?_; rintro e w1 ⟨rfl, rfl⟩; dsimp only))
    go_ret
    exact ⟨rfl, HK⟩

theorem plays_all (cores : Int) (v1 : Value) (ss : List St5) (W : World) (hI : I64 cores) (R : Scr W v1 ss) : Calls Tryz.prog 3 #[vI cores, v1] W fun e w' => e = .returned (.bool true) ∧ Below W.heap.size W w' := by
  by_cases h : cores < 1 ∨ 8 < cores
  · exact plays_out cores h v1 W
  · obtain ⟨n, rfl⟩ : ∃ n : Nat, cores = n := ⟨cores.toNat, by omega⟩
    exact plays_in n (by omega) (by omega) v1 ss W R
end Go.Proofs.YteklkololojamaaGreat
/- Devices and their registers answer, call by call, just as the chapter says: BusPlays returns true, whatever its arguments. -/
namespace Go.Proofs.YteklkololojamaaGreat.busPlays
open Go.ChangeShapes Go.WideShapes Go.ChangeAt Go.RowKit
set_option linter.unusedVariables false
set_option linter.unusedSimpArgs false

theorem own : ownKnob Tryz.prog.godebug = none := by kernel_rfl

set_option maxRecDepth 100000 in
theorem lifted (os : Os) (started : os.Started) (H : Type) (enc : TypeId × Value → H) :
    ReturnsInHanded {} Tryz.checked os 3 .any (Rows.busPlaysSpec.pre6 enc Tryz.prog Tryz.f3 Rows.busPlaysRow.domain false) (Rows.busPlaysSpec.post enc Tryz.prog Tryz.f3 false true false false) := by
  refine returnsInHanded_of_change (C := Tryz.checked) own started (by kernel_rfl) Tryz.func3
    (ChangeSpec.witness6 (enc := enc) (C := Tryz.checked) false ⟨#[], #[.int .i64 0, .slice none 0 0], []⟩ 8 (by kernel_rfl) (by kernel_rfl) (by kernel_rfl) (by kernel_rfl)) ?_
  intro W base args ds gs before hval0 hW hcnd _
  have hval : ∀ (j : Nat) t v, Tryz.f3.params[j]? = some t → args[j]? = some v → Value.okWide Tryz.prog W .any base t v := hval0
  have hW' := hW
  obtain ⟨p, q, hA0, hV, rfl, hfz, hnd⟩ := hW
  have hA : DataW.TrodAll enc Tryz.prog W 0 (fun _ => true) true Tryz.f3.params.toList args.toList ds p := hA0
  have hAll := hA
  rw [Tryz.params3] at hA hval
  obtain ⟨v0, vs0, d0, ds0, p0, q0, hargs, rfl, rfl, h0, r0⟩ := trodAll_cons hA
  obtain ⟨v1, vs1, d1, ds1, p1, q1, rfl, rfl, rfl, h1, r1⟩ := trodAll_cons r0
  obtain ⟨rfl, rfl, rfl⟩ := trodAll_nil r1
  obtain rfl : args = #[v0, v1] := by cases args; simp_all
  obtain ⟨rfl, rfl⟩ := trodVars_none hV
  obtain ⟨a0, rfl, rfl, rfl, w0⟩ := open_int Tryz.underlying3 (hval 0 3 v0 rfl rfl) h0
  obtain ⟨z1, R1⟩ := open_script (hval 1 22 v1 rfl rfl) h1
  clear hA0 hval0
  simp only [List.append_nil] at hW' hAll
  refine (plays_all a0 v1 z1 W (i64_of w0) R1).mono fun e W' ⟨he, hb⟩ => ?_
  subst he
  refine ⟨_, rfl, post_old (P := Tryz.prog) (by kernel_rfl) hW' hb hAll ?_ (fun _ _ _ => (trodAll_cons_mk (shut_bool Tryz.underlying4 _) trodAll_mk0)) rfl (fun _ => rfl) (ok_one (by kernel_rfl) rfl (okWide_bool_mk Tryz.underlying4 _))⟩
  intro t ht
  rw [Tryz.params3] at ht
  have ht' : t = 3 ∨ t = 22 := by simpa using ht
  rcases ht' with rfl | rfl <;> exact ⟨by kernel_rfl, of_decide_eq_true (by kernel_rfl)⟩

theorem over : Rows.busPlaysRow.holds Tryz.pinned (OpenSpec.ofChange Rows.busPlaysSpec) :=
  OpenClaim.holds_of_wide 3 Tryz.f3 rfl rfl rfl rfl rfl rfl rfl ⟨rfl, rfl, rfl, rfl, rfl⟩ rfl rfl rfl rfl rfl (by kernel_rfl) Tryz.func3 (by kernel_rfl)
    (of_decide_eq_true (by kernel_rfl)) (by unfold Func.isWrapper; first | (rw [if_pos (by decide +kernel)]; kernel_rfl) | (rw [if_neg (by decide +kernel)]; exact ⟨rfl, rfl⟩))
    (fun os started H enc _ => lifted os started H enc)

theorem proved : Rows.BusPlaysSaid :=
  over
end Go.Proofs.YteklkololojamaaGreat.busPlays

namespace Go.Proofs.YteklkololojamaaGreat
theorem busPlays_holds : Rows.BusPlaysSaid := busPlays.proved
#print axioms busPlays_holds
end Go.Proofs.YteklkololojamaaGreat
