/- RelWays. -/
import Derived.Test.YtfgbhdcoemkdoaaDoorUa
namespace Go.Proofs.YtfgbhdcoemkdoaaDoor
open Go.RowKit
set_option linter.unusedVariables false
set_option linter.unusedSimpArgs false
set_option maxRecDepth 8000

open Rlw
theorem made_ok {m : Nat} (hm : m ≤ 64) {v : Value} {ps : List (Int × Int)} {w : World} (hv : Prs w v ps) : Calls Tryd.prog 8 #[vI m, v] w fun e w' => ∃ r x R, e = .returned (.tuple #[ptr r 0, ptr x 0, .bool true]) ∧ Both w r x m R w' :=
  (made_c m hv).mono fun e w' h => by
    rcases h with ⟨h1, _⟩ | ⟨m', r, x, R, e1, e2, h2⟩
    · exact absurd (by unfold newE; rw [if_neg (by omega), if_neg (by omega)]) h1
    · obtain rfl : m = m' := by omega
      exact ⟨r, x, R, e2, h2⟩
theorem made_bad {n : Int} (hn : newE n ≠ 0) {v : Value} {ps : List (Int × Int)} {w : World} (hv : Prs w v ps) : Calls Tryd.prog 8 #[vI n, v] w fun e w' => e = .returned (.tuple #[.pointer none, .pointer none, .bool true]) ∧ Below w.heap.size w w' :=
  (made_c n hv).mono fun e w' h => by
    rcases h with ⟨_, h2, h3⟩ | ⟨m', r, x, R, e1, e2, h2⟩
    · exact ⟨h2, h3⟩
    · exfalso
      apply hn
      have := h2.rel.le
      rw [e1]; unfold newE; rw [if_neg (by omega), if_neg (by omega)]
def I64 (n : Int) : Prop := -9223372036854775808 ≤ n ∧ n ≤ 9223372036854775807
theorem wrap_in {x : Int} (h : I64 x) : wrap64 x = x := by
  have h1 := h.1; have h2 := h.2
  unfold wrap64
  omega
theorem from_neg {f : Int} {m : Nat} (hf : I64 f) (hs : f < 0) (hm : (0 : Int) < m) : ∃ F : Nat, (wrap64 (-wrap64 (f + 1))).tmod m = F ∧ F < m := by
  have h1 : wrap64 (f + 1) = f + 1 := wrap_in ⟨by have := hf.1; omega, by omega⟩
  have h2 : wrap64 (-(f + 1)) = -(f + 1) := wrap_in ⟨by have := hf.1; omega, by have := hf.1; omega⟩
  rw [h1, h2, Int.tmod_eq_emod_of_nonneg (by omega)]
  have h3 := Int.emod_nonneg (-(f + 1)) (by omega : (m : Int) ≠ 0)
  have h4 := Int.emod_lt_of_pos (-(f + 1)) hm
  exact ⟨(-(f + 1) % (m : Int)).toNat, by omega, by omega⟩
theorem from_pos {f : Int} {m : Nat} (hm : (0 : Int) < m) : ∃ F : Nat, f % (m : Int) = F ∧ F < m := by
  have h3 := Int.emod_nonneg f (by omega : (m : Int) ≠ 0)
  have h4 := Int.emod_lt_of_pos f hm
  exact ⟨(f % (m : Int)).toNat, by omega, by omega⟩
set_option maxHeartbeats 8000000 in
theorem ways_walk (n : Int) {v : Value} {ps : List (Int × Int)} (f : Int) {w : World} (hf : I64 f) (hv : Prs w v ps) (hT : Tab w) : Calls Tryd.prog 6 #[vI n, v, vI f] w fun e w' => e = .returned (.bool true) ∧ Below w.heap.size w w' := by
  have hex := examples_c hT
  by_cases hn : newE n = 0
  · obtain ⟨m, rfl, hm⟩ := new_nat hn
    clear hn
    go_enter Tryd.func6, Tryd.ntmps6
    go_upto_region 2 with (first | (go_at_call 7; (with_reducible refine hex.mono ?_); rintro e w1 ⟨rfl, hB1⟩; dsimp only))
    clear hex
    have hmd := made_ok hm (hv.grow hB1)
    go_upto_region 3 with (first | (go_at_call 8; (with_reducible refine hmd.mono ?_); rintro e w2 ⟨r, x, R, rfl, HB⟩; dsimp only))
    clear hmd
    have hB2 : Below w.heap.size w w2 := hB1.trans (HB.low.mono hB1.size)
    have HR := HB.rel
    clear HB hB1 hv
    by_cases h0 : m = 0
    · subst h0
      go_wp2
      go_ret
      exact ⟨rfl, hB2⟩
    · have hm0 : ((m : Int) == 0) = false := by simp; omega
      have hmI : (0 : Int) < m := by omega
      by_cases hs : f < 0
      · obtain ⟨F, eF, hFm⟩ := from_neg hf hs hmI
        go_upto_region 10 with fail
        try rw [eF]
        clear eF hf
        generalize wrap64 (f + 1) = z1
        generalize wrap64 (-z1) = z2
        go_upto_region 12 with (first | (with_reducible refine wpList_mkB rfl _ rfl m hm rfl w.heap.size hB2.size ?_; intro w3 hRs hB3; simp only [Act.put, List.setIfInBounds_toArray, List.set_cons_succ, List.set_cons_zero]))
        have hB3' : Below w.heap.size w w3 := hB2.trans (hB3.mono hB2.size)
        have hrow : (w3.alloc (Obj.cells #[vI F] 3)).ownsRow w.heap.size 3 1 (.slice (some ⟨w3.heap.size, 0, none⟩) 1 1) 1 (flN [F]) := World.ownsRow_lit w3 #[vI F] 1 hB3'.size (by decide) rfl
        have hW0 : WP w r m F w2.heap.size m R (2 * m + 1) (.slice (some ⟨w3.heap.size, 0, none⟩) 1 1) (w3.alloc (Obj.cells #[vI F] 3)) := ⟨[F], fun _ => false, ⟨(HR.grow hB3).grow (below_alloc _ _), hrow, own_grow hRs (below_alloc _ _), hB3'.trans ((below_alloc _ _).mono hB3'.size)⟩, Wy.start hFm, by rw [un_none]; rfl, Nat.le_refl _⟩
        generalize (w3.alloc (Obj.cells #[vI F] 3)) = W4 at *
        generalize Value.slice (some { block := w3.heap.size, off := 0 }) 1 1 = vt at *
        clear hrow hRs hB3 hB3' HR hB2 h0
        go_wp2
        go_loopw [12] (fun s12 wr => ∃ k, WP w r m F w2.heap.size m R k s12 wr) (fun s12 wr => Rg.meas fun k => WP w r m F w2.heap.size m R k s12 wr)
        case atStart => exact ⟨_, hW0⟩
        case round =>
          clear hW0
          obtain ⟨k0, hk0⟩ := hrel
          have hsp := (Rg.meas_spec (p := fun k => WP w r m F w2.heap.size m R k u12 wr) hk0).1
          generalize hK : (Rg.meas fun k => WP w r m F w2.heap.size m R k u12 wr) = K at hsp
          clear hk0
          obtain ⟨td, sn, hWW, hWy, hke, hkb⟩ := hsp
          obtain ⟨ao, cap, evt, hcap, hcap2⟩ := own_len hWW.todo
          replace hK := show Hid _ from hK
          replace hke := show Hid _ from hke
          by_cases htd : td.length = 0
          · obtain rfl : td = [] := List.length_eq_zero_iff.1 htd
            subst evt
            have hcl := closed_c hWW.rel
            go_upto_region 22 with (first | (go_at_call 15; (with_reducible refine hcl.mono ?_); rintro e w6 ⟨q, rfl, HQ, hq, hB6⟩; dsimp only))
            have hWW6 := hWW.grow hB6
            have hseen := hWy.seen hWW.rel.fit
            clear hcl hWW hq hB6
            replace hseen := show Hid _ from hseen
            go_wp2
            go_loopw [16] (fun s16 wr => ∃ b : Nat, b ≤ m ∧ s16 = vI b ∧ Hid (Below w6.heap.size w6 wr)) (fun s16 _ => 64 - (intOf s16).toNat)
            case atStart => exact ⟨0, Nat.zero_le _, rfl, Below.refl _ _⟩
            case round =>
              obtain ⟨b, hbm, rfl, hH⟩ := hrel
              have hB7 := hH.out
              clear hH
              by_cases hlt : (b : Int) < m
              · have hbl : b < m := by omega
                have hsc : ∀ w1, Below wr.heap.size wr w1 → w1.cell? ⟨w2.heap.size, b, none⟩ = some (.bool (war R m F b)) := fun w1 hw1 => by
                  rw [← hseen.out b]; exact (((hWW6.grow hB7).grow hw1).cell hbl).1
                go_upto_region 25 with fail
                have hst : (StC wr (fun _ => False)) 0 { wr with drawn := wr.drawn + 1 } := Rel.below_draws (n := 1) (Below.refl _ _)
                refine Chn.wp_region_chainL (StC wr (fun _ => False)) [] [0, 0, 0, 0, 0, 0, 0, 0, 0] [ptr q 0, vI F, vI b, .bool (war R m F b), .slice (some ⟨w2.heap.size, 0, none⟩) m m, vI b, ptr w2.heap.size b, .bool (war R m F b), .bool false] (by kernel_rfl) (by kernel_rfl) (by kernel_rfl) (by kernel_rfl) (by kernel_rfl) hst ?_
                clear hst
                refine ⟨fun j w1 hj hC => by exact Chn.upon_pure hC (fun F hF => by (go_simp <;> exact hF)), ?_⟩
                simp only [Act.put, List.setIfInBounds_toArray, List.set_cons_succ, List.set_cons_zero]
                refine ⟨fun j w1 hj hC => by exact Chn.upon_pure hC (fun F hF => by (go_simp <;> exact hF)), ?_⟩
                simp only [Act.put, List.setIfInBounds_toArray, List.set_cons_succ, List.set_cons_zero]
                refine ⟨fun j w1 hj hC => by exact Chn.upon_pure hC (fun F hF => by (go_simp <;> exact hF)), ?_⟩
                simp only [Act.put, List.setIfInBounds_toArray, List.set_cons_succ, List.set_cons_zero]
                refine ⟨fun j w1 hj hC => by
                  exact Chn.upon_call (C := (StC wr (fun _ => False)) j) (has_in ((HQ.grow hB7).grow (stC_low0 hC)) hFm hbl) (fun e2 w2 hh => ⟨hh.1, by rw [hh.2]; exact hC⟩) (fun F hF => by (go_simp <;> exact hF)), ?_⟩
                simp only [Act.put, List.setIfInBounds_toArray, List.set_cons_succ, List.set_cons_zero]
                refine ⟨fun j w1 hj hC => by exact Chn.upon_pure hC (fun F hF => by (go_simp <;> exact hF)), ?_⟩
                simp only [Act.put, List.setIfInBounds_toArray, List.set_cons_succ, List.set_cons_zero]
                refine ⟨fun j w1 hj hC => by exact Chn.upon_pure hC (fun F hF => by (go_simp <;> exact hF)), ?_⟩
                simp only [Act.put, List.setIfInBounds_toArray, List.set_cons_succ, List.set_cons_zero]
                refine ⟨fun j w1 hj hC => by exact Chn.upon_pure hC (fun F hF => by (go_simp <;> exact hF)), ?_⟩
                simp only [Act.put, List.setIfInBounds_toArray, List.set_cons_succ, List.set_cons_zero]
                refine ⟨fun j w1 hj hC => by
                  have z := hsc w1 (stC_low hj hC)
                  exact Chn.upon_pure hC (fun F hF => by (go_simp <;> exact hF)), ?_⟩
                simp only [Act.put, List.setIfInBounds_toArray, List.set_cons_succ, List.set_cons_zero]
                refine ⟨fun j w1 hj hC => by exact Chn.upon_pure hC (fun F hF => by (go_simp <;> exact hF)), ?_⟩
                simp only [Act.put, List.setIfInBounds_toArray, List.set_cons_succ, List.set_cons_zero]
                intro w5 hC
                have hB8 : Below wr.heap.size wr w5 := hC
                clear hC
                go_wp2
                go_roundw
                case rel => exact ⟨b + 1, by omega, by go_num, hB7.trans (hB8.mono hB7.size)⟩
                case measure => simp [intOf]; omega
              · obtain rfl : b = m := by omega
                go_wp2
                go_ret
                exact ⟨rfl, hWW6.low.trans (hB7.mono hWW6.low.size)⟩
          · obtain ⟨n1, hn1⟩ : ∃ n1, td.length = n1 + 1 := ⟨td.length - 1, by omega⟩
            have hta : td[n1]? = some td[n1] := List.getElem?_eq_getElem (by omega)
            generalize td[n1] = a at hta
            obtain ⟨g, cap', evg⟩ := own_slice hWW.todo (by omega)
            rw [evt] at evg
            cases evg
            have ca := own_cell hWW.todo evt hta
            have hz := hWy.pop hn1 hta
            have hrow2 := hWW.todo
            rw [evt, hn1] at hrow2
            have hcut := own_cut hrow2
            have hWW2 : WW w r m w2.heap.size m R (td.take n1) (.slice (some ⟨g, 0, none⟩) n1 cap) sn wr := ⟨hWW.rel, by rw [List.length_take, Nat.min_eq_left (by omega)]; exact hcut, hWW.seen, hWW.low⟩
            have hn64 : n1 ≤ 200 := by have := hke.out; omega
            have hcap3 : n1 + 1 ≤ cap := by omega
            rw [evt, hn1]
            have hke2 : Hid (2 * un m sn + (td.take n1).length + 1 = K) := by
              show _ = _
              have := hke.out
              rw [List.length_take, Nat.min_eq_left (by omega)]; omega
            have hu12 : Hid (u12 = .slice (some ⟨g, 0, none⟩) td.length cap) := evt
            clear hta hrow2 hcut hWy evt htd
            have hKm : Hid (Rg.meas (fun k => WP w r m F w2.heap.size m R k (.slice (some ⟨g, 0, none⟩) (n1 + 1) cap) wr) = K) := by
              have h2 := hK.out
              rw [hu12.out, hn1] at h2
              exact h2
            clear hK hu12 hke
            go_wp2
            go_loopw [12, 14] (fun s12 s14 wx => ∃ (b : Nat) (td' : List Nat) (sn' : Nat → Bool), b ≤ m ∧ s14 = vI b ∧ Hid (WW w r m w2.heap.size m R td' s12 sn' wx ∧ Wz R m F a b td' sn' ∧ 2 * un m sn' + td'.length + 1 ≤ K)) (fun _ s14 _ => 64 - (intOf s14).toNat)
            case atStart => exact ⟨0, _, _, Nat.zero_le _, rfl, hWW2, hz, Nat.le_of_eq hke2.out⟩
            case round =>
              clear hWW2 hz hke2 hWW ca
              obtain ⟨b, td', sn', hbm, rfl, hH⟩ := hrel
              obtain ⟨hV, hZ, hle'⟩ := hH.out
              clear hH
              by_cases hlt : (b : Int) < m
              · have hbl : b < m := by omega
                have hhas := has_in hV.rel hZ.am hbl
                have hcs := hV.cell hbl
                cases hR : R a b with
                | false =>
                  rw [hR] at hhas
                  have hZ2 := hZ.skip (fun h => by rw [hR] at h; cases h)
                  replace hR := show Hid _ from hR
                  clear hcs
                  go_wp2_with (first | (go_at_call 21; (with_reducible refine hhas.mono ?_); rintro e wr ⟨rfl, rfl⟩; dsimp only))
                  go_roundw
                  case rel => exact ⟨b + 1, td', sn', by omega, by go_num, hV, hZ2, hle'⟩
                  case measure => simp [intOf]; omega
                | true =>
                  rw [hR] at hhas
                  cases hsb : sn' b with
                  | true =>
                    have hZ2 := hZ.skip (fun _ => hsb)
                    rw [hsb] at hcs
                    have hc1 := hcs.1
                    replace hR := show Hid _ from hR
                    replace hsb := show Hid _ from hsb
                    clear hcs
                    go_wp2_with (first | (go_at_call 21; (with_reducible refine hhas.mono ?_); rintro e wr ⟨rfl, rfl⟩; dsimp only))
                    go_roundw
                    case rel => exact ⟨b + 1, td', sn', by omega, by go_num, hV, hZ2, hle'⟩
                    case measure => simp [intOf]; omega
                  | false =>
                    have hZ2 := hZ.see hbl hR
                    rw [hsb] at hcs
                    have hc1 := hcs.1
                    have hc2 := hcs.2
                    have hun := un_in hsb m hbl
                    replace hR := show Hid _ from hR
                    replace hsb := show Hid _ from hsb
                    clear hcs
                    go_upto_region 20 with (first | (go_at_call 21; (with_reducible refine hhas.mono ?_); rintro e wr ⟨rfl, rfl⟩; dsimp only))
                    have hV1 := hV.mark hbl
                    clear hV hc1 hc2 hhas
                    generalize wr.setCell _ _ = w8 at *
                    have hV2 := hV1.grow (below_alloc w8 (Obj.cells #[vI b] 3))
                    have hnb : (w8.alloc (Obj.cells #[vI b] 3)).heap[w8.heap.size]? = some (.cells #[vI b] 3) := World.alloc_heap_new _ _
                    have hl9 : td'.length < 1000000000 := by omega
                    go_wp2_with (first | (at_builtin; refine wpList_appN (by rfl) 43 Tryd.underlying43 _ _ (by rfl) w.heap.size u12 td' (by rfl) hV2.todo hV2.low.size w8.heap.size 1 b (by rfl) hnb hl9 ?_; intro g4 cap4 w9 hown4 hgr4 hvo4; simp only [Act.put, List.setIfInBounds_toArray, List.set_cons_succ, List.set_cons_zero]))
                    have hV3 := hV2.app hgr4 hown4
                    go_roundw
                    case rel => exact ⟨b + 1, td' ++ [b], upB sn' b, by omega, by go_num, hV3, hZ2, by rw [List.length_append, List.length_singleton]; omega⟩
                    case measure => simp [intOf]; omega
              · obtain rfl : b = m := by omega
                have hY := hZ.all hV.rel.fit
                have hnew : WP w r b F w2.heap.size b R (2 * un b sn' + td'.length) u12 wr := ⟨td', sn', hV, hY, rfl, by omega⟩
                go_wp2
                go_roundw
                case rel => exact ⟨_, hnew⟩
                case measure =>
                  have h1 := (Rg.meas_spec (p := fun k => WP w r b F w2.heap.size b R k u12 wr) hnew).2
                  have h2 := hKm.out
                  omega
      · obtain ⟨F, eF, hFm⟩ := from_pos (f := f) hmI
        go_upto_region 10 with fail
        try rw [eF]
        clear eF hf
        go_upto_region 12 with (first | (with_reducible refine wpList_mkB rfl _ rfl m hm rfl w.heap.size hB2.size ?_; intro w3 hRs hB3; simp only [Act.put, List.setIfInBounds_toArray, List.set_cons_succ, List.set_cons_zero]))
        have hB3' : Below w.heap.size w w3 := hB2.trans (hB3.mono hB2.size)
        have hrow : (w3.alloc (Obj.cells #[vI F] 3)).ownsRow w.heap.size 3 1 (.slice (some ⟨w3.heap.size, 0, none⟩) 1 1) 1 (flN [F]) := World.ownsRow_lit w3 #[vI F] 1 hB3'.size (by decide) rfl
        have hW0 : WP w r m F w2.heap.size m R (2 * m + 1) (.slice (some ⟨w3.heap.size, 0, none⟩) 1 1) (w3.alloc (Obj.cells #[vI F] 3)) := ⟨[F], fun _ => false, ⟨(HR.grow hB3).grow (below_alloc _ _), hrow, own_grow hRs (below_alloc _ _), hB3'.trans ((below_alloc _ _).mono hB3'.size)⟩, Wy.start hFm, by rw [un_none]; rfl, Nat.le_refl _⟩
        generalize (w3.alloc (Obj.cells #[vI F] 3)) = W4 at *
        generalize Value.slice (some { block := w3.heap.size, off := 0 }) 1 1 = vt at *
        clear hrow hRs hB3 hB3' HR hB2 h0
        go_wp2
        go_loopw [12] (fun s12 wr => ∃ k, WP w r m F w2.heap.size m R k s12 wr) (fun s12 wr => Rg.meas fun k => WP w r m F w2.heap.size m R k s12 wr)
        case atStart => exact ⟨_, hW0⟩
        case round =>
          clear hW0
          obtain ⟨k0, hk0⟩ := hrel
          have hsp := (Rg.meas_spec (p := fun k => WP w r m F w2.heap.size m R k u12 wr) hk0).1
          generalize hK : (Rg.meas fun k => WP w r m F w2.heap.size m R k u12 wr) = K at hsp
          clear hk0
          obtain ⟨td, sn, hWW, hWy, hke, hkb⟩ := hsp
          obtain ⟨ao, cap, evt, hcap, hcap2⟩ := own_len hWW.todo
          replace hK := show Hid _ from hK
          replace hke := show Hid _ from hke
          by_cases htd : td.length = 0
          · obtain rfl : td = [] := List.length_eq_zero_iff.1 htd
            subst evt
            have hcl := closed_c hWW.rel
            go_upto_region 22 with (first | (go_at_call 15; (with_reducible refine hcl.mono ?_); rintro e w6 ⟨q, rfl, HQ, hq, hB6⟩; dsimp only))
            have hWW6 := hWW.grow hB6
            have hseen := hWy.seen hWW.rel.fit
            clear hcl hWW hq hB6
            replace hseen := show Hid _ from hseen
            go_wp2
            go_loopw [16] (fun s16 wr => ∃ b : Nat, b ≤ m ∧ s16 = vI b ∧ Hid (Below w6.heap.size w6 wr)) (fun s16 _ => 64 - (intOf s16).toNat)
            case atStart => exact ⟨0, Nat.zero_le _, rfl, Below.refl _ _⟩
            case round =>
              obtain ⟨b, hbm, rfl, hH⟩ := hrel
              have hB7 := hH.out
              clear hH
              by_cases hlt : (b : Int) < m
              · have hbl : b < m := by omega
                have hsc : ∀ w1, Below wr.heap.size wr w1 → w1.cell? ⟨w2.heap.size, b, none⟩ = some (.bool (war R m F b)) := fun w1 hw1 => by
                  rw [← hseen.out b]; exact (((hWW6.grow hB7).grow hw1).cell hbl).1
                go_upto_region 25 with fail
                have hst : (StC wr (fun _ => False)) 0 { wr with drawn := wr.drawn + 1 } := Rel.below_draws (n := 1) (Below.refl _ _)
                refine Chn.wp_region_chainL (StC wr (fun _ => False)) [] [0, 0, 0, 0, 0, 0, 0, 0, 0] [ptr q 0, vI F, vI b, .bool (war R m F b), .slice (some ⟨w2.heap.size, 0, none⟩) m m, vI b, ptr w2.heap.size b, .bool (war R m F b), .bool false] (by kernel_rfl) (by kernel_rfl) (by kernel_rfl) (by kernel_rfl) (by kernel_rfl) hst ?_
                clear hst
                refine ⟨fun j w1 hj hC => by exact Chn.upon_pure hC (fun F hF => by (go_simp <;> exact hF)), ?_⟩
                simp only [Act.put, List.setIfInBounds_toArray, List.set_cons_succ, List.set_cons_zero]
                refine ⟨fun j w1 hj hC => by exact Chn.upon_pure hC (fun F hF => by (go_simp <;> exact hF)), ?_⟩
                simp only [Act.put, List.setIfInBounds_toArray, List.set_cons_succ, List.set_cons_zero]
                refine ⟨fun j w1 hj hC => by exact Chn.upon_pure hC (fun F hF => by (go_simp <;> exact hF)), ?_⟩
                simp only [Act.put, List.setIfInBounds_toArray, List.set_cons_succ, List.set_cons_zero]
                refine ⟨fun j w1 hj hC => by
                  exact Chn.upon_call (C := (StC wr (fun _ => False)) j) (has_in ((HQ.grow hB7).grow (stC_low0 hC)) hFm hbl) (fun e2 w2 hh => ⟨hh.1, by rw [hh.2]; exact hC⟩) (fun F hF => by (go_simp <;> exact hF)), ?_⟩
                simp only [Act.put, List.setIfInBounds_toArray, List.set_cons_succ, List.set_cons_zero]
                refine ⟨fun j w1 hj hC => by exact Chn.upon_pure hC (fun F hF => by (go_simp <;> exact hF)), ?_⟩
                simp only [Act.put, List.setIfInBounds_toArray, List.set_cons_succ, List.set_cons_zero]
                refine ⟨fun j w1 hj hC => by exact Chn.upon_pure hC (fun F hF => by (go_simp <;> exact hF)), ?_⟩
                simp only [Act.put, List.setIfInBounds_toArray, List.set_cons_succ, List.set_cons_zero]
                refine ⟨fun j w1 hj hC => by exact Chn.upon_pure hC (fun F hF => by (go_simp <;> exact hF)), ?_⟩
                simp only [Act.put, List.setIfInBounds_toArray, List.set_cons_succ, List.set_cons_zero]
                refine ⟨fun j w1 hj hC => by
                  have z := hsc w1 (stC_low hj hC)
                  exact Chn.upon_pure hC (fun F hF => by (go_simp <;> exact hF)), ?_⟩
                simp only [Act.put, List.setIfInBounds_toArray, List.set_cons_succ, List.set_cons_zero]
                refine ⟨fun j w1 hj hC => by exact Chn.upon_pure hC (fun F hF => by (go_simp <;> exact hF)), ?_⟩
                simp only [Act.put, List.setIfInBounds_toArray, List.set_cons_succ, List.set_cons_zero]
                intro w5 hC
                have hB8 : Below wr.heap.size wr w5 := hC
                clear hC
                go_wp2
                go_roundw
                case rel => exact ⟨b + 1, by omega, by go_num, hB7.trans (hB8.mono hB7.size)⟩
                case measure => simp [intOf]; omega
              · obtain rfl : b = m := by omega
                go_wp2
                go_ret
                exact ⟨rfl, hWW6.low.trans (hB7.mono hWW6.low.size)⟩
          · obtain ⟨n1, hn1⟩ : ∃ n1, td.length = n1 + 1 := ⟨td.length - 1, by omega⟩
            have hta : td[n1]? = some td[n1] := List.getElem?_eq_getElem (by omega)
            generalize td[n1] = a at hta
            obtain ⟨g, cap', evg⟩ := own_slice hWW.todo (by omega)
            rw [evt] at evg
            cases evg
            have ca := own_cell hWW.todo evt hta
            have hz := hWy.pop hn1 hta
            have hrow2 := hWW.todo
            rw [evt, hn1] at hrow2
            have hcut := own_cut hrow2
            have hWW2 : WW w r m w2.heap.size m R (td.take n1) (.slice (some ⟨g, 0, none⟩) n1 cap) sn wr := ⟨hWW.rel, by rw [List.length_take, Nat.min_eq_left (by omega)]; exact hcut, hWW.seen, hWW.low⟩
            have hn64 : n1 ≤ 200 := by have := hke.out; omega
            have hcap3 : n1 + 1 ≤ cap := by omega
            rw [evt, hn1]
            have hke2 : Hid (2 * un m sn + (td.take n1).length + 1 = K) := by
              show _ = _
              have := hke.out
              rw [List.length_take, Nat.min_eq_left (by omega)]; omega
            have hu12 : Hid (u12 = .slice (some ⟨g, 0, none⟩) td.length cap) := evt
            clear hta hrow2 hcut hWy evt htd
            have hKm : Hid (Rg.meas (fun k => WP w r m F w2.heap.size m R k (.slice (some ⟨g, 0, none⟩) (n1 + 1) cap) wr) = K) := by
              have h2 := hK.out
              rw [hu12.out, hn1] at h2
              exact h2
            clear hK hu12 hke
            go_wp2
            go_loopw [12, 14] (fun s12 s14 wx => ∃ (b : Nat) (td' : List Nat) (sn' : Nat → Bool), b ≤ m ∧ s14 = vI b ∧ Hid (WW w r m w2.heap.size m R td' s12 sn' wx ∧ Wz R m F a b td' sn' ∧ 2 * un m sn' + td'.length + 1 ≤ K)) (fun _ s14 _ => 64 - (intOf s14).toNat)
            case atStart => exact ⟨0, _, _, Nat.zero_le _, rfl, hWW2, hz, Nat.le_of_eq hke2.out⟩
            case round =>
              clear hWW2 hz hke2 hWW ca
              obtain ⟨b, td', sn', hbm, rfl, hH⟩ := hrel
              obtain ⟨hV, hZ, hle'⟩ := hH.out
              clear hH
              by_cases hlt : (b : Int) < m
              · have hbl : b < m := by omega
                have hhas := has_in hV.rel hZ.am hbl
                have hcs := hV.cell hbl
                cases hR : R a b with
                | false =>
                  rw [hR] at hhas
                  have hZ2 := hZ.skip (fun h => by rw [hR] at h; cases h)
                  replace hR := show Hid _ from hR
                  clear hcs
                  go_wp2_with (first | (go_at_call 21; (with_reducible refine hhas.mono ?_); rintro e wr ⟨rfl, rfl⟩; dsimp only))
                  go_roundw
                  case rel => exact ⟨b + 1, td', sn', by omega, by go_num, hV, hZ2, hle'⟩
                  case measure => simp [intOf]; omega
                | true =>
                  rw [hR] at hhas
                  cases hsb : sn' b with
                  | true =>
                    have hZ2 := hZ.skip (fun _ => hsb)
                    rw [hsb] at hcs
                    have hc1 := hcs.1
                    replace hR := show Hid _ from hR
                    replace hsb := show Hid _ from hsb
                    clear hcs
                    go_wp2_with (first | (go_at_call 21; (with_reducible refine hhas.mono ?_); rintro e wr ⟨rfl, rfl⟩; dsimp only))
                    go_roundw
                    case rel => exact ⟨b + 1, td', sn', by omega, by go_num, hV, hZ2, hle'⟩
                    case measure => simp [intOf]; omega
                  | false =>
                    have hZ2 := hZ.see hbl hR
                    rw [hsb] at hcs
                    have hc1 := hcs.1
                    have hc2 := hcs.2
                    have hun := un_in hsb m hbl
                    replace hR := show Hid _ from hR
                    replace hsb := show Hid _ from hsb
                    clear hcs
                    go_upto_region 20 with (first | (go_at_call 21; (with_reducible refine hhas.mono ?_); rintro e wr ⟨rfl, rfl⟩; dsimp only))
                    have hV1 := hV.mark hbl
                    clear hV hc1 hc2 hhas
                    generalize wr.setCell _ _ = w8 at *
                    have hV2 := hV1.grow (below_alloc w8 (Obj.cells #[vI b] 3))
                    have hnb : (w8.alloc (Obj.cells #[vI b] 3)).heap[w8.heap.size]? = some (.cells #[vI b] 3) := World.alloc_heap_new _ _
                    have hl9 : td'.length < 1000000000 := by omega
                    go_wp2_with (first | (at_builtin; refine wpList_appN (by rfl) 43 Tryd.underlying43 _ _ (by rfl) w.heap.size u12 td' (by rfl) hV2.todo hV2.low.size w8.heap.size 1 b (by rfl) hnb hl9 ?_; intro g4 cap4 w9 hown4 hgr4 hvo4; simp only [Act.put, List.setIfInBounds_toArray, List.set_cons_succ, List.set_cons_zero]))
                    have hV3 := hV2.app hgr4 hown4
                    go_roundw
                    case rel => exact ⟨b + 1, td' ++ [b], upB sn' b, by omega, by go_num, hV3, hZ2, by rw [List.length_append, List.length_singleton]; omega⟩
                    case measure => simp [intOf]; omega
              · obtain rfl : b = m := by omega
                have hY := hZ.all hV.rel.fit
                have hnew : WP w r b F w2.heap.size b R (2 * un b sn' + td'.length) u12 wr := ⟨td', sn', hV, hY, rfl, by omega⟩
                go_wp2
                go_roundw
                case rel => exact ⟨_, hnew⟩
                case measure =>
                  have h1 := (Rg.meas_spec (p := fun k => WP w r b F w2.heap.size b R k u12 wr) hnew).2
                  have h2 := hKm.out
                  omega
  · have hne := newE_ne hn
    go_enter Tryd.func6, Tryd.ntmps6
    go_upto_region 2 with (first | (go_at_call 7; (with_reducible refine hex.mono ?_); rintro e w1 ⟨rfl, hB1⟩; dsimp only))
    clear hex
    have hmd := made_bad hn (hv.grow hB1)
    go_wp2_with (first | (go_at_call 8; (with_reducible refine hmd.mono ?_); rintro e w2 ⟨rfl, hB2⟩; dsimp only))
    go_ret
    exact ⟨rfl, hB1.trans (hB2.mono hB1.size)⟩
end Go.Proofs.YtfgbhdcoemkdoaaDoor
