/- SemWrites returns true: its walk. -/
import Derived.Test.YtbjcdpmhmebjnaaGreatD23
import Derived.Test.YtbjcdpmhmebjnaaGreatD24
import Derived.Test.YtbjcdpmhmebjnaaGreatD25
import Derived.Test.YtbjcdpmhmebjnaaGreatD29
import Derived.Deep.LoopGhost
import Derived.BigQuiet
namespace Go.Proofs.YtbjcdpmhmebjnaaGreat.semWrites
open Go.RowKit
set_option linter.unusedVariables false

set_option maxRecDepth 8000 in
set_option maxHeartbeats 16000000 in
theorem walk_b (c d : Cor) (word : Int) (i : Ins) (k : Gt) (hend : ∀ w : World, Calls Tryz.prog 13 #[c.val, .int .u32 word, k.val] w fun e w' => e = .returned (.tuple #[d.val, .int .i64 0]) ∧ Below w.heap.size w w') (hdec : ∀ w : World, Calls Tryz.prog 15 #[.int .u32 word] w fun e w' => e = .returned i.val ∧ Below w.heap.size w w') (hx : Hid (∀ (r : Nat) (h : r < 31), (setOf i (writesV i)).testBit r = false → d.x[r] = c.x[r])) (hid : d.id = c.id) (hB2 : (rightB i && flag2 i) = false) (ho : i.op = 36) (w : World) :
    Calls Tryz.prog 5 #[c.val, .int .u32 word, k.val] w fun e w' => e = .returned (.bool true) ∧ Below w.heap.size w w' := by
  go_enter Tryz.func5, Tryz.ntmps5
  go_upto_region 1 with fail
  have H := stwo_start w c.cells k.cells 26 40
  generalize hb : w.heap.size = b at H ⊢
  generalize (w.alloc _).alloc _ = w0 at H ⊢
  go_upto_region 2 with (go_at_call 8; refine (examples_c _).mono ?_; rintro e wa ⟨rfl, hB⟩; dsimp only; replace H := H.grow hB)
  go_upto_region 3 with (first | ((with_reducible refine wpList_load_ifA rfl 26 _ rfl b rfl 26 _ (0, 0) _ (H.get (List.mem_cons_of_mem _ List.mem_cons_self)) Tryz.underlying26 rfl (Cor.info _) ?_); simp only [Act.put, List.setIfInBounds_toArray, List.set_cons_succ, List.set_cons_zero]) | ((with_reducible refine wpList_load_ifA rfl 40 _ rfl (b + 1) rfl 40 _ (0, 0) _ (H.get List.mem_cons_self) Tryz.underlying40 rfl (Gt.info _) ?_); simp only [Act.put, List.setIfInBounds_toArray, List.set_cons_succ, List.set_cons_zero]) | (go_at_call 13; refine (hend _).mono ?_; rintro e wa ⟨rfl, hB⟩; dsimp only; replace H := H.grow hB) | ((with_reducible refine wpList_store_new H rfl 26 _ _ rfl d.cells rfl rfl (Cor.info _) ?_ (Cor.one _) ?_); (focus (rw [Cor.size]; rfl)); intro wb H; simp only [Act.put]))
  generalize wa.heap.size = t8 at H ⊢
  go_upto_region 6 with (first | (go_at_call 15; refine (hdec _).mono ?_; rintro e wa ⟨rfl, hB⟩; dsimp only; replace H := H.grow hB) | ((with_reducible refine wpList_store_new H rfl 47 _ _ rfl i.cells rfl rfl (Ins.infoC i) ?_ (Ins.oneC i) ?_); (focus rfl); intro wb H; simp only [Act.put]))
  generalize wa.heap.size = t10 at H ⊢
  go_upto_region 7 with (first | ((with_reducible refine wpList_load_ifA rfl 47 _ rfl t10 rfl 47 _ (0, 0) _ (H.get List.mem_cons_self) Tryz.underlying47 rfl (Ins.infoC i) ?_); simp only [Act.put, List.setIfInBounds_toArray, List.set_cons_succ, List.set_cons_zero]) | (go_at_call 16; refine (Writes_c i _).mono ?_; rintro e wa ⟨vv, rfl, hown, hB⟩; dsimp only; replace H := H.grow hB))
  have hown2 : wa.ownsRow wb.heap.size 3 1 vv (listL (setOf i (writesV i)) 32).length (listV (setOf i (writesV i)) 32) := hown
  have HH : Hid (Has w [(t10, i.cells, 47), (t8, d.cells, 26), (b + 1, k.cells, 40), (b, c.cells, 26)] wa ∧ wa.ownsRow wb.heap.size 3 1 vv (listL (setOf i (writesV i)) 32).length (listV (setOf i (writesV i)) 32)) := ⟨H, hown2⟩
  clear H hown hown2 hB
  go_wp2
  generalize wb.heap.size = B at HH ⊢
  go_loopg [12] 31 (fun gk s12 wx => ∃ kk : Nat, kk + gk = 31 ∧ s12 = .int .i64 kk ∧ Hid (Has w [(t10, i.cells, 47), (t8, d.cells, 26), (b + 1, k.cells, 40), (b, c.cells, 26)] wx ∧ wx.ownsRow B 3 1 vv (listL (setOf i (writesV i)) 32).length (listV (setOf i (writesV i)) 32)))
  case atStart => exact ⟨0, by omega, rfl, HH⟩
  case round =>
    obtain ⟨kk, hkg, rfl, hH⟩ := hrel
    obtain ⟨H, hown⟩ := hH.out
    by_cases hlt : (kk : Int) < 31
    · have e1 := H.at (b := t8) (t := 26) (c := d.cells) (List.mem_cons_of_mem _ List.mem_cons_self) kk (.int .u64 d.x[kk]) (d.atX kk (by omega))
      have e2 := H.at (b := b) (t := 26) (c := c.cells) (List.mem_cons_of_mem _ (List.mem_cons_of_mem _ (List.mem_cons_of_mem _ List.mem_cons_self))) kk (.int .u64 c.x[kk]) (c.atX kk (by omega))
      cases hw : (setOf i (writesV i)).testBit kk
      · have hxe := hx.out kk (by omega) hw
        rw [hxe] at e1
        generalize c.x[kk] = X at e1 e2
        go_wp2_with (go_at_call 17; refine (in_row hown kk (by omega)).mono ?_; rw [hw]; rintro e wz ⟨rfl, rfl⟩; dsimp only)
        go_quiet (fail)
        go_wp2
        go_roundg (gk - 1)
        case rel =>
          refine ⟨kk + 1, by omega, by go_num, ?_⟩
          exact ⟨H.grow ⟨rfl, rfl, rfl, Nat.le_refl _, fun _ _ => rfl⟩, hown⟩
        case measure => omega
      · by_cases hne : d.x[kk] = c.x[kk]
        · rw [hne] at e1
          generalize c.x[kk] = X at e1 e2
          go_wp2_with (go_at_call 17; refine (in_row hown kk (by omega)).mono ?_; rw [hw]; rintro e wz ⟨rfl, rfl⟩; dsimp only)
          go_quiet (fail)
          go_wp2
          go_roundg (gk - 1)
          case rel =>
            refine ⟨kk + 1, by omega, by go_num, ?_⟩
            exact ⟨H.grow ⟨rfl, rfl, rfl, Nat.le_refl _, fun _ _ => rfl⟩, hown⟩
          case measure => omega
        · have hne' : (d.x[kk] != c.x[kk]) = true := by simpa using hne
          generalize d.x[kk] = X at e1 hne hne'
          generalize c.x[kk] = Y at e2 hne hne'
          go_wp2_with (go_at_call 17; refine (in_row hown kk (by omega)).mono ?_; rw [hw]; rintro e wz ⟨rfl, rfl⟩; dsimp only)
          go_quiet (fail)
          go_wp2
          go_roundg (gk - 1)
          case rel =>
            refine ⟨kk + 1, by omega, by go_num, ?_⟩
            exact ⟨H.grow ⟨rfl, rfl, rfl, Nat.le_refl _, fun _ _ => rfl⟩, hown⟩
          case measure => omega
    · clear hx hH hown
      go_upto_region 14 with (first | ((with_reducible refine wpList_load_ifA rfl 47 _ rfl t10 rfl 47 _ (0, 0) _ (H.get List.mem_cons_self) Tryz.underlying47 rfl (Ins.infoC i) ?_); simp only [Act.put, List.setIfInBounds_toArray, List.set_cons_succ, List.set_cons_zero]) | (go_at_call 18; refine (Flags_c i _).mono ?_; rw [hB2]; rintro e wa ⟨rfl, hB⟩; dsimp only; replace H := H.grow hB))
      have o0 := H.at (b := t10) (t := 47) (c := i.cells) List.mem_cons_self 0 (.int .i64 i.op) rfl
      have di := H.at (b := t8) (t := 26) (c := d.cells) (List.mem_cons_of_mem _ List.mem_cons_self) 46 (.int .i64 d.id) d.a46
      rw [hid] at di
      have ci := H.at (b := b) (t := 26) (c := c.cells) (List.mem_cons_of_mem _ (List.mem_cons_of_mem _ (List.mem_cons_of_mem _ List.mem_cons_self))) 46 (.int .i64 c.id) c.a46
      have dn := H.at (b := t8) (t := 26) (c := d.cells) (List.mem_cons_of_mem _ List.mem_cons_self) 34 (.bool d.n) d.a34
      have dz := H.at (b := t8) (t := 26) (c := d.cells) (List.mem_cons_of_mem _ List.mem_cons_self) 35 (.bool d.z) d.a35
      have dc := H.at (b := t8) (t := 26) (c := d.cells) (List.mem_cons_of_mem _ List.mem_cons_self) 36 (.bool d.c) d.a36
      have dv := H.at (b := t8) (t := 26) (c := d.cells) (List.mem_cons_of_mem _ List.mem_cons_self) 37 (.bool d.v) d.a37
      have cn := H.at (b := b) (t := 26) (c := c.cells) (List.mem_cons_of_mem _ (List.mem_cons_of_mem _ (List.mem_cons_of_mem _ List.mem_cons_self))) 34 (.bool c.n) c.a34
      have cz := H.at (b := b) (t := 26) (c := c.cells) (List.mem_cons_of_mem _ (List.mem_cons_of_mem _ (List.mem_cons_of_mem _ List.mem_cons_self))) 35 (.bool c.z) c.a35
      have cc := H.at (b := b) (t := 26) (c := c.cells) (List.mem_cons_of_mem _ (List.mem_cons_of_mem _ (List.mem_cons_of_mem _ List.mem_cons_self))) 36 (.bool c.c) c.a36
      have cv := H.at (b := b) (t := 26) (c := c.cells) (List.mem_cons_of_mem _ (List.mem_cons_of_mem _ (List.mem_cons_of_mem _ List.mem_cons_self))) 37 (.bool c.v) c.a37
      have dp := H.at (b := t8) (t := 26) (c := d.cells) (List.mem_cons_of_mem _ List.mem_cons_self) 33 (.int .u64 d.pc) d.a33
      have cp := H.at (b := b) (t := 26) (c := c.cells) (List.mem_cons_of_mem _ (List.mem_cons_of_mem _ (List.mem_cons_of_mem _ List.mem_cons_self))) 33 (.int .u64 c.pc) c.a33
      have cb := H.at (b := b) (t := 26) (c := c.cells) (List.mem_cons_of_mem _ (List.mem_cons_of_mem _ (List.mem_cons_of_mem _ List.mem_cons_self))) 44 (.int .u64 c.vbar) c.a44
      clear hid
      rw [ho] at o0
      clear dn dz dc dv cn cz cc cv
      go_wp2
      all_goals (go_ret; exact ⟨rfl, by first | exact H.below | (rw [← hb]; exact H.below)⟩)
end Go.Proofs.YtbjcdpmhmebjnaaGreat.semWrites
