/- IrTells: the walk. -/
import Derived.Test.YtccmncecpmemaaaGreatDoorNf
import Derived.Test.YtccmncecpmemaaaGreatDoorFr
import Derived.Test.YtccmncecpmemaaaGreatDoorXk
namespace Go.Proofs.YtccmncecpmemaaaGreatDoor
open Go.RowKit
open Go.WideShapes Go.ChangeShapes
set_option linter.unusedVariables false
set_option linter.unusedSimpArgs false
set_option maxRecDepth 8000

theorem open_op {H : Type} {enc : TypeId × Value → H} {W : World} {base : Nat} {r : Reach} {b0 : Nat} {spare : Nat → Bool} {held : Bool} {v : Value} {d : DataW H} {ps : List MemPlace} (hv : Value.okWide Tryz.prog W r base 27 v) (h : DataW.Trod enc Tryz.prog W b0 spare held 27 v d ps) : ∃ o : Opr, v = opV o ∧ U64 o.imm := by
  obtain ⟨cs, rfl, hsz⟩ := okWide_struct Tryz.underlying27 hv
  rw [cells42] at hsz
  obtain ⟨fuel, hf⟩ := h
  obtain ⟨xs, m, _, _, _, hxl, hq⟩ := DataW.trod_struct fields42 hf
  obtain ⟨l0⟩ := cs
  match l0, hsz with
  | [c0, c1, c2, c3, c4, c5], _ =>
    have hfs : Tryz.prog.fieldsOf 27 = #[⟨ "Kind", 3, 0, false, "", "", 0⟩, ⟨ "R", 3, 1, false, "", "", 8⟩, ⟨ "A", 3, 2, false, "", "", 16⟩, ⟨ "B", 3, 3, false, "", "", 24⟩, ⟨ "Order", 3, 4, false, "", "", 32⟩, ⟨ "Imm", 22, 5, false, "", "", 40⟩] := by kernel_rfl
    have hx6 : xs.length = 6 := by rw [hxl, hfs]; rfl
    have q0 := hq 0 ⟨ "Kind", 3, 0, false, "", "", 0⟩ (by rw [hfs]; rfl)
    have q1 := hq 1 ⟨ "R", 3, 1, false, "", "", 8⟩ (by rw [hfs]; rfl)
    have q2 := hq 2 ⟨ "A", 3, 2, false, "", "", 16⟩ (by rw [hfs]; rfl)
    have q3 := hq 3 ⟨ "B", 3, 3, false, "", "", 24⟩ (by rw [hfs]; rfl)
    have q4 := hq 4 ⟨ "Order", 3, 4, false, "", "", 32⟩ (by rw [hfs]; rfl)
    have q5 := hq 5 ⟨ "Imm", 22, 5, false, "", "", 40⟩ (by rw [hfs]; rfl)
    simp only [cells3, cells22, Value.cells] at q0 q1 q2 q3 q4 q5
    rw [List.getElem?_eq_getElem (by omega)] at q0 q1 q2 q3 q4 q5
    obtain ⟨n0, e0, _, f0⟩ := DataW.trod_int Tryz.underlying3 q0
    obtain ⟨n1, e1, _, f1⟩ := DataW.trod_int Tryz.underlying3 q1
    obtain ⟨n2, e2, _, f2⟩ := DataW.trod_int Tryz.underlying3 q2
    obtain ⟨n3, e3, _, f3⟩ := DataW.trod_int Tryz.underlying3 q3
    obtain ⟨n4, e4, _, f4⟩ := DataW.trod_int Tryz.underlying3 q4
    obtain ⟨n5, e5, _, f5⟩ := DataW.trod_int Tryz.underlying22 q5
    simp at e0 e1 e2 e3 e4 e5
    subst e0; subst e1; subst e2; subst e3; subst e4; subst e5
    have b5 := bounds_u64 f5
    exact ⟨⟨n0, n1, n2, n3, n4, n5⟩, rfl, ⟨b5.1, by have := b5.2; show n5 < _; omega⟩⟩
theorem gTab : Tryz.prog.globalNamed "internal/strconv.uint64pow10" = some 0 := by kernel_rfl
theorem tTab : (Tryz.prog.globals[0]?).map (·.type) = some 138 := by kernel_rfl
theorem tab_of_laid {W : World} (h : laidMetH Tryz.prog laid1 W) : Tab W := by
  rw [MakeChecks.laidMetH_plain _ _ _ (by kernel_rfl)] at h
  exact Lib.tabIs_of_head gTab tTab Tryz.underlying138 Tryz.underlying22 (by kernel_rfl) (by kernel_rfl) (zs := Lib.pow10Tab) (rest := []) h.tail.tail
structure TlW (w : World) (pc words el : Int) (v : Value) (l : List Opr) (o : Opr) (b1 b2 : Nat) (x : World) : Prop where
  r1 : x.heap[b1]? = some (.cells (blA pc words el v) 25)
  r2 : LocO b2 o x
  ops : Ops x v l
  below : Below w.heap.size w x
theorem TlW.grow {w : World} {pc words el : Int} {v : Value} {l : List Opr} {o : Opr} {b1 b2 : Nat} {x y : World} (h : TlW w pc words el v l o b1 b2 x) (hb : Below x.heap.size x y) : TlW w pc words el v l o b1 b2 y :=
  ⟨by rw [hb.block _ (lt_of_some h.r1)]; exact h.r1, h.r2.grow hb, h.ops.grow hb, below_then h.below (Nat.le_refl _) hb⟩
set_option maxHeartbeats 16000000 in
theorem tells_walk {w : World} {pc words el : Int} {v : Value} {l : List Opr} {o : Opr} (hpc : 0 ≤ pc) (O : OpsIn w v l) (ht : Tab w) : Calls Tryz.prog 3 #[blV pc words el v, opV o] w fun e w' => e = .returned (.bool true) ∧ Below w.heap.size w w' := by
  have himm : ∀ k, 0 ≤ (opAt l k).imm := fun k => (O.imm k).1
  have himm2 : ∀ k, (opAt l k).imm < 18446744073709551616 := fun k => (O.imm k).2
  have hcap := O.cap
  have N : TlW w pc words el v l o w.heap.size (w.heap.size + 1) ((w.alloc (.cells (blA pc words el v) 25)).alloc (.cells (opA o) 27)) := by
    have hb := below_alloc w (.cells (blA pc words el v) 25)
    have hb2 := below_alloc (w.alloc (.cells (blA pc words el v) 25)) (.cells (opA o) 27)
    refine ⟨?_, ?_, (O.ops.grow hb).grow hb2, below_then hb (Nat.le_refl _) hb2⟩
    · rw [hb2.block _ (by simp)]; exact heap_alloc_new _ _
    · have := LocO.new (w.alloc (.cells (blA pc words el v) 25)) o
      rw [World.size_alloc] at this; exact this
  have htab := fun x (h : Below w.heap.size w x) => ht.grow h
  clear O ht
  go_enter Tryz.func3, Tryz.ntmps3
  go_upto_region 1 with fail
  generalize (w.alloc (.cells (blA pc words el v) 25)).alloc (.cells (opA o) 27) = w2 at *
  generalize w.heap.size + 1 = b2 at *
  generalize hbb : w.heap.size = b1 at N ⊢
  go_upto_region 2 with (go_at_call 5; (with_reducible refine (examples_c _).mono ?_); rintro e wc ⟨rfl, B⟩; dsimp only; replace N := N.grow B; clear B)
  have kr := fun x (h : Ops x v l) => dRight_c (words := words) (el := el) hpc h himm hcap
  go_upto_region 3 with (first | ((with_reducible refine wpList_load_if rfl 25 _ rfl _ rfl 25 _ (0, 0) _ N.r1 Tryz.underlying25 rfl (bl_inf _ _ _ _) ?_); simp only [Act.put, List.setIfInBounds_toArray, List.set_cons_succ, List.set_cons_zero]) | (go_at_call 6; (with_reducible refine (kr _ N.ops).mono ?_); rintro e wc ⟨rfl, B⟩; dsimp only; replace N := N.grow B; clear B))
  clear kr
  have kt := fun x (h : Ops x v l) (h2 : Tab x) => textA_c (words := words) (el := el) hpc h himm himm2 hcap h2
  have ht2 : Tab wc := htab _ N.below
  go_upto_region 4 with (first | ((with_reducible refine wpList_load_if rfl 25 _ rfl _ rfl 25 _ (0, 0) _ N.r1 Tryz.underlying25 rfl (bl_inf _ _ _ _) ?_); simp only [Act.put, List.setIfInBounds_toArray, List.set_cons_succ, List.set_cons_zero]) | (go_at_call 7; (with_reducible refine (kt _ N.ops ht2).mono ?_); rintro e wc ⟨rfl, B⟩; dsimp only; replace N := N.grow B; clear B))
  clear kt ht2
  have kd := fun x (h : Ops x v l) => dText_c (words := words) (el := el) hpc h himm himm2 hcap
  go_upto_region 5 with (first | ((with_reducible refine wpList_load_if rfl 25 _ rfl _ rfl 25 _ (0, 0) _ N.r1 Tryz.underlying25 rfl (bl_inf _ _ _ _) ?_); simp only [Act.put, List.setIfInBounds_toArray, List.set_cons_succ, List.set_cons_zero]) | (go_at_call 8; (with_reducible refine (kd _ N.ops).mono ?_); rintro e wc ⟨rfl, B⟩; dsimp only; replace N := N.grow B; clear B))
  clear kd
  generalize txtV pc words el l = tx at *
  have kd := fun x => dDefs_c o x
  have kl := fun x => dLeaves_c o x
  rw [defs_has] at kd
  rw [leav_has] at kl
  go_upto_region 6 with (first | ((with_reducible refine wpList_load42 rfl _ rfl _ rfl _ N.r2.at_ ?_); try simp only [Act.put, List.setIfInBounds_toArray, List.set_cons_succ, List.set_cons_zero]) | (go_at_call 9; (with_reducible refine (kd _).mono ?_); rintro e wc ⟨rfl, B⟩; dsimp only; replace N := N.grow B; clear B))
  go_upto_region 7 with (first | ((with_reducible refine wpList_load42 rfl _ rfl _ rfl _ N.r2.at_ ?_); try simp only [Act.put, List.setIfInBounds_toArray, List.set_cons_succ, List.set_cons_zero]) | (go_at_call 10; (with_reducible refine (kl _).mono ?_); rintro e wc ⟨rfl, B⟩; dsimp only; replace N := N.grow B; clear B))
  clear kd kl
  have ku := fun x => usesF_c o x
  have kv := fun x => dUses_c o x
  rw [uses_eq] at kv
  have hul : (usesL o).length ≤ 2 := by rw [← uses_eq]; exact usesD_len o
  generalize usesL o = zs at *
  go_upto_region 8 with (first | ((with_reducible refine wpList_load42 rfl _ rfl _ rfl _ N.r2.at_ ?_); try simp only [Act.put, List.setIfInBounds_toArray, List.set_cons_succ, List.set_cons_zero]) | (go_at_call 11; (with_reducible refine (ku _).mono ?_); rintro e wc ⟨u, rfl, Z, B⟩; dsimp only; replace N := N.grow B; clear B))
  clear ku
  go_upto_region 9 with (first | ((with_reducible refine wpList_load42 rfl _ rfl _ rfl _ N.r2.at_ ?_); try simp only [Act.put, List.setIfInBounds_toArray, List.set_cons_succ, List.set_cons_zero]) | (go_at_call 12; (with_reducible refine (kv _).mono ?_); rintro e wd ⟨u2, rfl, Y, B⟩; dsimp only; replace N := N.grow B; replace Z := Z.grow B; clear B))
  clear kv
  obtain ⟨zo, zc, e1⟩ := Z.len
  obtain ⟨yo, yc, e2⟩ := Y.len
  subst e1; subst e2
  go_upto_region 12 with fail
  go_loopw [15] (fun s15 wq => ∃ i : Nat, i ≤ zs.length ∧ s15 = vI i ∧ TlW w pc words el v l o b1 b2 wq ∧ RawI wq (.slice zo zs.length zc) zs ∧ RawI wq (.slice yo zs.length yc) zs) (fun s15 _ => ((zs.length : Int) - intOf s15).toNat)
  case atStart => exact ⟨0, Nat.zero_le _, rfl, N, Z, Y⟩
  case round =>
    clear N Z Y
    obtain ⟨i, hi, rfl, N, Z, Y⟩ := hrel
    by_cases hil : (i : Int) < zs.length
    · have hil2 : i < zs.length := by omega
      obtain ⟨p, hp⟩ : ∃ p, zs[i]? = some p := ⟨zs[i], List.getElem?_eq_getElem hil2⟩
      obtain ⟨ra, zc', e1, hz⟩ := Z.cell (by omega)
      obtain ⟨rb, yc', e2, hy⟩ := Y.cell (by omega)
      cases e1
      cases e2
      have c0 := (hz i p hp).2
      have c1 := (hy i p hp).2
      clear hz hy
      go_upto_region 14 with fail
      go_quiet (fail)
      replace N := N.grow (below_drewN (Below.refl _ wr) (n := nq))
      replace Z := Z.grow (below_drewN (Below.refl _ wr) (n := nq))
      replace Y := Y.grow (below_drewN (Below.refl _ wr) (n := nq))
      clear c0 c1
      generalize wr.drewN nq = ws at *
      go_wp2
      go_roundw
      case rel => exact ⟨i + 1, by omega, by simp, N, Z, Y⟩
      case measure => simp [intOf]; omega
    · have kR := right_c (words := words) (el := el) hpc N.ops himm hcap
      have kR := fun x (h : Ops x v l) => right_c (words := words) (el := el) hpc h himm hcap
      have kD := fun x => defines_c o x
      have kL := fun x => leaves_c o x
      clear Z Y
      generalize hasP o.kind 32 = hd at *
      generalize hasP o.kind 64 = hv at *
      generalize rightB pc words el l = R at *
      have hB := N.below
      cases R <;> cases hd <;> cases hv
      all_goals
        go_wp2_with (first | ((with_reducible refine wpList_load_if rfl 25 _ rfl _ rfl 25 _ (0, 0) _ N.r1 Tryz.underlying25 rfl (bl_inf _ _ _ _) ?_); simp only [Act.put, List.setIfInBounds_toArray, List.set_cons_succ, List.set_cons_zero]) | ((with_reducible refine wpList_load42 rfl _ rfl _ rfl _ N.r2.at_ ?_); try simp only [Act.put, List.setIfInBounds_toArray, List.set_cons_succ, List.set_cons_zero]) | (go_at_call 13; (with_reducible refine (kR _ N.ops).mono ?_); rintro e wc ⟨rfl, B⟩; dsimp only; replace N := N.grow B; clear B) | (go_at_call 14; (with_reducible refine (kD _).mono ?_); rintro e wc ⟨rfl, B⟩; dsimp only; replace N := N.grow B; clear B) | (go_at_call 15; (with_reducible refine (kL _).mono ?_); rintro e wc ⟨rfl, B⟩; dsimp only; replace N := N.grow B; clear B))
        go_ret
        exact ⟨rfl, by rw [← hbb]; exact N.below⟩
end Go.Proofs.YtccmncecpmemaaaGreatDoor
