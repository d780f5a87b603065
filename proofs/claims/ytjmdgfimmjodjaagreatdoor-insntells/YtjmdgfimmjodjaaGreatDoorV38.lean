/- How an instruction is written, as Text of package insn gives it back: a contract, for every instruction. -/
import Derived.Test.YtjmdgfimmjodjaaGreatDoorV35
import Derived.Test.YtjmdgfimmjodjaaGreatDoorV37
namespace Go.Proofs.YtjmdgfimmjodjaaGreatDoor
open Go.RowKit Go.Rel

theorem row_shape {base : Nat} {xs : List Tx} {v : Value} {w : World} (h : RowT base xs v w) : ∃ a c, v = .slice a xs.length c := by
  rcases h.2 with ⟨rfl, h0⟩ | ⟨g, cap, cur, rfl, -⟩
  · exact ⟨none, 0, by rw [h0]⟩
  · exact ⟨_, _, rfl⟩

set_option maxRecDepth 100000 in
theorem words_len : (keysL.all fun k => decide ((wordK k).length ≤ 8)) = true := by decide +kernel
theorem word_len {i : Ins} (h : rightB i = true) : (wordV i).length ≤ 8 := by
  rw [← word_key']
  exact of_decide_eq_true (List.all_eq_true.1 words_len _ (key_mem h))
def lenOk (xs : List Tx) : Prop := match xs with
  | [] => True
  | x :: r => x.length ≤ 100 ∧ lenOk r
theorem lenOk_mem : ∀ {xs : List Tx}, lenOk xs → ∀ x ∈ xs, x.length ≤ 100
  | [], _, _, h => by simp at h
  | a :: r, hc, x, h => by
    rcases List.mem_cons.1 h with e | e
    · rw [e]; exact hc.1
    · exact lenOk_mem hc.2 x e
theorem reg_le {n : Int} (sp : Bool) (h0 : 0 ≤ n) (h1 : n ≤ 31) : (regT n sp).length ≤ 100 := Nat.le_trans (reg_len sp h0 h1) (by decide)
theorem num_le {a : Int} (a0 : -9223372036854775808 ≤ a) (a1 : a ≤ 9223372036854775807) : (numT a).length ≤ 100 := Nat.le_trans (num_len a0 a1) (by decide)
theorem mask_le (i : Ins) : (maskT i).length ≤ 100 := by
  have hm := maskV_bounds i.amount i.imm i.imm2
  have : (Lib.decDigits (maskV i.amount i.imm i.imm2).toNat).length ≤ 20 := by
    rw [Lib.decDigits_length]
    by_cases h1 : 1 ≤ (maskV i.amount i.imm i.imm2).toNat
    · have := Lib.numDigits_eq _ h1 (by omega)
      split at this <;> omega
    · rw [Lib.nDigits_small (by omega)]; omega
  simp only [maskT, List.length_cons]; omega
theorem shifted_ok {k a : Int} (h0 : 0 ≤ k) (h3 : k ≤ 3) (a0 : -9223372036854775808 ≤ a) (a1 : a ≤ 9223372036854775807) : lenOk (shiftedT k a) ∧ (shiftedT k a).length ≤ 1 := by
  unfold shiftedT
  cases k == 0 && a == 0
  · exact ⟨⟨Nat.le_trans (sft_len h0 h3 a0 a1) (by decide), trivial⟩, by simp⟩
  · exact ⟨trivial, by simp⟩
theorem place1 {x : Tx} (h : x.length ≤ 22) : (placeT [x]).length ≤ 100 := by
  simp only [placeT, Lib.join_one, List.length_cons, List.length_append, List.length_nil]; omega
theorem place2 {x y : Tx} (h : x.length ≤ 22) (h2 : y.length ≤ 22) : (placeT [x, y]).length ≤ 100 := by
  simp only [placeT, join_two, Lib.join_one, List.length_cons, List.length_append, List.length_nil]; omega
theorem place3 {x y z : Tx} (h : x.length ≤ 22) (h2 : y.length ≤ 22) (h3 : z.length ≤ 26) : (placeT [x, y, z]).length ≤ 100 := by
  simp only [placeT, join_two, Lib.join_one, List.length_cons, List.length_append, List.length_nil]; omega
theorem cond_le {k : Int} (h0 : 0 ≤ k) (h1 : k ≤ 15) : (condT k).length ≤ 100 := by
  have := cond_two ⟨k.toNat, by omega⟩
  rw [show ((⟨k.toNat, by omega⟩ : Fin 16).val : Int) = k by simp; omega] at this
  omega
theorem bar_le (k : Int) : (barT k).length ≤ 100 := by unfold barT; cases k == 0 <;> cases k == 1 <;> cases k == 2 <;> decide
theorem daif_le (k : Int) : (daifT k).length ≤ 100 := by unfold daifT; cases k == 0 <;> cases k == 1 <;> decide
theorem ok_app {xs ys : List Tx} (hx : lenOk xs) (hy : lenOk ys) : lenOk (xs ++ ys) := by
  induction xs with
  | nil => exact hy
  | cons a r ih => exact ⟨hx.1, ih hx.2⟩

theorem parts_ok {i : Ins} (R : rightB i = true) : lenOk (partsV i) ∧ (partsV i).length ≤ 4 := by
  have G := fits R
  have hr := inR_of R
  have HN := num_of R
  have hm := ops_mem G.o0 G.o1
  obtain ⟨op, sub, rd, rn, rm, ra, imm, imm2, amount, shift, cond, sys, flags, minus, not, link⟩ := i
  have rD := fun s => reg_le s hr.d0 hr.d1
  have rN := fun s => reg_le s hr.n0 hr.n1
  have rM := fun s => reg_le s hr.m0 hr.m1
  have rA := fun s => reg_le s hr.a0 hr.a1
  have nI := num_le HN.i0 HN.i1
  have nJ := num_le HN.j0 HN.j1
  have nK := num_le HN.k0 HN.k1
  have nY := num_le HN.y0 HN.y1
  have z0 := shifted_ok (k := 0) (by decide) (by decide) HN.k0 HN.k1
  have pn := fun s => reg_len s hr.n0 hr.n1
  have pm := fun s => reg_len s hr.m0 hr.m1
  simp only [opsL, List.mem_cons, List.not_mem_nil, or_false] at hm
  rcases hm with rfl | rfl | rfl | rfl | rfl | rfl | rfl | rfl | rfl | rfl | rfl | rfl | rfl | rfl | rfl | rfl | rfl | rfl | rfl | rfl | rfl | rfl | rfl | rfl | rfl | rfl | rfl | rfl | rfl | rfl | rfl | rfl | rfl | rfl | rfl | rfl | rfl
  · exact ⟨⟨rD _, rN _, nI, z0.1⟩, Nat.add_le_add_right z0.2 3⟩
  · have z := shifted_ok G.t0 (Int.le_trans G.t1 (show (shiftS 2).hi ≤ 3 by decide)) HN.k0 HN.k1
    exact ⟨⟨rD _, rN _, rM _, z.1⟩, Nat.add_le_add_right z.2 3⟩
  · have z := shifted_ok G.t0 (Int.le_trans G.t1 (show (shiftS 3).hi ≤ 3 by decide)) HN.k0 HN.k1
    exact ⟨⟨rD _, rN _, rM _, z.1⟩, Nat.add_le_add_right z.2 3⟩
  · exact ⟨⟨rD _, rN _, mask_le _, trivial⟩, show 3 ≤ 4 by decide⟩
  · exact ⟨⟨rD _, nI, z0.1⟩, Nat.le_trans (Nat.add_le_add_right z0.2 2) (by decide)⟩
  · exact ⟨⟨rD _, rN _, nI, nJ, trivial⟩, Nat.le_refl 4⟩
  · exact ⟨⟨rD _, rN _, rM _, trivial⟩, Nat.le_succ 3⟩
  · exact ⟨⟨rD _, rN _, rM _, rA _, trivial⟩, Nat.le_refl 4⟩
  · exact ⟨⟨rD _, rN _, rM _, trivial⟩, Nat.le_succ 3⟩
  · exact ⟨⟨rD _, rN _, rM _, cond_le G.c0 G.c1, trivial⟩, Nat.le_refl 4⟩
  · exact ⟨⟨rD _, nI, trivial⟩, show 2 ≤ 4 by decide⟩
  · exact ⟨⟨nI, trivial⟩, show 1 ≤ 4 by decide⟩
  · exact ⟨⟨nI, trivial⟩, show 1 ≤ 4 by decide⟩
  · exact ⟨⟨rD _, nI, trivial⟩, show 2 ≤ 4 by decide⟩
  · exact ⟨⟨rD _, nK, nI, trivial⟩, show 3 ≤ 4 by decide⟩
  · exact ⟨⟨rN _, trivial⟩, show 1 ≤ 4 by decide⟩
  · exact ⟨⟨rD _, place2 (pn _) (num_len HN.i0 HN.i1), trivial⟩, show 2 ≤ 4 by decide⟩
  · exact ⟨⟨rD _, place2 (pn _) (num_len HN.i0 HN.i1), trivial⟩, show 2 ≤ 4 by decide⟩
  · exact ⟨⟨rD _, place3 (pn _) (pm _) (sft_len (by decide) (by decide) HN.k0 HN.k1), trivial⟩, show 2 ≤ 4 by decide⟩
  · exact ⟨⟨rD _, place3 (pn _) (pm _) (sft_len (by decide) (by decide) HN.k0 HN.k1), trivial⟩, show 2 ≤ 4 by decide⟩
  · exact ⟨⟨rD _, place1 (pn _), trivial⟩, show 2 ≤ 4 by decide⟩
  · exact ⟨⟨rD _, place1 (pn _), trivial⟩, show 2 ≤ 4 by decide⟩
  · exact ⟨⟨rD _, place1 (pn _), trivial⟩, show 2 ≤ 4 by decide⟩
  · exact ⟨⟨rM _, rD _, place1 (pn _), trivial⟩, show 3 ≤ 4 by decide⟩
  · exact ⟨trivial, show 0 ≤ 4 by decide⟩
  · exact ⟨⟨bar_le _, trivial⟩, show 1 ≤ 4 by decide⟩
  · exact ⟨trivial, show 0 ≤ 4 by decide⟩
  · exact ⟨⟨rD _, trivial⟩, show 1 ≤ 4 by decide⟩
  · exact ⟨trivial, show 0 ≤ 4 by decide⟩
  · exact ⟨⟨rD _, trivial⟩, show 1 ≤ 4 by decide⟩
  · exact ⟨⟨rD _, nY, trivial⟩, show 2 ≤ 4 by decide⟩
  · exact ⟨⟨nY, rD _, trivial⟩, show 2 ≤ 4 by decide⟩
  · exact ⟨⟨daif_le _, nI, trivial⟩, show 2 ≤ 4 by decide⟩
  · exact ⟨⟨nI, trivial⟩, show 1 ≤ 4 by decide⟩
  · exact ⟨⟨nI, trivial⟩, show 1 ≤ 4 by decide⟩
  · exact ⟨trivial, show 0 ≤ 4 by decide⟩
  · exact ⟨⟨nI, trivial⟩, show 1 ≤ 4 by decide⟩

set_option maxRecDepth 4000 in
set_option maxHeartbeats 2000000 in
theorem Text_no (i : Ins) (R : rightB i = false) (w : World) (T : Tab w) : Calls Tryz.prog 9 #[i.val] w fun e w' => e = .returned (.tuple #[strV [], .int .i64 3]) ∧ Below w.heap.size w w' := by
  have HB := oneT_start i w T
  go_enter Tryz.func9, Tryz.ntmps9
  repeat' (first | with_reducible refine then_exit ?_ | with_reducible refine then_normal ?_ | with_reducible refine inBlock_eq ?_ | with_reducible refine inBlock_ne rfl ?_ | with_reducible refine inBlock_normal ?_ | (refine wpList_load_if rfl 23 _ rfl w.heap.size rfl 23 _ (0, 0) _ HB.one.box Tryz.underlying23 rfl (by kernel_rfl) ?_; simp only [Act.put, List.setIfInBounds_toArray, List.set_cons_succ, List.set_cons_zero]) | (go_at_call 11; refine (right_c i _).mono ?_; rw [R]; rintro e w1 ⟨rfl, hb⟩; dsimp only; replace HB := HB.grow hb; clear hb) | go_step)
  go_ret2
  exact ⟨rfl, HB.one.below⟩

set_option maxRecDepth 4000 in
set_option maxHeartbeats 2000000 in
theorem Text_word (i : Ins) (R : rightB i = true) (hp : partsV i = []) (w : World) (T : Tab w) : Calls Tryz.prog 9 #[i.val] w fun e w' => e = .returned (.tuple #[strV (textV i), .int .i64 0]) ∧ Below w.heap.size w w' := by
  have HB := oneT_start i w T
  have hT : Hid (textV i = wordV i) := by show _ = _; unfold textV; rw [hp]; rfl
  have hp : Hid (partsV i = []) := hp
  go_enter Tryz.func9, Tryz.ntmps9
  repeat' (first | with_reducible refine then_exit ?_ | with_reducible refine then_normal ?_ | with_reducible refine inBlock_eq ?_ | with_reducible refine inBlock_ne rfl ?_ | with_reducible refine inBlock_normal ?_ | (refine wpList_load_if rfl 23 _ rfl w.heap.size rfl 23 _ (0, 0) _ HB.one.box Tryz.underlying23 rfl (by kernel_rfl) ?_; simp only [Act.put, List.setIfInBounds_toArray, List.set_cons_succ, List.set_cons_zero]) | (go_at_call 11; refine (right_c i _).mono ?_; rw [R]; rintro e w1 ⟨rfl, hb⟩; dsimp only; replace HB := HB.grow hb; clear hb) | (go_at_call 26; refine (partsOf_c i R _ HB.tab).mono ?_; rw [hp.out]; rintro e w2 ⟨v, rfl, hrow, hb⟩; obtain ⟨ad, c, rfl⟩ := row_shape hrow; dsimp only; replace HB := HB.grow hb; clear hb) | (go_at_call 27; refine (wordOf_c i R _).mono ?_; rintro e w3 ⟨rfl, hb⟩; dsimp only; replace HB := HB.grow hb; clear hb) | go_step)
  go_ret2
  rw [hT.out]
  exact ⟨rfl, HB.one.below⟩

set_option maxRecDepth 4000 in
set_option maxHeartbeats 2000000 in
theorem Text_parts (i : Ins) (R : rightB i = true) (p : Tx) (ps : List Tx) (hp : partsV i = p :: ps) (w : World) (T : Tab w) : Calls Tryz.prog 9 #[i.val] w fun e w' => e = .returned (.tuple #[strV (textV i), .int .i64 0]) ∧ Below w.heap.size w w' := by
  have HB := oneT_start i w T
  have hlw := word_len R
  have hok := parts_ok R
  rw [hp] at hok
  have hT : Hid ((⟨(wordV i).toArray⟩ : ByteArray) ++ ⟨#[32]⟩ ++ ⟨(Lib.join (p :: ps) commaT).toArray⟩ = ⟨(textV i).toArray⟩) := by
    show _ = _
    rw [str_app _ [32], str_app, List.append_assoc]
    unfold textV
    rw [hp]
    rfl
  have hle := flat_le (p :: ps) (lenOk_mem hok.1)
  replace hle : (Lib.join (p :: ps) commaT).length ≤ 408 := by have := hok.2; omega
  have hn : (p :: ps).length ≤ 10 := Nat.le_trans hok.2 (by decide)
  have HN : Hid ((p :: ps).length ≤ 10) := hn
  have hl := lenOk_mem hok.1
  have hp : Hid (partsV i = p :: ps) := hp
  clear hok
  have hz : ((ps.length : Int) + 1 == 0) = false := by simp; omega
  go_enter Tryz.func9, Tryz.ntmps9
  repeat' (first | with_reducible refine then_exit ?_ | with_reducible refine then_normal ?_ | with_reducible refine inBlock_eq ?_ | with_reducible refine inBlock_ne rfl ?_ | with_reducible refine inBlock_normal ?_ | (refine wpList_load_if rfl 23 _ rfl w.heap.size rfl 23 _ (0, 0) _ HB.one.box Tryz.underlying23 rfl (by kernel_rfl) ?_; simp only [Act.put, List.setIfInBounds_toArray, List.set_cons_succ, List.set_cons_zero]) | (go_at_call 11; refine (right_c i _).mono ?_; rw [R]; rintro e w1 ⟨rfl, hb⟩; dsimp only; replace HB := HB.grow hb; clear hb) | (go_at_call 26; refine (partsOf_c i R _ HB.tab).mono ?_; rw [hp.out]; rintro e w2 ⟨v, rfl, hrow, hb⟩; obtain ⟨ad, c, rfl⟩ := row_shape hrow; dsimp only; replace HB := HB.grow hb; clear hb) | (go_at_call 27; refine (wordOf_c i R _).mono ?_; rintro e w3 ⟨rfl, hb⟩; dsimp only; replace hrow := own_grow hrow hb; replace HB := HB.grow hb; clear hb) | (go_at_call 28; refine (join_c (p :: ps) _ _ _ hrow (by simp) hl HN.out).mono ?_; rintro e w4 ⟨rfl, hb⟩; dsimp only; replace HB := HB.grow hb; clear hb) | go_step)
  go_ret2
  exact ⟨congrArg (fun x => Ending.returned (.tuple #[Value.string x, .int .i64 0])) hT.out, HB.one.below⟩

theorem Text_yes (i : Ins) (R : rightB i = true) (w : World) (T : Tab w) : Calls Tryz.prog 9 #[i.val] w fun e w' => e = .returned (.tuple #[strV (textV i), .int .i64 0]) ∧ Below w.heap.size w w' := by
  cases hp : partsV i with
  | nil => exact Text_word i R hp w T
  | cons p ps => exact Text_parts i R p ps hp w T
end Go.Proofs.YtjmdgfimmjodjaaGreatDoor
