/- Which registers an instruction reads and reckons its address of, as the lists that package insn gives back: contracts, for every instruction. -/
import Derived.Test.YtjmdgfimmjodjaaGreatDoorV06
import Derived.Deep.LoopGhost
import Derived.Test.YtjmdgfimmjodjaaGreatDoorV01
import Derived.Test.YtjmdgfimmjodjaaGreatDoorV02
import Derived.Test.YtjmdgfimmjodjaaGreatDoorV05
namespace Go.Proofs.YtjmdgfimmjodjaaGreatDoor
open Go.RowKit Go.Rel

def R32 (x : Int) : Prop := 0 ≤ x ∧ x < 4294967296
theorem r32_or {a b : Int} (ha : R32 a) (hb : R32 b) : R32 (orS a b) := by
  obtain ⟨a0, a1⟩ := ha
  obtain ⟨b0, b1⟩ := hb
  obtain ⟨x, rfl⟩ := Int.eq_ofNat_of_zero_le a0
  obtain ⟨y, rfl⟩ := Int.eq_ofNat_of_zero_le b0
  have hx : x < 2 ^ 32 := by omega
  have hy : y < 2 ^ 32 := by omega
  show 0 ≤ bits .or .u32 (x : Int) (y : Int) ∧ bits .or .u32 (x : Int) (y : Int) < 4294967296
  rw [or32 x y (by omega) (by omega)]
  have := Nat.or_lt_two_pow hx hy
  omega
theorem r32_zero : R32 0 := ⟨by decide, by decide⟩
theorem r32_zf_fin : ∀ k : Fin 32, 0 ≤ zeroF (k.val : Int) ∧ zeroF (k.val : Int) < 4294967296 := by decide +kernel
theorem r32_sf_fin : ∀ k : Fin 32, 0 ≤ stackF (k.val : Int) ∧ stackF (k.val : Int) < 4294967296 := by decide +kernel
theorem r32_zf {n : Int} (h0 : 0 ≤ n) (h1 : n ≤ 31) : R32 (zeroF n) := by
  have := r32_zf_fin ⟨n.toNat, by omega⟩
  rwa [show ((⟨n.toNat, by omega⟩ : Fin 32).val : Int) = n by simp; omega] at this
theorem r32_sf {n : Int} (h0 : 0 ≤ n) (h1 : n ≤ 31) : R32 (stackF n) := by
  have := r32_sf_fin ⟨n.toNat, by omega⟩
  rwa [show ((⟨n.toNat, by omega⟩ : Fin 32).val : Int) = n by simp; omega] at this
theorem r32_bif {b : Bool} {x y : Int} (hx : R32 x) (hy : R32 y) : R32 (bif b then x else y) := by cases b <;> assumption
theorem r32_n {i : Ins} (h : InR i) : R32 (setNV i) := r32_bif (r32_sf h.n0 h.n1) (r32_zf h.n0 h.n1)
theorem r32_d {i : Ins} (h : InR i) : R32 (setDV i) := r32_bif (r32_sf h.d0 h.d1) (r32_zf h.d0 h.d1)
theorem r32_reads {i : Ins} (h : InR i) : R32 (readsV i) :=
  r32_bif (r32_or (r32_or (r32_or r32_zero (r32_zf h.a0 h.a1)) (r32_zf h.m0 h.m1)) (r32_n h)) (r32_bif (r32_or (r32_or r32_zero (r32_zf h.m0 h.m1)) (r32_n h)) (r32_bif (r32_or r32_zero (r32_n h)) (r32_bif (r32_or (r32_or (r32_or r32_zero (r32_zf h.m0 h.m1)) (r32_n h)) (r32_zf h.d0 h.d1)) (r32_bif (r32_or (r32_or r32_zero (r32_n h)) (r32_zf h.d0 h.d1)) (r32_bif (r32_or r32_zero (r32_zf h.d0 h.d1)) (r32_bif (r32_bif (r32_or r32_zero (r32_zf h.d0 h.d1)) r32_zero) r32_zero))))))
theorem r32_address {i : Ins} (h : InR i) : R32 (addressV i) :=
  r32_bif (r32_or (r32_or r32_zero (r32_zf h.m0 h.m1)) (r32_n h)) (r32_bif (r32_or r32_zero (r32_n h)) (r32_bif (r32_or r32_zero (r32_zf h.d0 h.d1)) r32_zero))
theorem r32_writes {i : Ins} (h : InR i) : R32 (writesV i) :=
  r32_bif (r32_d h) (r32_bif (r32_zf h.m0 h.m1) (r32_bif (r32_bif (r32_zf (by decide) (by decide)) r32_zero) (r32_bif (r32_bif (r32_zf (by decide) (by decide)) r32_zero) (r32_bif (r32_d h) r32_zero))))

theorem in_reg {b : Bool} {x : Int} (h : holdsB (regS b) x = true) : 0 ≤ x ∧ x ≤ 31 := by
  simp only [holdsB, regS, Bool.and_eq_true] at h
  have : h31 b ≤ 31 := by cases b <;> decide
  exact ⟨of_decide_eq_true h.1.1, Int.le_trans (of_decide_eq_true h.1.2) this⟩
theorem inR_of {i : Ins} (h : rightB i = true) : InR i := by
  simp only [rightB, numbersB, Bool.and_eq_true] at h
  obtain ⟨-, ⟨⟨⟨⟨⟨⟨⟨⟨⟨⟨⟨⟨hd, hn⟩, hm⟩, ha⟩, -⟩, -⟩, -⟩, -⟩, -⟩, -⟩, -⟩, -⟩, -⟩⟩ := h
  exact ⟨(in_reg hd).1, (in_reg hd).2, (in_reg hn).1, (in_reg hn).2, (in_reg hm).1, (in_reg hm).2, (in_reg ha).1, (in_reg ha).2⟩

theorem own_mono {w : World} {b base : Nat} {e : TypeId} {size n : Nat} {v : Value} {xs : List Value} (h : w.ownsRow base e size v n xs) (hb : b ≤ base) : w.ownsRow b e size v n xs := by
  obtain ⟨h1, h2⟩ := h
  refine ⟨h1, ?_⟩
  rcases h2 with h2 | ⟨g, cap, cur, hv, hg, r⟩
  · exact Or.inl h2
  · exact Or.inr ⟨g, cap, cur, hv, Nat.le_trans hb hg, r⟩

/-- One block of the call's own: the instruction's box. -/
structure One (i : Ins) (w0 w : World) : Prop where
  below : Below w0.heap.size w0 w
  box : w.heap[w0.heap.size]? = some (.cells i.cells 23)
theorem One.grow {i : Ins} {w0 w w' : World} (h : One i w0 w) (hb : Below w.heap.size w w') : One i w0 w' := by
  have h1 := (Array.getElem?_eq_some_iff.1 h.box).1
  exact ⟨below_then h.below hb, by rw [hb.block _ h1]; exact h.box⟩
theorem one_start (i : Ins) (w : World) : One i w (w.alloc (.cells i.cells 23)) := ⟨below_alloc _ _, heap_alloc_new _ _⟩

def setOf (i : Ins) (v : Int) : Nat := bif rightB i then v.toNat else 0

set_option maxRecDepth 4000 in
set_option maxHeartbeats 2000000 in
theorem Reads_c (i : Ins) (w : World) :
    Calls Tryz.prog 13 #[i.val] w fun e w' => ∃ v, e = .returned v ∧ w'.ownsRow w.heap.size 3 1 v (listL (setOf i (readsV i)) 32).length (listV (setOf i (readsV i)) 32) ∧ Below w.heap.size w w' := by
  have H1 := one_start i w
  cases hR : rightB i
  · have hS : Hid (setOf i (readsV i) = 0) := by show _ = _; simp only [setOf, hR, cond_false]
    go_enter Tryz.func13, Tryz.ntmps13
    go_wp2_with (go_at_call 11; refine (right_c i _).mono ?_; rw [hR]; rintro e w1 ⟨rfl, hb1⟩; replace H1 := H1.grow hb1; clear hb1)
    go_ret
    refine ⟨_, rfl, ?_, H1.below⟩
    rw [hS.out]
    exact World.ownsRow_nil _ _ _ _
  · have hr := inR_of hR
    have hv := r32_reads hr
    have hN : Hid (readsV i = ((setOf i (readsV i) : Nat) : Int)) := by show _ = _; simp only [setOf, hR, cond_true]; have := hv.1; omega
    have hN2 : Hid (setOf i (readsV i) < 4294967296) := by show _ < _; simp only [setOf, hR, cond_true]; have := hv.1; have := hv.2; omega
    generalize setOf i (readsV i) = S at *
    clear hv
    go_enter Tryz.func13, Tryz.ntmps13
    go_wp2_with (go_at_call 11; refine (right_c i _).mono ?_; rw [hR]; rintro e w1 ⟨rfl, hb1⟩; replace H1 := H1.grow hb1; clear hb1; refine Hid.out ?_)
    unfold Hid
    repeat' (first | with_reducible refine then_exit ?_ | with_reducible refine then_normal ?_ | with_reducible refine inBlock_eq ?_ | with_reducible refine inBlock_ne rfl ?_ | with_reducible refine inBlock_normal ?_ | (refine wpList_load_if rfl 23 _ rfl w.heap.size rfl 23 _ (0, 0) _ H1.box Tryz.underlying23 rfl (by kernel_rfl) ?_; simp only [Act.put, List.setIfInBounds_toArray, List.set_cons_succ, List.set_cons_zero]) | (go_at_call 42; refine (reads_c i hr _).mono ?_; rw [hN.out]; rintro e w2 ⟨rfl, hb2⟩; replace H1 := H1.grow hb2; clear hb2; dsimp only) | (go_at_call 43; refine (list_c S hN2.out _).mono ?_; rintro e w3 ⟨v, rfl, hown, hb3⟩; dsimp only) | go_step)
    go_ret
    exact ⟨_, rfl, own_mono hown H1.below.size, below_then H1.below hb3⟩

set_option maxRecDepth 4000 in
set_option maxHeartbeats 2000000 in
theorem Address_c (i : Ins) (w : World) :
    Calls Tryz.prog 14 #[i.val] w fun e w' => ∃ v, e = .returned v ∧ w'.ownsRow w.heap.size 3 1 v (listL (setOf i (addressV i)) 32).length (listV (setOf i (addressV i)) 32) ∧ Below w.heap.size w w' := by
  have H1 := one_start i w
  cases hR : rightB i
  · have hS : Hid (setOf i (addressV i) = 0) := by show _ = _; simp only [setOf, hR, cond_false]
    go_enter Tryz.func14, Tryz.ntmps14
    go_wp2_with (go_at_call 11; refine (right_c i _).mono ?_; rw [hR]; rintro e w1 ⟨rfl, hb1⟩; replace H1 := H1.grow hb1; clear hb1)
    go_ret
    refine ⟨_, rfl, ?_, H1.below⟩
    rw [hS.out]
    exact World.ownsRow_nil _ _ _ _
  · have hr := inR_of hR
    have hv := r32_address hr
    have hN : Hid (addressV i = ((setOf i (addressV i) : Nat) : Int)) := by show _ = _; simp only [setOf, hR, cond_true]; have := hv.1; omega
    have hN2 : Hid (setOf i (addressV i) < 4294967296) := by show _ < _; simp only [setOf, hR, cond_true]; have := hv.1; have := hv.2; omega
    generalize setOf i (addressV i) = S at *
    clear hv
    go_enter Tryz.func14, Tryz.ntmps14
    go_wp2_with (go_at_call 11; refine (right_c i _).mono ?_; rw [hR]; rintro e w1 ⟨rfl, hb1⟩; replace H1 := H1.grow hb1; clear hb1; refine Hid.out ?_)
    unfold Hid
    repeat' (first | with_reducible refine then_exit ?_ | with_reducible refine then_normal ?_ | with_reducible refine inBlock_eq ?_ | with_reducible refine inBlock_ne rfl ?_ | with_reducible refine inBlock_normal ?_ | (refine wpList_load_if rfl 23 _ rfl w.heap.size rfl 23 _ (0, 0) _ H1.box Tryz.underlying23 rfl (by kernel_rfl) ?_; simp only [Act.put, List.setIfInBounds_toArray, List.set_cons_succ, List.set_cons_zero]) | (go_at_call 44; refine (address_c i hr _).mono ?_; rw [hN.out]; rintro e w2 ⟨rfl, hb2⟩; replace H1 := H1.grow hb2; clear hb2; dsimp only) | (go_at_call 43; refine (list_c S hN2.out _).mono ?_; rintro e w3 ⟨v, rfl, hown, hb3⟩; dsimp only) | go_step)
    go_ret
    exact ⟨_, rfl, own_mono hown H1.below.size, below_then H1.below hb3⟩

end Go.Proofs.YtjmdgfimmjodjaaGreatDoor
/- Registers listed, rising, each once, as the document's own answer lists them: a contract. -/
namespace Go.Proofs.YtjmdgfimmjodjaaGreatDoor
open Go.RowKit Go.Rel

/-- Is a register among the first k? -/
def isAt (rs : List Int) (sp : List Bool) (r : Int) : Nat → Bool
  | 0 => false
  | k + 1 => isAt rs sp r k || ((rs.getD k 0 == r) && (decide (r < 31) || sp.getD k false))
def setAt (rs : List Int) (sp : List Bool) : Nat := orBits (fun r => isAt rs sp (r : Int) rs.length) 32
theorem setAt_bit (rs : List Int) (sp : List Bool) {r : Nat} (h : r < 32) : (setAt rs sp).testBit r = isAt rs sp (r : Int) rs.length := by
  unfold setAt
  rw [testBit_orBits]
  simp [h]
theorem cell_kept {w wr : World} {g j : Nat} (h : Below w.heap.size w wr) (hg : g < w.heap.size) : wr.cell? ⟨g, j, none⟩ = w.cell? ⟨g, j, none⟩ := by
  simp only [World.cell?, h.block g hg]
set_option maxRecDepth 8000 in
set_option maxHeartbeats 1000000 in
theorem rlist_c (g1 c1 g2 c2 : Nat) (rs : List Int) (sp : List Bool) (hl : sp.length = rs.length) (h4 : rs.length ≤ 4) (w : World) (b1 : g1 < w.heap.size) (b2 : g2 < w.heap.size)
    (d1 : ∀ j, j < rs.length → w.cell? ⟨g1, j, none⟩ = some (vI (rs.getD j 0))) (d2 : ∀ j, j < rs.length → w.cell? ⟨g2, j, none⟩ = some (.bool (sp.getD j false))) :
    Calls Tryz.prog 48 #[.slice (some ⟨g1, 0, none⟩) rs.length c1, .slice (some ⟨g2, 0, none⟩) rs.length c2] w fun e w' => ∃ v, e = .returned v ∧ w'.ownsRow w.heap.size 3 1 v (listL (setAt rs sp) 32).length (listV (setAt rs sp) 32) ∧ Below w.heap.size w w' := by
  have hB : Hid (∀ r : Nat, r < 32 → (setAt rs sp).testBit r = isAt rs sp (r : Int) rs.length) := fun r h => setAt_bit rs sp h
  generalize setAt rs sp = s at *
  replace d1 : Hid (∀ j, j < rs.length → w.cell? ⟨g1, j, none⟩ = some (vI (rs.getD j 0))) := d1
  replace d2 : Hid (∀ j, j < rs.length → w.cell? ⟨g2, j, none⟩ = some (.bool (sp.getD j false))) := d2
  obtain ⟨i0, hi, hz0, hz1, hz2⟩ : ∃ i0, Tryz.prog.info? 3 = some i0 ∧ i0.zero = some (.int .i64 0) ∧ i0.size = 1 ∧ i0.bytes = 8 := int_info
  go_enter Tryz.func48, Tryz.ntmps48
  go_wp2
  go_loopw [5, 6] (fun v i wr => ∃ k : Nat, k ≤ 32 ∧ i = .int .i64 k ∧ wr.ownsRow w.heap.size 3 1 v (listL s k).length (listV s k) ∧ Below w.heap.size w wr) (fun _ i _ => 32 - (intOf i).toNat)
  case atStart => exact ⟨0, Nat.zero_le _, rfl, World.ownsRow_nil _ _ _ _, Below.refl _ _⟩
  case round =>
    obtain ⟨k, hk, rfl, hown, hnx⟩ := hrel
    by_cases hlt : (k : Int) < 32
    · have hb := hB.out k (by omega)
      have hle := listL_le s k
      go_wp2
      go_loop [7, 8] (fun o i => ∃ j : Nat, j ≤ rs.length ∧ i = .int .i64 j ∧ o = .bool (isAt rs sp (k : Int) j)) (fun _ i => rs.length - (intOf i).toNat)
      case atStart => exact ⟨0, Nat.zero_le _, rfl, rfl⟩
      case round =>
        obtain ⟨j, hj, rfl, rfl⟩ := hrel
        by_cases hjl : (j : Int) < rs.length
        · have e1 : wr.cell? ⟨g1, j, none⟩ = some (vI (rs.getD j 0)) := by rw [cell_kept hnx b1]; exact d1.out j (by omega)
          have e2 : wr.cell? ⟨g2, j, none⟩ = some (.bool (sp.getD j false)) := by rw [cell_kept hnx b2]; exact d2.out j (by omega)
          have hS : Hid (isAt rs sp (k : Int) (j + 1) = (isAt rs sp (k : Int) j || ((rs.getD j 0 == (k : Int)) && (decide ((k : Int) < 31) || sp.getD j false)))) := rfl
          generalize rs.getD j 0 = x at *
          generalize sp.getD j false = y at *
          cases hI : isAt rs sp (k : Int) j
          · cases hx : x == (k : Int)
            · go_wp2
              all_goals
                refine ⟨⟨j + 1, by omega, by go_num, ?_⟩, by simp [intOf]; omega⟩
                rw [hS.out, hI, hx]; rfl
            · by_cases h31 : (k : Int) < 31
              · go_wp2
                all_goals
                  refine ⟨⟨j + 1, by omega, by go_num, ?_⟩, by simp [intOf]; omega⟩
                  rw [hS.out, hI, hx, decide_eq_true h31]; rfl
              · go_wp2
                all_goals
                  refine ⟨⟨j + 1, by omega, by go_num, ?_⟩, by simp [intOf]; omega⟩
                  rw [hS.out, hI, hx, decide_eq_false (by omega)]; rfl
          · go_wp2
            all_goals
              refine ⟨⟨j + 1, by omega, by go_num, ?_⟩, by simp [intOf]; omega⟩
              rw [hS.out, hI]; rfl
        · obtain rfl : j = rs.length := by omega
          cases ht : s.testBit k
          · rw [ht] at hb
            have hI : isAt rs sp (k : Int) rs.length = false := hb.symm
            have HT : Hid (s.testBit k = false) := ht
            rw [hI]
            clear ht hb hI
            go_wp2
            refine ⟨⟨k + 1, by omega, by go_num, ?_, hnx⟩, by simp [intOf]; omega⟩
            rw [listV_no HT.out, listL_succ, if_neg (by rw [HT.out]; decide)]
            exact hown
          · rw [ht] at hb
            have hI : isAt rs sp (k : Int) rs.length = true := hb.symm
            have HT : Hid (s.testBit k = true) := ht
            rw [hI]
            clear ht hb hI
            go_wp2_with (at_builtin; refine wpList_append_own _ rfl _ _ 33 rfl w.heap.size 3 i0 (.int .i64 0) 1 8 Tryz.underlying33 hi hz0 hz1 hz2 rfl (by decide) _ _ _ rfl (hown.alloc _) ⟨wr.heap.size, 0, none⟩ 1 1 [.int .i64 k] rfl rfl ?q1 ?q2 ?q3 ?q4 ?q5 ?_)
            case q2 => first | rfl | (intro u hu; simp at hu; subst hu; rfl)
            case q3 => first | omega | (unfold maxLen; omega)
            case q4 => omega
            case q5 => have := hnx.size; first | omega | (simp; omega)
            · intro v' w1 hown' hgrow _
              have HG : Below w.heap.size w w1 := (hnx.alloc hnx.size _).grown hgrow (Nat.le_trans hnx.size (by simp)) (fun b hb => (World.ownsRow.lt hown b hb).1)
              clear hgrow
              go_wp2
              refine ⟨⟨k + 1, by omega, by go_num, ?_, HG⟩, by simp [intOf]; omega⟩
              rw [listV_yes HT.out, listL_succ, if_pos HT.out, List.length_append]
              exact hown'
    · obtain rfl : k = 32 := by omega
      go_wp2
      go_ret
      exact ⟨_, rfl, hown, hnx⟩
end Go.Proofs.YtjmdgfimmjodjaaGreatDoor
/- Plain facts: the registers that the document's own answer lists are those of the program's sets. -/
namespace Go.Proofs.YtjmdgfimmjodjaaGreatDoor
open Go.RowKit Go.Rel

theorem set_two (a b : Int) (x y : Bool) : setAt [a, b] [x, y] = setAt [a] [x] ||| setAt [b] [y] := by
  apply Nat.eq_of_testBit_eq
  intro r
  unfold setAt
  rw [Nat.testBit_or, testBit_orBits, testBit_orBits, testBit_orBits]
  simp only [isAt, List.length_cons, List.length_nil, List.getD_cons_zero, List.getD_cons_succ, Bool.false_or]
  cases decide (r < 32) <;> simp
theorem set_three (a b c : Int) (x y z : Bool) : setAt [a, b, c] [x, y, z] = (setAt [a] [x] ||| setAt [b] [y]) ||| setAt [c] [z] := by
  apply Nat.eq_of_testBit_eq
  intro r
  unfold setAt
  rw [Nat.testBit_or, Nat.testBit_or, testBit_orBits, testBit_orBits, testBit_orBits, testBit_orBits]
  simp only [isAt, List.length_cons, List.length_nil, List.getD_cons_zero, List.getD_cons_succ, Bool.false_or]
  cases decide (r < 32) <;> simp
set_option maxRecDepth 100000 in
theorem zero_fin1 : ∀ k : Fin 32, setAt [(k.val : Int)] [false] = (zeroF (k.val : Int)).toNat := by decide +kernel
set_option maxRecDepth 100000 in
theorem stack_fin1 : ∀ k : Fin 32, setAt [(k.val : Int)] [true] = (stackF (k.val : Int)).toNat := by decide +kernel
theorem set_zero {n : Int} (h0 : 0 ≤ n) (h1 : n ≤ 31) : setAt [n] [false] = (zeroF n).toNat := by
  have := zero_fin1 ⟨n.toNat, by omega⟩
  rwa [show ((⟨n.toNat, by omega⟩ : Fin 32).val : Int) = n by simp; omega] at this
theorem set_stack {n : Int} (h0 : 0 ≤ n) (h1 : n ≤ 31) : setAt [n] [true] = (stackF n).toNat := by
  have := stack_fin1 ⟨n.toNat, by omega⟩
  rwa [show ((⟨n.toNat, by omega⟩ : Fin 32).val : Int) = n by simp; omega] at this
theorem set_one {n : Int} (b : Bool) (h0 : 0 ≤ n) (h1 : n ≤ 31) : setAt [n] [b] = (bif b then stackF n else zeroF n).toNat := by
  cases b
  · exact set_zero h0 h1
  · exact set_stack h0 h1
theorem orS_nat {a b : Int} (ha : R32 a) (hb : R32 b) : (orS a b).toNat = a.toNat ||| b.toNat := by
  obtain ⟨A, rfl⟩ := Int.eq_ofNat_of_zero_le ha.1
  obtain ⟨B, rfl⟩ := Int.eq_ofNat_of_zero_le hb.1
  unfold orS
  rw [or32 A B (by have := ha.2; omega) (by have := hb.2; omega)]
  rfl
theorem orS_zero {a : Int} (ha : R32 a) : (orS 0 a).toNat = a.toNat := by rw [orS_nat r32_zero ha]; simp
end Go.Proofs.YtjmdgfimmjodjaaGreatDoor
/- Whether a block ends behind an instruction: a contract, for every instruction. -/
namespace Go.Proofs.YtjmdgfimmjodjaaGreatDoor
open Go.RowKit Go.Rel

def endsB (i : Ins) : Bool :=
  bif i.op == 12 || i.op == 13 || i.op == 14 || i.op == 15 || i.op == 16 || i.op == 34 || i.op == 35 || i.op == 36 then true
  else bif i.op == 25 || i.op == 27 || i.op == 28 || i.op == 29 || i.op == 30 || i.op == 31 || i.op == 32 || i.op == 33 then true
  else bif i.op == 26 then i.sub == 1 else bif i.op == 37 then decide (1 < i.imm) else false

set_option maxRecDepth 4000 in
set_option maxHeartbeats 4000000 in
theorem ends_c (i : Ins) (w : World) : Calls Tryz.prog 41 #[i.val] w fun e w' => e = .returned (.bool (endsB i)) ∧ Below w.heap.size w w' := by
  go_enter Tryz.func41, Tryz.ntmps41
  repeat' (first | with_reducible refine then_exit ?_ | with_reducible refine then_normal ?_ | with_reducible refine inBlock_eq ?_ | with_reducible refine inBlock_ne rfl ?_ | with_reducible refine inBlock_normal ?_ | go_step)
  all_goals (go_ret; refine ⟨ret_bool ?_, below_alloc _ _⟩; simp only [endsB, cond_true, cond_false, Bool.or_true, Bool.true_or, Bool.or_false, *])

set_option maxRecDepth 4000 in
set_option maxHeartbeats 4000000 in
theorem Ends_c (i : Ins) (w : World) : Calls Tryz.prog 12 #[i.val] w fun e w' => e = .returned (.bool (rightB i && endsB i)) ∧ Below w.heap.size w w' := by
  have H1 := one_start i w
  cases hR : rightB i
  all_goals
    go_enter Tryz.func12, Tryz.ntmps12
    repeat' (first | with_reducible refine then_exit ?_ | with_reducible refine then_normal ?_ | with_reducible refine inBlock_eq ?_ | with_reducible refine inBlock_ne rfl ?_ | with_reducible refine inBlock_normal ?_ | (refine wpList_load_if rfl 23 _ rfl w.heap.size rfl 23 _ (0, 0) _ H1.box Tryz.underlying23 rfl (by kernel_rfl) ?_; simp only [Act.put, List.setIfInBounds_toArray, List.set_cons_succ, List.set_cons_zero]) | (go_at_call 11; refine (right_c i _).mono ?_; rw [hR]; rintro e w2 ⟨rfl, hb2⟩; replace H1 := H1.grow hb2; clear hb2; dsimp only) | (go_at_call 41; refine (ends_c i _).mono ?_; rintro e w2 ⟨rfl, hb2⟩; replace H1 := H1.grow hb2; clear hb2; dsimp only) | go_step)
    go_ret
    exact ⟨rfl, H1.below⟩
end Go.Proofs.YtjmdgfimmjodjaaGreatDoor
/- The small functions of the document's own answers to chapters 2 and 3: contracts. -/
namespace Go.Proofs.YtjmdgfimmjodjaaGreatDoor
open Go.RowKit

/-- The lowest bits of a number. -/
def lowE (n : Int) (m : Nat) : Int := (((n % 4294967296).toNat % 2 ^ m : Nat) : Int)
theorem lowE_in (n : Int) (m : Nat) : 0 ≤ lowE n m ∧ lowE n m < ((2 ^ m : Nat) : Int) := by
  unfold lowE
  have := Nat.mod_lt (n % 4294967296).toNat (Nat.two_pow_pos m)
  omega
theorem pow_u32 {m : Nat} (hm : m ≤ 32) : ((2 : Int) ^ m - 1) % 4294967296 = ((2 ^ m - 1 : Nat) : Int) := by
  have h : (2 : Nat) ^ m ≤ 4294967296 := show 2 ^ m ≤ 2 ^ 32 from Nat.pow_le_pow_right (by decide) hm
  have p := Nat.two_pow_pos m
  have hc : ((2 ^ m : Nat) : Int) = (2 : Int) ^ m := by simp
  rw [← hc]
  generalize 2 ^ m = q at *
  omega
theorem pow_lt_u32 {m : Nat} (hm : m ≤ 32) : 2 ^ m - 1 < 4294967296 := by
  have h : (2 : Nat) ^ m ≤ 4294967296 := show 2 ^ m ≤ 2 ^ 32 from Nat.pow_le_pow_right (by decide) hm
  have p := Nat.two_pow_pos m
  omega
theorem low_and {x : Int} (h0 : 0 ≤ x) (h1 : x < 4294967296) {m : Nat} (hm : m ≤ 32) : bits .and .u32 x (((2 : Int) ^ m - 1) % 4294967296) = ((x.toNat % 2 ^ m : Nat) : Int) := by
  rw [pow_u32 hm]
  have := and32 x.toNat (2 ^ m - 1) (by omega) (pow_lt_u32 hm)
  rw [Int.toNat_of_nonneg h0] at this
  rw [this, Nat.and_two_pow_sub_one_eq_mod]
theorem rlow_walk (n : Int) {m : Nat} (hm : m ≤ 32) : bits .and .u32 (IntKind.u64.wrap n % 4294967296) (((2 : Int) ^ m - 1) % 4294967296) = lowE n m := by
  have e : IntKind.u64.wrap n % 4294967296 = n % 4294967296 := by
    rw [show IntKind.u64.wrap n = n % 18446744073709551616 from rfl]; omega
  rw [e, low_and (by omega) (by omega) hm]; rfl

def inB (n lo hi : Int) : Bool := decide (lo ≤ n) && decide (n ≤ hi)
theorem in_c (n lo hi : Int) (w : World) :
    Calls Tryz.prog 22 #[vI n, vI lo, vI hi] w fun e w' => e = .returned (.bool (inB n lo hi)) ∧ w' = w := by
  go_enter Tryz.func22, Tryz.ntmps22
  go_wp2
  · go_ret
    refine ⟨ret_bool ?_, rfl⟩
    unfold inB; rw [decide_eq_true (p := lo ≤ n) (by assumption), Bool.true_and]
  · go_ret
    refine ⟨ret_bool ?_, rfl⟩
    unfold inB; rw [decide_eq_false (p := lo ≤ n) (by omega), Bool.false_and]
def stepB (n u lo hi : Int) : Bool := n.tmod u == 0 && decide (lo ≤ n) && decide (n ≤ hi)
theorem step_c (n u lo hi : Int) (hu : 2 ≤ u) (w : World) :
    Calls Tryz.prog 24 #[vI n, vI u, vI lo, vI hi] w fun e w' => e = .returned (.bool (stepB n u lo hi)) ∧ w' = w := by
  go_enter Tryz.func24, Tryz.ntmps24
  go_wp2
  · go_ret
    refine ⟨ret_bool ?_, rfl⟩
    unfold stepB; rw [beq_iff_eq.2 (by assumption), decide_eq_true (p := lo ≤ n) (by assumption), Bool.true_and, Bool.true_and]
  · go_ret
    refine ⟨ret_bool ?_, rfl⟩
    unfold stepB; rw [decide_eq_false (p := lo ≤ n) (by omega), Bool.and_false, Bool.false_and]
  · go_ret
    refine ⟨ret_bool ?_, rfl⟩
    unfold stepB; rw [beq_eq_false_iff_ne.2 (by assumption), Bool.false_and, Bool.false_and]
/-- Some bits of a word. -/
def partE (x : Int) (a m : Nat) : Int := ((x.toNat / 2 ^ a % 2 ^ m : Nat) : Int)
theorem partE_in (x : Int) (a m : Nat) : 0 ≤ partE x a m ∧ partE x a m < ((2 ^ m : Nat) : Int) := by
  unfold partE
  have := Nat.mod_lt (x.toNat / 2 ^ a) (Nat.two_pow_pos m)
  omega
theorem part_walk {x : Int} (h0 : 0 ≤ x) (h1 : x < 4294967296) (a : Nat) {m : Nat} (hm : m ≤ 32) : wrap64 (bits .and .u32 (x / 2 ^ a) (((2 : Int) ^ m - 1) % 4294967296)) = partE x a m := by
  obtain ⟨X, rfl⟩ := Int.eq_ofNat_of_zero_le h0
  have e : (X : Int) / 2 ^ a = ((X / 2 ^ a : Nat) : Int) := by simp
  have hl : X / 2 ^ a ≤ X := Nat.div_le_self _ _
  have hr : X / 2 ^ a % 2 ^ m ≤ X / 2 ^ a := Nat.mod_le _ _
  rw [e, low_and (by omega) (by omega) hm]
  unfold partE wrap64
  simp only [Int.toNat_natCast]
  omega
/-- A number of so many bits, the highest one its sign. -/
def sgE (n : Int) (m : Nat) : Int := if n < ((2 ^ (m - 1) : Nat) : Int) then n else n - ((2 ^ m : Nat) : Int)
theorem sgE14 (n : Int) : sgE n 14 = if n < 8192 then n else n - 16384 := rfl
theorem sgE19 (n : Int) : sgE n 19 = if n < 262144 then n else n - 524288 := rfl
theorem sgE26 (n : Int) : sgE n 26 = if n < 33554432 then n else n - 67108864 := rfl
end Go.Proofs.YtjmdgfimmjodjaaGreatDoor
/- Which fields an Op has, as the document's own answer to chapter 2 tells it: contracts. -/
namespace Go.Proofs.YtjmdgfimmjodjaaGreatDoor
open Go.RowKit Go.Rel

def hasB (s : ByteArray) (b : Int) : Bool := s.data.toList.any fun x => ((x.toNat : Nat) : Int) == b
theorem hasB_yes {s : ByteArray} {b : Int} {k : Nat} (h : k < s.size) (e : (((s[k].toNat : Nat) : Int) == b) = true) : hasB s b = true :=
  List.any_eq_true.2 ⟨s[k], by show s.data[k]'h ∈ s.data.toList; simp, e⟩
theorem hasB_no {s : ByteArray} {b : Int} (h : ∀ (j : Nat) (hj : j < s.size), (((s[j].toNat : Nat) : Int) == b) = false) : hasB s b = false := by
  refine List.any_eq_false.2 fun x hx => ?_
  obtain ⟨j, hj, rfl⟩ := List.mem_iff_getElem.1 hx
  have hj' : j < s.size := by simpa using hj
  have := h j hj'
  rw [Bool.not_eq_true]
  exact this
set_option maxHeartbeats 400000 in
theorem rhas_c (s : ByteArray) (b : Int) (hs : s.size ≤ 100) (w : World) :
    Calls Tryz.prog 47 #[.string s, .int .u8 b] w fun e w' => e = .returned (.bool (hasB s b)) ∧ w' = w := by
  go_enter Tryz.func47, Tryz.ntmps47
  go_wp2
  go_loop [5] (fun z => ∃ k : Nat, k ≤ s.size ∧ Hid (∀ (j : Nat) (hj : j < s.size), j < k → (((s[j].toNat : Nat) : Int) == b) = false) ∧ z = .int .i64 k) (fun z => s.size - (intOf z).toNat)
  case atStart => exact ⟨0, Nat.zero_le _, fun j _ h => absurd h (Nat.not_lt_zero j), rfl⟩
  case round =>
    obtain ⟨k, hk, hn, rfl⟩ := hrel
    by_cases hlt : k < s.size
    · cases hb : (((s[k].toNat : Nat) : Int) == b)
      · go_wp2
        go_round
        case rel => exact ⟨k + 1, by omega, fun j hj h => (Nat.lt_succ_iff_lt_or_eq.1 h).elim (hn.out j hj) (fun e => by subst e; exact hb), by go_num⟩
        case measure => simp [intOf]; omega
      · have hy := hasB_yes hlt hb
        replace hy := show Hid _ from hy
        go_wp2
        go_ret
        exact ⟨ret_bool hy.out.symm, rfl⟩
    · have hy : Hid (hasB s b = false) := hasB_no fun j hj => hn.out j hj (by omega)
      go_wp2
      go_ret
      exact ⟨ret_bool hy.out.symm, rfl⟩
def shapeS (op : Int) : ByteArray :=
  bif op == 1 then ⟨#[100, 110, 105, 107, 70, 77]⟩ else
  bif op == 2 then ⟨#[100, 110, 109, 116, 107, 70, 77]⟩ else
  bif op == 3 then ⟨#[100, 110, 109, 115, 116, 107, 70, 78]⟩ else
  bif op == 4 then ⟨#[100, 110, 115, 107, 105, 106, 70]⟩ else
  bif op == 5 then ⟨#[100, 115, 105, 107]⟩ else
  bif op == 6 then ⟨#[100, 110, 115, 105, 106]⟩ else
  bif op == 7 || op == 9 then ⟨#[100, 110, 109, 115]⟩ else
  bif op == 8 then ⟨#[100, 110, 109, 97, 77]⟩ else
  bif op == 10 then ⟨#[100, 110, 109, 115, 99]⟩ else
  bif op == 11 then ⟨#[100, 115, 105]⟩ else
  bif op == 12 then ⟨#[105, 76]⟩ else
  bif op == 13 then ⟨#[99, 105]⟩ else
  bif op == 14 then ⟨#[100, 105, 78]⟩ else
  bif op == 15 then ⟨#[100, 105, 107, 78]⟩ else
  bif op == 16 then ⟨#[110, 115]⟩ else
  bif op == 17 || op == 18 then ⟨#[100, 110, 105]⟩ else
  bif op == 19 || op == 20 then ⟨#[100, 110, 109, 107]⟩ else
  bif op == 21 || op == 23 then ⟨#[100, 110, 115]⟩ else
  bif op == 22 then ⟨#[100, 110]⟩ else
  bif op == 24 then ⟨#[100, 110, 109, 115]⟩ else
  bif op == 25 || op == 27 || op == 29 || op == 36 then ⟨#[45]⟩ else
  bif op == 26 || op == 33 then ⟨#[115, 105]⟩ else
  bif op == 28 || op == 30 then ⟨#[100]⟩ else
  bif op == 31 || op == 32 then ⟨#[100, 121]⟩ else
  bif op == 34 || op == 35 || op == 37 then ⟨#[105]⟩ else
  ⟨#[]⟩

set_option maxRecDepth 4000 in
set_option maxHeartbeats 4000000 in
theorem shape_c (op : Int) (w : World) :
    Calls Tryz.prog 46 #[vI op] w fun e w' => e = .returned (.string (shapeS op)) ∧ w' = w := by
  go_enter Tryz.func46, Tryz.ntmps46
  go_wp2
  all_goals (go_ret; refine ⟨congrArg (fun x => Ending.returned (Value.string x)) ?_, rfl⟩; simp only [shapeS, cond_true, cond_false, Bool.or_true, Bool.true_or, Bool.or_false, *])
def sysL : List Int := [17920, 16897, 16896, 17040, 17152, 16904, 16389, 16914, 23057, 23056, 24194, 18016, 18017, 16944, 18013, 24322, 24345, 24346]
theorem sys_cells (w : World) : ∀ k, k < 18 → (w.alloc (.cells #[vI 17920, vI 16897, vI 16896, vI 17040, vI 17152, vI 16904, vI 16389, vI 16914, vI 23057, vI 23056, vI 24194, vI 18016, vI 18017, vI 16944, vI 18013, vI 24322, vI 24345, vI 24346] 3)).cell? ⟨w.heap.size, k, none⟩ = some (vI (sysL.getD k 0)) := by
  intro k hk
  rw [World.cell?_alloc_new]
  rcases (by omega : k = 0 ∨ k = 1 ∨ k = 2 ∨ k = 3 ∨ k = 4 ∨ k = 5 ∨ k = 6 ∨ k = 7 ∨ k = 8 ∨ k = 9 ∨ k = 10 ∨ k = 11 ∨ k = 12 ∨ k = 13 ∨ k = 14 ∨ k = 15 ∨ k = 16 ∨ k = 17) with rfl | rfl | rfl | rfl | rfl | rfl | rfl | rfl | rfl | rfl | rfl | rfl | rfl | rfl | rfl | rfl | rfl | rfl <;> rfl
theorem sysB_yes {n : Int} {k : Nat} (hk : k < 18) (h : (sysL.getD k 0 == n) = true) : sysB n = true := by
  obtain rfl := eq_of_beq h
  rcases (by omega : k = 0 ∨ k = 1 ∨ k = 2 ∨ k = 3 ∨ k = 4 ∨ k = 5 ∨ k = 6 ∨ k = 7 ∨ k = 8 ∨ k = 9 ∨ k = 10 ∨ k = 11 ∨ k = 12 ∨ k = 13 ∨ k = 14 ∨ k = 15 ∨ k = 16 ∨ k = 17) with rfl | rfl | rfl | rfl | rfl | rfl | rfl | rfl | rfl | rfl | rfl | rfl | rfl | rfl | rfl | rfl | rfl | rfl <;> rfl
theorem sysB_no {n : Int} (h : ∀ j, j < 18 → (sysL.getD j 0 == n) = false) : sysB n = false := by
  cases hb : sysB n
  · rfl
  · simp only [sysB, Bool.or_eq_true, beq_iff_eq, or_assoc] at hb
    rcases hb with rfl | rfl | rfl | rfl | rfl | rfl | rfl | rfl | rfl | rfl | rfl | rfl | rfl | rfl | rfl | rfl | rfl | rfl
    · exact h 0 (by decide)
    · exact h 1 (by decide)
    · exact h 2 (by decide)
    · exact h 3 (by decide)
    · exact h 4 (by decide)
    · exact h 5 (by decide)
    · exact h 6 (by decide)
    · exact h 7 (by decide)
    · exact h 8 (by decide)
    · exact h 9 (by decide)
    · exact h 10 (by decide)
    · exact h 11 (by decide)
    · exact h 12 (by decide)
    · exact h 13 (by decide)
    · exact h 14 (by decide)
    · exact h 15 (by decide)
    · exact h 16 (by decide)
    · exact h 17 (by decide)
set_option maxRecDepth 4000 in
set_option maxHeartbeats 4000000 in
theorem rsys_c (n : Int) (w : World) :
    Calls Tryz.prog 25 #[vI n] w fun e w' => e = .returned (.bool (sysB n)) ∧ Below w.heap.size w w' := by
  have hC := sys_cells w
  replace hC := show Hid _ from hC
  have hB := below_alloc w (.cells #[vI 17920, vI 16897, vI 16896, vI 17040, vI 17152, vI 16904, vI 16389, vI 16914, vI 23057, vI 23056, vI 24194, vI 18016, vI 18017, vI 16944, vI 18013, vI 24322, vI 24345, vI 24346] 3)
  replace hB := show Hid _ from hB
  go_enter Tryz.func25, Tryz.ntmps25
  go_wp2
  generalize w.alloc _ = w1 at hC hB ⊢
  go_loop [4] (fun z => ∃ k : Nat, k ≤ 18 ∧ Hid (∀ j, j < k → (sysL.getD j 0 == n) = false) ∧ z = .int .i64 k) (fun z => 18 - (intOf z).toNat)
  case atStart => exact ⟨0, Nat.zero_le _, fun j h => absurd h (Nat.not_lt_zero j), rfl⟩
  case round =>
    obtain ⟨k, hk, hn, rfl⟩ := hrel
    by_cases hlt : k < 18
    · have hc := hC.out k hlt
      generalize hL : sysL.getD k 0 = v at hc
      replace hL := show Hid _ from hL
      cases hb : (v == n)
      · go_wp2
        go_round
        case rel => exact ⟨k + 1, by omega, fun j h => (Nat.lt_succ_iff_lt_or_eq.1 h).elim (hn.out j) (fun e => by subst e; rw [hL.out]; exact hb), by go_num⟩
        case measure => simp [intOf]; omega
      · have hy : Hid (sysB n = true) := sysB_yes hlt (by rw [hL.out]; exact hb)
        go_wp2
        go_ret
        exact ⟨ret_bool hy.out.symm, hB.out⟩
    · have hy : Hid (sysB n = false) := sysB_no fun j hj => hn.out j (by omega)
      go_wp2
      go_ret
      exact ⟨ret_bool hy.out.symm, hB.out⟩
end Go.Proofs.YtjmdgfimmjodjaaGreatDoor
