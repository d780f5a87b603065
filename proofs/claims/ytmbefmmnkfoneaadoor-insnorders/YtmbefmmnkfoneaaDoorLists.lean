/- Which registers an instruction reads and reckons its address of, as the lists that package insn gives back: contracts, for every instruction. -/
import Derived.Test.YtmbefmmnkfoneaaDoorRegs
import Derived.Test.YtmbefmmnkfoneaaDoorList
namespace Go.Proofs.YtmbefmmnkfoneaaDoor
open Go.RowKit Go.Rel

def R32 (x : Int) : Prop := 0 ≤ x ∧ x < 4294967296
theorem r32_or {a b : Int} (ha : R32 a) (hb : R32 b) : R32 (orS a b) := by
  obtain ⟨a0, a1⟩ := ha
  obtain ⟨b0, b1⟩ := hb
  obtain ⟨x, rfl⟩ := Int.eq_ofNat_of_zero_le a0
  obtain ⟨y, rfl⟩ := Int.eq_ofNat_of_zero_le b0
  have hx : x < 2 ^ 32 := by omega
  have hy : y < 2 ^ 32 := by omega
  show 0 ≤ bits .or .u32 (x : Int) (y : Int) ∧ bits .or .u32 (x : Int) (y : Int) < 4294967296
  rw [or32 x y (by omega) (by omega)]
  have := Nat.or_lt_two_pow hx hy
  omega
theorem r32_zero : R32 0 := ⟨by decide, by decide⟩
theorem r32_zf_fin : ∀ k : Fin 32, 0 ≤ zeroF (k.val : Int) ∧ zeroF (k.val : Int) < 4294967296 := by decide +kernel
theorem r32_sf_fin : ∀ k : Fin 32, 0 ≤ stackF (k.val : Int) ∧ stackF (k.val : Int) < 4294967296 := by decide +kernel
theorem r32_zf {n : Int} (h0 : 0 ≤ n) (h1 : n ≤ 31) : R32 (zeroF n) := by
  have := r32_zf_fin ⟨n.toNat, by omega⟩
  rwa [show ((⟨n.toNat, by omega⟩ : Fin 32).val : Int) = n by simp; omega] at this
theorem r32_sf {n : Int} (h0 : 0 ≤ n) (h1 : n ≤ 31) : R32 (stackF n) := by
  have := r32_sf_fin ⟨n.toNat, by omega⟩
  rwa [show ((⟨n.toNat, by omega⟩ : Fin 32).val : Int) = n by simp; omega] at this
theorem r32_bif {b : Bool} {x y : Int} (hx : R32 x) (hy : R32 y) : R32 (bif b then x else y) := by cases b <;> assumption
theorem r32_n {i : Ins} (h : InR i) : R32 (setNV i) := r32_bif (r32_sf h.n0 h.n1) (r32_zf h.n0 h.n1)
theorem r32_d {i : Ins} (h : InR i) : R32 (setDV i) := r32_bif (r32_sf h.d0 h.d1) (r32_zf h.d0 h.d1)
theorem r32_reads {i : Ins} (h : InR i) : R32 (readsV i) :=
  r32_bif (r32_or (r32_or (r32_or r32_zero (r32_zf h.a0 h.a1)) (r32_zf h.m0 h.m1)) (r32_n h)) (r32_bif (r32_or (r32_or r32_zero (r32_zf h.m0 h.m1)) (r32_n h)) (r32_bif (r32_or r32_zero (r32_n h)) (r32_bif (r32_or (r32_or (r32_or r32_zero (r32_zf h.m0 h.m1)) (r32_n h)) (r32_zf h.d0 h.d1)) (r32_bif (r32_or (r32_or r32_zero (r32_n h)) (r32_zf h.d0 h.d1)) (r32_bif (r32_or r32_zero (r32_zf h.d0 h.d1)) (r32_bif (r32_bif (r32_or r32_zero (r32_zf h.d0 h.d1)) r32_zero) r32_zero))))))
theorem r32_address {i : Ins} (h : InR i) : R32 (addressV i) :=
  r32_bif (r32_or (r32_or r32_zero (r32_zf h.m0 h.m1)) (r32_n h)) (r32_bif (r32_or r32_zero (r32_n h)) (r32_bif (r32_or r32_zero (r32_zf h.d0 h.d1)) r32_zero))
theorem r32_writes {i : Ins} (h : InR i) : R32 (writesV i) :=
  r32_bif (r32_d h) (r32_bif (r32_zf h.m0 h.m1) (r32_bif (r32_bif (r32_zf (by decide) (by decide)) r32_zero) (r32_bif (r32_bif (r32_zf (by decide) (by decide)) r32_zero) (r32_bif (r32_d h) r32_zero))))

theorem in_reg {b : Bool} {x : Int} (h : holdsB (regS b) x = true) : 0 ≤ x ∧ x ≤ 31 := by
  simp only [holdsB, regS, Bool.and_eq_true] at h
  have : h31 b ≤ 31 := by cases b <;> decide
  exact ⟨of_decide_eq_true h.1.1, Int.le_trans (of_decide_eq_true h.1.2) this⟩
theorem inR_of {i : Ins} (h : rightB i = true) : InR i := by
  simp only [rightB, numbersB, Bool.and_eq_true] at h
  obtain ⟨-, ⟨⟨⟨⟨⟨⟨⟨⟨⟨⟨⟨⟨hd, hn⟩, hm⟩, ha⟩, -⟩, -⟩, -⟩, -⟩, -⟩, -⟩, -⟩, -⟩, -⟩⟩ := h
  exact ⟨(in_reg hd).1, (in_reg hd).2, (in_reg hn).1, (in_reg hn).2, (in_reg hm).1, (in_reg hm).2, (in_reg ha).1, (in_reg ha).2⟩

theorem own_mono {w : World} {b base : Nat} {e : TypeId} {size n : Nat} {v : Value} {xs : List Value} (h : w.ownsRow base e size v n xs) (hb : b ≤ base) : w.ownsRow b e size v n xs := by
  obtain ⟨h1, h2⟩ := h
  refine ⟨h1, ?_⟩
  rcases h2 with h2 | ⟨g, cap, cur, hv, hg, r⟩
  · exact Or.inl h2
  · exact Or.inr ⟨g, cap, cur, hv, Nat.le_trans hb hg, r⟩

/-- One block of the call's own: the instruction's box. -/
structure One (i : Ins) (w0 w : World) : Prop where
  below : Below w0.heap.size w0 w
  box : w.heap[w0.heap.size]? = some (.cells i.cells 23)
theorem One.grow {i : Ins} {w0 w w' : World} (h : One i w0 w) (hb : Below w.heap.size w w') : One i w0 w' := by
  have h1 := (Array.getElem?_eq_some_iff.1 h.box).1
  exact ⟨below_then h.below hb, by rw [hb.block _ h1]; exact h.box⟩
theorem one_start (i : Ins) (w : World) : One i w (w.alloc (.cells i.cells 23)) := ⟨below_alloc _ _, heap_alloc_new _ _⟩

def setOf (i : Ins) (v : Int) : Nat := bif rightB i then v.toNat else 0

set_option maxRecDepth 4000 in
set_option maxHeartbeats 2000000 in
theorem Reads_c (i : Ins) (w : World) :
    Calls Tryd.prog 6 #[i.val] w fun e w' => ∃ v, e = .returned v ∧ w'.ownsRow w.heap.size 3 1 v (listL (setOf i (readsV i)) 32).length (listV (setOf i (readsV i)) 32) ∧ Below w.heap.size w w' := by
  have H1 := one_start i w
  cases hR : rightB i
  · have hS : Hid (setOf i (readsV i) = 0) := by show _ = _; simp only [setOf, hR, cond_false]
    go_enter Tryd.func6, Tryd.ntmps6
    go_wp2_with (go_at_call 10; refine (right_c i _).mono ?_; rw [hR]; rintro e w1 ⟨rfl, hb1⟩; replace H1 := H1.grow hb1; clear hb1)
    go_ret
    refine ⟨_, rfl, ?_, H1.below⟩
    rw [hS.out]
    exact World.ownsRow_nil _ _ _ _
  · have hr := inR_of hR
    have hv := r32_reads hr
    have hN : Hid (readsV i = ((setOf i (readsV i) : Nat) : Int)) := by show _ = _; simp only [setOf, hR, cond_true]; have := hv.1; omega
    have hN2 : Hid (setOf i (readsV i) < 4294967296) := by show _ < _; simp only [setOf, hR, cond_true]; have := hv.1; have := hv.2; omega
    generalize setOf i (readsV i) = S at *
    clear hv
    go_enter Tryd.func6, Tryd.ntmps6
    go_wp2_with (go_at_call 10; refine (right_c i _).mono ?_; rw [hR]; rintro e w1 ⟨rfl, hb1⟩; replace H1 := H1.grow hb1; clear hb1; refine Hid.out ?_)
    unfold Hid
    repeat' (first | with_reducible refine then_exit ?_ | with_reducible refine then_normal ?_ | with_reducible refine inBlock_eq ?_ | with_reducible refine inBlock_ne rfl ?_ | with_reducible refine inBlock_normal ?_ | (refine wpList_load_if rfl 23 _ rfl w.heap.size rfl 23 _ (0, 0) _ H1.box Tryd.underlying23 rfl (by kernel_rfl) ?_; simp only [Act.put, List.setIfInBounds_toArray, List.set_cons_succ, List.set_cons_zero]) | (go_at_call 14; refine (reads_c i hr _).mono ?_; rw [hN.out]; rintro e w2 ⟨rfl, hb2⟩; replace H1 := H1.grow hb2; clear hb2; dsimp only) | (go_at_call 15; refine (list_c S hN2.out _).mono ?_; rintro e w3 ⟨v, rfl, hown, hb3⟩; dsimp only) | go_step)
    go_ret
    exact ⟨_, rfl, own_mono hown H1.below.size, below_then H1.below hb3⟩

set_option maxRecDepth 4000 in
set_option maxHeartbeats 2000000 in
theorem Address_c (i : Ins) (w : World) :
    Calls Tryd.prog 7 #[i.val] w fun e w' => ∃ v, e = .returned v ∧ w'.ownsRow w.heap.size 3 1 v (listL (setOf i (addressV i)) 32).length (listV (setOf i (addressV i)) 32) ∧ Below w.heap.size w w' := by
  have H1 := one_start i w
  cases hR : rightB i
  · have hS : Hid (setOf i (addressV i) = 0) := by show _ = _; simp only [setOf, hR, cond_false]
    go_enter Tryd.func7, Tryd.ntmps7
    go_wp2_with (go_at_call 10; refine (right_c i _).mono ?_; rw [hR]; rintro e w1 ⟨rfl, hb1⟩; replace H1 := H1.grow hb1; clear hb1)
    go_ret
    refine ⟨_, rfl, ?_, H1.below⟩
    rw [hS.out]
    exact World.ownsRow_nil _ _ _ _
  · have hr := inR_of hR
    have hv := r32_address hr
    have hN : Hid (addressV i = ((setOf i (addressV i) : Nat) : Int)) := by show _ = _; simp only [setOf, hR, cond_true]; have := hv.1; omega
    have hN2 : Hid (setOf i (addressV i) < 4294967296) := by show _ < _; simp only [setOf, hR, cond_true]; have := hv.1; have := hv.2; omega
    generalize setOf i (addressV i) = S at *
    clear hv
    go_enter Tryd.func7, Tryd.ntmps7
    go_wp2_with (go_at_call 10; refine (right_c i _).mono ?_; rw [hR]; rintro e w1 ⟨rfl, hb1⟩; replace H1 := H1.grow hb1; clear hb1; refine Hid.out ?_)
    unfold Hid
    repeat' (first | with_reducible refine then_exit ?_ | with_reducible refine then_normal ?_ | with_reducible refine inBlock_eq ?_ | with_reducible refine inBlock_ne rfl ?_ | with_reducible refine inBlock_normal ?_ | (refine wpList_load_if rfl 23 _ rfl w.heap.size rfl 23 _ (0, 0) _ H1.box Tryd.underlying23 rfl (by kernel_rfl) ?_; simp only [Act.put, List.setIfInBounds_toArray, List.set_cons_succ, List.set_cons_zero]) | (go_at_call 16; refine (address_c i hr _).mono ?_; rw [hN.out]; rintro e w2 ⟨rfl, hb2⟩; replace H1 := H1.grow hb2; clear hb2; dsimp only) | (go_at_call 15; refine (list_c S hN2.out _).mono ?_; rintro e w3 ⟨v, rfl, hown, hb3⟩; dsimp only) | go_step)
    go_ret
    exact ⟨_, rfl, own_mono hown H1.below.size, below_then H1.below hb3⟩

end Go.Proofs.YtmbefmmnkfoneaaDoor
