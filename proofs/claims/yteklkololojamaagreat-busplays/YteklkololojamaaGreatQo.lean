/- The interrupt that a core would take: next, Best. -/
import Derived.Test.YteklkololojamaaGreatQn
import Derived.Test.YteklkololojamaaGreatQe
namespace Go.Proofs.YteklkololojamaaGreat
open Go.RowKit
set_option linter.unusedVariables false
set_option linter.unusedSimpArgs false
set_option maxRecDepth 8000

/-- Of the first i interrupts, the one that comes first. -/
def bstF (n : Nat) (P : Pg) (c : Nat) : Nat → Option Trn
  | 0 => none
  | i + 1 => if candB n P c i then (match bstF n P c i with | none => some ⟨(lookV n P c i).rank, i⟩ | some t => if (lookV n P c i).rank < t.rank then some ⟨(lookV n P c i).rank, i⟩ else some t) else bstF n P c i
theorem bst_none {n : Nat} {P : Pg} {c : Nat} : ∀ i, bstF n P c i = none → ∀ k, k < i → candB n P c k = false
  | 0, _, k, hk => by omega
  | i + 1, h, k, hk => by
    unfold bstF at h
    cases hc : candB n P c i with
    | true =>
      rw [hc, if_pos rfl] at h
      split at h
      · cases h
      · split at h <;> cases h
    | false =>
      rw [hc, if_neg (by decide)] at h
      rcases Nat.lt_or_ge k i with hki | hki
      · exact bst_none i h k hki
      · obtain rfl : k = i := by omega
        exact hc
theorem bst_some {n : Nat} {P : Pg} {c : Nat} : ∀ i t, bstF n P c i = some t → (∃ k, k < i ∧ candB n P c k = true ∧ t = ⟨(lookV n P c k).rank, k⟩) ∧ ∀ k, k < i → candB n P c k = true → ltT ⟨(lookV n P c k).rank, k⟩ t = false
  | 0, t, h => by cases h
  | i + 1, t, h => by
    unfold bstF at h
    cases hc : candB n P c i with
    | true =>
      rw [hc, if_pos rfl] at h
      cases hb : bstF n P c i with
      | none =>
        rw [hb] at h
        cases h
        refine ⟨⟨i, by omega, hc, rfl⟩, fun k hk hck => ?_⟩
        rcases Nat.lt_or_ge k i with hki | hki
        · rw [bst_none i hb k hki] at hck; cases hck
        · obtain rfl : k = i := by omega
          rw [ltT_false]; omega
      | some u =>
        rw [hb] at h
        obtain ⟨⟨k0, h1, h2, h3⟩, h4⟩ := bst_some i u hb
        dsimp only at h
        split at h
        · rename_i hlt
          cases h
          refine ⟨⟨i, by omega, hc, rfl⟩, fun k hk hck => ?_⟩
          rcases Nat.lt_or_ge k i with hki | hki
          · have := h4 k hki hck
            rw [ltT_false] at this ⊢
            dsimp only at this hlt ⊢
            omega
          · obtain rfl : k = i := by omega
            rw [ltT_false]; omega
        · rename_i hlt
          cases h
          refine ⟨⟨k0, by omega, h2, h3⟩, fun k hk hck => ?_⟩
          rcases Nat.lt_or_ge k i with hki | hki
          · exact h4 k hki hck
          · obtain rfl : k = i := by omega
            have e2 : t.id = k0 := by rw [h3]
            rw [ltT_false]
            dsimp only at hlt ⊢
            omega
    | false =>
      rw [hc, if_neg (by decide)] at h
      obtain ⟨⟨k0, h1, h2, h3⟩, h4⟩ := bst_some i t h
      refine ⟨⟨k0, by omega, h2, h3⟩, fun k hk hck => ?_⟩
      rcases Nat.lt_or_ge k i with hki | hki
      · exact h4 k hki hck
      · obtain rfl : k = i := by omega
        rw [hc] at hck; cases hck
/-- The first of the heap is it. -/
theorem WQ.first {n : Nat} {P : Pg} {c : Nat} {w : World} {q : Nat} {v : Value} {m : List Trn} {wr : World} (H : WQ n P c w q 64 v m wr) : (m = [] ∧ bstF n P c 64 = none) ∨ ∃ t, m[0]? = some t ∧ bstF n P c 64 = some t := by
  cases hm : m with
  | nil =>
    left
    refine ⟨rfl, ?_⟩
    cases hb : bstF n P c 64 with
    | none => rfl
    | some t =>
      obtain ⟨⟨k, h1, h2, h3⟩, _⟩ := bst_some 64 t hb
      have := (H.mem t).2 ⟨k, h1, h2, h3⟩
      rw [hm] at this
      cases this
  | cons a r =>
    right
    refine ⟨a, rfl, ?_⟩
    have ha : m[0]? = some a := by rw [hm]; rfl
    obtain ⟨k, h1, h2, h3⟩ := (H.mem a).1 (by rw [hm]; simp)
    cases hb : bstF n P c 64 with
    | none =>
      rw [bst_none 64 hb k h1] at h2; cases h2
    | some t =>
      obtain ⟨⟨k0, g1, g2, g3⟩, g4⟩ := bst_some 64 t hb
      have e1 := g4 k h1 h2
      rw [← h3] at e1
      obtain ⟨j, hj⟩ := List.mem_iff_getElem?.1 ((H.mem t).2 ⟨k0, g1, g2, g3⟩)
      have e2 := heap_min H.heap (j + 1) j (by omega) t a hj ha
      rw [ltT_false] at e1 e2
      congr 1
      cases a; cases t
      simp only [Trn.mk.injEq]
      dsimp only at e1 e2
      omega
theorem run_ta (t : Trn) (w : World) : Sem.run Tryz.prog (Instr.typeAssert (.iface 106 t.val) 20 106 false) w = .ok t.val w := by kernel_rfl
def nextV (n : Nat) (P : Pg) (core : Int) : Option Trn := if hasB n core then bstF n P core.toNat 64 else none
def nextT (n : Nat) (P : Pg) (core : Int) : Trn := (nextV n P core).getD nilT
section
variable {g n : Nat} {P : Pg} {L : GLay} {w : World}
set_option maxHeartbeats 1000000 in
theorem next_c (H : GicAt g n P L w) (core : Int) : Calls Tryz.prog 62 #[ptr g 0, vI core] w fun e w' => e = .returned (.tuple #[(nextT n P core).val, .bool (nextV n P core).isSome]) ∧ Below w.heap.size w w' := by
  unfold nextT nextV
  cases h1 : hasB n core with
  | false =>
    rw [if_neg (by decide)]
    show Calls Tryz.prog 62 #[ptr g 0, vI core] w fun e w' => e = .returned (.tuple #[nilT.val, .bool false]) ∧ Below w.heap.size w w'
    go_enter Tryz.func62, Tryz.ntmps62
    go_upto_region 1 with fail
    generalize hw1 : World.alloc _ _ = w1
    have B : Below w.heap.size w w1 := by rw [← hw1]; exact below_alloc _ _
    have hd : w1.heap[w.heap.size]? = some (.cells nilT.row.toArray 106) := by rw [← hw1]; exact heap_alloc_new _ _
    clear hw1
    go_wp2_with (first | (go_at_call 67; refine (has_c (H.grow B) core).mono ?_; rintro e w' ⟨rfl, rfl⟩; dsimp only; rw [h1]) | (refine wpList_stT rfl _ _ rfl w.heap.size rfl nilT nilT rfl hd ?_; simp only [Act.put]))
    exact bodyPost_ret (back_t rfl _ _ w.heap.size nilT rfl (setRow_heap _ _ _ _ _ _ hd)) rfl ⟨rfl, below_setRow B (Nat.le_refl _)⟩
  | true =>
    rw [if_pos rfl]
    obtain ⟨h4, h5⟩ := has_of h1
    obtain ⟨c, rfl⟩ : ∃ c : Nat, core = (c : Int) := ⟨core.toNat, by omega⟩
    rw [Int.toNat_natCast]
    have hc : c < n := by omega
    go_enter Tryz.func62, Tryz.ntmps62
    go_upto_region 1 with fail
    generalize hw1 : World.alloc _ _ = w1
    have B : Below w.heap.size w w1 := by rw [← hw1]; exact below_alloc _ _
    have hd : w1.heap[w.heap.size]? = some (.cells nilT.row.toArray 106) := by rw [← hw1]; exact heap_alloc_new _ _
    clear hw1
    go_upto_region 4 with (first | (go_at_call 67; refine (has_c (H.grow B) c).mono ?_; rintro e w' ⟨rfl, rfl⟩; dsimp only; rw [h1]) | (go_at_call 75; refine (waiting_c (H.grow B) hc).mono ?_; rintro e w2 ⟨q, rfl, v, m, hQ⟩; dsimp only))
    have B2 : Below w.heap.size w w2 := below_then B (Nat.le_refl _) hQ.below
    have hd2 : w2.heap[w.heap.size]? = some (.cells nilT.row.toArray 106) := by rw [hQ.below.block _ (lt_of_some hd)]; exact hd
    have c0 := hQ.at_.c0
    have hlen := hQ.len
    obtain ⟨ao, cap, ev, _, _⟩ := own_len hQ.at_.row
    have hF : ∀ k, QF q v k → w'.heap.size ≤ k := by
      rintro k (e | e)
      · rw [e]; exact hQ.at_.hq
      · exact (hQ.at_.row.lt k e).1
    rcases hQ.first with ⟨em, eb⟩ | ⟨t, em, eb⟩
    · rw [ev, em] at c0
      clear ev
      have hB2 := show Hid _ from B2
      replace eb := show Hid _ from eb
      go_wp2_with (first | (go_at_call 76; refine (len_c _ _ _ _).mono ?_; rintro e w' ⟨rfl, rfl⟩; dsimp only) | (refine wpList_stT rfl _ _ rfl w.heap.size rfl nilT nilT rfl hd2 ?_; simp only [Act.put]))
      exact bodyPost_ret (back_t rfl _ _ w.heap.size nilT rfl (setRow_heap _ _ _ _ _ _ hd2)) rfl ⟨by rw [eb.out]; rfl, below_setRow B2 (Nat.le_refl _)⟩
    · have hpos : 0 < m.length := (List.getElem?_eq_some_iff.1 em).1
      have hk : ¬ ((m.length : Int) = 0) := by omega
      have hpop := pop_c hQ.at_ (n := m.length - 1) (by omega) (by omega) em
      rw [ev] at c0
      have hB2 := show Hid _ from B2
      replace eb := show Hid _ from eb
      have hv : ∀ k, QF q v k → w'.heap.size ≤ k := hF
      have hQB := hQ.below
      have ta := run_ta t
      clear ev hF em hQ
      go_upto_region 6 with (first | (go_at_call 76; refine (len_c _ _ _ _).mono ?_; rintro e w' ⟨rfl, rfl⟩; dsimp only))
      go_wp2_with (first | (go_at_call 77; refine hpop.mono ?_; rintro e w3 ⟨rfl, G3⟩; dsimp only; have hd3 : w3.heap[w.heap.size]? = some (.cells nilT.row.toArray 106) := (by rw [G3.block _ (lt_of_some hd2) (fun h => by have := hv _ h; have := lt_of_some hd; omega)]; exact hd2)) | (refine wpList_stT rfl _ _ rfl w.heap.size rfl t nilT rfl hd3 ?_; simp only [Act.put]))
      exact bodyPost_ret (back_t rfl _ _ w.heap.size t rfl (setRow_heap _ _ _ _ _ _ hd3)) rfl ⟨by rw [eb.out]; rfl, below_setRow (hB2.out.trans (G3.below hB2.out.size fun k h => Nat.le_trans B.size (hv k h))) (Nat.le_refl _)⟩
def bestV (n : Nat) (P : Pg) (core : Int) : Int × Bool := ((nextT n P core).id, (nextV n P core).isSome)
theorem gbest_c (H : GicAt g n P L w) (core : Int) : Calls Tryz.prog 27 #[ptr g 0, vI core] w fun e w' => e = .returned (.tuple #[vI (nextT n P core).id, .bool (nextV n P core).isSome]) ∧ Below w.heap.size w w' := by
  have hn := next_c H core
  generalize nextT n P core = t at hn ⊢
  generalize (nextV n P core).isSome = b at hn ⊢
  go_enter Tryz.func27, Tryz.ntmps27
  go_upto_region 2 with (first | (go_at_call 62; refine hn.mono ?_; rintro e w1 ⟨rfl, hB⟩; dsimp only) | (refine wpList_stT rfl _ _ rfl w1.heap.size rfl t nilT rfl (heap_alloc_new _ _) ?_; simp only [Act.put]))
  generalize hw4 : World.setRow _ _ _ = w4
  have B4 : Below w.heap.size w w4 := by rw [← hw4]; exact below_then hB (Nat.le_refl _) (below_setRow (below_alloc _ _) (Nat.le_refl _))
  have hd : w4.heap[w1.heap.size]? = some (.cells t.row.toArray 106) := by rw [← hw4]; exact setRow_heap _ _ _ _ _ _ (heap_alloc_new _ _)
  have z : w4.cell? ⟨w1.heap.size, 1, none⟩ = some (vI t.id) := by rw [cell_of_row _ _ _ _ _ _ hd]; rfl
  clear hw4
  go_wp2
  go_ret2
  exact ⟨rfl, B4⟩
end
end Go.Proofs.YteklkololojamaaGreat
