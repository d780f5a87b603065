/- The newest store to an address. -/
import Derived.Test.YtjkjbcnafpljoaaRg
namespace Go.Proofs.Ytjkjbcnafpljoaa
open Go.RowKit
set_option linter.unusedVariables false
set_option linter.unusedSimpArgs false

def nw (l : List Lt) (a : Int) : Option Lt := l.reverse.find? fun x => x.a == a
theorem nw_none {l : List Lt} {a : Int} (h : ∀ x ∈ l, x.a ≠ a) : nw l a = none := by
  simp only [nw, List.find?_eq_none, List.mem_reverse, beq_iff_eq]
  exact h
theorem nw_found {l : List Lt} {a : Int} {j : Nat} {x : Lt} (hx : l[j]? = some x) (ha : x.a = a) (h : ∀ y ∈ l.drop (j + 1), y.a ≠ a) : nw l a = some x := by
  have hj : j < l.length := (List.getElem?_eq_some_iff.1 hx).1
  have e : l = l.take j ++ x :: l.drop (j + 1) := by
    have hg : l[j] = x := (List.getElem?_eq_some_iff.1 hx).2
    rw [← hg, ← List.drop_eq_getElem_cons hj, List.take_append_drop]
  rw [nw, e, List.reverse_append, List.find?_append, List.reverse_cons, List.find?_append]
  have h0 : (l.drop (j + 1)).reverse.find? (fun x => x.a == a) = none := by
    simp only [List.find?_eq_none, List.mem_reverse, beq_iff_eq]
    exact h
  rw [h0]
  simp [ha]
def nwL (o : Option Lt) : Lt := o.getD nilL
def nwE (o : Option Lt) : Int := if o.isSome then 0 else 31
set_option maxRecDepth 4000 in
theorem newest_c (g : Nat) (S : Sta) (L : Lay) (k : Nat) (u : Value) (l : List Lt) (s : Lt) (w : World) (H : MemAt g S L w) (hu : L.hv[k]? = some u) (hl : S.bufs[k]? = some l) (hlen : l.length < 1000000000) : Calls Try.prog 36 #[ptr L.gb (k * 2), s.val] w fun e w' => e = .returned (.tuple #[(nwL (nw l s.a)).val, vI (nwE (nw l s.a))]) ∧ Turn g L S w w' := by
  have hf : ∀ k, Foot g L k → k < w.heap.size := fun k hk => H.lt hk
  obtain ⟨ao, cap, e, hc1, hc2⟩ := own_len (H.held k u l hu hl)
  go_enter Try.func36, Try.ntmps36
  go_upto_region 1 with fail
  generalize h1 : World.alloc (World.alloc w _) _ = w1
  have B : BP g S L w.heap.size (w.heap.size + 1) s nilL w w1 := by rw [← h1]; exact bp_start H s
  clear h1
  generalize w.heap.size = b at B ⊢
  have hw : ∀ w', BP g S L b (b + 1) s nilL w w' → w'.cell? ⟨L.gb, k * 2 + 1, none⟩ = some (.slice ao l.length cap) := fun w' B => by rw [← e]; exact (B.mem.cb hu).2
  have c2 := hw w1 B
  clear H
  go_wp2
  clear c2
  go_loopw [6] (fun s6 wr => ∃ j : Nat, j ≤ l.length ∧ s6 = .int .i64 ((j : Int) - 1) ∧ Hid (BP g S L b (b + 1) s nilL w wr) ∧ Hid (∀ x ∈ l.drop j, x.a ≠ s.a)) (fun s6 _ => (intOf s6 + 1).toNat)
  case atStart =>
    exact ⟨l.length, Nat.le_refl _, rfl, B, by show ∀ x ∈ _, _; simp⟩
  case round =>
    obtain ⟨j, hj, rfl, hB, hN⟩ := hrel
    have B := hB.out
    clear hB
    cases j with
    | zero =>
      have hnone : Hid (nw l s.a = none) := nw_none (by simpa using hN.out)
      clear hN
      go_wp2_with ((with_reducible refine wpList_lay B hf rfl _ _ rfl rfl _ _ _ rfl ?_); intro w9 B; simp only [Act.put])
      exact bodyPost_ret (back_le rfl _ _ _ _ _ _ rfl B.res) rfl ⟨by rw [hnone.out]; rfl, B.turn⟩
    | succ m =>
      have hm : m < l.length := by omega
      rw [show (((m + 1 : Nat) : Int) - 1) = m by omega]
      obtain ⟨q, cap', e', _, _, _, hcell, _⟩ := own_addr (B.mem.held k u l hu hl) (by omega)
      rw [e] at e'
      cases e'
      have hx : l[m]? = some l[m] := List.getElem?_eq_getElem hm
      generalize l[m] = x at hx
      obtain ⟨x0, x1, x2⟩ := flatL_get hx
      have z0 := hcell (m * 3) (by omega)
      have z1 := hcell (m * 3 + 1) (by omega)
      have z2 := hcell (m * 3 + 2) (by omega)
      rw [x0] at z0
      rw [x1] at z1
      rw [x2] at z2
      clear x0 x1 x2 hcell
      have c2 := hw wr B
      obtain ⟨d0, d1, d2⟩ := B.c
      have hm0 : (0 : Int) ≤ m := by omega
      have hm1 : (m : Int) < l.length := by omega
      cases hxa : x.a == s.a
      · have hxa' : ¬ x.a = s.a := by simpa using hxa
        go_wp2
        go_quiet (fail)
        go_wp2
        go_roundw
        case rel =>
          refine ⟨m, by omega, by go_num, B.drewN _, ?_⟩
          show ∀ y ∈ _, _
          intro y hy
          rw [List.drop_eq_getElem_cons hm] at hy
          rcases List.mem_cons.1 hy with h | h
          · rw [h, (List.getElem?_eq_some_iff.1 hx).2]; exact hxa'
          · exact hN.out y h
        case measure => simp [intOf]
      · have hxa' : x.a = s.a := by simpa using hxa
        have hfd : Hid (nw l s.a = some x) := nw_found hx hxa' hN.out
        have hxh : Hid (x.a = s.a) := hxa'
        clear hN
        go_wp2
        go_quiet (fail)
        replace B := B.drewN nq
        replace z0 : (wr.drewN nq).cell? ⟨q, m * 3, none⟩ = some (vU x.a) := z0
        replace z1 : (wr.drewN nq).cell? ⟨q, m * 3 + 1, none⟩ = some (vU x.v) := z1
        replace z2 : (wr.drewN nq).cell? ⟨q, m * 3 + 2, none⟩ = some (vI x.t) := z2
        generalize wr.drewN nq = w2 at B z0 z1 z2 ⊢
        clear hxa hxa' c2 d0 d1 d2
        have c2 := hw w2 B
        go_wp2_with ((with_reducible refine wpList_lay B hf rfl _ _ rfl rfl _ _ _ rfl ?_); intro w9 B; simp only [Act.put])
        exact bodyPost_ret (back_le rfl _ _ _ _ _ _ rfl B.res) rfl ⟨by rw [hfd.out]; rfl, B.turn⟩
end Go.Proofs.Ytjkjbcnafpljoaa
