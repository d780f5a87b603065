/- useInstead. -/
import Derived.Test.YtilbnjldfgofmaaZd
namespace Go.Proofs.Ytilbnjldfgofmaa
open Go.RowKit
set_option linter.unusedVariables false
set_option linter.unusedSimpArgs false
set_option maxRecDepth 8000

/-- What a call of the list turns: its items. -/
abbrev Own (ids : List Nat) : Nat → Prop := fun k => k ∈ ids
theorem Ls.goes {w w' : World} {p g cap : Nat} {ids I : List Nat} {l : List Opr} (L : Ls w p g cap ids) (G : Gr I l w) (h : Goes (Own I) w w') : Ls w' p g cap ids := by
  obtain ⟨R, e, q⟩ := L.row
  have hn : ∀ {b : Nat} {C : Array Value} {t : TypeId}, w.heap[b]? = some (.cells C t) → t ≠ 67 → w'.heap[b]? = some (.cells C t) := fun {b C t} hb ht => by
    rw [h.block b (lt_of_some hb) (fun hm => by
      obtain ⟨k, hk⟩ := List.getElem?_of_mem hm
      have hkl : k < l.length := by have := (List.getElem?_eq_some_iff.1 hk).1; have := G.len; omega
      obtain ⟨d, nd, _⟩ := G.node k hkl
      have e2 : idAt I k = b := by unfold idAt; rw [List.getD_eq_getElem?_getD, hk]; rfl
      rw [e2] at nd
      exact ne_of_type hb nd ht rfl)]
    exact hb
  exact ⟨hn L.box (by decide), ⟨R, hn e (by decide), q⟩, L.max⟩
section
variable {pc words el : Int} {l : List Opr} {ids : List Nat} {w : World} {p g cap : Nat}
/-- While another value is used in the first ones. -/
structure UsI (w : World) (p g cap : Nat) (ids : List Nat) (l : List Opr) (k v m : Nat) (W : World) : Prop where
  ls : Ls W p g cap ids
  node : ∀ i, i < l.length → ∃ d, NdAt W (idAt ids i) d ∧ Fits ids (if i < m then substO k v (opAt l i) else opAt l i) d
  goes : Goes (Own ids) w W
theorem NdAt.set6 {W : World} {id : Nat} {d : Nd} (h : NdAt W id d) (x : Nat) : NdAt (W.setCell ⟨id, 6, none⟩ (ptr x 0)) id { d with pa := x } := heap_setCell_same W id 6 _ 67 _ h
theorem NdAt.set7 {W : World} {id : Nat} {d : Nd} (h : NdAt W id d) (x : Nat) : NdAt (W.setCell ⟨id, 7, none⟩ (ptr x 0)) id { d with pb := x } := heap_setCell_same W id 7 _ 67 _ h
theorem NdAt.goes6 {W : World} {id : Nat} {d : Nd} (_ : NdAt W id d) (v : Value) : Goes (fun k => k = id) W (W.setCell ⟨id, 6, none⟩ v) := goes_setCell (F := fun k => k = id) W rfl 6 v
theorem NdAt.goes7 {W : World} {id : Nat} {d : Nd} (_ : NdAt W id d) (v : Value) : Goes (fun k => k = id) W (W.setCell ⟨id, 7, none⟩ v) := goes_setCell (F := fun k => k = id) W rfl 7 v
theorem UsI.next {k v m : Nat} {W W' : World} {d : Nd} (U : UsI w p g cap ids l k v m W) (hl : ids.length = l.length) (hm : m < l.length) (hn : ids.Nodup) (nd : NdAt W' (idAt ids m) d) (hg : Goes (fun j => j = idAt ids m) W W') (f : Fits ids (substO k v (opAt l m)) d) : UsI w p g cap ids l k v (m + 1) W' := by
  have hmem : idAt ids m ∈ ids := idAt_mem (by omega)
  have h1 : ∀ i, i < l.length → i ≠ m → idAt ids i ≠ idAt ids m := fun i hi hne e => hne (idAt_inj hn (by omega) (by omega) e)
  obtain ⟨d0, n0, _⟩ := U.node m hm
  have hx : ∀ {b : Nat} {C : Array Value} {t : TypeId}, W.heap[b]? = some (.cells C t) → t ≠ 67 → W'.heap[b]? = some (.cells C t) := fun {b C t} hb ht => by
    rw [hg.block b (lt_of_some hb) (fun e => by subst e; exact ne_of_type hb n0 ht rfl)]
    exact hb
  obtain ⟨R, e, q⟩ := U.ls.row
  refine ⟨⟨hx U.ls.box (by decide), ⟨R, hx e (by decide), q⟩, U.ls.max⟩, fun i hi => ?_, U.goes.trans hg (fun j _ e => by subst e; exact hmem)⟩
  by_cases e : i = m
  · subst e
    rw [if_pos (by omega)]
    exact ⟨d, nd, f⟩
  · obtain ⟨d2, n2, f2⟩ := U.node i hi
    have hb : W'.heap[idAt ids i]? = W.heap[idAt ids i]? := hg.block _ n2.lt (h1 i hi e)
    refine ⟨d2, by unfold NdAt; rw [hb]; exact n2, ?_⟩
    by_cases e2 : i < m
    · rw [if_pos e2] at f2; rw [if_pos (by omega)]; exact f2
    · rw [if_neg e2] at f2; rw [if_neg (by omega)]; exact f2
set_option maxHeartbeats 2000000 in
theorem use_c (h : rightB pc words el l = true) (L : Ls w p g cap ids) (G : Gr ids l w) {k v : Nat} (hk : k < l.length) (hv : v < l.length) :
    Calls Try.prog 49 #[ptr p 0, ptr (idAt ids k) 0, ptr (idAt ids v) 0] w fun e w' => (∃ u, e = .returned u) ∧ Ls w' p g cap ids ∧ Gr ids (substL l k v) w' ∧ Goes (Own ids) w w' := by
  have hlen := G.len
  have hnd := G.nd
  have h512 := (right_lens h).2.1
  have hI : UsI w p g cap ids l k v 0 w := ⟨L, fun i hi => by rw [if_neg (by omega)]; exact G.node i hi, Goes.refl _ _⟩
  have z := L.boxc
  rw [hlen] at z
  have hb : ∀ i, i < l.length → 0 ≤ (opAt l i).a ∧ (opAt l i).a.toNat < l.length ∧ 0 ≤ (opAt l i).b ∧ (opAt l i).b.toNat < l.length := fun i hi => ab_lt h hi
  have hG : Hid (ids.length = l.length) := hlen
  clear hlen
  go_enter Try.func49, Try.ntmps49
  go_upto_region 1 with fail
  go_loopw [13] (fun s13 wr => ∃ m : Nat, s13 = vI m ∧ m ≤ l.length ∧ UsI w p g cap ids l k v m wr) (fun s13 _ => ((l.length : Int) - intOf s13).toNat)
  case atStart => exact ⟨0, rfl, Nat.zero_le _, hI⟩
  case round =>
    clear z hI L G
    obtain ⟨m, rfl, hm, U⟩ := hrel
    by_cases hlt : (m : Int) < l.length
    · have hml : m < l.length := by omega
      obtain ⟨d, nd, fd⟩ := U.node m hml
      rw [if_neg (by omega)] at fd
      have zm := U.ls.cell (k := m) (by have := hG.out; omega)
      have hbm := hb m hml
      have isA : ∀ i, i < l.length → Is wr (idAt ids i) := fun i hi => by obtain ⟨d, n, _⟩ := U.node i hi; exact ⟨d, n⟩
      have eqv : ∀ i : Int, 0 ≤ i → i.toNat < l.length → decide (idAt ids i.toNat = idAt ids k) = decide (i = k) := fun i h0 hi => by
        rw [decide_eq_decide]
        constructor
        · intro e
          have := idAt_inj hnd (by have := hG.out; omega) (by have := hG.out; omega) e
          omega
        · intro e
          rw [e, Int.toNat_natCast]
      have ea := run_eqP (isA _ hbm.2.1) (isA k hk)
      have eb := run_eqP (isA _ hbm.2.2.2) (isA k hk)
      rw [eqv _ hbm.1 hbm.2.1] at ea
      rw [eqv _ hbm.2.2.1 hbm.2.2.2] at eb
      have c6 := nd.c6
      have c7 := nd.c7
      have f6 := nd.frz 6
      have f7 := nd.frz 7
      rw [fd.a] at c6
      rw [fd.b] at c7
      have n6 := nd.set6 (idAt ids v)
      have is6 : ∀ i, i < l.length → Is (wr.setCell ⟨idAt ids m, 6, none⟩ (ptr (idAt ids v) 0)) (idAt ids i) := fun i hi => by
        by_cases e : idAt ids i = idAt ids m
        · rw [e]; exact ⟨_, n6⟩
        · obtain ⟨d2, n2⟩ := isA i hi
          exact ⟨d2, by unfold NdAt; rw [Below.heap_setCell _ _ _ _ e]; exact n2⟩
      have eb6 := run_eqP (is6 _ hbm.2.2.2) (is6 k hk)
      rw [eqv _ hbm.2.2.1 hbm.2.2.2] at eb6
      have c76 : (wr.setCell ⟨idAt ids m, 6, none⟩ (ptr (idAt ids v) 0)).cell? ⟨idAt ids m, 7, none⟩ = some (ptr (idAt ids (opAt l m).b.toNat) 0) := by rw [n6.c7]; show some (ptr d.pb 0) = _; rw [fd.b]
      have f76 := n6.frz 7
      clear isA is6 eqv n6 hb hbm
      by_cases ha : (opAt l m).a = k
      · rw [decide_eq_true ha] at ea
        replace ha : Hid ((opAt l m).a = k) := ha
        clear eb c7 f7
        by_cases hb : (opAt l m).b = k
        · rw [decide_eq_true hb] at eb6
          replace hb : Hid ((opAt l m).b = k) := hb
          go_wp2
          go_roundw
          case rel => exact ⟨m + 1, by first | go_num | omega, by first | go_num | omega, U.next hG.out hml hnd ((nd.set6 (idAt ids v)).set7 (idAt ids v)) ((nd.goes6 _).trans ((nd.set6 (idAt ids v)).goes7 _) (fun _ _ q => q)) ⟨fd.kind, fd.r, fd.order, fd.imm, (by show idAt ids v = idAt ids (if _ then _ else _ : Int).toNat; rw [if_pos ha.out, Int.toNat_natCast]), (by show idAt ids v = idAt ids (if _ then _ else _ : Int).toNat; rw [if_pos hb.out, Int.toNat_natCast])⟩⟩
          case measure => simp [intOf]; omega
        · rw [decide_eq_false hb] at eb6
          go_wp2
          go_roundw
          case rel => exact ⟨m + 1, by first | go_num | omega, by first | go_num | omega, U.next hG.out hml hnd (nd.set6 (idAt ids v)) (nd.goes6 _) ⟨fd.kind, fd.r, fd.order, fd.imm, (by show idAt ids v = idAt ids (if _ then _ else _ : Int).toNat; rw [if_pos ha.out, Int.toNat_natCast]), (by show d.pb = idAt ids (if _ then _ else _ : Int).toNat; rw [if_neg hb]; exact fd.b)⟩⟩
          case measure => simp [intOf]; omega
      · rw [decide_eq_false ha] at ea
        clear eb6 c76 f76
        by_cases hb : (opAt l m).b = k
        · rw [decide_eq_true hb] at eb
          replace hb : Hid ((opAt l m).b = k) := hb
          go_wp2
          go_roundw
          case rel => exact ⟨m + 1, by first | go_num | omega, by first | go_num | omega, U.next hG.out hml hnd (nd.set7 (idAt ids v)) (nd.goes7 _) ⟨fd.kind, fd.r, fd.order, fd.imm, (by show d.pa = idAt ids (if _ then _ else _ : Int).toNat; rw [if_neg ha]; exact fd.a), (by show idAt ids v = idAt ids (if _ then _ else _ : Int).toNat; rw [if_pos hb.out, Int.toNat_natCast])⟩⟩
          case measure => simp [intOf]; omega
        · rw [decide_eq_false hb] at eb
          go_wp2
          go_roundw
          case rel => exact ⟨m + 1, by first | go_num | omega, by first | go_num | omega, U.next hG.out hml hnd nd (Goes.refl _ _) ⟨fd.kind, fd.r, fd.order, fd.imm, (by show d.pa = idAt ids (if _ then _ else _ : Int).toNat; rw [if_neg ha]; exact fd.a), (by show d.pb = idAt ids (if _ then _ else _ : Int).toNat; rw [if_neg hb]; exact fd.b)⟩⟩
          case measure => simp [intOf]; omega
    · obtain rfl : m = l.length := by omega
      go_wp2
      go_end0
      refine ⟨⟨_, rfl⟩, U.ls, ⟨by rw [subst_len]; exact hG.out, hnd, fun i hi => ?_⟩, U.goes⟩
      rw [subst_len] at hi
      obtain ⟨d, n, f⟩ := U.node i hi
      rw [if_pos hi] at f
      exact ⟨d, n, by rw [subst_at hi]; exact f⟩
end
end Go.Proofs.Ytilbnjldfgofmaa
