/- The document's Order. -/
import Derived.Test.YtfgbhdcoemkdoaaDoorWd
namespace Go.Proofs.YtfgbhdcoemkdoaaDoor
open Go.RowKit
set_option linter.unusedVariables false
set_option linter.unusedSimpArgs false
set_option maxRecDepth 8000

open Rlw
/-- Which things have had their turn. -/
def DnAt (A : Nat) (f : Nat → Bool) (W : World) : Prop := W.heap[A]? = some (.cells (flB 64 f).toArray 35)
section
variable {A : Nat} {f : Nat → Bool} {W W' : World}
theorem DnAt.lt (h : DnAt A f W) : A < W.heap.size := lt_of_some h
theorem DnAt.cell (h : DnAt A f W) {a : Nat} (ha : a < 64) : W.cell? ⟨A, a, none⟩ = some (.bool (f a)) := by
  rw [cell_of_row _ _ _ _ _ _ h]; simpa using flB_get (sn := f) ha
theorem DnAt.frz (h : DnAt A f W) (j : Nat) : W.frozen? ⟨A, j, none⟩ = false := frozen_of_row _ _ _ _ _ h
theorem DnAt.put (h : DnAt A f W) {a : Nat} (ha : a < 64) : DnAt A (upB f a) (W.setCell ⟨A, a, none⟩ (.bool true)) := by
  have e := heap_setCell_same W A a _ 35 (.bool true) h
  unfold DnAt
  rw [e]
  congr 2
  apply Array.ext'
  simp only [Array.toList_setIfInBounds]
  exact flB_set ha
end
structure OI (w : World) (A : Nat) (v : Value) (l : List Nat) (W : World) : Prop where
  row : W.ownsRow w.heap.size 3 1 v l.length (flN l)
  dn : DnAt A (fun x => decide (x ∈ l)) W
  low : Below w.heap.size w W
  own : w.heap.size ≤ A
section
variable {w W W' : World} {A : Nat} {v : Value} {l : List Nat}
theorem OI.step (h : OI w A v l W) {c : Nat} (hc : c < 64) {v' : Value} {W2 : World} (e : W2 = (W.setCell ⟨A, c, none⟩ (.bool true)).alloc (Obj.cells #[vI c] 3)) (hg : W2.grownBy W' v.ownBlock) (hown : W'.ownsRow w.heap.size 3 1 v' (l ++ [c]).length (flN (l ++ [c]))) : OI w A v' (l ++ [c]) W' := by
  subst e
  have hd := h.dn.put hc
  have hB1 : Below w.heap.size w (W.setCell ⟨A, c, none⟩ (.bool true)) := h.low.setCell (p := ⟨A, c, none⟩) h.own _
  have hB2 := hB1.trans ((below_alloc (W.setCell ⟨A, c, none⟩ (.bool true)) (Obj.cells #[vI c] 3)).mono hB1.size)
  have hrow1 : (W.setCell ⟨A, c, none⟩ (.bool true)).ownsRow w.heap.size 3 1 v l.length (flN l) := own_of_block h.row fun k hk => Below.heap_setCell _ _ _ _ (by
    obtain ⟨C, _, hC⟩ := own_kind h.row hk
    exact ne_of_type hC h.dn (by decide))
  have hrow2 := own_grow hrow1 (below_alloc _ (Obj.cells #[vI c] 3))
  have hd2 : DnAt A (upB (fun x => decide (x ∈ l)) c) ((W.setCell ⟨A, c, none⟩ (.bool true)).alloc (Obj.cells #[vI c] 3)) := by
    unfold DnAt
    rw [(below_alloc (W.setCell ⟨A, c, none⟩ (.bool true)) (Obj.cells #[vI c] 3)).block A hd.lt]; exact hd
  have G : Goes (fun k => v.ownBlock = some k) _ W' := goes_grown hg fun k hk => hk
  refine ⟨hown, ?_, hB2.trans (G.below hB2.size fun k hk => (hrow2.lt k hk).1), h.own⟩
  have hb := G.block A hd2.lt (fun e => by
    obtain ⟨C, _, hC⟩ := own_kind hrow2 e
    exact ne_of_type hC hd2 (by decide) rfl)
  have ef : (fun x => decide (x ∈ l ++ [c])) = upB (fun x => decide (x ∈ l)) c := by
    funext x
    unfold upB
    by_cases e : x = c
    · simp [e]
    · rw [if_neg e]; simp [e]
  rw [ef]
  unfold DnAt
  rw [hb]; exact hd2
end
def lenOf : Value → Nat
  | .slice _ n _ => n
  | _ => 0
theorem ordL_stop {n k : Nat} {T : Nat → Nat → Bool} (hk : k < n) (hl : (ordL n T k).length = k) (h : ∀ c, c < n → rdy n T (ordL n T k) c = false) : ordB n T = false := by
  have e : nxt n T (ordL n T k) = none := find_none.2 h
  have := ordL_none e (n - k)
  rw [show k + (n - k) = n by omega] at this
  unfold ordB
  rw [this, hl]
  simp; omega
theorem wpList_new35 {ops : Array Oper} {rest : List Oper} {o : Oper} {a : Act} {w : World} {Q : Exit → Act → World → Prop} (hg : o.guard = none) (ho : o.op = .alloc 35)
    (h : ∀ w', DnAt w.heap.size (fun _ => false) w' → Below w.heap.size w w' → wpList Tryd.prog ops Q rest (a.put o.dst (ptr w.heap.size 0)) w') : wpList Tryd.prog ops Q (o :: rest) a w :=
  wpList_alloc hg 35 ho (flB 64 (fun _ => false)).toArray (by kernel_rfl) (h _ (World.alloc_heap_new w _) (below_alloc _ _))
set_option maxHeartbeats 8000000 in
theorem docOrder_c {x n : Nat} {T : Nat → Nat → Bool} {w : World} (H : RefAt x n T w) (hf : Fits n T) : Calls Tryd.prog 20 #[ptr x 0] w fun e w' => ∃ v, e = .returned (.tuple #[v, .bool (ordB n T)]) ∧ w'.ownsRow w.heap.size 3 1 v (ordV n T).length (flN (ordV n T)) ∧ Below w.heap.size w w' := by
  have hle := H.le
  go_enter Tryd.func20, Tryd.ntmps20
  go_upto_region 3 with (first | (with_reducible refine wpList_new35 rfl rfl ?_; intro w1 hD1 hB1; simp only [Act.put, List.setIfInBounds_toArray, List.set_cons_succ, List.set_cons_zero]))
  have hO0 : OI w w.heap.size (.slice none 0 0) (ordL n T 0) w1 := ⟨⟨rfl, .inl ⟨rfl, rfl⟩⟩, by simpa [ordL] using hD1, hB1, Nat.le_refl _⟩
  generalize hA : w.heap.size = A at hO0
  clear hD1 hB1 hA
  go_loopw [4] (fun s4 wr => ∃ k : Nat, k ≤ n ∧ lenOf s4 = k ∧ Hid (OI w A s4 (ordL n T k) wr ∧ (ordL n T k).length = k)) (fun s4 _ => 64 - lenOf s4)
  case atStart => exact ⟨0, Nat.zero_le _, rfl, hO0, rfl⟩
  case round =>
    clear hO0
    obtain ⟨k, hkn, hlk, hH⟩ := hrel
    obtain ⟨hO, hlen⟩ := hH.out
    clear hH
    obtain ⟨ao, cap, ev, hc1, hc2⟩ := own_len hO.row
    rw [hlen] at ev hc1
    replace hlen := show Hid _ from hlen
    clear hlk
    subst ev
    have c0 := (H.grow hO.low).c0
    by_cases hlt : (k : Int) < n
    · have hkl : k < n := by omega
      go_wp2
      go_loop [6, 7] (fun s6 s7 => ∃ b : Nat, b ≤ n ∧ s7 = vI b ∧ ((s6 = vI (-1) ∧ Hid (∀ c, c < b → rdy n T (ordL n T k) c = false)) ∨ (∃ c : Nat, s6 = vI c ∧ Hid (nxt n T (ordL n T k) = some c)))) (fun _ s7 => 64 - (intOf s7).toNat)
      case atStart => exact ⟨0, Nat.zero_le _, rfl, .inl ⟨rfl, fun c h => by omega⟩⟩
      case round =>
        obtain ⟨b, hbn, rfl, hH⟩ := hrel
        rcases hH with ⟨rfl, hno⟩ | ⟨c, rfl, hc⟩
        · by_cases hlt2 : (b : Int) < n
          · have hbl : b < n := by omega
            have hb64i : (b : Int) < 64 := by omega
            have cd := hO.dn.cell (a := b) (by omega)
            have hrd : Hid (∀ f : Bool, f = !decide (b ∈ ordL n T k) → f = false → rdy n T (ordL n T k) b = false) := fun f h1 h2 => by
              unfold rdy
              rw [← h1, h2]; rfl
            generalize hdb : decide (b ∈ ordL n T k) = db at cd hrd
            go_wp2
            go_loop [8, 9] (fun s8 s9 => ∃ (a : Nat) (f : Bool), a ≤ n ∧ s9 = vI a ∧ s8 = .bool f ∧ Hid ((f = true → b ∉ ordL n T k ∧ ∀ a', a' < a → a' ∈ ordL n T k ∨ T a' b = false) ∧ (f = false → rdy n T (ordL n T k) b = false))) (fun _ s9 => 64 - (intOf s9).toNat)
            case atStart => exact ⟨0, !db, Nat.zero_le _, rfl, rfl, fun h => ⟨fun hm => (by rw [← hdb, decide_eq_true hm] at h; cases h), fun a' h => by omega⟩, fun h => hrd.out _ rfl h⟩
            case round =>
              clear cd hrd hdb
              obtain ⟨a, f, han, rfl, rfl, hH⟩ := hrel
              cases f with
              | false =>
                have hnr := hH.out.2 rfl
                have hno2 : Hid (∀ c, c < b + 1 → rdy n T (ordL n T k) c = false) := fun c hc => by
                  by_cases e : c = b
                  · rw [e]; exact hnr
                  · exact hno.out c (by omega)
                replace hnr := show Hid _ from hnr
                by_cases hlt3 : (a : Int) < n
                · go_wp2
                  go_round
                  case rel => exact ⟨b + 1, by omega, by go_num, .inl ⟨rfl, hno2⟩⟩
                  case measure => simp [intOf]; omega
                · go_wp2
                  go_round
                  case rel => exact ⟨b + 1, by omega, by go_num, .inl ⟨rfl, hno2⟩⟩
                  case measure => simp [intOf]; omega
              | true =>
                have hy := show Hid _ from hH.out.1 rfl
                clear hH
                by_cases hlt3 : (a : Int) < n
                · have hal : a < n := by omega
                  have ha64i : (a : Int) < 64 := by omega
                  have cda := hO.dn.cell (a := a) (by omega)
                  have cT := (H.grow hO.low).cell (a := a) (b := b) (by omega) (by omega)
                  by_cases hm : a ∈ ordL n T k
                  · have hy2 : Hid ((true = true → b ∉ ordL n T k ∧ ∀ a', a' < a + 1 → a' ∈ ordL n T k ∨ T a' b = false) ∧ (true = false → rdy n T (ordL n T k) b = false)) := ⟨fun _ => ⟨hy.out.1, fun a' h => by
                      by_cases e : a' = a
                      · rw [e]; exact .inl hm
                      · exact hy.out.2 a' (by omega)⟩, fun h => by cases h⟩
                    rw [decide_eq_true hm] at cda
                    replace hm := show Hid _ from hm
                    go_wp2
                    go_round
                    case rel => exact ⟨a + 1, true, by omega, by go_num, rfl, hy2⟩
                    case measure => simp [intOf]; omega
                  · rw [decide_eq_false hm] at cda
                    cases hTab : T a b with
                    | true =>
                      have hy2 : Hid ((false = true → b ∉ ordL n T k ∧ ∀ a', a' < a + 1 → a' ∈ ordL n T k ∨ T a' b = false) ∧ (false = false → rdy n T (ordL n T k) b = false)) := ⟨fun h => (by cases h), fun _ => by
                        cases hr : rdy n T (ordL n T k) b with
                        | false => rfl
                        | true => exact absurd (((rdy_iff hf).1 hr).2 a hTab) hm⟩
                      rw [hTab] at cT
                      replace hm := show Hid _ from hm
                      replace hTab := show Hid _ from hTab
                      go_wp2
                      go_round
                      case rel => exact ⟨a + 1, false, by omega, by go_num, rfl, hy2⟩
                      case measure => simp [intOf]; omega
                    | false =>
                      have hy2 : Hid ((true = true → b ∉ ordL n T k ∧ ∀ a', a' < a + 1 → a' ∈ ordL n T k ∨ T a' b = false) ∧ (true = false → rdy n T (ordL n T k) b = false)) := ⟨fun _ => ⟨hy.out.1, fun a' h => by
                        by_cases e : a' = a
                        · rw [e]; exact .inr hTab
                        · exact hy.out.2 a' (by omega)⟩, fun h => by cases h⟩
                      rw [hTab] at cT
                      replace hm := show Hid _ from hm
                      replace hTab := show Hid _ from hTab
                      go_wp2
                      go_round
                      case rel => exact ⟨a + 1, true, by omega, by go_num, rfl, hy2⟩
                      case measure => simp [intOf]; omega
                · obtain rfl : a = n := by omega
                  have hrb : rdy a T (ordL a T k) b = true := (rdy_iff hf).2 ⟨hy.out.1, fun a' ht => by
                    rcases hy.out.2 a' (hf a' b ht).1 with h | h
                    · exact h
                    · rw [h] at ht; cases ht⟩
                  have hnx : Hid (nxt a T (ordL a T k) = some b) := find_range.2 ⟨hbl, hrb, hno.out⟩
                  replace hrb := show Hid _ from hrb
                  go_wp2
                  go_round
                  case rel => exact ⟨b + 1, by omega, by go_num, .inr ⟨b, rfl, hnx⟩⟩
                  case measure => simp [intOf]; omega
          · obtain rfl : b = n := by omega
            have hob := ordL_stop hkl hlen.out hno.out
            have hov : ordV b T = [] := by unfold ordV; rw [hob]; rfl
            have hlow := hO.low
            clear hO
            replace hob := show Hid _ from hob
            replace hov := show Hid _ from hov
            go_wp2
            go_ret2
            refine ⟨.slice none 0 0, by rw [hob.out]; rfl, ?_, hlow⟩
            rw [hov.out]; exact ⟨rfl, .inl ⟨rfl, rfl⟩⟩
        · have hcn : c < n := (find_range.1 hc.out).1
          have hc64 : c < 64 := by omega
          have hc64i : (c : Int) < 64 := by omega
          have cd := hO.dn.cell hc64
          have cf := hO.dn.frz c
          generalize decide (c ∈ ordL n T k) = dc at cd
          have hneg : ¬ (c : Int) < 0 := by omega
          by_cases hlt2 : (b : Int) < n
          · go_upto_region 18 with fail
            have hd := hO.dn
            have hB1 : Below w.heap.size w (wr.setCell ⟨A, c, none⟩ (.bool true)) := hO.low.setCell (p := ⟨A, c, none⟩) hO.own _
            have hrow1 : (wr.setCell ⟨A, c, none⟩ (.bool true)).ownsRow w.heap.size 3 1 (.slice ao k cap) (ordL n T k).length (flN (ordL n T k)) := own_of_block hO.row fun q hq => Below.heap_setCell _ _ _ _ (by
              obtain ⟨C, _, hC⟩ := own_kind hO.row hq
              exact ne_of_type hC hO.dn (by decide))
            have hrow2 := own_grow hrow1 (below_alloc _ (Obj.cells #[vI c] 3))
            have hB2 := hB1.trans ((below_alloc (wr.setCell ⟨A, c, none⟩ (.bool true)) (Obj.cells #[vI c] 3)).mono hB1.size)
            generalize hw8 : (wr.setCell ⟨A, c, none⟩ (.bool true)) = w8 at *
            have hnb : (w8.alloc (Obj.cells #[vI c] 3)).heap[w8.heap.size]? = some (.cells #[vI c] 3) := World.alloc_heap_new _ _
            have hl9 : (ordL n T k).length < 1000000000 := by rw [hlen.out]; omega
            clear cd cf hd hB1 hrow1
            go_wp2_with (first | (at_builtin; refine wpList_appN (by rfl) 43 Tryd.underlying43 _ _ (by rfl) w.heap.size (.slice ao k cap) (ordL n T k) (by rfl) hrow2 hB2.size w8.heap.size 1 c (by rfl) hnb hl9 ?_; intro g4 cap4 w9 hown4 hgr4 hvo4; simp only [Act.put, List.setIfInBounds_toArray, List.set_cons_succ, List.set_cons_zero]))
            have hO2 := hO.step hc64 (by rw [hw8]) hgr4 hown4
            go_roundw
            case rel => exact ⟨k + 1, by omega, by show (ordL n T k).length + 1 = k + 1; rw [hlen.out], by rw [ordL_some hc.out]; exact hO2, by rw [ordL_some hc.out, List.length_append, hlen.out]; rfl⟩
            case measure => show 64 - ((ordL n T k).length + 1) < 64 - k; rw [hlen.out]; omega
          · go_upto_region 18 with fail
            have hd := hO.dn
            have hB1 : Below w.heap.size w (wr.setCell ⟨A, c, none⟩ (.bool true)) := hO.low.setCell (p := ⟨A, c, none⟩) hO.own _
            have hrow1 : (wr.setCell ⟨A, c, none⟩ (.bool true)).ownsRow w.heap.size 3 1 (.slice ao k cap) (ordL n T k).length (flN (ordL n T k)) := own_of_block hO.row fun q hq => Below.heap_setCell _ _ _ _ (by
              obtain ⟨C, _, hC⟩ := own_kind hO.row hq
              exact ne_of_type hC hO.dn (by decide))
            have hrow2 := own_grow hrow1 (below_alloc _ (Obj.cells #[vI c] 3))
            have hB2 := hB1.trans ((below_alloc (wr.setCell ⟨A, c, none⟩ (.bool true)) (Obj.cells #[vI c] 3)).mono hB1.size)
            generalize hw8 : (wr.setCell ⟨A, c, none⟩ (.bool true)) = w8 at *
            have hnb : (w8.alloc (Obj.cells #[vI c] 3)).heap[w8.heap.size]? = some (.cells #[vI c] 3) := World.alloc_heap_new _ _
            have hl9 : (ordL n T k).length < 1000000000 := by rw [hlen.out]; omega
            clear cd cf hd hB1 hrow1
            go_wp2_with (first | (at_builtin; refine wpList_appN (by rfl) 43 Tryd.underlying43 _ _ (by rfl) w.heap.size (.slice ao k cap) (ordL n T k) (by rfl) hrow2 hB2.size w8.heap.size 1 c (by rfl) hnb hl9 ?_; intro g4 cap4 w9 hown4 hgr4 hvo4; simp only [Act.put, List.setIfInBounds_toArray, List.set_cons_succ, List.set_cons_zero]))
            have hO2 := hO.step hc64 (by rw [hw8]) hgr4 hown4
            go_roundw
            case rel => exact ⟨k + 1, by omega, by show (ordL n T k).length + 1 = k + 1; rw [hlen.out], by rw [ordL_some hc.out]; exact hO2, by rw [ordL_some hc.out, List.length_append, hlen.out]; rfl⟩
            case measure => show 64 - ((ordL n T k).length + 1) < 64 - k; rw [hlen.out]; omega
    · obtain rfl : k = n := by omega
      have hob : ordB k T = true := by unfold ordB; rw [hlen.out]; simp
      have hov : ordV k T = ordL k T k := by unfold ordV; rw [hob]; rfl
      replace hob := show Hid _ from hob
      replace hov := show Hid _ from hov
      go_wp2
      go_ret2
      refine ⟨.slice ao k cap, by rw [hob.out]; rfl, ?_, hO.low⟩
      rw [hov.out]; exact hO.row
end Go.Proofs.YtfgbhdcoemkdoaaDoor
