/- The document's own monitor. -/
import Derived.Test.YtgloemlbkkjcaaaMh
namespace Go.Proofs.Ytgloemlbkkjcaaa
open Go.RowKit
set_option linter.unusedVariables false
set_option linter.unusedSimpArgs false

def hasR (rs : List Mk) : List Value := rs.map fun s => .bool s.1
def atR (rs : List Mk) : List Value := rs.map fun s => vU s.2
theorem hasR_set (rs : List Mk) (k : Nat) (s : Mk) : (hasR rs).set k (.bool s.1) = hasR (rs.set k s) := by simp [hasR]
theorem atR_set (rs : List Mk) (k : Nat) (s : Mk) : (atR rs).set k (vU s.2) = atR (rs.set k s) := by simp [atR]
theorem set_same {α β : Type} (f : α → β) {l : List α} {k : Nat} {s t : α} (h : l[k]? = some s) (e : f t = f s) : (l.set k t).map f = l.map f := by
  apply List.ext_getElem?
  intro j
  simp only [List.getElem?_map, List.getElem?_set]
  by_cases hj : k = j
  · subst hj
    rw [h]
    have : k < l.length := (List.getElem?_eq_some_iff.1 h).1
    simp [this, e]
  · simp [hj]
structure RefAt (h hb ab : Nat) (rs : List Mk) (w : World) : Prop where
  top : w.heap[h]? = some (.cells #[.slice (some ⟨hb, 0, none⟩) rs.length rs.length, .slice (some ⟨ab, 0, none⟩) rs.length rs.length] 39)
  has : w.heap[hb]? = some (.cells (hasR rs).toArray 4)
  at_ : w.heap[ab]? = some (.cells (atR rs).toArray 30)
def RFoot (h hb ab : Nat) (k : Nat) : Prop := k = h ∨ k = hb ∨ k = ab
theorem RefAt.keep {h hb ab : Nat} {rs : List Mk} {w w' : World} (H : RefAt h hb ab rs w) (hk : ∀ k, RFoot h hb ab k → w'.heap[k]? = w.heap[k]?) : RefAt h hb ab rs w' :=
  ⟨by rw [hk _ (.inl rfl)]; exact H.top, by rw [hk _ (.inr (.inl rfl))]; exact H.has, by rw [hk _ (.inr (.inr rfl))]; exact H.at_⟩
theorem RefAt.lt {h hb ab : Nat} {rs : List Mk} {w : World} (H : RefAt h hb ab rs w) {k : Nat} (hk : RFoot h hb ab k) : k < w.heap.size := by
  rcases hk with rfl | rfl | rfl
  · exact lt_of_some H.top
  · exact lt_of_some H.has
  · exact lt_of_some H.at_
theorem RefAt.grow {h hb ab : Nat} {rs : List Mk} {w w' : World} (H : RefAt h hb ab rs w) (hg : Below w.heap.size w w') : RefAt h hb ab rs w' := H.keep fun k hk => hg.block k (H.lt hk)
theorem RefAt.c0 {h hb ab : Nat} {rs : List Mk} {w : World} (H : RefAt h hb ab rs w) : w.cell? ⟨h, 0, none⟩ = some (.slice (some ⟨hb, 0, none⟩) rs.length rs.length) := by rw [cell_of_row _ _ _ _ _ _ H.top]; rfl
theorem RefAt.c1 {h hb ab : Nat} {rs : List Mk} {w : World} (H : RefAt h hb ab rs w) : w.cell? ⟨h, 1, none⟩ = some (.slice (some ⟨ab, 0, none⟩) rs.length rs.length) := by rw [cell_of_row _ _ _ _ _ _ H.top]; rfl
theorem RefAt.ch {h hb ab : Nat} {rs : List Mk} {w : World} (H : RefAt h hb ab rs w) {k : Nat} {s : Mk} (hs : rs[k]? = some s) : w.cell? ⟨hb, k, none⟩ = some (.bool s.1) ∧ w.frozen? ⟨hb, k, none⟩ = false := by
  rw [cell_of_row _ _ _ _ _ _ H.has]
  exact ⟨by simp [hasR, hs], frozen_of_row _ _ _ _ _ H.has⟩
theorem RefAt.ca {h hb ab : Nat} {rs : List Mk} {w : World} (H : RefAt h hb ab rs w) {k : Nat} {s : Mk} (hs : rs[k]? = some s) : w.cell? ⟨ab, k, none⟩ = some (vU s.2) ∧ w.frozen? ⟨ab, k, none⟩ = false := by
  rw [cell_of_row _ _ _ _ _ _ H.at_]
  exact ⟨by simp [atR, hs], frozen_of_row _ _ _ _ _ H.at_⟩
theorem RefAt.hne {h hb ab : Nat} {rs : List Mk} {w : World} (H : RefAt h hb ab rs w) : hb ≠ h ∧ ab ≠ h ∧ hb ≠ ab := ⟨ne_of_type H.has H.top (by decide), ne_of_type H.at_ H.top (by decide), ne_of_type H.has H.at_ (by decide)⟩
/-- Has of one core is laid down. -/
theorem RefAt.putH {h hb ab : Nat} {rs : List Mk} {w : World} (H : RefAt h hb ab rs w) {k : Nat} {s : Mk} (hs : rs[k]? = some s) (b : Bool) : RefAt h hb ab (rs.set k (b, s.2)) (w.setCell ⟨hb, k, none⟩ (.bool b)) := by
  obtain ⟨h1, h2, h3⟩ := H.hne
  rw [setCell_eq_setRow _ _ _ _ _ _ _ H.has, List.setIfInBounds_toArray, hasR_set rs k (b, s.2)]
  refine ⟨?_, setRow_heap _ _ _ _ _ _ H.has, ?_⟩
  · rw [setRow_other _ _ _ _ h1.symm, List.length_set]; exact H.top
  · rw [setRow_other _ _ _ _ h3.symm, show atR (rs.set k (b, s.2)) = atR rs from set_same (fun s : Mk => vU s.2) hs rfl]; exact H.at_
theorem RefAt.putA {h hb ab : Nat} {rs : List Mk} {w : World} (H : RefAt h hb ab rs w) {k : Nat} {s : Mk} (hs : rs[k]? = some s) (n : Int) : RefAt h hb ab (rs.set k (s.1, n)) (w.setCell ⟨ab, k, none⟩ (vU n)) := by
  obtain ⟨h1, h2, h3⟩ := H.hne
  rw [setCell_eq_setRow _ _ _ _ _ _ _ H.at_, List.setIfInBounds_toArray, atR_set rs k (s.1, n)]
  refine ⟨?_, ?_, setRow_heap _ _ _ _ _ _ H.at_⟩
  · rw [setRow_other _ _ _ _ h2.symm, List.length_set]; exact H.top
  · rw [setRow_other _ _ _ _ h3, show hasR (rs.set k (s.1, n)) = hasR rs from set_same (fun s : Mk => Value.bool s.1) hs rfl]; exact H.has
theorem goes_setCell {F : Nat → Prop} (w : World) {b k : Nat} (hb : F b) (v : Value) : Goes F w (w.setCell ⟨b, k, none⟩ v) :=
  ⟨rfl, rfl, rfl, by simp [World.setCell], fun j _ hn => Below.heap_setCell _ _ _ _ (fun e => hn (by have e : j = b := e; rw [e]; exact hb))⟩
def rmarkS (rs : List Mk) (k : Nat) (addr : Int) : List Mk := rs.set k (true, addr / 64)
set_option maxRecDepth 4000 in
theorem rmark_c (h hb ab : Nat) (rs : List Mk) (k : Nat) (addr : Int) (w : World) (H : RefAt h hb ab rs w) (hk : k < rs.length) (hl : rs.length ≤ 8) (hA : U64 addr) : Calls Try.prog 11 #[ptr h 0, vI k, vU addr] w fun e w' => e = .returned (.tuple #[]) ∧ RefAt h hb ab (rmarkS rs k addr) w' ∧ Goes (RFoot h hb ab) w w' := by
  have hx : rs[k]? = some rs[k] := List.getElem?_eq_getElem hk
  generalize rs[k] = s at hx
  have c0 := H.c0
  obtain ⟨z1, z2⟩ := H.ch hx
  have hk1 : (k : Int) < rs.length := by omega
  have hk0 : (0 : Int) ≤ k := by omega
  have a0 := hA.1
  have a1 := hA.2
  have t2 : addr.tdiv 64 = addr / 64 := Int.tdiv_eq_ediv_of_nonneg a0
  have t4 : IntKind.u64.wrap (addr / 64) = addr / 64 := by rw [IntKind.wrap_u64]; omega
  have P1 := H.putH hx true
  have G1 := goes_setCell (F := RFoot h hb ab) w (k := k) (.inr (.inl rfl)) (.bool true)
  have hx1 : (rs.set k (true, s.2))[k]? = some (true, s.2) := by simp [hk]
  have P2 := P1.putA hx1 (addr / 64)
  have c1 := P1.c1
  obtain ⟨y1, y2⟩ := P1.ca hx1
  have e2 : (rs.set k (true, s.2)).set k ((true, s.2).1, addr / 64) = rmarkS rs k addr := by simp [rmarkS]
  rw [e2] at P2
  rw [List.length_set] at c1
  go_enter Try.func11, Try.ntmps11
  go_upto_region 1 with fail
  generalize World.setCell w _ _ = x1 at P1 P2 G1 c1 y1 y2 ⊢
  go_wp2
  refine bodyPost_end (results_none rfl _ _ _) rfl ⟨rfl, P2, G1.trans (goes_setCell (F := RFoot h hb ab) x1 (.inr (.inr rfl)) _) fun _ _ e => e⟩
def rtakeB (rs : List Mk) (k : Nat) (addr : Int) : Bool := eqM (rs.getD k (false, 0)) (ofV addr)
def rclearS (rs : List Mk) (k : Nat) : List Mk := rs.set k (false, (rs.getD k (false, 0)).2)
set_option maxRecDepth 4000 in
theorem rtake_c (h hb ab : Nat) (rs : List Mk) (k : Nat) (addr : Int) (w : World) (H : RefAt h hb ab rs w) (hk : k < rs.length) (hl : rs.length ≤ 8) (hA : U64 addr) : Calls Try.prog 16 #[ptr h 0, vI k, vU addr] w fun e w' => e = .returned (.bool (rtakeB rs k addr)) ∧ RefAt h hb ab (rclearS rs k) w' ∧ Goes (RFoot h hb ab) w w' := by
  have hx : rs[k]? = some rs[k] := List.getElem?_eq_getElem hk
  have hd : rs.getD k (false, 0) = rs[k] := by rw [List.getD_eq_getElem?_getD, hx]; rfl
  rw [rtakeB, rclearS, hd]
  generalize rs[k] = s at hx
  clear hd
  have c0 := H.c0
  have c1 := H.c1
  obtain ⟨z1, z2⟩ := H.ch hx
  obtain ⟨y1, y2⟩ := H.ca hx
  have hk1 : (k : Int) < rs.length := by omega
  have hk0 : (0 : Int) ≤ k := by omega
  have a0 := hA.1
  have a1 := hA.2
  have t2 : addr.tdiv 64 = addr / 64 := Int.tdiv_eq_ediv_of_nonneg a0
  have t4 : IntKind.u64.wrap (addr / 64) = addr / 64 := by rw [IntKind.wrap_u64]; omega
  have P1 := H.putH hx false
  have G1 := goes_setCell (F := RFoot h hb ab) w (k := k) (.inr (.inl rfl)) (.bool false)
  obtain ⟨sb, sn⟩ := s
  cases sb
  · go_enter Try.func16, Try.ntmps16
    go_wp2
    go_ret
    exact ⟨by simp [eqM, ofV], P1, G1⟩
  · go_enter Try.func16, Try.ntmps16
    go_wp2
    go_ret
    exact ⟨by simp [eqM, ofV], P1, G1⟩
def rwip (rs : List Mk) (c : Int) (s : Mk) : Nat → List Mk
  | 0 => rs
  | j + 1 => if hitM rs c s j then (rwip rs c s j).set j (false, s.2) else rwip rs c s j
theorem rwip_len (rs : List Mk) (c : Int) (s : Mk) (j : Nat) : (rwip rs c s j).length = rs.length := by
  induction j with
  | zero => rfl
  | succ j ih => rw [rwip]; split <;> simp [ih]
theorem rwip_late (rs : List Mk) (c : Int) (s : Mk) (j : Nat) {i : Nat} (hi : j ≤ i) : (rwip rs c s j)[i]? = rs[i]? := by
  induction j with
  | zero => rfl
  | succ j ih =>
    rw [rwip]
    split
    · rw [List.getElem?_set, if_neg (by omega)]; exact ih (by omega)
    · exact ih (by omega)
/-- The document's monitor and a row of numbers of a call's own. -/
structure RW (w0 : World) (h hb ab : Nat) (rs : List Mk) (v : Value) (l : List Int) (w : World) : Prop where
  ref : RefAt h hb ab rs w
  row : w.ownsRow w0.heap.size 3 1 v l.length (l.map vI)
  goes : Goes (RFoot h hb ab) w0 w
theorem RW.grow {w0 w w' : World} {h hb ab : Nat} {rs : List Mk} {v : Value} {l : List Int} (H : RW w0 h hb ab rs v l w) (hg : Below w.heap.size w w') : RW w0 h hb ab rs v l w' :=
  ⟨H.ref.grow hg, own_of_block H.row fun k hk => hg.block k (H.row.lt k hk).2, H.goes.grow hg⟩
theorem RW.put {w0 w : World} {h hb ab : Nat} {rs : List Mk} {v : Value} {l : List Int} (H : RW w0 h hb ab rs v l w) {k : Nat} {s : Mk} (hs : rs[k]? = some s) (b : Bool) : RW w0 h hb ab (rs.set k (b, s.2)) v l (w.setCell ⟨hb, k, none⟩ (.bool b)) :=
  ⟨H.ref.putH hs b, own_of_block H.row fun j hj => Below.heap_setCell _ _ _ _ (fun e => by have e : j = hb := e; exact own_ne H.ref.has H.row (by decide) (e ▸ hj)), H.goes.trans (goes_setCell (F := RFoot h hb ab) w (.inr (.inl rfl)) _) fun _ _ e => e⟩
theorem RW.app {w0 w w1 w2 : World} {h hb ab : Nat} {rs : List Mk} {v : Value} {l : List Int} (H : RW w0 h hb ab rs v l w) (hB : Below w.heap.size w w1) {b n cap : Nat} {a : Int} (q1 : w2.ownsRow w0.heap.size 3 1 (.slice (some ⟨b, 0, none⟩) n cap) (l ++ [a]).length ((l ++ [a]).map vI)) (q2 : w1.grownBy w2 v.ownBlock) : RW w0 h hb ab rs (.slice (some ⟨b, 0, none⟩) n cap) (l ++ [a]) w2 := by
  have h1 := H.grow hB
  refine ⟨h1.ref.keep fun k hk => q2.block k (h1.ref.lt hk) fun e => ?_, q1, ?_⟩
  · rcases hk with rfl | rfl | rfl
    · exact own_ne h1.ref.top h1.row (by decide) e.symm
    · exact own_ne h1.ref.has h1.row (by decide) e.symm
    · exact own_ne h1.ref.at_ h1.row (by decide) e.symm
  · have g2 := goes_grown (F := fun k => v.ownBlock = some k) q2 fun k hk => hk
    refine ⟨g2.os.trans h1.goes.os, g2.tape.trans h1.goes.tape, g2.output.trans h1.goes.output, Nat.le_trans h1.goes.size g2.size, fun k hk hn => ?_⟩
    rw [g2.block k (Nat.lt_of_lt_of_le hk h1.goes.size) (fun e => by have := (h1.row.lt k e).1; omega)]
    exact h1.goes.block k hk hn
set_option maxRecDepth 8000 in
set_option maxHeartbeats 2000000 in
theorem rwrote_c (h hb ab : Nat) (rs : List Mk) (c addr : Int) (w : World) (H : RefAt h hb ab rs w) (hl : rs.length ≤ 8) (hA : U64 addr) : Calls Try.prog 14 #[ptr h 0, vI c, vU addr] w fun e w' => ∃ ha hc, e = .returned (.slice ha (lst rs c (ofV addr) rs.length).length hc) ∧ RW w h hb ab (rwip rs c (ofV addr) rs.length) (.slice ha (lst rs c (ofV addr) rs.length).length hc) (lst rs c (ofV addr) rs.length) w' := by
  have a0 := hA.1
  have a1 := hA.2
  have t2 : addr.tdiv 64 = addr / 64 := Int.tdiv_eq_ediv_of_nonneg a0
  have t4 : IntKind.u64.wrap (addr / 64) = addr / 64 := by rw [IntKind.wrap_u64]; omega
  obtain ⟨s, hs⟩ : ∃ s, s = ofV addr := ⟨_, rfl⟩
  have hs1 : s.1 = true := by rw [hs]; rfl
  have hs2 : s.2 = addr / 64 := by rw [hs]; rfl
  rw [← hs]
  replace hs := show Hid _ from hs
  go_enter Try.func14, Try.ntmps14
  go_wp2
  go_loopw [7, 8] (fun s7 s8 wr => ∃ i : Nat, i ≤ rs.length ∧ s8 = .int .i64 i ∧ ∃ ha n hc, s7 = .slice ha n hc ∧ Hid ((lst rs c s i).length = n) ∧ Hid (RW w h hb ab (rwip rs c s i) (.slice ha n hc) (lst rs c s i) wr)) (fun _ s8 _ => rs.length - (intOf s8).toNat)
  case atStart => exact ⟨0, Nat.zero_le _, rfl, none, 0, 0, rfl, rfl, H, World.ownsRow_nil _ _ _ _, Goes.refl _ _⟩
  case round =>
    obtain ⟨i, hi, rfl, ha, n, hc, rfl, hn, hH⟩ := hrel
    have P := hH.out
    clear hH H
    have c0 := P.ref.c0
    have c1 := P.ref.c1
    rw [rwip_len] at c0 c1
    by_cases hlt : (i : Int) < rs.length
    · have hi0 : (0 : Int) ≤ i := by omega
      have hx : rs[i]? = some rs[i] := List.getElem?_eq_getElem (by omega)
      generalize rs[i] = m at hx
      have hy := rwip_late rs c s i (Nat.le_refl i)
      rw [hx] at hy
      obtain ⟨z1, z2⟩ := P.ref.ch hy
      obtain ⟨y1, y2⟩ := P.ref.ca hy
      have hll := lst_len rs c s i
      by_cases hic : (i : Int) = c
      · have hhit : hitM rs c s i = false := by simp [hitM, hic]
        have e1 : lst rs c s (i + 1) = lst rs c s i := by rw [lst, hhit]; rfl
        have e2 : rwip rs c s (i + 1) = rwip rs c s i := by rw [rwip, hhit]; rfl
        have hic' : ((i : Int) != c) = false := by simpa using hic
        go_wp2
        go_roundw
        case rel => exact ⟨i + 1, by omega, by go_num, ha, n, hc, rfl, by rw [e1]; exact hn, by rw [e1, e2]; exact P⟩
        case measure => simp [intOf]; omega
      · have hic' : ((i : Int) != c) = true := by simpa using hic
        obtain ⟨mb, mn⟩ := m
        by_cases hm : mb = true ∧ mn = addr / 64
        · obtain ⟨rfl, rfl⟩ := hm
          have hms : (true, addr / 64) = s := Prod.ext hs1.symm hs2.symm
          have hhit : hitM rs c s i = true := by simp [hitM, hx, hic, hms]
          have e1 : lst rs c s (i + 1) = lst rs c s i ++ [(i : Int)] := by rw [lst, hhit]; rfl
          have e2 : rwip rs c s (i + 1) = (rwip rs c s i).set i (false, addr / 64) := by rw [rwip, hhit, hs2]; rfl
          have P2 := P.put hy false
          rw [show ((rwip rs c s i).set i (false, ((true, addr / 64) : Mk).2)) = rwip rs c s (i + 1) from e2.symm] at P2
          go_upto_region 7 with fail
          generalize World.setCell _ _ _ = x2 at P2 ⊢
          clear c0 c1 z1 z2 y1 y2 P
          have hbase : w.heap.size ≤ x2.heap.size := P2.goes.size
          generalize hL : lst rs c s i = L at P2 hn hll e1
          have hn' := hn.out
          subst hn'
          go_wp2_with (at_builtin; refine wpList_app_intb (by rfl) _ _ (by rfl) w.heap.size (.slice ha L.length hc) L (by rfl) (P2.grow (below_alloc _ _)).row (Nat.le_trans hbase (below_alloc _ _).size) x2.heap.size 0 1 (i : Int) (by rfl) (by rw [World.cell?_alloc_new]; rfl) (by omega) ?_; intro b2 acap y3 q1 q2 q3 q4; simp only [Act.put, List.setIfInBounds_toArray, List.set_cons_succ, List.set_cons_zero])
          have P3 := P2.app (below_alloc _ _) q1 q2
          go_roundw
          case rel => exact ⟨i + 1, by omega, by go_num, _, _, _, rfl, by rw [e1]; show _ = _; simp, by rw [e1]; exact P3⟩
          case measure => simp [intOf]; omega
        · have hhit : hitM rs c s i = false := by
            simp only [hitM, hx, Bool.and_eq_false_iff, decide_eq_false_iff_not, Option.some.injEq]
            refine .inr fun e => hm ?_
            rw [← e] at hs1 hs2
            exact ⟨hs1, hs2⟩
          have e1 : lst rs c s (i + 1) = lst rs c s i := by rw [lst, hhit]; rfl
          have e2 : rwip rs c s (i + 1) = rwip rs c s i := by rw [rwip, hhit]; rfl
          cases mb
          · go_wp2
            go_roundw
            case rel => exact ⟨i + 1, by omega, by go_num, ha, n, hc, rfl, by rw [e1]; exact hn, by rw [e1, e2]; exact P⟩
            case measure => simp [intOf]; omega
          · have hmn : (mn == addr / 64) = false := by simpa using fun e => hm ⟨rfl, e⟩
            go_wp2
            go_roundw
            case rel => exact ⟨i + 1, by omega, by go_num, ha, n, hc, rfl, by rw [e1]; exact hn, by rw [e1, e2]; exact P⟩
            case measure => simp [intOf]; omega
    · obtain rfl : i = rs.length := by omega
      have hn' := hn.out
      subst hn'
      go_wp2
      go_ret
      exact ⟨ha, hc, rfl, P⟩
end Go.Proofs.Ytgloemlbkkjcaaa
