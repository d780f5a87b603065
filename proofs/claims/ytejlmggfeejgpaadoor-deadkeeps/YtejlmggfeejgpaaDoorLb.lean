/- The sweep in memory: sees. -/
import Derived.Test.YtejlmggfeejgpaaDoorLa
import Derived.Test.YtejlmggfeejgpaaDoorMb
namespace Go.Proofs.YtejlmggfeejgpaaDoor
open Go.RowKit
set_option linter.unusedVariables false
set_option linter.unusedSimpArgs false
set_option maxRecDepth 8000

theorem anewL_one {o : Opr} {t : List Opr} (L : List Bool) (hl : L.length = 37) (h : ∀ m, m < 37 → L[m]? = some (anew m (o :: t))) : L = anewL (o :: t) := by
  apply List.ext_getElem?
  intro m
  rcases Nat.lt_or_ge m 37 with q | q
  · rw [h m q, anewL_at _ q]
  · rw [List.getElem?_eq_none (by omega), List.getElem?_eq_none (by rw [anewL_len]; omega)]
theorem anewL_set {o : Opr} {t : List Opr} {n : Nat} (hs : setN o = some n) (hg : getN o = none) (hl : lvB o = false) : (anewL t).set n true = anewL (o :: t) := by
  refine anewL_one _ (by rw [List.length_set, anewL_len]) (fun m hm => ?_)
  rw [List.getElem?_set]
  have e : anew m (o :: t) = if n = m then true else anew m t := by
    show (if getN o = some m ∨ lvB o = true then _ else if setN o = some m then true else anew m t) = _
    rw [hg, hl, hs, if_neg (by simp)]
    simp only [Option.some.injEq]
  rw [e]
  by_cases q : n = m
  · rw [if_pos q, if_pos q, if_pos (by rw [anewL_len]; omega)]
  · rw [if_neg q, if_neg q, anewL_at _ hm]
theorem anewL_get {o : Opr} {t : List Opr} {n : Nat} (hg : getN o = some n) (hs : setN o = none) (hl : lvB o = false) : (anewL t).set n false = anewL (o :: t) := by
  refine anewL_one _ (by rw [List.length_set, anewL_len]) (fun m hm => ?_)
  rw [List.getElem?_set]
  have e : anew m (o :: t) = if n = m then false else anew m t := by
    show (if getN o = some m ∨ lvB o = true then _ else if setN o = some m then true else anew m t) = _
    rw [hg, hl, hs]
    by_cases q : n = m
    · rw [if_pos q, if_pos (by simp [q])]
    · rw [if_neg q, if_neg (by simp [q]), if_neg (by simp)]
  rw [e]
  by_cases q : n = m
  · rw [if_pos q, if_pos q, if_pos (by rw [anewL_len]; omega)]
  · rw [if_neg q, if_neg q, anewL_at _ hm]
theorem anewL_none {o : Opr} {t : List Opr} (hg : getN o = none) (hs : setN o = none) (hl : lvB o = false) : anewL t = anewL (o :: t) := by
  refine anewL_one _ (anewL_len _) (fun m hm => ?_)
  rw [anewL_at _ hm]
  show _ = some (if getN o = some m ∨ lvB o = true then _ else if setN o = some m then true else anew m t)
  rw [hg, hl, hs, if_neg (by simp), if_neg (by simp)]
theorem anewL_lv {o : Opr} {t : List Opr} (hl : lvB o = true) : List.replicate 37 false = anewL (o :: t) := by
  refine anewL_one _ (by simp) (fun m hm => ?_)
  rw [List.getElem?_replicate, if_pos hm]
  show _ = some (if getN o = some m ∨ lvB o = true then _ else _)
  rw [if_pos (.inr hl)]
theorem seesB_val {o : Opr} {t : List Opr} {s : Bool} (hs : setN o = none) (hl : lvB o = false) (h13 : o.kind ≠ 13) : seesB o t s = s := by
  unfold seesB
  rw [hs, hl]
  exact if_neg (by simp [h13])
theorem seesB_lv {o : Opr} {t : List Opr} {s : Bool} (hs : setN o = none) (hl : lvB o = true) : seesB o t s = true := by
  unfold seesB
  rw [hs, hl]
  exact if_pos (.inr rfl)
theorem SwT.from {p : Nat} {sv : Value} {S : List Bool} {w w1 w2 : World} (hb : Below w.heap.size w w1) (h : SwT p sv S w1 w2) : SwT p sv S w w2 := ⟨h.1, (goes_of_below hb).trans h.2 (fun _ _ q => q)⟩
theorem SwT.grow {p : Nat} {sv : Value} {S : List Bool} {w w1 w2 : World} (h : SwT p sv S w w1) (hb : Below w1.heap.size w1 w2) : SwT p sv S w w2 := ⟨by rw [hb.block _ (lt_of_some h.1)]; exact h.1, h.2.grow hb⟩
theorem keepC {w x : World} {b : Nat} {cs : Array Value} {t : TypeId} (h : w.heap[b]? = some (.cells cs t)) (hb : Below w.heap.size w x) : x.heap[b]? = some (.cells cs t) := by rw [hb.block b (lt_of_some h)]; exact h
section
variable {w : World} {p sb place m cap : Nat} {SB : Array Value} {t : List Opr} {s : Bool}
def SeesR (p sb m cap : Nat) (t : List Opr) (o : Opr) (s : Bool) (w : World) (e : Ending) (w' : World) : Prop := e = .returned (.bool (seesB o t s)) ∧ SwT p (.slice (some ⟨sb, 0, none⟩) m cap) (anewL (o :: t)) w w'
theorem sees_sets (hp : w.heap[p]? = some (.cells (swA (.slice (some ⟨sb, 0, none⟩) m cap) (anewL t)) 68)) {o : Opr} {n : Nat} (hn : setN o = some n) (h37 : n < 37) (hg : getN o = none) (hl : lvB o = false) {v : Value} (hv : v = vI n) :
    Calls Tryd.prog 43 #[ptr p 0, v] w fun e w' => e = .returned (.bool (seesB o t s)) ∧ SwT p (.slice (some ⟨sb, 0, none⟩) m cap) (anewL (o :: t)) w w' := by
  subst hv
  refine (set_c hp h37 (anewL_at t h37)).mono ?_
  rintro e w' ⟨rfl, R⟩
  rw [anewL_set hn hg hl] at R
  refine ⟨?_, R⟩
  unfold seesB
  rw [hn]
theorem sees_gets (hp : w.heap[p]? = some (.cells (swA (.slice (some ⟨sb, 0, none⟩) m cap) (anewL t)) 68)) {o : Opr} {n : Nat} (hg : getN o = some n) (h37 : n < 37) (hs : setN o = none) (hl : lvB o = false) {v : Value} (hv : v = vI n) :
    Calls Tryd.prog 44 #[ptr p 0, v] w fun e w' => (∃ v, e = .returned v) ∧ SwT p (.slice (some ⟨sb, 0, none⟩) m cap) (anewL (o :: t)) w w' := by
  subst hv
  refine (get_c hp h37 (anewL_len t)).mono ?_
  rintro e w' ⟨hv, R⟩
  rw [anewL_get hg hs hl] at R
  exact ⟨hv, R⟩
set_option maxHeartbeats 2000000 in
theorem sees_3_0 (hp : w.heap[p]? = some (.cells (swA (.slice (some ⟨sb, 0, none⟩) m cap) (anewL t)) 68)) (hq : w.heap[sb]? = some (.cells SB 4)) {r a b od imm : Int} (h0 : 0 ≤ r) (h30 : r ≤ 30) : Calls Tryd.prog 34 #[ptr p 0, vI place, opV ⟨3, r, a, b, od, imm⟩] w (SeesR p sb m cap t ⟨3, r, a, b, od, imm⟩ s w) := by
  have hb := below_alloc w (Obj.cells (opA ⟨3, r, a, b, od, imm⟩) 33)
  have L : LocO w.heap.size ⟨3, r, a, b, od, imm⟩ (w.alloc (Obj.cells (opA ⟨3, r, a, b, od, imm⟩) 33)) := LocO.new w _
  have hp1 := keepC hp hb
  have hq1 := keepC hq hb
  have hsz : w.heap.size < (w.alloc (Obj.cells (opA ⟨3, r, a, b, od, imm⟩) 33)).heap.size := by simp
  have ks := fun (w1 : World) (hp : w1.heap[p]? = some (.cells (swA (.slice (some ⟨sb, 0, none⟩) m cap) (anewL t)) 68)) => sees_sets (s := s) (w := w1) (o := ⟨3, r, a, b, od, imm⟩) (n := r.toNat) hp rfl (by omega) rfl (by unfold lvB; dsimp only; decide +kernel) (v := vI r) (by rw [Int.toNat_of_nonneg h0])
  go_enter Tryd.func34, Tryd.ntmps34
  go_upto_region 1 with fail
  generalize w.alloc _ = w1 at *
  have z0 := L.c0
  have z1 := L.c1
  have ks := ks _ hp1
  go_wp2_with (first | (go_at_call 43; (with_reducible refine ks.mono ?_); clear ks; rintro e w2 ⟨rfl, R⟩; dsimp only))
  go_ret
  exact ⟨rfl, R.from hb⟩
set_option maxHeartbeats 2000000 in
theorem sees_5_0 (hp : w.heap[p]? = some (.cells (swA (.slice (some ⟨sb, 0, none⟩) m cap) (anewL t)) 68)) (hq : w.heap[sb]? = some (.cells SB 4)) {r a b od imm : Int} : Calls Tryd.prog 34 #[ptr p 0, vI place, opV ⟨5, r, a, b, od, imm⟩] w (SeesR p sb m cap t ⟨5, r, a, b, od, imm⟩ s w) := by
  have hb := below_alloc w (Obj.cells (opA ⟨5, r, a, b, od, imm⟩) 33)
  have L : LocO w.heap.size ⟨5, r, a, b, od, imm⟩ (w.alloc (Obj.cells (opA ⟨5, r, a, b, od, imm⟩) 33)) := LocO.new w _
  have hp1 := keepC hp hb
  have hq1 := keepC hq hb
  have hsz : w.heap.size < (w.alloc (Obj.cells (opA ⟨5, r, a, b, od, imm⟩) 33)).heap.size := by simp
  have ks := fun (w1 : World) (hp : w1.heap[p]? = some (.cells (swA (.slice (some ⟨sb, 0, none⟩) m cap) (anewL t)) 68)) => sees_sets (s := s) (w := w1) (o := ⟨5, r, a, b, od, imm⟩) (n := 31) hp rfl (by omega) rfl (by unfold lvB; dsimp only; decide +kernel) (v := vI 31) rfl
  go_enter Tryd.func34, Tryd.ntmps34
  go_upto_region 1 with fail
  generalize w.alloc _ = w1 at *
  have z0 := L.c0
  have z1 := L.c1
  have ks := ks _ hp1
  go_wp2_with (first | (go_at_call 43; (with_reducible refine ks.mono ?_); clear ks; rintro e w2 ⟨rfl, R⟩; dsimp only))
  go_ret
  exact ⟨rfl, R.from hb⟩
set_option maxHeartbeats 2000000 in
theorem sees_7_0 (hp : w.heap[p]? = some (.cells (swA (.slice (some ⟨sb, 0, none⟩) m cap) (anewL t)) 68)) (hq : w.heap[sb]? = some (.cells SB 4)) {r a b od imm : Int} : Calls Tryd.prog 34 #[ptr p 0, vI place, opV ⟨7, (0 : Int), a, b, od, imm⟩] w (SeesR p sb m cap t ⟨7, (0 : Int), a, b, od, imm⟩ s w) := by
  have hb := below_alloc w (Obj.cells (opA ⟨7, (0 : Int), a, b, od, imm⟩) 33)
  have L : LocO w.heap.size ⟨7, (0 : Int), a, b, od, imm⟩ (w.alloc (Obj.cells (opA ⟨7, (0 : Int), a, b, od, imm⟩) 33)) := LocO.new w _
  have hp1 := keepC hp hb
  have hq1 := keepC hq hb
  have hsz : w.heap.size < (w.alloc (Obj.cells (opA ⟨7, (0 : Int), a, b, od, imm⟩) 33)).heap.size := by simp
  have ks := fun (w1 : World) (hp : w1.heap[p]? = some (.cells (swA (.slice (some ⟨sb, 0, none⟩) m cap) (anewL t)) 68)) => sees_sets (s := s) (w := w1) (o := ⟨7, (0 : Int), a, b, od, imm⟩) (n := 32) hp rfl (by omega) rfl (by unfold lvB; dsimp only; decide +kernel) (v := vI 32) rfl
  go_enter Tryd.func34, Tryd.ntmps34
  go_upto_region 1 with fail
  generalize w.alloc _ = w1 at *
  have z0 := L.c0
  have z1 := L.c1
  have ks := ks _ hp1
  go_wp2_with (first | (go_at_call 43; (with_reducible refine ks.mono ?_); clear ks; rintro e w2 ⟨rfl, R⟩; dsimp only))
  go_ret
  exact ⟨rfl, R.from hb⟩
set_option maxHeartbeats 2000000 in
theorem sees_7_1 (hp : w.heap[p]? = some (.cells (swA (.slice (some ⟨sb, 0, none⟩) m cap) (anewL t)) 68)) (hq : w.heap[sb]? = some (.cells SB 4)) {r a b od imm : Int} : Calls Tryd.prog 34 #[ptr p 0, vI place, opV ⟨7, (1 : Int), a, b, od, imm⟩] w (SeesR p sb m cap t ⟨7, (1 : Int), a, b, od, imm⟩ s w) := by
  have hb := below_alloc w (Obj.cells (opA ⟨7, (1 : Int), a, b, od, imm⟩) 33)
  have L : LocO w.heap.size ⟨7, (1 : Int), a, b, od, imm⟩ (w.alloc (Obj.cells (opA ⟨7, (1 : Int), a, b, od, imm⟩) 33)) := LocO.new w _
  have hp1 := keepC hp hb
  have hq1 := keepC hq hb
  have hsz : w.heap.size < (w.alloc (Obj.cells (opA ⟨7, (1 : Int), a, b, od, imm⟩) 33)).heap.size := by simp
  have ks := fun (w1 : World) (hp : w1.heap[p]? = some (.cells (swA (.slice (some ⟨sb, 0, none⟩) m cap) (anewL t)) 68)) => sees_sets (s := s) (w := w1) (o := ⟨7, (1 : Int), a, b, od, imm⟩) (n := 33) hp rfl (by omega) rfl (by unfold lvB; dsimp only; decide +kernel) (v := vI 33) rfl
  go_enter Tryd.func34, Tryd.ntmps34
  go_upto_region 1 with fail
  generalize w.alloc _ = w1 at *
  have z0 := L.c0
  have z1 := L.c1
  have ks := ks _ hp1
  go_wp2_with (first | (go_at_call 43; (with_reducible refine ks.mono ?_); clear ks; rintro e w2 ⟨rfl, R⟩; dsimp only))
  go_ret
  exact ⟨rfl, R.from hb⟩
set_option maxHeartbeats 2000000 in
theorem sees_7_2 (hp : w.heap[p]? = some (.cells (swA (.slice (some ⟨sb, 0, none⟩) m cap) (anewL t)) 68)) (hq : w.heap[sb]? = some (.cells SB 4)) {r a b od imm : Int} : Calls Tryd.prog 34 #[ptr p 0, vI place, opV ⟨7, (2 : Int), a, b, od, imm⟩] w (SeesR p sb m cap t ⟨7, (2 : Int), a, b, od, imm⟩ s w) := by
  have hb := below_alloc w (Obj.cells (opA ⟨7, (2 : Int), a, b, od, imm⟩) 33)
  have L : LocO w.heap.size ⟨7, (2 : Int), a, b, od, imm⟩ (w.alloc (Obj.cells (opA ⟨7, (2 : Int), a, b, od, imm⟩) 33)) := LocO.new w _
  have hp1 := keepC hp hb
  have hq1 := keepC hq hb
  have hsz : w.heap.size < (w.alloc (Obj.cells (opA ⟨7, (2 : Int), a, b, od, imm⟩) 33)).heap.size := by simp
  have ks := fun (w1 : World) (hp : w1.heap[p]? = some (.cells (swA (.slice (some ⟨sb, 0, none⟩) m cap) (anewL t)) 68)) => sees_sets (s := s) (w := w1) (o := ⟨7, (2 : Int), a, b, od, imm⟩) (n := 34) hp rfl (by omega) rfl (by unfold lvB; dsimp only; decide +kernel) (v := vI 34) rfl
  go_enter Tryd.func34, Tryd.ntmps34
  go_upto_region 1 with fail
  generalize w.alloc _ = w1 at *
  have z0 := L.c0
  have z1 := L.c1
  have ks := ks _ hp1
  go_wp2_with (first | (go_at_call 43; (with_reducible refine ks.mono ?_); clear ks; rintro e w2 ⟨rfl, R⟩; dsimp only))
  go_ret
  exact ⟨rfl, R.from hb⟩
set_option maxHeartbeats 2000000 in
theorem sees_7_3 (hp : w.heap[p]? = some (.cells (swA (.slice (some ⟨sb, 0, none⟩) m cap) (anewL t)) 68)) (hq : w.heap[sb]? = some (.cells SB 4)) {r a b od imm : Int} : Calls Tryd.prog 34 #[ptr p 0, vI place, opV ⟨7, (3 : Int), a, b, od, imm⟩] w (SeesR p sb m cap t ⟨7, (3 : Int), a, b, od, imm⟩ s w) := by
  have hb := below_alloc w (Obj.cells (opA ⟨7, (3 : Int), a, b, od, imm⟩) 33)
  have L : LocO w.heap.size ⟨7, (3 : Int), a, b, od, imm⟩ (w.alloc (Obj.cells (opA ⟨7, (3 : Int), a, b, od, imm⟩) 33)) := LocO.new w _
  have hp1 := keepC hp hb
  have hq1 := keepC hq hb
  have hsz : w.heap.size < (w.alloc (Obj.cells (opA ⟨7, (3 : Int), a, b, od, imm⟩) 33)).heap.size := by simp
  have ks := fun (w1 : World) (hp : w1.heap[p]? = some (.cells (swA (.slice (some ⟨sb, 0, none⟩) m cap) (anewL t)) 68)) => sees_sets (s := s) (w := w1) (o := ⟨7, (3 : Int), a, b, od, imm⟩) (n := 35) hp rfl (by omega) rfl (by unfold lvB; dsimp only; decide +kernel) (v := vI 35) rfl
  go_enter Tryd.func34, Tryd.ntmps34
  go_upto_region 1 with fail
  generalize w.alloc _ = w1 at *
  have z0 := L.c0
  have z1 := L.c1
  have ks := ks _ hp1
  go_wp2_with (first | (go_at_call 43; (with_reducible refine ks.mono ?_); clear ks; rintro e w2 ⟨rfl, R⟩; dsimp only))
  go_ret
  exact ⟨rfl, R.from hb⟩
set_option maxHeartbeats 2000000 in
theorem sees_14_0 (hp : w.heap[p]? = some (.cells (swA (.slice (some ⟨sb, 0, none⟩) m cap) (anewL t)) 68)) (hq : w.heap[sb]? = some (.cells SB 4)) {r a b od imm : Int} : Calls Tryd.prog 34 #[ptr p 0, vI place, opV ⟨14, r, a, b, od, imm⟩] w (SeesR p sb m cap t ⟨14, r, a, b, od, imm⟩ s w) := by
  have hb := below_alloc w (Obj.cells (opA ⟨14, r, a, b, od, imm⟩) 33)
  have L : LocO w.heap.size ⟨14, r, a, b, od, imm⟩ (w.alloc (Obj.cells (opA ⟨14, r, a, b, od, imm⟩) 33)) := LocO.new w _
  have hp1 := keepC hp hb
  have hq1 := keepC hq hb
  have hsz : w.heap.size < (w.alloc (Obj.cells (opA ⟨14, r, a, b, od, imm⟩) 33)).heap.size := by simp
  have ks := fun (w1 : World) (hp : w1.heap[p]? = some (.cells (swA (.slice (some ⟨sb, 0, none⟩) m cap) (anewL t)) 68)) => sees_sets (s := s) (w := w1) (o := ⟨14, r, a, b, od, imm⟩) (n := 36) hp rfl (by omega) rfl (by unfold lvB; dsimp only; decide +kernel) (v := vI 36) rfl
  go_enter Tryd.func34, Tryd.ntmps34
  go_upto_region 1 with fail
  generalize w.alloc _ = w1 at *
  have z0 := L.c0
  have z1 := L.c1
  have ks := ks _ hp1
  go_wp2_with (first | (go_at_call 43; (with_reducible refine ks.mono ?_); clear ks; rintro e w2 ⟨rfl, R⟩; dsimp only))
  go_ret
  exact ⟨rfl, R.from hb⟩
set_option maxHeartbeats 2000000 in
theorem sees_2_0 (hp : w.heap[p]? = some (.cells (swA (.slice (some ⟨sb, 0, none⟩) m cap) (anewL t)) 68)) (hq : w.heap[sb]? = some (.cells SB 4)) (hpl : place < m) (hs : SB[place]? = some (.bool s)) {r a b od imm : Int} (h0 : 0 ≤ r) (h30 : r ≤ 30) : Calls Tryd.prog 34 #[ptr p 0, vI place, opV ⟨2, r, a, b, od, imm⟩] w (SeesR p sb m cap t ⟨2, r, a, b, od, imm⟩ s w) := by
  have hb := below_alloc w (Obj.cells (opA ⟨2, r, a, b, od, imm⟩) 33)
  have L : LocO w.heap.size ⟨2, r, a, b, od, imm⟩ (w.alloc (Obj.cells (opA ⟨2, r, a, b, od, imm⟩) 33)) := LocO.new w _
  have hp1 := keepC hp hb
  have hq1 := keepC hq hb
  have hsz : w.heap.size < (w.alloc (Obj.cells (opA ⟨2, r, a, b, od, imm⟩) 33)).heap.size := by simp
  have ks := fun (w1 : World) (hp : w1.heap[p]? = some (.cells (swA (.slice (some ⟨sb, 0, none⟩) m cap) (anewL t)) 68)) => sees_gets (w := w1) (o := ⟨2, r, a, b, od, imm⟩) (n := r.toNat) hp rfl (by omega) rfl (by unfold lvB; dsimp only; decide +kernel) (v := vI r) (by rw [Int.toNat_of_nonneg h0])
  have kl := leaves_c ⟨2, r, a, b, od, imm⟩
  go_enter Tryd.func34, Tryd.ntmps34
  go_upto_region 1 with fail
  generalize w.alloc _ = w1 at *
  have z0 := L.c0
  have z1 := L.c1
  have ks := ks _ hp1
  go_upto_region 18 with (first | (go_at_call 44; (with_reducible refine ks.mono ?_); clear ks; rintro e w2 ⟨⟨v, rfl⟩, R⟩; dsimp only))
  have hq2 : w2.heap[sb]? = some (.cells SB 4) := by rw [R.2.block sb (lt_of_some hq1) (fun e => ne_of_type hq1 hp1 (by decide) e)]; exact hq1
  have L2 : LocO w.heap.size ⟨2, r, a, b, od, imm⟩ w2 := by unfold LocO; rw [R.2.block _ hsz (fun e => by subst e; exact absurd (lt_of_some hp) (by omega))]; exact L
  have e64 : hasP 2 64 = false := by decide +kernel
  go_upto_region 21 with (first | ((with_reducible refine wpList_load42 rfl _ rfl _ rfl _ (L2.at_) ?_); try simp only [Act.put]) | (go_at_call 17; (with_reducible refine (kl _).mono ?_); rintro e w3 ⟨rfl, B⟩; dsimp only; try rw [e64]))
  have R3 := (R.from hb).grow B
  have hq3 := keepC hq2 B
  have za : w3.cell? ⟨p, 0, none⟩ = some (.slice (some ⟨sb, 0, none⟩) m cap) := by rw [cell_of_row _ _ _ _ _ _ R3.1]; rfl
  have zb : w3.cell? ⟨sb, place, none⟩ = some (.bool s) := by rw [cell_of_row _ _ _ _ _ _ hq3]; exact hs
  have hlt : (place : Int) < m := by omega
  go_wp2
  go_ret
  exact ⟨by rw [seesB_val rfl (by unfold lvB; dsimp only; decide +kernel) (by dsimp only; decide)]; rfl, R3⟩
set_option maxHeartbeats 2000000 in
theorem sees_4_0 (hp : w.heap[p]? = some (.cells (swA (.slice (some ⟨sb, 0, none⟩) m cap) (anewL t)) 68)) (hq : w.heap[sb]? = some (.cells SB 4)) (hpl : place < m) (hs : SB[place]? = some (.bool s)) {r a b od imm : Int} : Calls Tryd.prog 34 #[ptr p 0, vI place, opV ⟨4, r, a, b, od, imm⟩] w (SeesR p sb m cap t ⟨4, r, a, b, od, imm⟩ s w) := by
  have hb := below_alloc w (Obj.cells (opA ⟨4, r, a, b, od, imm⟩) 33)
  have L : LocO w.heap.size ⟨4, r, a, b, od, imm⟩ (w.alloc (Obj.cells (opA ⟨4, r, a, b, od, imm⟩) 33)) := LocO.new w _
  have hp1 := keepC hp hb
  have hq1 := keepC hq hb
  have hsz : w.heap.size < (w.alloc (Obj.cells (opA ⟨4, r, a, b, od, imm⟩) 33)).heap.size := by simp
  have ks := fun (w1 : World) (hp : w1.heap[p]? = some (.cells (swA (.slice (some ⟨sb, 0, none⟩) m cap) (anewL t)) 68)) => sees_gets (w := w1) (o := ⟨4, r, a, b, od, imm⟩) (n := 31) hp rfl (by omega) rfl (by unfold lvB; dsimp only; decide +kernel) (v := vI 31) rfl
  have kl := leaves_c ⟨4, r, a, b, od, imm⟩
  go_enter Tryd.func34, Tryd.ntmps34
  go_upto_region 1 with fail
  generalize w.alloc _ = w1 at *
  have z0 := L.c0
  have z1 := L.c1
  have ks := ks _ hp1
  go_upto_region 18 with (first | (go_at_call 44; (with_reducible refine ks.mono ?_); clear ks; rintro e w2 ⟨⟨v, rfl⟩, R⟩; dsimp only))
  have hq2 : w2.heap[sb]? = some (.cells SB 4) := by rw [R.2.block sb (lt_of_some hq1) (fun e => ne_of_type hq1 hp1 (by decide) e)]; exact hq1
  have L2 : LocO w.heap.size ⟨4, r, a, b, od, imm⟩ w2 := by unfold LocO; rw [R.2.block _ hsz (fun e => by subst e; exact absurd (lt_of_some hp) (by omega))]; exact L
  have e64 : hasP 4 64 = false := by decide +kernel
  go_upto_region 21 with (first | ((with_reducible refine wpList_load42 rfl _ rfl _ rfl _ (L2.at_) ?_); try simp only [Act.put]) | (go_at_call 17; (with_reducible refine (kl _).mono ?_); rintro e w3 ⟨rfl, B⟩; dsimp only; try rw [e64]))
  have R3 := (R.from hb).grow B
  have hq3 := keepC hq2 B
  have za : w3.cell? ⟨p, 0, none⟩ = some (.slice (some ⟨sb, 0, none⟩) m cap) := by rw [cell_of_row _ _ _ _ _ _ R3.1]; rfl
  have zb : w3.cell? ⟨sb, place, none⟩ = some (.bool s) := by rw [cell_of_row _ _ _ _ _ _ hq3]; exact hs
  have hlt : (place : Int) < m := by omega
  go_wp2
  go_ret
  exact ⟨by rw [seesB_val rfl (by unfold lvB; dsimp only; decide +kernel) (by dsimp only; decide)]; rfl, R3⟩
set_option maxHeartbeats 2000000 in
theorem sees_6_0 (hp : w.heap[p]? = some (.cells (swA (.slice (some ⟨sb, 0, none⟩) m cap) (anewL t)) 68)) (hq : w.heap[sb]? = some (.cells SB 4)) (hpl : place < m) (hs : SB[place]? = some (.bool s)) {r a b od imm : Int} : Calls Tryd.prog 34 #[ptr p 0, vI place, opV ⟨6, (0 : Int), a, b, od, imm⟩] w (SeesR p sb m cap t ⟨6, (0 : Int), a, b, od, imm⟩ s w) := by
  have hb := below_alloc w (Obj.cells (opA ⟨6, (0 : Int), a, b, od, imm⟩) 33)
  have L : LocO w.heap.size ⟨6, (0 : Int), a, b, od, imm⟩ (w.alloc (Obj.cells (opA ⟨6, (0 : Int), a, b, od, imm⟩) 33)) := LocO.new w _
  have hp1 := keepC hp hb
  have hq1 := keepC hq hb
  have hsz : w.heap.size < (w.alloc (Obj.cells (opA ⟨6, (0 : Int), a, b, od, imm⟩) 33)).heap.size := by simp
  have ks := fun (w1 : World) (hp : w1.heap[p]? = some (.cells (swA (.slice (some ⟨sb, 0, none⟩) m cap) (anewL t)) 68)) => sees_gets (w := w1) (o := ⟨6, (0 : Int), a, b, od, imm⟩) (n := 32) hp rfl (by omega) rfl (by unfold lvB; dsimp only; decide +kernel) (v := vI 32) rfl
  have kl := leaves_c ⟨6, (0 : Int), a, b, od, imm⟩
  go_enter Tryd.func34, Tryd.ntmps34
  go_upto_region 1 with fail
  generalize w.alloc _ = w1 at *
  have z0 := L.c0
  have z1 := L.c1
  have ks := ks _ hp1
  go_upto_region 18 with (first | (go_at_call 44; (with_reducible refine ks.mono ?_); clear ks; rintro e w2 ⟨⟨v, rfl⟩, R⟩; dsimp only))
  have hq2 : w2.heap[sb]? = some (.cells SB 4) := by rw [R.2.block sb (lt_of_some hq1) (fun e => ne_of_type hq1 hp1 (by decide) e)]; exact hq1
  have L2 : LocO w.heap.size ⟨6, (0 : Int), a, b, od, imm⟩ w2 := by unfold LocO; rw [R.2.block _ hsz (fun e => by subst e; exact absurd (lt_of_some hp) (by omega))]; exact L
  have e64 : hasP 6 64 = false := by decide +kernel
  go_upto_region 21 with (first | ((with_reducible refine wpList_load42 rfl _ rfl _ rfl _ (L2.at_) ?_); try simp only [Act.put]) | (go_at_call 17; (with_reducible refine (kl _).mono ?_); rintro e w3 ⟨rfl, B⟩; dsimp only; try rw [e64]))
  have R3 := (R.from hb).grow B
  have hq3 := keepC hq2 B
  have za : w3.cell? ⟨p, 0, none⟩ = some (.slice (some ⟨sb, 0, none⟩) m cap) := by rw [cell_of_row _ _ _ _ _ _ R3.1]; rfl
  have zb : w3.cell? ⟨sb, place, none⟩ = some (.bool s) := by rw [cell_of_row _ _ _ _ _ _ hq3]; exact hs
  have hlt : (place : Int) < m := by omega
  go_wp2
  go_ret
  exact ⟨by rw [seesB_val rfl (by unfold lvB; dsimp only; decide +kernel) (by dsimp only; decide)]; rfl, R3⟩
set_option maxHeartbeats 2000000 in
theorem sees_6_1 (hp : w.heap[p]? = some (.cells (swA (.slice (some ⟨sb, 0, none⟩) m cap) (anewL t)) 68)) (hq : w.heap[sb]? = some (.cells SB 4)) (hpl : place < m) (hs : SB[place]? = some (.bool s)) {r a b od imm : Int} : Calls Tryd.prog 34 #[ptr p 0, vI place, opV ⟨6, (1 : Int), a, b, od, imm⟩] w (SeesR p sb m cap t ⟨6, (1 : Int), a, b, od, imm⟩ s w) := by
  have hb := below_alloc w (Obj.cells (opA ⟨6, (1 : Int), a, b, od, imm⟩) 33)
  have L : LocO w.heap.size ⟨6, (1 : Int), a, b, od, imm⟩ (w.alloc (Obj.cells (opA ⟨6, (1 : Int), a, b, od, imm⟩) 33)) := LocO.new w _
  have hp1 := keepC hp hb
  have hq1 := keepC hq hb
  have hsz : w.heap.size < (w.alloc (Obj.cells (opA ⟨6, (1 : Int), a, b, od, imm⟩) 33)).heap.size := by simp
  have ks := fun (w1 : World) (hp : w1.heap[p]? = some (.cells (swA (.slice (some ⟨sb, 0, none⟩) m cap) (anewL t)) 68)) => sees_gets (w := w1) (o := ⟨6, (1 : Int), a, b, od, imm⟩) (n := 33) hp rfl (by omega) rfl (by unfold lvB; dsimp only; decide +kernel) (v := vI 33) rfl
  have kl := leaves_c ⟨6, (1 : Int), a, b, od, imm⟩
  go_enter Tryd.func34, Tryd.ntmps34
  go_upto_region 1 with fail
  generalize w.alloc _ = w1 at *
  have z0 := L.c0
  have z1 := L.c1
  have ks := ks _ hp1
  go_upto_region 18 with (first | (go_at_call 44; (with_reducible refine ks.mono ?_); clear ks; rintro e w2 ⟨⟨v, rfl⟩, R⟩; dsimp only))
  have hq2 : w2.heap[sb]? = some (.cells SB 4) := by rw [R.2.block sb (lt_of_some hq1) (fun e => ne_of_type hq1 hp1 (by decide) e)]; exact hq1
  have L2 : LocO w.heap.size ⟨6, (1 : Int), a, b, od, imm⟩ w2 := by unfold LocO; rw [R.2.block _ hsz (fun e => by subst e; exact absurd (lt_of_some hp) (by omega))]; exact L
  have e64 : hasP 6 64 = false := by decide +kernel
  go_upto_region 21 with (first | ((with_reducible refine wpList_load42 rfl _ rfl _ rfl _ (L2.at_) ?_); try simp only [Act.put]) | (go_at_call 17; (with_reducible refine (kl _).mono ?_); rintro e w3 ⟨rfl, B⟩; dsimp only; try rw [e64]))
  have R3 := (R.from hb).grow B
  have hq3 := keepC hq2 B
  have za : w3.cell? ⟨p, 0, none⟩ = some (.slice (some ⟨sb, 0, none⟩) m cap) := by rw [cell_of_row _ _ _ _ _ _ R3.1]; rfl
  have zb : w3.cell? ⟨sb, place, none⟩ = some (.bool s) := by rw [cell_of_row _ _ _ _ _ _ hq3]; exact hs
  have hlt : (place : Int) < m := by omega
  go_wp2
  go_ret
  exact ⟨by rw [seesB_val rfl (by unfold lvB; dsimp only; decide +kernel) (by dsimp only; decide)]; rfl, R3⟩
set_option maxHeartbeats 2000000 in
theorem sees_6_2 (hp : w.heap[p]? = some (.cells (swA (.slice (some ⟨sb, 0, none⟩) m cap) (anewL t)) 68)) (hq : w.heap[sb]? = some (.cells SB 4)) (hpl : place < m) (hs : SB[place]? = some (.bool s)) {r a b od imm : Int} : Calls Tryd.prog 34 #[ptr p 0, vI place, opV ⟨6, (2 : Int), a, b, od, imm⟩] w (SeesR p sb m cap t ⟨6, (2 : Int), a, b, od, imm⟩ s w) := by
  have hb := below_alloc w (Obj.cells (opA ⟨6, (2 : Int), a, b, od, imm⟩) 33)
  have L : LocO w.heap.size ⟨6, (2 : Int), a, b, od, imm⟩ (w.alloc (Obj.cells (opA ⟨6, (2 : Int), a, b, od, imm⟩) 33)) := LocO.new w _
  have hp1 := keepC hp hb
  have hq1 := keepC hq hb
  have hsz : w.heap.size < (w.alloc (Obj.cells (opA ⟨6, (2 : Int), a, b, od, imm⟩) 33)).heap.size := by simp
  have ks := fun (w1 : World) (hp : w1.heap[p]? = some (.cells (swA (.slice (some ⟨sb, 0, none⟩) m cap) (anewL t)) 68)) => sees_gets (w := w1) (o := ⟨6, (2 : Int), a, b, od, imm⟩) (n := 34) hp rfl (by omega) rfl (by unfold lvB; dsimp only; decide +kernel) (v := vI 34) rfl
  have kl := leaves_c ⟨6, (2 : Int), a, b, od, imm⟩
  go_enter Tryd.func34, Tryd.ntmps34
  go_upto_region 1 with fail
  generalize w.alloc _ = w1 at *
  have z0 := L.c0
  have z1 := L.c1
  have ks := ks _ hp1
  go_upto_region 18 with (first | (go_at_call 44; (with_reducible refine ks.mono ?_); clear ks; rintro e w2 ⟨⟨v, rfl⟩, R⟩; dsimp only))
  have hq2 : w2.heap[sb]? = some (.cells SB 4) := by rw [R.2.block sb (lt_of_some hq1) (fun e => ne_of_type hq1 hp1 (by decide) e)]; exact hq1
  have L2 : LocO w.heap.size ⟨6, (2 : Int), a, b, od, imm⟩ w2 := by unfold LocO; rw [R.2.block _ hsz (fun e => by subst e; exact absurd (lt_of_some hp) (by omega))]; exact L
  have e64 : hasP 6 64 = false := by decide +kernel
  go_upto_region 21 with (first | ((with_reducible refine wpList_load42 rfl _ rfl _ rfl _ (L2.at_) ?_); try simp only [Act.put]) | (go_at_call 17; (with_reducible refine (kl _).mono ?_); rintro e w3 ⟨rfl, B⟩; dsimp only; try rw [e64]))
  have R3 := (R.from hb).grow B
  have hq3 := keepC hq2 B
  have za : w3.cell? ⟨p, 0, none⟩ = some (.slice (some ⟨sb, 0, none⟩) m cap) := by rw [cell_of_row _ _ _ _ _ _ R3.1]; rfl
  have zb : w3.cell? ⟨sb, place, none⟩ = some (.bool s) := by rw [cell_of_row _ _ _ _ _ _ hq3]; exact hs
  have hlt : (place : Int) < m := by omega
  go_wp2
  go_ret
  exact ⟨by rw [seesB_val rfl (by unfold lvB; dsimp only; decide +kernel) (by dsimp only; decide)]; rfl, R3⟩
set_option maxHeartbeats 2000000 in
theorem sees_6_3 (hp : w.heap[p]? = some (.cells (swA (.slice (some ⟨sb, 0, none⟩) m cap) (anewL t)) 68)) (hq : w.heap[sb]? = some (.cells SB 4)) (hpl : place < m) (hs : SB[place]? = some (.bool s)) {r a b od imm : Int} : Calls Tryd.prog 34 #[ptr p 0, vI place, opV ⟨6, (3 : Int), a, b, od, imm⟩] w (SeesR p sb m cap t ⟨6, (3 : Int), a, b, od, imm⟩ s w) := by
  have hb := below_alloc w (Obj.cells (opA ⟨6, (3 : Int), a, b, od, imm⟩) 33)
  have L : LocO w.heap.size ⟨6, (3 : Int), a, b, od, imm⟩ (w.alloc (Obj.cells (opA ⟨6, (3 : Int), a, b, od, imm⟩) 33)) := LocO.new w _
  have hp1 := keepC hp hb
  have hq1 := keepC hq hb
  have hsz : w.heap.size < (w.alloc (Obj.cells (opA ⟨6, (3 : Int), a, b, od, imm⟩) 33)).heap.size := by simp
  have ks := fun (w1 : World) (hp : w1.heap[p]? = some (.cells (swA (.slice (some ⟨sb, 0, none⟩) m cap) (anewL t)) 68)) => sees_gets (w := w1) (o := ⟨6, (3 : Int), a, b, od, imm⟩) (n := 35) hp rfl (by omega) rfl (by unfold lvB; dsimp only; decide +kernel) (v := vI 35) rfl
  have kl := leaves_c ⟨6, (3 : Int), a, b, od, imm⟩
  go_enter Tryd.func34, Tryd.ntmps34
  go_upto_region 1 with fail
  generalize w.alloc _ = w1 at *
  have z0 := L.c0
  have z1 := L.c1
  have ks := ks _ hp1
  go_upto_region 18 with (first | (go_at_call 44; (with_reducible refine ks.mono ?_); clear ks; rintro e w2 ⟨⟨v, rfl⟩, R⟩; dsimp only))
  have hq2 : w2.heap[sb]? = some (.cells SB 4) := by rw [R.2.block sb (lt_of_some hq1) (fun e => ne_of_type hq1 hp1 (by decide) e)]; exact hq1
  have L2 : LocO w.heap.size ⟨6, (3 : Int), a, b, od, imm⟩ w2 := by unfold LocO; rw [R.2.block _ hsz (fun e => by subst e; exact absurd (lt_of_some hp) (by omega))]; exact L
  have e64 : hasP 6 64 = false := by decide +kernel
  go_upto_region 21 with (first | ((with_reducible refine wpList_load42 rfl _ rfl _ rfl _ (L2.at_) ?_); try simp only [Act.put]) | (go_at_call 17; (with_reducible refine (kl _).mono ?_); rintro e w3 ⟨rfl, B⟩; dsimp only; try rw [e64]))
  have R3 := (R.from hb).grow B
  have hq3 := keepC hq2 B
  have za : w3.cell? ⟨p, 0, none⟩ = some (.slice (some ⟨sb, 0, none⟩) m cap) := by rw [cell_of_row _ _ _ _ _ _ R3.1]; rfl
  have zb : w3.cell? ⟨sb, place, none⟩ = some (.bool s) := by rw [cell_of_row _ _ _ _ _ _ hq3]; exact hs
  have hlt : (place : Int) < m := by omega
  go_wp2
  go_ret
  exact ⟨by rw [seesB_val rfl (by unfold lvB; dsimp only; decide +kernel) (by dsimp only; decide)]; rfl, R3⟩
set_option maxHeartbeats 2000000 in
theorem sees_1_0 (hp : w.heap[p]? = some (.cells (swA (.slice (some ⟨sb, 0, none⟩) m cap) (anewL t)) 68)) (hq : w.heap[sb]? = some (.cells SB 4)) (hpl : place < m) (hs : SB[place]? = some (.bool s)) {r a b od imm : Int} : Calls Tryd.prog 34 #[ptr p 0, vI place, opV ⟨1, r, a, b, od, imm⟩] w (SeesR p sb m cap t ⟨1, r, a, b, od, imm⟩ s w) := by
  have hb := below_alloc w (Obj.cells (opA ⟨1, r, a, b, od, imm⟩) 33)
  have L : LocO w.heap.size ⟨1, r, a, b, od, imm⟩ (w.alloc (Obj.cells (opA ⟨1, r, a, b, od, imm⟩) 33)) := LocO.new w _
  have hp1 := keepC hp hb
  have hq1 := keepC hq hb
  have hsz : w.heap.size < (w.alloc (Obj.cells (opA ⟨1, r, a, b, od, imm⟩) 33)).heap.size := by simp
  have kl := leaves_c ⟨1, r, a, b, od, imm⟩
  go_enter Tryd.func34, Tryd.ntmps34
  go_upto_region 1 with fail
  generalize w.alloc _ = w1 at *
  have z0 := L.c0
  have z1 := L.c1
  have e64 : hasP 1 64 = false := by decide +kernel
  go_upto_region 21 with (first | ((with_reducible refine wpList_load42 rfl _ rfl _ rfl _ (L.at_) ?_); try simp only [Act.put]) | (go_at_call 17; (with_reducible refine (kl _).mono ?_); rintro e w3 ⟨rfl, B⟩; dsimp only; try rw [e64]))
  have R3 : SwT p (.slice (some ⟨sb, 0, none⟩) m cap) (anewL (⟨1, r, a, b, od, imm⟩ :: t)) w w3 := by
    rw [← anewL_none (t := t) rfl rfl (by unfold lvB; dsimp only; decide +kernel)]
    exact ⟨keepC hp1 B, (goes_of_below hb).grow B⟩
  have hq3 := keepC hq1 B
  have za : w3.cell? ⟨p, 0, none⟩ = some (.slice (some ⟨sb, 0, none⟩) m cap) := by rw [cell_of_row _ _ _ _ _ _ R3.1]; rfl
  have zb : w3.cell? ⟨sb, place, none⟩ = some (.bool s) := by rw [cell_of_row _ _ _ _ _ _ hq3]; exact hs
  have hlt : (place : Int) < m := by omega
  go_wp2
  go_ret
  exact ⟨by rw [seesB_val rfl (by unfold lvB; dsimp only; decide +kernel) (by dsimp only; decide)]; rfl, R3⟩
set_option maxHeartbeats 2000000 in
theorem sees_8_0 (hp : w.heap[p]? = some (.cells (swA (.slice (some ⟨sb, 0, none⟩) m cap) (anewL t)) 68)) (hq : w.heap[sb]? = some (.cells SB 4)) (hpl : place < m) (hs : SB[place]? = some (.bool s)) {r a b od imm : Int} : Calls Tryd.prog 34 #[ptr p 0, vI place, opV ⟨8, r, a, b, od, imm⟩] w (SeesR p sb m cap t ⟨8, r, a, b, od, imm⟩ s w) := by
  have hb := below_alloc w (Obj.cells (opA ⟨8, r, a, b, od, imm⟩) 33)
  have L : LocO w.heap.size ⟨8, r, a, b, od, imm⟩ (w.alloc (Obj.cells (opA ⟨8, r, a, b, od, imm⟩) 33)) := LocO.new w _
  have hp1 := keepC hp hb
  have hq1 := keepC hq hb
  have hsz : w.heap.size < (w.alloc (Obj.cells (opA ⟨8, r, a, b, od, imm⟩) 33)).heap.size := by simp
  have kl := leaves_c ⟨8, r, a, b, od, imm⟩
  go_enter Tryd.func34, Tryd.ntmps34
  go_upto_region 1 with fail
  generalize w.alloc _ = w1 at *
  have z0 := L.c0
  have z1 := L.c1
  have e64 : hasP 8 64 = false := by decide +kernel
  go_upto_region 21 with (first | ((with_reducible refine wpList_load42 rfl _ rfl _ rfl _ (L.at_) ?_); try simp only [Act.put]) | (go_at_call 17; (with_reducible refine (kl _).mono ?_); rintro e w3 ⟨rfl, B⟩; dsimp only; try rw [e64]))
  have R3 : SwT p (.slice (some ⟨sb, 0, none⟩) m cap) (anewL (⟨8, r, a, b, od, imm⟩ :: t)) w w3 := by
    rw [← anewL_none (t := t) rfl rfl (by unfold lvB; dsimp only; decide +kernel)]
    exact ⟨keepC hp1 B, (goes_of_below hb).grow B⟩
  have hq3 := keepC hq1 B
  have za : w3.cell? ⟨p, 0, none⟩ = some (.slice (some ⟨sb, 0, none⟩) m cap) := by rw [cell_of_row _ _ _ _ _ _ R3.1]; rfl
  have zb : w3.cell? ⟨sb, place, none⟩ = some (.bool s) := by rw [cell_of_row _ _ _ _ _ _ hq3]; exact hs
  have hlt : (place : Int) < m := by omega
  go_wp2
  go_ret
  exact ⟨by rw [seesB_val rfl (by unfold lvB; dsimp only; decide +kernel) (by dsimp only; decide)]; rfl, R3⟩
set_option maxHeartbeats 2000000 in
theorem sees_13_0 (hp : w.heap[p]? = some (.cells (swA (.slice (some ⟨sb, 0, none⟩) m cap) (anewL t)) 68)) (hq : w.heap[sb]? = some (.cells SB 4)) {r a b od imm : Int} : Calls Tryd.prog 34 #[ptr p 0, vI place, opV ⟨13, r, a, b, od, imm⟩] w (SeesR p sb m cap t ⟨13, r, a, b, od, imm⟩ s w) := by
  have hb := below_alloc w (Obj.cells (opA ⟨13, r, a, b, od, imm⟩) 33)
  have L : LocO w.heap.size ⟨13, r, a, b, od, imm⟩ (w.alloc (Obj.cells (opA ⟨13, r, a, b, od, imm⟩) 33)) := LocO.new w _
  have hp1 := keepC hp hb
  have hq1 := keepC hq hb
  have hsz : w.heap.size < (w.alloc (Obj.cells (opA ⟨13, r, a, b, od, imm⟩) 33)).heap.size := by simp
  go_enter Tryd.func34, Tryd.ntmps34
  go_upto_region 1 with fail
  generalize w.alloc _ = w1 at *
  have z0 := L.c0
  have z1 := L.c1
  go_wp2
  go_ret
  refine ⟨rfl, ?_⟩
  rw [← anewL_none (t := t) rfl rfl (by unfold lvB; dsimp only; decide +kernel)]
  exact ⟨hp1, goes_of_below hb⟩
theorem sw_clear (sv : Value) (S : List Bool) (h : S.length = 37) : ((swA sv S).toList.take 1 ++ List.replicate 37 (Value.bool false) ++ (swA sv S).toList.drop (1 + 37)).toArray = swA sv (List.replicate 37 false) := by
  unfold swA
  simp [h]
set_option maxHeartbeats 2000000 in
theorem sees_9_0 (hp : w.heap[p]? = some (.cells (swA (.slice (some ⟨sb, 0, none⟩) m cap) (anewL t)) 68)) (hq : w.heap[sb]? = some (.cells SB 4)) {r a b od imm : Int} : Calls Tryd.prog 34 #[ptr p 0, vI place, opV ⟨9, r, a, b, od, imm⟩] w (SeesR p sb m cap t ⟨9, r, a, b, od, imm⟩ s w) := by
  have hb := below_alloc w (Obj.cells (opA ⟨9, r, a, b, od, imm⟩) 33)
  have L : LocO w.heap.size ⟨9, r, a, b, od, imm⟩ (w.alloc (Obj.cells (opA ⟨9, r, a, b, od, imm⟩) 33)) := LocO.new w _
  have hp1 := keepC hp hb
  have hq1 := keepC hq hb
  have hsz : w.heap.size < (w.alloc (Obj.cells (opA ⟨9, r, a, b, od, imm⟩) 33)).heap.size := by simp
  have kl := leaves_c ⟨9, r, a, b, od, imm⟩
  go_enter Tryd.func34, Tryd.ntmps34
  go_upto_region 1 with fail
  generalize w.alloc _ = w1 at *
  have z0 := L.c0
  have z1 := L.c1
  have e64 : hasP 9 64 = true := by decide +kernel
  go_upto_region 19 with (first | ((with_reducible refine wpList_load42 rfl _ rfl _ rfl _ (L.at_) ?_); try simp only [Act.put]) | (go_at_call 17; (with_reducible refine (kl _).mono ?_); rintro e w3 ⟨rfl, B⟩; dsimp only; try rw [e64]))
  have hp3 := keepC hp1 B
  have hcl : ∀ ty, (Builtin.clear_ #[34] ty #[.slice (some ⟨p, 1, none⟩) 37 37]).run Tryd.prog w3 = .ok (.tuple #[]) (w3.setRow p (swA (.slice (some ⟨sb, 0, none⟩) m cap) (List.replicate 37 false))) := fun ty => by
    have := run_clear_row w3 34 4 ty (.bool false) Tryd.underlying34 zeroB rfl rfl p 1 37 37 68 _ hp3 (by decide) (by simp [swA, anewL_len])
    rwa [sw_clear _ _ (anewL_len t)] at this
  have hpr := setRow_heap w3 p _ (swA (.slice (some ⟨sb, 0, none⟩) m cap) (List.replicate 37 false)) _ _ hp3
  have hgo := goes_setRow (F := fun k => k = p) w3 rfl (swA (.slice (some ⟨sb, 0, none⟩) m cap) (List.replicate 37 false))
  generalize w3.setRow p (swA (.slice (some ⟨sb, 0, none⟩) m cap) (List.replicate 37 false)) = w4 at *
  go_wp2_with (simp only [hcl])
  go_ret
  refine ⟨by rw [seesB_lv rfl (by unfold lvB; dsimp only; decide +kernel)]; rfl, ?_⟩
  rw [← anewL_lv (t := t) (o := ⟨9, r, a, b, od, imm⟩) (by show hasP 9 64 = true; decide +kernel)]
  exact ⟨hpr, ((goes_of_below hb).grow B).trans hgo (fun _ _ q => q)⟩
set_option maxHeartbeats 2000000 in
theorem sees_10_0 (hp : w.heap[p]? = some (.cells (swA (.slice (some ⟨sb, 0, none⟩) m cap) (anewL t)) 68)) (hq : w.heap[sb]? = some (.cells SB 4)) {r a b od imm : Int} : Calls Tryd.prog 34 #[ptr p 0, vI place, opV ⟨10, r, a, b, od, imm⟩] w (SeesR p sb m cap t ⟨10, r, a, b, od, imm⟩ s w) := by
  have hb := below_alloc w (Obj.cells (opA ⟨10, r, a, b, od, imm⟩) 33)
  have L : LocO w.heap.size ⟨10, r, a, b, od, imm⟩ (w.alloc (Obj.cells (opA ⟨10, r, a, b, od, imm⟩) 33)) := LocO.new w _
  have hp1 := keepC hp hb
  have hq1 := keepC hq hb
  have hsz : w.heap.size < (w.alloc (Obj.cells (opA ⟨10, r, a, b, od, imm⟩) 33)).heap.size := by simp
  have kl := leaves_c ⟨10, r, a, b, od, imm⟩
  go_enter Tryd.func34, Tryd.ntmps34
  go_upto_region 1 with fail
  generalize w.alloc _ = w1 at *
  have z0 := L.c0
  have z1 := L.c1
  have e64 : hasP 10 64 = true := by decide +kernel
  go_upto_region 19 with (first | ((with_reducible refine wpList_load42 rfl _ rfl _ rfl _ (L.at_) ?_); try simp only [Act.put]) | (go_at_call 17; (with_reducible refine (kl _).mono ?_); rintro e w3 ⟨rfl, B⟩; dsimp only; try rw [e64]))
  have hp3 := keepC hp1 B
  have hcl : ∀ ty, (Builtin.clear_ #[34] ty #[.slice (some ⟨p, 1, none⟩) 37 37]).run Tryd.prog w3 = .ok (.tuple #[]) (w3.setRow p (swA (.slice (some ⟨sb, 0, none⟩) m cap) (List.replicate 37 false))) := fun ty => by
    have := run_clear_row w3 34 4 ty (.bool false) Tryd.underlying34 zeroB rfl rfl p 1 37 37 68 _ hp3 (by decide) (by simp [swA, anewL_len])
    rwa [sw_clear _ _ (anewL_len t)] at this
  have hpr := setRow_heap w3 p _ (swA (.slice (some ⟨sb, 0, none⟩) m cap) (List.replicate 37 false)) _ _ hp3
  have hgo := goes_setRow (F := fun k => k = p) w3 rfl (swA (.slice (some ⟨sb, 0, none⟩) m cap) (List.replicate 37 false))
  generalize w3.setRow p (swA (.slice (some ⟨sb, 0, none⟩) m cap) (List.replicate 37 false)) = w4 at *
  go_wp2_with (simp only [hcl])
  go_ret
  refine ⟨by rw [seesB_lv rfl (by unfold lvB; dsimp only; decide +kernel)]; rfl, ?_⟩
  rw [← anewL_lv (t := t) (o := ⟨10, r, a, b, od, imm⟩) (by show hasP 10 64 = true; decide +kernel)]
  exact ⟨hpr, ((goes_of_below hb).grow B).trans hgo (fun _ _ q => q)⟩
set_option maxHeartbeats 2000000 in
theorem sees_11_0 (hp : w.heap[p]? = some (.cells (swA (.slice (some ⟨sb, 0, none⟩) m cap) (anewL t)) 68)) (hq : w.heap[sb]? = some (.cells SB 4)) {r a b od imm : Int} : Calls Tryd.prog 34 #[ptr p 0, vI place, opV ⟨11, r, a, b, od, imm⟩] w (SeesR p sb m cap t ⟨11, r, a, b, od, imm⟩ s w) := by
  have hb := below_alloc w (Obj.cells (opA ⟨11, r, a, b, od, imm⟩) 33)
  have L : LocO w.heap.size ⟨11, r, a, b, od, imm⟩ (w.alloc (Obj.cells (opA ⟨11, r, a, b, od, imm⟩) 33)) := LocO.new w _
  have hp1 := keepC hp hb
  have hq1 := keepC hq hb
  have hsz : w.heap.size < (w.alloc (Obj.cells (opA ⟨11, r, a, b, od, imm⟩) 33)).heap.size := by simp
  have kl := leaves_c ⟨11, r, a, b, od, imm⟩
  go_enter Tryd.func34, Tryd.ntmps34
  go_upto_region 1 with fail
  generalize w.alloc _ = w1 at *
  have z0 := L.c0
  have z1 := L.c1
  have e64 : hasP 11 64 = true := by decide +kernel
  go_upto_region 19 with (first | ((with_reducible refine wpList_load42 rfl _ rfl _ rfl _ (L.at_) ?_); try simp only [Act.put]) | (go_at_call 17; (with_reducible refine (kl _).mono ?_); rintro e w3 ⟨rfl, B⟩; dsimp only; try rw [e64]))
  have hp3 := keepC hp1 B
  have hcl : ∀ ty, (Builtin.clear_ #[34] ty #[.slice (some ⟨p, 1, none⟩) 37 37]).run Tryd.prog w3 = .ok (.tuple #[]) (w3.setRow p (swA (.slice (some ⟨sb, 0, none⟩) m cap) (List.replicate 37 false))) := fun ty => by
    have := run_clear_row w3 34 4 ty (.bool false) Tryd.underlying34 zeroB rfl rfl p 1 37 37 68 _ hp3 (by decide) (by simp [swA, anewL_len])
    rwa [sw_clear _ _ (anewL_len t)] at this
  have hpr := setRow_heap w3 p _ (swA (.slice (some ⟨sb, 0, none⟩) m cap) (List.replicate 37 false)) _ _ hp3
  have hgo := goes_setRow (F := fun k => k = p) w3 rfl (swA (.slice (some ⟨sb, 0, none⟩) m cap) (List.replicate 37 false))
  generalize w3.setRow p (swA (.slice (some ⟨sb, 0, none⟩) m cap) (List.replicate 37 false)) = w4 at *
  go_wp2_with (simp only [hcl])
  go_ret
  refine ⟨by rw [seesB_lv rfl (by unfold lvB; dsimp only; decide +kernel)]; rfl, ?_⟩
  rw [← anewL_lv (t := t) (o := ⟨11, r, a, b, od, imm⟩) (by show hasP 11 64 = true; decide +kernel)]
  exact ⟨hpr, ((goes_of_below hb).grow B).trans hgo (fun _ _ q => q)⟩
set_option maxHeartbeats 2000000 in
theorem sees_12_0 (hp : w.heap[p]? = some (.cells (swA (.slice (some ⟨sb, 0, none⟩) m cap) (anewL t)) 68)) (hq : w.heap[sb]? = some (.cells SB 4)) {r a b od imm : Int} : Calls Tryd.prog 34 #[ptr p 0, vI place, opV ⟨12, r, a, b, od, imm⟩] w (SeesR p sb m cap t ⟨12, r, a, b, od, imm⟩ s w) := by
  have hb := below_alloc w (Obj.cells (opA ⟨12, r, a, b, od, imm⟩) 33)
  have L : LocO w.heap.size ⟨12, r, a, b, od, imm⟩ (w.alloc (Obj.cells (opA ⟨12, r, a, b, od, imm⟩) 33)) := LocO.new w _
  have hp1 := keepC hp hb
  have hq1 := keepC hq hb
  have hsz : w.heap.size < (w.alloc (Obj.cells (opA ⟨12, r, a, b, od, imm⟩) 33)).heap.size := by simp
  have kl := leaves_c ⟨12, r, a, b, od, imm⟩
  go_enter Tryd.func34, Tryd.ntmps34
  go_upto_region 1 with fail
  generalize w.alloc _ = w1 at *
  have z0 := L.c0
  have z1 := L.c1
  have e64 : hasP 12 64 = true := by decide +kernel
  go_upto_region 19 with (first | ((with_reducible refine wpList_load42 rfl _ rfl _ rfl _ (L.at_) ?_); try simp only [Act.put]) | (go_at_call 17; (with_reducible refine (kl _).mono ?_); rintro e w3 ⟨rfl, B⟩; dsimp only; try rw [e64]))
  have hp3 := keepC hp1 B
  have hcl : ∀ ty, (Builtin.clear_ #[34] ty #[.slice (some ⟨p, 1, none⟩) 37 37]).run Tryd.prog w3 = .ok (.tuple #[]) (w3.setRow p (swA (.slice (some ⟨sb, 0, none⟩) m cap) (List.replicate 37 false))) := fun ty => by
    have := run_clear_row w3 34 4 ty (.bool false) Tryd.underlying34 zeroB rfl rfl p 1 37 37 68 _ hp3 (by decide) (by simp [swA, anewL_len])
    rwa [sw_clear _ _ (anewL_len t)] at this
  have hpr := setRow_heap w3 p _ (swA (.slice (some ⟨sb, 0, none⟩) m cap) (List.replicate 37 false)) _ _ hp3
  have hgo := goes_setRow (F := fun k => k = p) w3 rfl (swA (.slice (some ⟨sb, 0, none⟩) m cap) (List.replicate 37 false))
  generalize w3.setRow p (swA (.slice (some ⟨sb, 0, none⟩) m cap) (List.replicate 37 false)) = w4 at *
  go_wp2_with (simp only [hcl])
  go_ret
  refine ⟨by rw [seesB_lv rfl (by unfold lvB; dsimp only; decide +kernel)]; rfl, ?_⟩
  rw [← anewL_lv (t := t) (o := ⟨12, r, a, b, od, imm⟩) (by show hasP 12 64 = true; decide +kernel)]
  exact ⟨hpr, ((goes_of_below hb).grow B).trans hgo (fun _ _ q => q)⟩
set_option maxHeartbeats 2000000 in
theorem sees_15_0 (hp : w.heap[p]? = some (.cells (swA (.slice (some ⟨sb, 0, none⟩) m cap) (anewL t)) 68)) (hq : w.heap[sb]? = some (.cells SB 4)) {r a b od imm : Int} : Calls Tryd.prog 34 #[ptr p 0, vI place, opV ⟨15, r, a, b, od, imm⟩] w (SeesR p sb m cap t ⟨15, r, a, b, od, imm⟩ s w) := by
  have hb := below_alloc w (Obj.cells (opA ⟨15, r, a, b, od, imm⟩) 33)
  have L : LocO w.heap.size ⟨15, r, a, b, od, imm⟩ (w.alloc (Obj.cells (opA ⟨15, r, a, b, od, imm⟩) 33)) := LocO.new w _
  have hp1 := keepC hp hb
  have hq1 := keepC hq hb
  have hsz : w.heap.size < (w.alloc (Obj.cells (opA ⟨15, r, a, b, od, imm⟩) 33)).heap.size := by simp
  have kl := leaves_c ⟨15, r, a, b, od, imm⟩
  go_enter Tryd.func34, Tryd.ntmps34
  go_upto_region 1 with fail
  generalize w.alloc _ = w1 at *
  have z0 := L.c0
  have z1 := L.c1
  have e64 : hasP 15 64 = true := by decide +kernel
  go_upto_region 19 with (first | ((with_reducible refine wpList_load42 rfl _ rfl _ rfl _ (L.at_) ?_); try simp only [Act.put]) | (go_at_call 17; (with_reducible refine (kl _).mono ?_); rintro e w3 ⟨rfl, B⟩; dsimp only; try rw [e64]))
  have hp3 := keepC hp1 B
  have hcl : ∀ ty, (Builtin.clear_ #[34] ty #[.slice (some ⟨p, 1, none⟩) 37 37]).run Tryd.prog w3 = .ok (.tuple #[]) (w3.setRow p (swA (.slice (some ⟨sb, 0, none⟩) m cap) (List.replicate 37 false))) := fun ty => by
    have := run_clear_row w3 34 4 ty (.bool false) Tryd.underlying34 zeroB rfl rfl p 1 37 37 68 _ hp3 (by decide) (by simp [swA, anewL_len])
    rwa [sw_clear _ _ (anewL_len t)] at this
  have hpr := setRow_heap w3 p _ (swA (.slice (some ⟨sb, 0, none⟩) m cap) (List.replicate 37 false)) _ _ hp3
  have hgo := goes_setRow (F := fun k => k = p) w3 rfl (swA (.slice (some ⟨sb, 0, none⟩) m cap) (List.replicate 37 false))
  generalize w3.setRow p (swA (.slice (some ⟨sb, 0, none⟩) m cap) (List.replicate 37 false)) = w4 at *
  go_wp2_with (simp only [hcl])
  go_ret
  refine ⟨by rw [seesB_lv rfl (by unfold lvB; dsimp only; decide +kernel)]; rfl, ?_⟩
  rw [← anewL_lv (t := t) (o := ⟨15, r, a, b, od, imm⟩) (by show hasP 15 64 = true; decide +kernel)]
  exact ⟨hpr, ((goes_of_below hb).grow B).trans hgo (fun _ _ q => q)⟩
set_option maxHeartbeats 2000000 in
theorem sees_16_0 (hp : w.heap[p]? = some (.cells (swA (.slice (some ⟨sb, 0, none⟩) m cap) (anewL t)) 68)) (hq : w.heap[sb]? = some (.cells SB 4)) {r a b od imm : Int} : Calls Tryd.prog 34 #[ptr p 0, vI place, opV ⟨16, r, a, b, od, imm⟩] w (SeesR p sb m cap t ⟨16, r, a, b, od, imm⟩ s w) := by
  have hb := below_alloc w (Obj.cells (opA ⟨16, r, a, b, od, imm⟩) 33)
  have L : LocO w.heap.size ⟨16, r, a, b, od, imm⟩ (w.alloc (Obj.cells (opA ⟨16, r, a, b, od, imm⟩) 33)) := LocO.new w _
  have hp1 := keepC hp hb
  have hq1 := keepC hq hb
  have hsz : w.heap.size < (w.alloc (Obj.cells (opA ⟨16, r, a, b, od, imm⟩) 33)).heap.size := by simp
  have kl := leaves_c ⟨16, r, a, b, od, imm⟩
  go_enter Tryd.func34, Tryd.ntmps34
  go_upto_region 1 with fail
  generalize w.alloc _ = w1 at *
  have z0 := L.c0
  have z1 := L.c1
  have e64 : hasP 16 64 = true := by decide +kernel
  go_upto_region 19 with (first | ((with_reducible refine wpList_load42 rfl _ rfl _ rfl _ (L.at_) ?_); try simp only [Act.put]) | (go_at_call 17; (with_reducible refine (kl _).mono ?_); rintro e w3 ⟨rfl, B⟩; dsimp only; try rw [e64]))
  have hp3 := keepC hp1 B
  have hcl : ∀ ty, (Builtin.clear_ #[34] ty #[.slice (some ⟨p, 1, none⟩) 37 37]).run Tryd.prog w3 = .ok (.tuple #[]) (w3.setRow p (swA (.slice (some ⟨sb, 0, none⟩) m cap) (List.replicate 37 false))) := fun ty => by
    have := run_clear_row w3 34 4 ty (.bool false) Tryd.underlying34 zeroB rfl rfl p 1 37 37 68 _ hp3 (by decide) (by simp [swA, anewL_len])
    rwa [sw_clear _ _ (anewL_len t)] at this
  have hpr := setRow_heap w3 p _ (swA (.slice (some ⟨sb, 0, none⟩) m cap) (List.replicate 37 false)) _ _ hp3
  have hgo := goes_setRow (F := fun k => k = p) w3 rfl (swA (.slice (some ⟨sb, 0, none⟩) m cap) (List.replicate 37 false))
  generalize w3.setRow p (swA (.slice (some ⟨sb, 0, none⟩) m cap) (List.replicate 37 false)) = w4 at *
  go_wp2_with (simp only [hcl])
  go_ret
  refine ⟨by rw [seesB_lv rfl (by unfold lvB; dsimp only; decide +kernel)]; rfl, ?_⟩
  rw [← anewL_lv (t := t) (o := ⟨16, r, a, b, od, imm⟩) (by show hasP 16 64 = true; decide +kernel)]
  exact ⟨hpr, ((goes_of_below hb).grow B).trans hgo (fun _ _ q => q)⟩
set_option maxHeartbeats 2000000 in
theorem sees_17_0 (hp : w.heap[p]? = some (.cells (swA (.slice (some ⟨sb, 0, none⟩) m cap) (anewL t)) 68)) (hq : w.heap[sb]? = some (.cells SB 4)) {r a b od imm : Int} : Calls Tryd.prog 34 #[ptr p 0, vI place, opV ⟨17, r, a, b, od, imm⟩] w (SeesR p sb m cap t ⟨17, r, a, b, od, imm⟩ s w) := by
  have hb := below_alloc w (Obj.cells (opA ⟨17, r, a, b, od, imm⟩) 33)
  have L : LocO w.heap.size ⟨17, r, a, b, od, imm⟩ (w.alloc (Obj.cells (opA ⟨17, r, a, b, od, imm⟩) 33)) := LocO.new w _
  have hp1 := keepC hp hb
  have hq1 := keepC hq hb
  have hsz : w.heap.size < (w.alloc (Obj.cells (opA ⟨17, r, a, b, od, imm⟩) 33)).heap.size := by simp
  have kl := leaves_c ⟨17, r, a, b, od, imm⟩
  go_enter Tryd.func34, Tryd.ntmps34
  go_upto_region 1 with fail
  generalize w.alloc _ = w1 at *
  have z0 := L.c0
  have z1 := L.c1
  have e64 : hasP 17 64 = true := by decide +kernel
  go_upto_region 19 with (first | ((with_reducible refine wpList_load42 rfl _ rfl _ rfl _ (L.at_) ?_); try simp only [Act.put]) | (go_at_call 17; (with_reducible refine (kl _).mono ?_); rintro e w3 ⟨rfl, B⟩; dsimp only; try rw [e64]))
  have hp3 := keepC hp1 B
  have hcl : ∀ ty, (Builtin.clear_ #[34] ty #[.slice (some ⟨p, 1, none⟩) 37 37]).run Tryd.prog w3 = .ok (.tuple #[]) (w3.setRow p (swA (.slice (some ⟨sb, 0, none⟩) m cap) (List.replicate 37 false))) := fun ty => by
    have := run_clear_row w3 34 4 ty (.bool false) Tryd.underlying34 zeroB rfl rfl p 1 37 37 68 _ hp3 (by decide) (by simp [swA, anewL_len])
    rwa [sw_clear _ _ (anewL_len t)] at this
  have hpr := setRow_heap w3 p _ (swA (.slice (some ⟨sb, 0, none⟩) m cap) (List.replicate 37 false)) _ _ hp3
  have hgo := goes_setRow (F := fun k => k = p) w3 rfl (swA (.slice (some ⟨sb, 0, none⟩) m cap) (List.replicate 37 false))
  generalize w3.setRow p (swA (.slice (some ⟨sb, 0, none⟩) m cap) (List.replicate 37 false)) = w4 at *
  go_wp2_with (simp only [hcl])
  go_ret
  refine ⟨by rw [seesB_lv rfl (by unfold lvB; dsimp only; decide +kernel)]; rfl, ?_⟩
  rw [← anewL_lv (t := t) (o := ⟨17, r, a, b, od, imm⟩) (by show hasP 17 64 = true; decide +kernel)]
  exact ⟨hpr, ((goes_of_below hb).grow B).trans hgo (fun _ _ q => q)⟩
set_option maxHeartbeats 2000000 in
theorem sees_18_0 (hp : w.heap[p]? = some (.cells (swA (.slice (some ⟨sb, 0, none⟩) m cap) (anewL t)) 68)) (hq : w.heap[sb]? = some (.cells SB 4)) {r a b od imm : Int} : Calls Tryd.prog 34 #[ptr p 0, vI place, opV ⟨18, r, a, b, od, imm⟩] w (SeesR p sb m cap t ⟨18, r, a, b, od, imm⟩ s w) := by
  have hb := below_alloc w (Obj.cells (opA ⟨18, r, a, b, od, imm⟩) 33)
  have L : LocO w.heap.size ⟨18, r, a, b, od, imm⟩ (w.alloc (Obj.cells (opA ⟨18, r, a, b, od, imm⟩) 33)) := LocO.new w _
  have hp1 := keepC hp hb
  have hq1 := keepC hq hb
  have hsz : w.heap.size < (w.alloc (Obj.cells (opA ⟨18, r, a, b, od, imm⟩) 33)).heap.size := by simp
  have kl := leaves_c ⟨18, r, a, b, od, imm⟩
  go_enter Tryd.func34, Tryd.ntmps34
  go_upto_region 1 with fail
  generalize w.alloc _ = w1 at *
  have z0 := L.c0
  have z1 := L.c1
  have e64 : hasP 18 64 = true := by decide +kernel
  go_upto_region 19 with (first | ((with_reducible refine wpList_load42 rfl _ rfl _ rfl _ (L.at_) ?_); try simp only [Act.put]) | (go_at_call 17; (with_reducible refine (kl _).mono ?_); rintro e w3 ⟨rfl, B⟩; dsimp only; try rw [e64]))
  have hp3 := keepC hp1 B
  have hcl : ∀ ty, (Builtin.clear_ #[34] ty #[.slice (some ⟨p, 1, none⟩) 37 37]).run Tryd.prog w3 = .ok (.tuple #[]) (w3.setRow p (swA (.slice (some ⟨sb, 0, none⟩) m cap) (List.replicate 37 false))) := fun ty => by
    have := run_clear_row w3 34 4 ty (.bool false) Tryd.underlying34 zeroB rfl rfl p 1 37 37 68 _ hp3 (by decide) (by simp [swA, anewL_len])
    rwa [sw_clear _ _ (anewL_len t)] at this
  have hpr := setRow_heap w3 p _ (swA (.slice (some ⟨sb, 0, none⟩) m cap) (List.replicate 37 false)) _ _ hp3
  have hgo := goes_setRow (F := fun k => k = p) w3 rfl (swA (.slice (some ⟨sb, 0, none⟩) m cap) (List.replicate 37 false))
  generalize w3.setRow p (swA (.slice (some ⟨sb, 0, none⟩) m cap) (List.replicate 37 false)) = w4 at *
  go_wp2_with (simp only [hcl])
  go_ret
  refine ⟨by rw [seesB_lv rfl (by unfold lvB; dsimp only; decide +kernel)]; rfl, ?_⟩
  rw [← anewL_lv (t := t) (o := ⟨18, r, a, b, od, imm⟩) (by show hasP 18 64 = true; decide +kernel)]
  exact ⟨hpr, ((goes_of_below hb).grow B).trans hgo (fun _ _ q => q)⟩
/-- The range of what an operation gets or sets. -/
structure RngO (o : Opr) : Prop where
  kind : isK o.kind = true
  x : o.kind = 2 ∨ o.kind = 3 → 0 ≤ o.r ∧ o.r ≤ 30
  f : o.kind = 6 ∨ o.kind = 7 → 0 ≤ o.r ∧ o.r ≤ 3
theorem sees_c (hp : w.heap[p]? = some (.cells (swA (.slice (some ⟨sb, 0, none⟩) m cap) (anewL t)) 68)) (hq : w.heap[sb]? = some (.cells SB 4)) (hpl : place < m) (hs : SB[place]? = some (.bool s)) {o : Opr} (ok : RngO o) : Calls Tryd.prog 34 #[ptr p 0, vI place, opV o] w (SeesR p sb m cap t o s w) := by
  obtain ⟨hK, rx, rf⟩ := ok
  obtain ⟨kind, r, a, b, od, imm⟩ := o
  dsimp only at hK rx rf
  rcases isK_cases hK with rfl | rfl | rfl | rfl | rfl | rfl | rfl | rfl | rfl | rfl | rfl | rfl | rfl | rfl | rfl | rfl | rfl | rfl
  · exact sees_1_0 hp hq hpl hs
  · have := rx (.inl rfl); exact sees_2_0 hp hq hpl hs this.1 this.2
  · have := rx (.inr rfl); exact sees_3_0 hp hq this.1 this.2
  · exact sees_4_0 hp hq hpl hs
  · exact sees_5_0 hp hq
  · have := rf (.inl rfl)
    have hr : r = 0 ∨ r = 1 ∨ r = 2 ∨ r = 3 := by omega
    rcases hr with rfl | rfl | rfl | rfl
    · exact sees_6_0 (r := 0) hp hq hpl hs
    · exact sees_6_1 (r := 0) hp hq hpl hs
    · exact sees_6_2 (r := 0) hp hq hpl hs
    · exact sees_6_3 (r := 0) hp hq hpl hs
  · have := rf (.inr rfl)
    have hr : r = 0 ∨ r = 1 ∨ r = 2 ∨ r = 3 := by omega
    rcases hr with rfl | rfl | rfl | rfl
    · exact sees_7_0 (r := 0) hp hq
    · exact sees_7_1 (r := 0) hp hq
    · exact sees_7_2 (r := 0) hp hq
    · exact sees_7_3 (r := 0) hp hq
  · exact sees_8_0 hp hq hpl hs
  · exact sees_9_0 hp hq
  · exact sees_10_0 hp hq
  · exact sees_11_0 hp hq
  · exact sees_12_0 hp hq
  · exact sees_13_0 hp hq
  · exact sees_14_0 hp hq
  · exact sees_15_0 hp hq
  · exact sees_16_0 hp hq
  · exact sees_17_0 hp hq
  · exact sees_18_0 hp hq
end
end Go.Proofs.YtejlmggfeejgpaaDoor
