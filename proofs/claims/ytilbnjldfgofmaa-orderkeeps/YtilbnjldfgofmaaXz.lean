/- Za, Zb, Zc of the seat, joined. -/
import Derived.Test.YtilbnjldfgofmaaYb
import Derived.Test.YtilbnjldfgofmaaIg
import Derived.LaidEqlPtr
/- An item in memory; small questions of it. -/
namespace Go.Proofs.Ytilbnjldfgofmaa
open Go.RowKit
set_option linter.unusedVariables false
set_option linter.unusedSimpArgs false
set_option maxRecDepth 8000

/-- An item: an operation (what it had of A and B once does not matter), the items that define its values, a place. -/
structure Nd where
  op : Opr
  pa : Nat
  pb : Nat
  pl : Int
abbrev ndA (d : Nd) : Array Value := #[vI d.op.kind, vI d.op.r, vI d.op.a, vI d.op.b, vI d.op.order, vU d.op.imm, ptr d.pa 0, ptr d.pb 0, vI d.pl]
def NdAt (w : World) (id : Nat) (d : Nd) : Prop := w.heap[id]? = some (.cells (ndA d) 67)
section
variable {w w' : World} {id : Nat} {d : Nd}
theorem NdAt.lt (h : NdAt w id d) : id < w.heap.size := lt_of_some h
theorem NdAt.cell (h : NdAt w id d) (j : Nat) : w.cell? ⟨id, j, none⟩ = (ndA d)[j]? := by rw [cell_of_row _ _ _ _ _ _ h]
theorem NdAt.c0 (h : NdAt w id d) : w.cell? ⟨id, 0, none⟩ = some (vI d.op.kind) := h.cell 0
theorem NdAt.c1 (h : NdAt w id d) : w.cell? ⟨id, 1, none⟩ = some (vI d.op.r) := h.cell 1
theorem NdAt.c2 (h : NdAt w id d) : w.cell? ⟨id, 2, none⟩ = some (vI d.op.a) := h.cell 2
theorem NdAt.c3 (h : NdAt w id d) : w.cell? ⟨id, 3, none⟩ = some (vI d.op.b) := h.cell 3
theorem NdAt.c4 (h : NdAt w id d) : w.cell? ⟨id, 4, none⟩ = some (vI d.op.order) := h.cell 4
theorem NdAt.c5 (h : NdAt w id d) : w.cell? ⟨id, 5, none⟩ = some (vU d.op.imm) := h.cell 5
theorem NdAt.c6 (h : NdAt w id d) : w.cell? ⟨id, 6, none⟩ = some (ptr d.pa 0) := h.cell 6
theorem NdAt.c7 (h : NdAt w id d) : w.cell? ⟨id, 7, none⟩ = some (ptr d.pb 0) := h.cell 7
theorem NdAt.c8 (h : NdAt w id d) : w.cell? ⟨id, 8, none⟩ = some (vI d.pl) := h.cell 8
theorem NdAt.frz (h : NdAt w id d) (j : Nat) : w.frozen? ⟨id, j, none⟩ = false := frozen_of_row _ _ _ _ _ h
theorem NdAt.grow (h : NdAt w id d) (hb : Below w.heap.size w w') : NdAt w' id d := by unfold NdAt; rw [hb.block _ h.lt]; exact h
theorem NdAt.opAt (h : NdAt w id d) : OpAt w ⟨id, 0, none⟩ d.op := ⟨h.lt, h.c0, h.c1, h.c2, h.c3, h.c4, h.c5⟩
/-- There is an item. -/
def Is (w : World) (a : Nat) : Prop := ∃ d, NdAt w a d
theorem NdAt.is (h : NdAt w id d) : Is w id := ⟨d, h⟩
theorem Is.grow (h : Is w id) (hb : Below w.heap.size w w') : Is w' id := by obtain ⟨d, h⟩ := h; exact ⟨d, h.grow hb⟩
theorem run_eqP {w : World} {a b : Nat} (ha : Is w a) (hb : Is w b) : (binOp .eql 62 (ptr a 0) (ptr b 0)).run Try.prog w = .ok (.bool (decide (a = b))) w := by
  obtain ⟨da, ha⟩ := ha
  obtain ⟨db, hb⟩ := hb
  have hi : (Try.prog.info? 67).map (·.size) = some 9 := by kernel_rfl
  cases hq : Try.prog.info? 67 with
  | none => simp [hq] at hi
  | some i =>
    have hs : i.size = 9 := by simpa [hq] using hi
    by_cases e : a = b
    · subst e
      rw [run_eql_ptr_same w _ Try.underlying62 hq, decide_eq_true rfl]
    · rw [run_eql_ptr_other (a := ⟨a, 0, none⟩) (b := ⟨b, 0, none⟩) w Try.underlying62 hq (by omega) (fun q => e (Addr.mk.inj q).1) ha hb, decide_eq_false e]
theorem run_neP {w : World} {a b : Nat} (ha : Is w a) (hb : Is w b) : (binOp .neq 62 (ptr a 0) (ptr b 0)).run Try.prog w = .ok (.bool (!decide (a = b))) w := by
  have := run_eqP ha hb
  simp only [binOp] at this ⊢
  revert this
  simp only [Sem.run_bind]
  generalize (Op.equal 62 (ptr a 0) (ptr b 0)).run Try.prog w = r
  cases r with
  | ok v w1 =>
    simp only [Result.andThen_ok, Sem.run_pure]
    intro h
    injection h with h1 h2
    injection h1 with h3
    rw [h2, h3]
  | halt x w1 => intro h; cases h
theorem Is.drew (h : Is w id) (n : Nat) : Is (w.drewN n) id := h.grow (below_drewN (Below.refl _ w))
theorem isPlain_c (h : NdAt w id d) (k : Int) : Calls Try.prog 46 #[ptr id 0, vI k] w fun e w' => e = .returned (.bool (decide (d.op.kind = k) && decide (d.op.order = 0))) ∧ w' = w := by
  have z0 := h.c0
  have z4 := h.c4
  by_cases h1 : d.op.kind = k
  · by_cases h2 : d.op.order = 0
    · go_enter Try.func46, Try.ntmps46
      go_wp2
      go_ret
      exact ⟨by simp [h1, h2], rfl⟩
    · go_enter Try.func46, Try.ntmps46
      go_wp2
      go_ret
      exact ⟨by simp [h1, h2], rfl⟩
  · go_enter Try.func46, Try.ntmps46
    go_wp2
    go_ret
    exact ⟨by simp [h1], rfl⟩
theorem isSum_c (h : NdAt w id d) : Calls Try.prog 85 #[ptr id 0] w fun e w' => e = .returned (.bool (d.op.kind == 8 && d.op.r == 1)) ∧ w' = w := by
  have z0 := h.c0
  have z1 := h.c1
  by_cases h1 : d.op.kind = 8
  · by_cases h2 : d.op.r = 1
    · go_enter Try.func85, Try.ntmps85
      go_wp2
      go_ret
      exact ⟨by simp [h1, h2], rfl⟩
    · go_enter Try.func85, Try.ntmps85
      go_wp2
      go_ret
      exact ⟨by simp [h1, h2], rfl⟩
  · go_enter Try.func85, Try.ntmps85
    go_wp2
    go_ret
    exact ⟨by simp [h1], rfl⟩
end
theorem isLoud_c (o : Opr) (hk : isK o.kind = true) (w : World) : Calls Try.prog 50 #[opV o] w fun e w' => e = .returned (.bool (loudK o.kind)) ∧ Below w.heap.size w w' := by
  obtain ⟨k, r, a, b, order, imm⟩ := o
  dsimp only at hk ⊢
  rcases isK_cases hk with rfl | rfl | rfl | rfl | rfl | rfl | rfl | rfl | rfl | rfl | rfl | rfl | rfl | rfl | rfl | rfl | rfl | rfl
  all_goals
    go_enter Try.func50, Try.ntmps50
    go_wp2
    go_ret
    exact ⟨rfl, below_alloc _ _⟩
theorem forgets_c (o : Opr) (hk : isK o.kind = true) (w : World) : Calls Try.prog 72 #[opV o] w fun e w' => e = .returned (.bool (forgetB o)) ∧ Below w.heap.size w w' := by
  obtain ⟨k, r, a, b, order, imm⟩ := o
  dsimp only at hk ⊢
  by_cases h0 : order = 0
  · subst h0
    rcases isK_cases hk with rfl | rfl | rfl | rfl | rfl | rfl | rfl | rfl | rfl | rfl | rfl | rfl | rfl | rfl | rfl | rfl | rfl | rfl
    all_goals
      go_enter Try.func72, Try.ntmps72
      go_wp2
      go_ret
      exact ⟨rfl, below_alloc _ _⟩
  · rcases isK_cases hk with rfl | rfl | rfl | rfl | rfl | rfl | rfl | rfl | rfl | rfl | rfl | rfl | rfl | rfl | rfl | rfl | rfl | rfl
    all_goals
      go_enter Try.func72, Try.ntmps72
      go_wp2
      go_ret
      exact ⟨by simp [forgetB, h0], below_alloc _ _⟩
end Go.Proofs.Ytilbnjldfgofmaa
/- Two addresses: numbers, sums, one beyond the other. -/
namespace Go.Proofs.Ytilbnjldfgofmaa
open Go.RowKit
set_option linter.unusedVariables false
set_option linter.unusedSimpArgs false
set_option maxRecDepth 8000

section
variable {w : World} {x y u v : Nat} {dx dy du dv : Nd}
theorem NdAt.drew (h : NdAt w x dx) (n : Nat) : NdAt (w.drewN n) x dx := h.grow (below_drewN (Below.refl _ w))
def numN (dx dy : Nd) : Bool := dx.op.kind == 1 && dy.op.kind == 1 && dx.op.imm != dy.op.imm
set_option maxHeartbeats 400000 in
theorem numbers_c (hx : NdAt w x dx) (hy : NdAt w y dy) : Calls Try.prog 73 #[ptr x 0, ptr y 0] w fun e w' => e = .returned (.bool (numN dx dy)) ∧ ∃ n, w' = w.drewN n := by
  have x0 := hx.c0
  have x5 := hx.c5
  have y0 := hy.c0
  have y5 := hy.c5
  by_cases h1 : dx.op.kind = 1
  · by_cases h2 : dy.op.kind = 1
    · by_cases h3 : dx.op.imm = dy.op.imm
      · go_enter Try.func73, Try.ntmps73
        go_upto_region 1 with fail
        go_quiet (fail)
        go_wp2
        go_ret
        exact ⟨by simp [numN, h1, h2, h3], _, rfl⟩
      · have qh3 : (dx.op.imm == dy.op.imm) = false := by simpa using h3
        go_enter Try.func73, Try.ntmps73
        go_upto_region 1 with fail
        go_quiet (fail)
        go_wp2
        go_ret
        exact ⟨by simp [numN, h1, h2, h3], _, rfl⟩
    · have qh2 : (dy.op.kind == 1) = false := by simpa using h2
      go_enter Try.func73, Try.ntmps73
      go_upto_region 1 with fail
      go_quiet (fail)
      go_wp2
      go_ret
      exact ⟨by simp [numN, h1, h2], _, rfl⟩
  · have qh1 : (dx.op.kind == 1) = false := by simpa using h1
    go_enter Try.func73, Try.ntmps73
    go_upto_region 1 with fail
    go_quiet (fail)
    go_wp2
    go_ret
    exact ⟨by simp [numN, h1], _, rfl⟩

def sumD (d : Nd) : Bool := d.op.kind == 8 && d.op.r == 1
def sumsN (dx dy du dv : Nd) : Bool := sumD dx && sumD dy && dx.pa == dy.pa && numN du dv
set_option maxHeartbeats 400000 in
theorem sums_c (hx : NdAt w x dx) (hy : NdAt w y dy) (hu : NdAt w dx.pb du) (hv : NdAt w dy.pb dv) (ix : Is w dx.pa) (iy : Is w dy.pa) : Calls Try.prog 74 #[ptr x 0, ptr y 0] w fun e w' => e = .returned (.bool (sumsN dx dy du dv)) ∧ ∃ n, w' = w.drewN n := by
  have x6 := hx.c6
  have x7 := hx.c7
  have y6 := hy.c6
  have y7 := hy.c7
  have kx : ∀ n, Calls Try.prog 85 #[ptr x 0] (w.drewN n) fun e w' => e = .returned (.bool (sumD dx)) ∧ w' = w.drewN n := fun n => isSum_c (hx.drew n)
  have ky : ∀ n, Calls Try.prog 85 #[ptr y 0] (w.drewN n) fun e w' => e = .returned (.bool (sumD dy)) ∧ w' = w.drewN n := fun n => isSum_c (hy.drew n)
  have kn := fun n => numbers_c (hu.drew n) (hv.drew n)
  have ke := fun n => run_eqP (ix.drew n) (iy.drew n)
  cases h1 : sumD dx with
  | false =>
    rw [h1] at kx
    go_enter Try.func74, Try.ntmps74
    go_upto_region 1 with fail
    go_quiet (first | (go_at_call 85; with_reducible exact Calls.quiet_of_same (kx _)))
    go_wp2
    go_ret
    exact ⟨by simp [sumsN, h1], _, rfl⟩
  | true =>
    rw [h1] at kx
    cases h2 : sumD dy with
    | false =>
      rw [h2] at ky
      go_enter Try.func74, Try.ntmps74
      go_upto_region 1 with fail
      go_quiet (first | (go_at_call 85; with_reducible exact Calls.quiet_of_same (kx _)) | (go_at_call 85; with_reducible exact Calls.quiet_of_same (ky _)))
      go_wp2
      go_ret
      exact ⟨by simp [sumsN, h1, h2], _, rfl⟩
    | true =>
      rw [h2] at ky
      by_cases h3 : dx.pa = dy.pa
      · have ke : ∀ n, (binOp .eql 62 (ptr dy.pa 0) (ptr dy.pa 0)).run Try.prog (w.drewN n) = .ok (.bool true) (w.drewN n) := fun n => by have := run_eqP (iy.drew n) (iy.drew n); rwa [decide_eq_true rfl] at this
        rw [h3] at x6
        go_enter Try.func74, Try.ntmps74
        go_upto_region 1 with fail
        go_quiet (first | (go_at_call 85; with_reducible exact Calls.quiet_of_same (kx _)) | (go_at_call 85; with_reducible exact Calls.quiet_of_same (ky _)) | (go_at_call 73; with_reducible exact Calls.quiet_of (kn _)))
        go_wp2
        go_ret
        exact ⟨by simp [sumsN, h1, h2, h3], _, rfl⟩
      · rw [decide_eq_false h3] at ke
        go_enter Try.func74, Try.ntmps74
        go_upto_region 1 with fail
        go_quiet (first | (go_at_call 85; with_reducible exact Calls.quiet_of_same (kx _)) | (go_at_call 85; with_reducible exact Calls.quiet_of_same (ky _)))
        go_wp2
        go_ret
        exact ⟨by simp [sumsN, h1, h2, h3], _, rfl⟩
def beyN (dx du : Nd) (y : Nat) : Bool := sumD dx && dx.pa == y && du.op.kind == 1 && du.op.imm != 0
set_option maxHeartbeats 400000 in
theorem beyond_c {y : Nat} (hx : NdAt w x dx) (hu : NdAt w dx.pb du) (ix : Is w dx.pa) (iy : Is w y) : Calls Try.prog 75 #[ptr x 0, ptr y 0] w fun e w' => e = .returned (.bool (beyN dx du y)) ∧ w' = w := by
  have x6 := hx.c6
  have x7 := hx.c7
  have u0 := hu.c0
  have u5 := hu.c5
  have kx : Calls Try.prog 85 #[ptr x 0] w fun e w' => e = .returned (.bool (sumD dx)) ∧ w' = w := isSum_c hx
  have ke := run_eqP ix iy
  cases h1 : sumD dx with
  | false =>
    rw [h1] at kx
    go_enter Try.func75, Try.ntmps75
    go_wp2_with (first | (go_at_call 85; (with_reducible refine kx.mono ?_); rintro e w2 ⟨rfl, rfl⟩; dsimp only))
    go_ret
    exact ⟨by simp [beyN, h1], rfl⟩
  | true =>
    rw [h1] at kx
    by_cases h2 : dx.pa = y
    · rw [h2] at x6
      have ke := run_eqP iy iy
      rw [decide_eq_true rfl] at ke
      by_cases h3 : du.op.kind = 1
      · by_cases h4 : du.op.imm = 0
        · go_enter Try.func75, Try.ntmps75
          go_wp2_with (first | (go_at_call 85; (with_reducible refine kx.mono ?_); rintro e w2 ⟨rfl, rfl⟩; dsimp only))
          go_ret
          exact ⟨by simp [beyN, h1, h2, h3, h4], rfl⟩
        · have qh4 : (du.op.imm == 0) = false := by simpa using h4
          go_enter Try.func75, Try.ntmps75
          go_wp2_with (first | (go_at_call 85; (with_reducible refine kx.mono ?_); rintro e w2 ⟨rfl, rfl⟩; dsimp only))
          go_ret
          exact ⟨by simp [beyN, h1, h2, h3, h4], rfl⟩
      · have qh3 : (du.op.kind == 1) = false := by simpa using h3
        go_enter Try.func75, Try.ntmps75
        go_wp2_with (first | (go_at_call 85; (with_reducible refine kx.mono ?_); rintro e w2 ⟨rfl, rfl⟩; dsimp only))
        go_ret
        exact ⟨by simp [beyN, h1, h2, h3], rfl⟩
    · rw [decide_eq_false h2] at ke
      go_enter Try.func75, Try.ntmps75
      go_wp2_with (first | (go_at_call 85; (with_reducible refine kx.mono ?_); rintro e w2 ⟨rfl, rfl⟩; dsimp only))
      go_ret
      exact ⟨by simp [beyN, h1, h2], rfl⟩
end
end Go.Proofs.Ytilbnjldfgofmaa
/- A row of items; do two of its values differ? -/
namespace Go.Proofs.Ytilbnjldfgofmaa
open Go.RowKit
set_option linter.unusedVariables false
set_option linter.unusedSimpArgs false
set_option maxRecDepth 8000

def idAt (ids : List Nat) (k : Nat) : Nat := ids.getD k 0
theorem idAt_some {ids : List Nat} {k : Nat} (h : k < ids.length) : ids[k]? = some (idAt ids k) := by unfold idAt; rw [List.getD_eq_getElem?_getD, List.getElem?_eq_getElem h]; rfl
theorem idAt_mem {ids : List Nat} {k : Nat} (h : k < ids.length) : idAt ids k ∈ ids := List.mem_of_getElem? (idAt_some h)
theorem idAt_inj {ids : List Nat} (hn : ids.Nodup) {i j : Nat} (hi : i < ids.length) (hj : j < ids.length) (e : idAt ids i = idAt ids j) : i = j := by
  have a := idx_of hn (idAt_some hi)
  have b := idx_of hn (idAt_some hj)
  rw [e] at a
  omega
/-- What an item is, where its row is this. -/
structure Fits (ids : List Nat) (o : Opr) (d : Nd) : Prop where
  kind : d.op.kind = o.kind
  r : d.op.r = o.r
  order : d.op.order = o.order
  imm : d.op.imm = o.imm
  a : d.pa = idAt ids o.a.toNat
  b : d.pb = idAt ids o.b.toNat
structure Gr (ids : List Nat) (l : List Opr) (w : World) : Prop where
  len : ids.length = l.length
  nd : ids.Nodup
  node : ∀ k, k < l.length → ∃ d, NdAt w (idAt ids k) d ∧ Fits ids (opAt l k) d
theorem Gr.grow {ids : List Nat} {l : List Opr} {w w' : World} (G : Gr ids l w) (hb : Below w.heap.size w w') : Gr ids l w' :=
  ⟨G.len, G.nd, fun k hk => by obtain ⟨d, h, f⟩ := G.node k hk; exact ⟨d, h.grow hb, f⟩⟩
theorem Gr.drew {ids : List Nat} {l : List Opr} {w : World} (G : Gr ids l w) (n : Nat) : Gr ids l (w.drewN n) := G.grow (below_drewN (Below.refl _ w))
theorem Gr.is {ids : List Nat} {l : List Opr} {w : World} (G : Gr ids l w) {k : Nat} (hk : k < l.length) : Is w (idAt ids k) := by obtain ⟨d, h, _⟩ := G.node k hk; exact ⟨d, h⟩
section
variable {pc words el : Int} {l : List Opr} {ids : List Nat} {w : World}
theorem ab_lt (h : rightB pc words el l = true) {k : Nat} (hk : k < l.length) : 0 ≤ (opAt l k).a ∧ (opAt l k).a.toNat < l.length ∧ 0 ≤ (opAt l k).b ∧ (opAt l k).b.toNat < l.length := by
  have ok := right_at h hk
  have h0 := (right_lens h).1
  refine ⟨?_, ?_, ?_, ?_⟩
  all_goals
    cases hA : hasP (opAt l k).kind 2 <;> cases hB : hasP (opAt l k).kind 4
  all_goals
    first
      | (have := use_lt h hk (uses_a hA); omega)
      | (have := noA ok hA; omega)
      | (have := use_lt h hk (uses_b hB); omega)
      | (have := noB ok hB; omega)
theorem numN_of {x y : Nat} {dx dy : Nd} (hx : Fits ids (opAt l x) dx) (hy : Fits ids (opAt l y) dy) : numN dx dy = otherN l x y := by
  unfold numN otherN isC
  rw [hx.kind, hy.kind, hx.imm, hy.imm, Int.toNat_natCast, Int.toNat_natCast]
theorem sumD_of {x : Nat} {dx : Nd} (hx : Fits ids (opAt l x) dx) : sumD dx = isS l x := by
  unfold sumD isS
  rw [hx.kind, hx.r, Int.toNat_natCast]
theorem id_beq (G : Gr ids l w) {i j : Int} (hi : 0 ≤ i) (hi2 : i.toNat < l.length) (hj : 0 ≤ j) (hj2 : j.toNat < l.length) : (idAt ids i.toNat == idAt ids j.toNat) = (i == j) := by
  have hl := G.len
  by_cases e : i = j
  · subst e; simp
  · have : idAt ids i.toNat ≠ idAt ids j.toNat := fun q => e (by have := idAt_inj G.nd (by omega) (by omega) q; omega)
    rw [beq_eq_false_iff_ne.2 this, beq_eq_false_iff_ne.2 e]
theorem numL_c (G : Gr ids l w) {x y : Nat} (hx : x < l.length) (hy : y < l.length) : Calls Try.prog 73 #[ptr (idAt ids x) 0, ptr (idAt ids y) 0] w fun e w' => e = .returned (.bool (otherN l x y)) ∧ ∃ n, w' = w.drewN n := by
  obtain ⟨dx, nx, fx⟩ := G.node x hx
  obtain ⟨dy, ny, fy⟩ := G.node y hy
  have := numbers_c nx ny
  rwa [numN_of fx fy] at this
theorem sumL_c (h : rightB pc words el l = true) (G : Gr ids l w) {x y : Nat} (hx : x < l.length) (hy : y < l.length) : Calls Try.prog 74 #[ptr (idAt ids x) 0, ptr (idAt ids y) 0] w fun e w' => e = .returned (.bool (otherS l x y)) ∧ ∃ n, w' = w.drewN n := by
  have ax := ab_lt h hx
  have ay := ab_lt h hy
  obtain ⟨dx, nx, fx⟩ := G.node x hx
  obtain ⟨dy, ny, fy⟩ := G.node y hy
  obtain ⟨du, nu, fu⟩ := G.node _ ax.2.2.2
  obtain ⟨dv, nv, fv⟩ := G.node _ ay.2.2.2
  have := sums_c nx ny (by rw [fx.b]; exact nu) (by rw [fy.b]; exact nv) (by rw [fx.a]; exact G.is ax.2.1) (by rw [fy.a]; exact G.is ay.2.1)
  have e : sumsN dx dy du dv = otherS l x y := by
    unfold sumsN otherS
    rw [sumD_of fx, sumD_of fy, fx.a, fy.a, id_beq G ax.1 ax.2.1 ay.1 ay.2.1, numN_of fu fv, Int.toNat_natCast, Int.toNat_natCast, Int.toNat_of_nonneg ax.2.2.1, Int.toNat_of_nonneg ay.2.2.1]
  rwa [e] at this
theorem beyL_c (h : rightB pc words el l = true) (G : Gr ids l w) {x y : Nat} (hx : x < l.length) (hy : y < l.length) : Calls Try.prog 75 #[ptr (idAt ids x) 0, ptr (idAt ids y) 0] w fun e w' => e = .returned (.bool (beyondB l x y)) ∧ w' = w := by
  have ax := ab_lt h hx
  obtain ⟨dx, nx, fx⟩ := G.node x hx
  obtain ⟨du, nu, fu⟩ := G.node _ ax.2.2.2
  have := beyond_c (y := idAt ids y) nx (by rw [fx.b]; exact nu) (by rw [fx.a]; exact G.is ax.2.1) (G.is hy)
  have e : beyN dx du (idAt ids y) = beyondB l x y := by
    unfold beyN beyondB
    have q := id_beq G ax.1 ax.2.1 (show (0 : Int) ≤ (y : Int) by omega) (by rw [Int.toNat_natCast]; exact hy)
    rw [Int.toNat_natCast] at q
    rw [sumD_of fx, fx.a, q, fu.kind, fu.imm, Int.toNat_natCast]
    rfl
  rwa [e] at this
set_option maxHeartbeats 400000 in
theorem differ_c (h : rightB pc words el l = true) (G : Gr ids l w) {x y : Nat} (hx : x < l.length) (hy : y < l.length) : Calls Try.prog 53 #[ptr (idAt ids x) 0, ptr (idAt ids y) 0] w fun e w' => e = .returned (.bool (differB l x y)) ∧ ∃ n, w' = w.drewN n := by
  have k1 := numL_c G hx hy
  have k2 := fun n => sumL_c h (G.drew n) hx hy
  have k3 := fun n => beyL_c h (G.drew n) hx hy
  have k4 := fun n => beyL_c h (G.drew n) hy hx
  have hD : differB l x y = (otherN l x y || otherS l x y || beyondB l x y || beyondB l y x) := rfl
  rw [hD]
  clear hD G hx hy h
  generalize idAt ids x = ix at *
  generalize idAt ids y = iy at *
  cases h1 : otherN l x y with
  | true =>
    rw [h1] at k1
    go_enter Try.func53, Try.ntmps53
    go_wp2_with (first | (go_at_call 73; (with_reducible refine k1.mono ?_); rintro e w2 ⟨rfl, n1, rfl⟩; dsimp only))
    go_ret
    exact ⟨by simp, _, rfl⟩
  | false =>
    rw [h1] at k1
    cases h2 : otherS l x y with
    | true =>
      rw [h2] at k2
      go_enter Try.func53, Try.ntmps53
      go_wp2_with (first | (go_at_call 73; (with_reducible refine k1.mono ?_); rintro e w2 ⟨rfl, n1, rfl⟩; dsimp only) | (go_at_call 74; (with_reducible refine (k2 _).mono ?_); rintro e w2 ⟨rfl, n2, rfl⟩; dsimp only))
      go_ret
      exact ⟨by simp, _, rfl⟩
    | false =>
      rw [h2] at k2
      cases h3 : beyondB l x y with
      | true =>
        rw [h3] at k3
        go_enter Try.func53, Try.ntmps53
        go_wp2_with (first | (go_at_call 73; (with_reducible refine k1.mono ?_); rintro e w2 ⟨rfl, n1, rfl⟩; dsimp only) | (go_at_call 74; (with_reducible refine (k2 _).mono ?_); rintro e w2 ⟨rfl, n2, rfl⟩; rw [World.drewN_drewN]; dsimp only) | (go_at_call 75; (with_reducible refine (k3 _).mono ?_); rintro e w2 ⟨rfl, rfl⟩; dsimp only))
        go_ret
        exact ⟨by simp, _, rfl⟩
      | false =>
        rw [h3] at k3
        go_enter Try.func53, Try.ntmps53
        go_wp2_with (first | (go_at_call 73; (with_reducible refine k1.mono ?_); rintro e w2 ⟨rfl, n1, rfl⟩; dsimp only) | (go_at_call 74; (with_reducible refine (k2 _).mono ?_); rintro e w2 ⟨rfl, n2, rfl⟩; rw [World.drewN_drewN]; dsimp only) | (go_at_call 75; (with_reducible refine (k3 _).mono ?_); rintro e w2 ⟨rfl, rfl⟩; dsimp only) | (go_at_call 75; (with_reducible refine (k4 _).mono ?_); rintro e w2 ⟨rfl, rfl⟩; dsimp only))
        go_ret
        exact ⟨by simp, _, rfl⟩
end
end Go.Proofs.Ytilbnjldfgofmaa
