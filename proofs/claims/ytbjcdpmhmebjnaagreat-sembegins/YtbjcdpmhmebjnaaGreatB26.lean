/- What the document's own Decode answers, for every word: its contract. -/
import Derived.Test.YtbjcdpmhmebjnaaGreatB25
import Derived.Test.YtbjcdpmhmebjnaaGreatB08
import Derived.Great.FillDense
import Derived.Great.BuildSlice
import Derived.Deep.MidRow
namespace Go.Proofs.YtbjcdpmhmebjnaaGreat
open Go.RowKit Go.Rel
set_option linter.unusedVariables false

def partI (x a m : Int) : Int := partE x a.toNat m.toNat
theorem partI_in (x : Int) (a m : Nat) : 0 ≤ partI x a m ∧ partI x a m < ((2 ^ m : Nat) : Int) := partE_in x a m
theorem partI_c (x a m : Int) (hx : Hid (0 ≤ x ∧ x < 4294967296)) (ha : 0 ≤ a) (ha2 : a ≤ 31) (hm : 0 ≤ m) (hm2 : m ≤ 32) (w : World) :
    Calls Tryz.prog 45 #[.int .u32 x, vI a, vI m] w fun e w' => e = .returned (vI (partI x a m)) ∧ Below w.heap.size w w' := by
  have := part_c x a.toNat m.toNat hx (by omega) (by omega) w
  rw [Int.toNat_of_nonneg ha, Int.toNat_of_nonneg hm] at this
  refine this.mono ?_
  rintro e w' ⟨rfl, n, rfl⟩
  exact ⟨rfl, below_drewN (Below.refl _ _) n⟩
def sigI (x a m : Int) : Int := sgE (partE x a.toNat m.toNat) m.toNat
theorem sigI_c (x a m : Int) (hx : Hid (0 ≤ x ∧ x < 4294967296)) (ha : 0 ≤ a) (ha2 : a ≤ 31) (hm : m = 14 ∨ m = 19 ∨ m = 26) (w : World) :
    Calls Tryz.prog 46 #[.int .u32 x, vI a, vI m] w fun e w' => e = .returned (vI (sigI x a m)) ∧ Below w.heap.size w w' := by
  have key : Calls Tryz.prog 46 #[.int .u32 x, vI a, vI m] w fun e w' => e = .returned (vI (sigI x a m)) ∧ ∃ n, w' = w.drewN n := by
    have e : a = ((a.toNat : Nat) : Int) := (Int.toNat_of_nonneg ha).symm
    rcases hm with rfl | rfl | rfl
    · have := rsigned14_c x a.toNat hx (by omega) w; rwa [Int.toNat_of_nonneg ha] at this
    · have := rsigned19_c x a.toNat hx (by omega) w; rwa [Int.toNat_of_nonneg ha] at this
    · have := rsigned26_c x a.toNat hx (by omega) w; rwa [Int.toNat_of_nonneg ha] at this
  refine key.mono ?_
  rintro e w' ⟨rfl, n, rfl⟩
  exact ⟨rfl, below_drewN (Below.refl _ _) n⟩
theorem sig_in (x a : Int) : (-8192 ≤ sigI x a 14 ∧ sigI x a 14 ≤ 8191) ∧ (-262144 ≤ sigI x a 19 ∧ sigI x a 19 ≤ 262143) ∧ (-33554432 ≤ sigI x a 26 ∧ sigI x a 26 ≤ 33554431) := by
  have h1 : 0 ≤ partE x a.toNat 14 ∧ partE x a.toNat 14 < 16384 := partE_in _ _ 14
  have h2 : 0 ≤ partE x a.toNat 19 ∧ partE x a.toNat 19 < 524288 := partE_in _ _ 19
  have h3 : 0 ≤ partE x a.toNat 26 ∧ partE x a.toNat 26 < 67108864 := partE_in _ _ 26
  rw [show sigI x a 14 = sgE (partE x a.toNat 14) 14 from rfl, show sigI x a 19 = sgE (partE x a.toNat 19) 19 from rfl, show sigI x a 26 = sgE (partE x a.toNat 26) 26 from rfl, sgE14, sgE19, sgE26]
  refine ⟨?_, ?_, ?_⟩ <;> split <;> omega
structure Rd (w0 w : World) : Prop where
  below : Below w0.heap.size w0 w
  res : ∃ Z : Array Value, Z.size = 16 ∧ w.heap[w0.heap.size]? = some (.cells Z 47)
theorem Rd.grow {w0 w w' : World} (h : Rd w0 w) (hb : Below w.heap.size w w') : Rd w0 w' :=
  ⟨h.below.trans (hb.mono h.below.size), by obtain ⟨Z, hz, hr⟩ := h.res; exact ⟨Z, hz, by rw [hb.block _ (Array.getElem?_eq_some_iff.1 hr).1]; exact hr⟩⟩
def rfind (x : Int) : List Ins → Ins
  | [] => nilI
  | i :: l => bif rightB i && (encV i).1 == x then i else rfind x l
theorem wpList_buildRow {P : Program} {ops : Array Oper} {rest : List Oper} {o : Oper} {a : Act} {w : World} {Q : Exit → Act → World → Prop} (hg : o.guard = none) (t e : TypeId) (len : Nat) (parts : Array (Nat × Operand)) (ho : o.op = .buildSlice t len parts)
    (s : Nat) (vs : List Value) (hu : P.underlying t = some (.slice e)) (hsz : (P.info? e).map (·.size) = some s) (hz : ((P.info? e).bind (·.zero)).isSome = true) (hs : 0 < s) (h1 : ∀ v ∈ vs, v.cells.size = s)
    (hlen : len = vs.length) (hpos : ¬ len * s = 0) (hsmall : ¬ len * s > 2 ^ 24) (hparts : (parts.map fun (i, x) => (i, a.eval x)).toList = (vs.zipIdx 0).map fun x => (x.2, x.1))
    (h : wpList P ops Q rest (a.put o.dst (.slice (some ⟨w.heap.size, 0, none⟩) len len)) (w.alloc (.cells (vs.flatMap fun v => v.cells.toList).toArray e))) : wpList P ops Q (o :: rest) a w := by
  cases hie : P.info? e with
  | none => simp [hie] at hsz
  | some ie =>
    simp only [hie, Option.map_some, Option.some.injEq, Option.bind_some] at hsz hz
    obtain ⟨z, hzz⟩ := Option.isSome_iff_exists.1 hz
    refine wpList_buildSlice hg t e len parts ho _ ie z hu hie hzz (by rw [hsz]; exact hsmall) (by rw [hsz]; exact hpos) ?_ h
    rw [hparts, hsz]
    exact Great.fill_whole hs vs _ h1 (by simp [hlen])
/-- The result's cell, and the row of what each Op would make of the word. -/
structure Rl (L : List Ins) (g : Nat) (w0 w : World) : Prop where
  below : Below w0.heap.size w0 w
  res : ∃ Z : Array Value, Z.size = 16 ∧ w.heap[w0.heap.size]? = some (.cells Z 47)
  tab : w.heap[g]? = some (.cells ((L.map Ins.val).flatMap fun v => v.cells.toList).toArray 47)
theorem Rl.grow {L : List Ins} {g : Nat} {w0 w w' : World} (h : Rl L g w0 w) (hb : Below w.heap.size w w') : Rl L g w0 w' :=
  ⟨h.below.trans (hb.mono h.below.size), by obtain ⟨Z, hz, hr⟩ := h.res; exact ⟨Z, hz, by rw [hb.block _ (Array.getElem?_eq_some_iff.1 hr).1]; exact hr⟩, by rw [hb.block _ (Array.getElem?_eq_some_iff.1 h.tab).1]; exact h.tab⟩
theorem rl_start {w0 w : World} (h : Rd w0 w) (L : List Ins) : Rl L w.heap.size w0 (w.alloc (.cells ((L.map Ins.val).flatMap fun v => v.cells.toList).toArray 47)) :=
  ⟨below_more h.below, by obtain ⟨Z, hz, hr⟩ := h.res; exact ⟨Z, hz, by rw [Below.heap_alloc _ _ _ (Array.getElem?_eq_some_iff.1 hr).1]; exact hr⟩, heap_alloc_new _ _⟩
theorem row_at {w : World} {g : Nat} {L : List Ins} {k : Nat} {i : Ins} (h : w.heap[g]? = some (.cells ((L.map Ins.val).flatMap fun v => v.cells.toList).toArray 47)) (hk : L[k]? = some i) : w.rangeAt g (k * 16) i.cells.toList := by
  intro j v hv
  rw [cell_of_row _ _ _ _ _ _ h]
  have hj : j < 16 := (List.getElem?_eq_some_iff.1 hv).1
  have e : (((L.map Ins.val).flatMap fun v => v.cells.toList).toArray)[k * 16 + j]? = ((L.map Ins.val).flatMap fun v => v.cells.toList)[k * 16 + j]? := by simp
  rw [e, Great.flat_get (s := 16) (by decide) _ (fun v hv => by obtain ⟨i, _, rfl⟩ := List.mem_map.1 hv; rfl), show (k * 16 + j) / 16 = k by omega, show (k * 16 + j) % 16 = j by omega, List.getElem?_map, hk]
  show i.cells[j]? = some v
  rw [← Array.getElem?_toList]; exact hv
theorem partJ {x a m : Int} {w : World} (hx : Hid (0 ≤ x ∧ x < 4294967296)) (ha : 0 ≤ a := by decide) (ha2 : a ≤ 31 := by decide) (hm : 0 ≤ m := by decide) (hm2 : m ≤ 32 := by decide) :
    Calls Tryz.prog 45 #[.int .u32 x, vI a, vI m] w fun e w' => e = .returned (vI (partI x a m)) ∧ Below w.heap.size w w' := partI_c x a m hx ha ha2 hm hm2 w
theorem sigJ {x a m : Int} {w : World} (hx : Hid (0 ≤ x ∧ x < 4294967296)) (ha : 0 ≤ a := by decide) (ha2 : a ≤ 31 := by decide) (hm : m = 14 ∨ m = 19 ∨ m = 26 := by decide) :
    Calls Tryz.prog 46 #[.int .u32 x, vI a, vI m] w fun e w' => e = .returned (vI (sigI x a m)) ∧ Below w.heap.size w w' := sigI_c x a m hx ha ha2 hm w
def rdec (x kk : Int) : List Ins := [
  ⟨1, 0, partI x 0 5, partI x 5 5, 0, 0, partI x 10 12, 0, 12 * partI x 22 1, 0, 0, 0, partI x 29 1 == 1, partI x 30 1 == 1, false, false⟩,
  ⟨2, 0, partI x 0 5, partI x 5 5, partI x 16 5, 0, 0, 0, partI x 10 6, partI x 22 2, 0, 0, partI x 29 1 == 1, partI x 30 1 == 1, false, false⟩,
  ⟨3, partI x 29 2 % 3, partI x 0 5, partI x 5 5, partI x 16 5, 0, 0, 0, partI x 10 6, partI x 22 2, 0, 0, partI x 29 2 == 3, false, partI x 21 1 == 1, false⟩,
  ⟨4, partI x 29 2 % 3, partI x 0 5, partI x 5 5, 0, 0, partI x 16 6, partI x 10 6, partI x 22 1, 0, 0, 0, partI x 29 2 == 3, false, false, false⟩,
  ⟨5, partI x 29 2, partI x 0 5, 0, 0, 0, partI x 5 16, 0, 16 * partI x 21 2, 0, 0, 0, false, false, false, false⟩,
  ⟨6, partI x 29 2, partI x 0 5, partI x 5 5, 0, 0, partI x 16 6, partI x 10 6, 0, 0, 0, 0, false, false, false, false⟩,
  ⟨7, partI x 10 2, partI x 0 5, partI x 5 5, partI x 16 5, 0, 0, 0, 0, 0, 0, 0, false, false, false, false⟩,
  ⟨8, 0, partI x 0 5, partI x 5 5, partI x 16 5, partI x 10 5, 0, 0, 0, 0, 0, 0, false, partI x 15 1 == 1, false, false⟩,
  ⟨9, partI x 10 1, partI x 0 5, partI x 5 5, partI x 16 5, 0, 0, 0, 0, 0, 0, 0, false, false, false, false⟩,
  ⟨10, 2 * partI x 30 1 + partI x 10 1, partI x 0 5, partI x 5 5, partI x 16 5, 0, 0, 0, 0, 0, partI x 12 4, 0, false, false, false, false⟩,
  ⟨11, 0, partI x 0 5, 0, 0, 0, 4 * sigI x 5 19 + partI x 29 2, 0, 0, 0, 0, 0, false, false, false, false⟩,
  ⟨11, 1, partI x 0 5, 0, 0, 0, 4096 * (4 * sigI x 5 19 + partI x 29 2), 0, 0, 0, 0, 0, false, false, false, false⟩,
  ⟨12, 0, 0, 0, 0, 0, 4 * sigI x 0 26, 0, 0, 0, 0, 0, false, false, false, partI x 31 1 == 1⟩,
  ⟨13, 0, 0, 0, 0, 0, 4 * sigI x 5 19, 0, 0, 0, partI x 0 4, 0, false, false, false, false⟩,
  ⟨14, 0, partI x 0 5, 0, 0, 0, 4 * sigI x 5 19, 0, 0, 0, 0, 0, false, false, partI x 24 1 == 1, false⟩,
  ⟨15, 0, partI x 0 5, 0, 0, 0, 4 * sigI x 5 14, 0, 32 * partI x 31 1 + partI x 19 5, 0, 0, 0, false, false, partI x 24 1 == 1, false⟩,
  ⟨16, partI x 21 2, 0, partI x 5 5, 0, 0, 0, 0, 0, 0, 0, 0, false, false, false, false⟩,
  ⟨17, 0, partI x 0 5, partI x 5 5, 0, 0, 8 * partI x 10 12, 0, 0, 0, 0, 0, false, false, false, false⟩,
  ⟨18, 0, partI x 0 5, partI x 5 5, 0, 0, 8 * partI x 10 12, 0, 0, 0, 0, 0, false, false, false, false⟩,
  ⟨19, 0, partI x 0 5, partI x 5 5, partI x 16 5, 0, 0, 0, kk, 0, 0, 0, false, false, false, false⟩,
  ⟨20, 0, partI x 0 5, partI x 5 5, partI x 16 5, 0, 0, 0, kk, 0, 0, 0, false, false, false, false⟩,
  ⟨21, 0, partI x 0 5, partI x 5 5, 0, 0, 0, 0, 0, 0, 0, 0, false, false, false, false⟩,
  ⟨21, 1, partI x 0 5, partI x 5 5, 0, 0, 0, 0, 0, 0, 0, 0, false, false, false, false⟩,
  ⟨22, 0, partI x 0 5, partI x 5 5, 0, 0, 0, 0, 0, 0, 0, 0, false, false, false, false⟩,
  ⟨23, partI x 15 1, partI x 0 5, partI x 5 5, 0, 0, 0, 0, 0, 0, 0, 0, false, false, false, false⟩,
  ⟨24, partI x 15 1, partI x 0 5, partI x 5 5, partI x 16 5, 0, 0, 0, 0, 0, 0, 0, false, false, false, false⟩,
  ⟨25, 0, 0, 0, 0, 0, 0, 0, 0, 0, 0, 0, false, false, false, false⟩,
  ⟨26, 0, 0, 0, 0, 0, partI x 8 2, 0, 0, 0, 0, 0, false, false, false, false⟩,
  ⟨26, 1, 0, 0, 0, 0, partI x 8 2, 0, 0, 0, 0, 0, false, false, false, false⟩,
  ⟨27, 0, 0, 0, 0, 0, 0, 0, 0, 0, 0, 0, false, false, false, false⟩,
  ⟨28, 0, partI x 0 5, 0, 0, 0, 0, 0, 0, 0, 0, 0, false, false, false, false⟩,
  ⟨30, 0, partI x 0 5, 0, 0, 0, 0, 0, 0, 0, 0, 0, false, false, false, false⟩,
  ⟨29, 0, 0, 0, 0, 0, 0, 0, 0, 0, 0, 0, false, false, false, false⟩,
  ⟨31, 0, partI x 0 5, 0, 0, 0, 0, 0, 0, 0, 0, partI x 5 15, false, false, false, false⟩,
  ⟨32, 0, partI x 0 5, 0, 0, 0, 0, 0, 0, 0, 0, partI x 5 15, false, false, false, false⟩,
  ⟨33, 0, 0, 0, 0, 0, partI x 8 4, 0, 0, 0, 0, 0, false, false, false, false⟩,
  ⟨33, 1, 0, 0, 0, 0, partI x 8 4, 0, 0, 0, 0, 0, false, false, false, false⟩,
  ⟨34, 0, 0, 0, 0, 0, partI x 5 16, 0, 0, 0, 0, 0, false, false, false, false⟩,
  ⟨35, 0, 0, 0, 0, 0, partI x 5 16, 0, 0, 0, 0, 0, false, false, false, false⟩,
  ⟨36, 0, 0, 0, 0, 0, 0, 0, 0, 0, 0, 0, false, false, false, false⟩,
  ⟨37, 0, 0, 0, 0, 0, partI x 5 3, 0, 0, 0, 0, 0, false, false, false, false⟩]
set_option maxRecDepth 10000 in
set_option maxHeartbeats 16000000 in
theorem rdecode_0 (x : Int) (hx : Hid (0 ≤ x ∧ x < 4294967296)) (hk : (partI x 12 1 == 1) = false) (w : World) :
    Calls Tryz.prog 24 #[.int .u32 x] w fun e w' => e = .returned (rfind x (rdec x 0)).val ∧ Below w.heap.size w w' := by
  have p22_1 : 0 ≤ partI x 22 1 ∧ partI x 22 1 < 2 := partI_in x 22 1
  have p21_2 : 0 ≤ partI x 21 2 ∧ partI x 21 2 < 4 := partI_in x 21 2
  have p30_1 : 0 ≤ partI x 30 1 ∧ partI x 30 1 < 2 := partI_in x 30 1
  have p10_1 : 0 ≤ partI x 10 1 ∧ partI x 10 1 < 2 := partI_in x 10 1
  have p31_1 : 0 ≤ partI x 31 1 ∧ partI x 31 1 < 2 := partI_in x 31 1
  have p19_5 : 0 ≤ partI x 19 5 ∧ partI x 19 5 < 32 := partI_in x 19 5
  have p10_12 : 0 ≤ partI x 10 12 ∧ partI x 10 12 < 4096 := partI_in x 10 12
  have p29_2 : 0 ≤ partI x 29 2 ∧ partI x 29 2 < 4 := partI_in x 29 2
  have s5 := (sig_in x 5).2.1
  have s0 := (sig_in x 0).2.2
  have s4 := (sig_in x 5).1
  obtain ⟨c0, h0⟩ : ∃ c, Ins.cells ⟨1, 0, partI x 0 5, partI x 5 5, 0, 0, partI x 10 12, 0, 12 * partI x 22 1, 0, 0, 0, partI x 29 1 == 1, partI x 30 1 == 1, false, false⟩ = c := ⟨_, rfl⟩
  obtain ⟨c1, h1⟩ : ∃ c, Ins.cells ⟨2, 0, partI x 0 5, partI x 5 5, partI x 16 5, 0, 0, 0, partI x 10 6, partI x 22 2, 0, 0, partI x 29 1 == 1, partI x 30 1 == 1, false, false⟩ = c := ⟨_, rfl⟩
  obtain ⟨c2, h2⟩ : ∃ c, Ins.cells ⟨3, partI x 29 2 % 3, partI x 0 5, partI x 5 5, partI x 16 5, 0, 0, 0, partI x 10 6, partI x 22 2, 0, 0, partI x 29 2 == 3, false, partI x 21 1 == 1, false⟩ = c := ⟨_, rfl⟩
  obtain ⟨c3, h3⟩ : ∃ c, Ins.cells ⟨4, partI x 29 2 % 3, partI x 0 5, partI x 5 5, 0, 0, partI x 16 6, partI x 10 6, partI x 22 1, 0, 0, 0, partI x 29 2 == 3, false, false, false⟩ = c := ⟨_, rfl⟩
  obtain ⟨c4, h4⟩ : ∃ c, Ins.cells ⟨5, partI x 29 2, partI x 0 5, 0, 0, 0, partI x 5 16, 0, 16 * partI x 21 2, 0, 0, 0, false, false, false, false⟩ = c := ⟨_, rfl⟩
  obtain ⟨c5, h5⟩ : ∃ c, Ins.cells ⟨6, partI x 29 2, partI x 0 5, partI x 5 5, 0, 0, partI x 16 6, partI x 10 6, 0, 0, 0, 0, false, false, false, false⟩ = c := ⟨_, rfl⟩
  obtain ⟨c6, h6⟩ : ∃ c, Ins.cells ⟨7, partI x 10 2, partI x 0 5, partI x 5 5, partI x 16 5, 0, 0, 0, 0, 0, 0, 0, false, false, false, false⟩ = c := ⟨_, rfl⟩
  obtain ⟨c7, h7⟩ : ∃ c, Ins.cells ⟨8, 0, partI x 0 5, partI x 5 5, partI x 16 5, partI x 10 5, 0, 0, 0, 0, 0, 0, false, partI x 15 1 == 1, false, false⟩ = c := ⟨_, rfl⟩
  obtain ⟨c8, h8⟩ : ∃ c, Ins.cells ⟨9, partI x 10 1, partI x 0 5, partI x 5 5, partI x 16 5, 0, 0, 0, 0, 0, 0, 0, false, false, false, false⟩ = c := ⟨_, rfl⟩
  obtain ⟨c9, h9⟩ : ∃ c, Ins.cells ⟨10, 2 * partI x 30 1 + partI x 10 1, partI x 0 5, partI x 5 5, partI x 16 5, 0, 0, 0, 0, 0, partI x 12 4, 0, false, false, false, false⟩ = c := ⟨_, rfl⟩
  obtain ⟨c10, h10⟩ : ∃ c, Ins.cells ⟨11, 0, partI x 0 5, 0, 0, 0, 4 * sigI x 5 19 + partI x 29 2, 0, 0, 0, 0, 0, false, false, false, false⟩ = c := ⟨_, rfl⟩
  obtain ⟨c11, h11⟩ : ∃ c, Ins.cells ⟨11, 1, partI x 0 5, 0, 0, 0, 4096 * (4 * sigI x 5 19 + partI x 29 2), 0, 0, 0, 0, 0, false, false, false, false⟩ = c := ⟨_, rfl⟩
  obtain ⟨c12, h12⟩ : ∃ c, Ins.cells ⟨12, 0, 0, 0, 0, 0, 4 * sigI x 0 26, 0, 0, 0, 0, 0, false, false, false, partI x 31 1 == 1⟩ = c := ⟨_, rfl⟩
  obtain ⟨c13, h13⟩ : ∃ c, Ins.cells ⟨13, 0, 0, 0, 0, 0, 4 * sigI x 5 19, 0, 0, 0, partI x 0 4, 0, false, false, false, false⟩ = c := ⟨_, rfl⟩
  obtain ⟨c14, h14⟩ : ∃ c, Ins.cells ⟨14, 0, partI x 0 5, 0, 0, 0, 4 * sigI x 5 19, 0, 0, 0, 0, 0, false, false, partI x 24 1 == 1, false⟩ = c := ⟨_, rfl⟩
  obtain ⟨c15, h15⟩ : ∃ c, Ins.cells ⟨15, 0, partI x 0 5, 0, 0, 0, 4 * sigI x 5 14, 0, 32 * partI x 31 1 + partI x 19 5, 0, 0, 0, false, false, partI x 24 1 == 1, false⟩ = c := ⟨_, rfl⟩
  obtain ⟨c16, h16⟩ : ∃ c, Ins.cells ⟨16, partI x 21 2, 0, partI x 5 5, 0, 0, 0, 0, 0, 0, 0, 0, false, false, false, false⟩ = c := ⟨_, rfl⟩
  obtain ⟨c17, h17⟩ : ∃ c, Ins.cells ⟨17, 0, partI x 0 5, partI x 5 5, 0, 0, 8 * partI x 10 12, 0, 0, 0, 0, 0, false, false, false, false⟩ = c := ⟨_, rfl⟩
  obtain ⟨c18, h18⟩ : ∃ c, Ins.cells ⟨18, 0, partI x 0 5, partI x 5 5, 0, 0, 8 * partI x 10 12, 0, 0, 0, 0, 0, false, false, false, false⟩ = c := ⟨_, rfl⟩
  obtain ⟨c19, h19⟩ : ∃ c, Ins.cells ⟨19, 0, partI x 0 5, partI x 5 5, partI x 16 5, 0, 0, 0, 0, 0, 0, 0, false, false, false, false⟩ = c := ⟨_, rfl⟩
  obtain ⟨c20, h20⟩ : ∃ c, Ins.cells ⟨20, 0, partI x 0 5, partI x 5 5, partI x 16 5, 0, 0, 0, 0, 0, 0, 0, false, false, false, false⟩ = c := ⟨_, rfl⟩
  obtain ⟨c21, h21⟩ : ∃ c, Ins.cells ⟨21, 0, partI x 0 5, partI x 5 5, 0, 0, 0, 0, 0, 0, 0, 0, false, false, false, false⟩ = c := ⟨_, rfl⟩
  obtain ⟨c22, h22⟩ : ∃ c, Ins.cells ⟨21, 1, partI x 0 5, partI x 5 5, 0, 0, 0, 0, 0, 0, 0, 0, false, false, false, false⟩ = c := ⟨_, rfl⟩
  obtain ⟨c23, h23⟩ : ∃ c, Ins.cells ⟨22, 0, partI x 0 5, partI x 5 5, 0, 0, 0, 0, 0, 0, 0, 0, false, false, false, false⟩ = c := ⟨_, rfl⟩
  obtain ⟨c24, h24⟩ : ∃ c, Ins.cells ⟨23, partI x 15 1, partI x 0 5, partI x 5 5, 0, 0, 0, 0, 0, 0, 0, 0, false, false, false, false⟩ = c := ⟨_, rfl⟩
  obtain ⟨c25, h25⟩ : ∃ c, Ins.cells ⟨24, partI x 15 1, partI x 0 5, partI x 5 5, partI x 16 5, 0, 0, 0, 0, 0, 0, 0, false, false, false, false⟩ = c := ⟨_, rfl⟩
  obtain ⟨c26, h26⟩ : ∃ c, Ins.cells ⟨25, 0, 0, 0, 0, 0, 0, 0, 0, 0, 0, 0, false, false, false, false⟩ = c := ⟨_, rfl⟩
  obtain ⟨c27, h27⟩ : ∃ c, Ins.cells ⟨26, 0, 0, 0, 0, 0, partI x 8 2, 0, 0, 0, 0, 0, false, false, false, false⟩ = c := ⟨_, rfl⟩
  obtain ⟨c28, h28⟩ : ∃ c, Ins.cells ⟨26, 1, 0, 0, 0, 0, partI x 8 2, 0, 0, 0, 0, 0, false, false, false, false⟩ = c := ⟨_, rfl⟩
  obtain ⟨c29, h29⟩ : ∃ c, Ins.cells ⟨27, 0, 0, 0, 0, 0, 0, 0, 0, 0, 0, 0, false, false, false, false⟩ = c := ⟨_, rfl⟩
  obtain ⟨c30, h30⟩ : ∃ c, Ins.cells ⟨28, 0, partI x 0 5, 0, 0, 0, 0, 0, 0, 0, 0, 0, false, false, false, false⟩ = c := ⟨_, rfl⟩
  obtain ⟨c31, h31⟩ : ∃ c, Ins.cells ⟨30, 0, partI x 0 5, 0, 0, 0, 0, 0, 0, 0, 0, 0, false, false, false, false⟩ = c := ⟨_, rfl⟩
  obtain ⟨c32, h32⟩ : ∃ c, Ins.cells ⟨29, 0, 0, 0, 0, 0, 0, 0, 0, 0, 0, 0, false, false, false, false⟩ = c := ⟨_, rfl⟩
  obtain ⟨c33, h33⟩ : ∃ c, Ins.cells ⟨31, 0, partI x 0 5, 0, 0, 0, 0, 0, 0, 0, 0, partI x 5 15, false, false, false, false⟩ = c := ⟨_, rfl⟩
  obtain ⟨c34, h34⟩ : ∃ c, Ins.cells ⟨32, 0, partI x 0 5, 0, 0, 0, 0, 0, 0, 0, 0, partI x 5 15, false, false, false, false⟩ = c := ⟨_, rfl⟩
  obtain ⟨c35, h35⟩ : ∃ c, Ins.cells ⟨33, 0, 0, 0, 0, 0, partI x 8 4, 0, 0, 0, 0, 0, false, false, false, false⟩ = c := ⟨_, rfl⟩
  obtain ⟨c36, h36⟩ : ∃ c, Ins.cells ⟨33, 1, 0, 0, 0, 0, partI x 8 4, 0, 0, 0, 0, 0, false, false, false, false⟩ = c := ⟨_, rfl⟩
  obtain ⟨c37, h37⟩ : ∃ c, Ins.cells ⟨34, 0, 0, 0, 0, 0, partI x 5 16, 0, 0, 0, 0, 0, false, false, false, false⟩ = c := ⟨_, rfl⟩
  obtain ⟨c38, h38⟩ : ∃ c, Ins.cells ⟨35, 0, 0, 0, 0, 0, partI x 5 16, 0, 0, 0, 0, 0, false, false, false, false⟩ = c := ⟨_, rfl⟩
  obtain ⟨c39, h39⟩ : ∃ c, Ins.cells ⟨36, 0, 0, 0, 0, 0, 0, 0, 0, 0, 0, 0, false, false, false, false⟩ = c := ⟨_, rfl⟩
  obtain ⟨c40, h40⟩ : ∃ c, Ins.cells ⟨37, 0, 0, 0, 0, 0, partI x 5 3, 0, 0, 0, 0, 0, false, false, false, false⟩ = c := ⟨_, rfl⟩
  have hV : ([.agg c0, .agg c1, .agg c2, .agg c3, .agg c4, .agg c5, .agg c6, .agg c7, .agg c8, .agg c9, .agg c10, .agg c11, .agg c12, .agg c13, .agg c14, .agg c15, .agg c16, .agg c17, .agg c18, .agg c19, .agg c20, .agg c21, .agg c22, .agg c23, .agg c24, .agg c25, .agg c26, .agg c27, .agg c28, .agg c29, .agg c30, .agg c31, .agg c32, .agg c33, .agg c34, .agg c35, .agg c36, .agg c37, .agg c38, .agg c39, .agg c40] : List Value) = (rdec x 0).map Ins.val := by subst h0 h1 h2 h3 h4 h5 h6 h7 h8 h9 h10 h11 h12 h13 h14 h15 h16 h17 h18 h19 h20 h21 h22 h23 h24 h25 h26 h27 h28 h29 h30 h31 h32 h33 h34 h35 h36 h37 h38 h39 h40; rfl
  replace h0 := show Hid _ from h0
  replace h1 := show Hid _ from h1
  replace h2 := show Hid _ from h2
  replace h3 := show Hid _ from h3
  replace h4 := show Hid _ from h4
  replace h5 := show Hid _ from h5
  replace h6 := show Hid _ from h6
  replace h7 := show Hid _ from h7
  replace h8 := show Hid _ from h8
  replace h9 := show Hid _ from h9
  replace h10 := show Hid _ from h10
  replace h11 := show Hid _ from h11
  replace h12 := show Hid _ from h12
  replace h13 := show Hid _ from h13
  replace h14 := show Hid _ from h14
  replace h15 := show Hid _ from h15
  replace h16 := show Hid _ from h16
  replace h17 := show Hid _ from h17
  replace h18 := show Hid _ from h18
  replace h19 := show Hid _ from h19
  replace h20 := show Hid _ from h20
  replace h21 := show Hid _ from h21
  replace h22 := show Hid _ from h22
  replace h23 := show Hid _ from h23
  replace h24 := show Hid _ from h24
  replace h25 := show Hid _ from h25
  replace h26 := show Hid _ from h26
  replace h27 := show Hid _ from h27
  replace h28 := show Hid _ from h28
  replace h29 := show Hid _ from h29
  replace h30 := show Hid _ from h30
  replace h31 := show Hid _ from h31
  replace h32 := show Hid _ from h32
  replace h33 := show Hid _ from h33
  replace h34 := show Hid _ from h34
  replace h35 := show Hid _ from h35
  replace h36 := show Hid _ from h36
  replace h37 := show Hid _ from h37
  replace h38 := show Hid _ from h38
  replace h39 := show Hid _ from h39
  replace h40 := show Hid _ from h40
  replace hV := show Hid _ from hV
  generalize hLL : rdec x 0 = L at hV
  have hlen : L.length = 41 := by rw [← hLL]; rfl
  go_enter Tryz.func24, Tryz.ntmps24
  go_upto_region 1 with fail
  generalize hW : w.alloc _ = w1
  have H : Rd w w1 := by rw [← hW]; exact ⟨below_alloc _ _, _, rfl, heap_alloc_new _ _⟩
  clear hW
  go_upto_region 14 with (first | (go_at_call 45; refine (partJ hx).mono ?_; rintro e w' ⟨rfl, hb⟩; replace H := H.grow hb; clear hb; dsimp only) | (go_at_call 46; refine (sigJ hx).mono ?_; rintro e w' ⟨rfl, hb⟩; replace H := H.grow hb; clear hb; dsimp only))
  refine wp_region_lit ?_
  iterate 15 (first | (go_at_call 45; refine (partJ hx).mono ?_; rintro e w' ⟨rfl, hb⟩; replace H := H.grow hb; clear hb; dsimp only) | (go_at_call 46; refine (sigJ hx).mono ?_; rintro e w' ⟨rfl, hb⟩; replace H := H.grow hb; clear hb; dsimp only) | go_step)
  show wpList Tryz.prog _ _ (_ :: _) _ _
  with_reducible refine wpList_built rfl 47 _ rfl c0 (by rw [← h0.out]; kernel_rfl) ?_
  simp only [Act.put, List.setIfInBounds_toArray, List.set_cons_succ, List.set_cons_zero]
  iterate 20 (first | (go_at_call 45; refine (partJ hx).mono ?_; rintro e w' ⟨rfl, hb⟩; replace H := H.grow hb; clear hb; dsimp only) | (go_at_call 46; refine (sigJ hx).mono ?_; rintro e w' ⟨rfl, hb⟩; replace H := H.grow hb; clear hb; dsimp only) | go_step)
  show wpList Tryz.prog _ _ (_ :: _) _ _
  with_reducible refine wpList_built rfl 47 _ rfl c1 (by rw [← h1.out]; kernel_rfl) ?_
  simp only [Act.put, List.setIfInBounds_toArray, List.set_cons_succ, List.set_cons_zero]
  iterate 31 (first | (go_at_call 45; refine (partJ hx).mono ?_; rintro e w' ⟨rfl, hb⟩; replace H := H.grow hb; clear hb; dsimp only) | (go_at_call 46; refine (sigJ hx).mono ?_; rintro e w' ⟨rfl, hb⟩; replace H := H.grow hb; clear hb; dsimp only) | go_step)
  show wpList Tryz.prog _ _ (_ :: _) _ _
  with_reducible refine wpList_built rfl 47 _ rfl c2 (by rw [← h2.out]; kernel_rfl) ?_
  simp only [Act.put, List.setIfInBounds_toArray, List.set_cons_succ, List.set_cons_zero]
  iterate 27 (first | (go_at_call 45; refine (partJ hx).mono ?_; rintro e w' ⟨rfl, hb⟩; replace H := H.grow hb; clear hb; dsimp only) | (go_at_call 46; refine (sigJ hx).mono ?_; rintro e w' ⟨rfl, hb⟩; replace H := H.grow hb; clear hb; dsimp only) | go_step)
  show wpList Tryz.prog _ _ (_ :: _) _ _
  with_reducible refine wpList_built rfl 47 _ rfl c3 (by rw [← h3.out]; kernel_rfl) ?_
  simp only [Act.put, List.setIfInBounds_toArray, List.set_cons_succ, List.set_cons_zero]
  iterate 16 (first | (go_at_call 45; refine (partJ hx).mono ?_; rintro e w' ⟨rfl, hb⟩; replace H := H.grow hb; clear hb; dsimp only) | (go_at_call 46; refine (sigJ hx).mono ?_; rintro e w' ⟨rfl, hb⟩; replace H := H.grow hb; clear hb; dsimp only) | go_step)
  show wpList Tryz.prog _ _ (_ :: _) _ _
  with_reducible refine wpList_built rfl 47 _ rfl c4 (by rw [← h4.out]; kernel_rfl) ?_
  simp only [Act.put, List.setIfInBounds_toArray, List.set_cons_succ, List.set_cons_zero]
  iterate 16 (first | (go_at_call 45; refine (partJ hx).mono ?_; rintro e w' ⟨rfl, hb⟩; replace H := H.grow hb; clear hb; dsimp only) | (go_at_call 46; refine (sigJ hx).mono ?_; rintro e w' ⟨rfl, hb⟩; replace H := H.grow hb; clear hb; dsimp only) | go_step)
  show wpList Tryz.prog _ _ (_ :: _) _ _
  with_reducible refine wpList_built rfl 47 _ rfl c5 (by rw [← h5.out]; kernel_rfl) ?_
  simp only [Act.put, List.setIfInBounds_toArray, List.set_cons_succ, List.set_cons_zero]
  iterate 11 (first | (go_at_call 45; refine (partJ hx).mono ?_; rintro e w' ⟨rfl, hb⟩; replace H := H.grow hb; clear hb; dsimp only) | (go_at_call 46; refine (sigJ hx).mono ?_; rintro e w' ⟨rfl, hb⟩; replace H := H.grow hb; clear hb; dsimp only) | go_step)
  show wpList Tryz.prog _ _ (_ :: _) _ _
  with_reducible refine wpList_built rfl 47 _ rfl c6 (by rw [← h6.out]; kernel_rfl) ?_
  simp only [Act.put, List.setIfInBounds_toArray, List.set_cons_succ, List.set_cons_zero]
  iterate 18 (first | (go_at_call 45; refine (partJ hx).mono ?_; rintro e w' ⟨rfl, hb⟩; replace H := H.grow hb; clear hb; dsimp only) | (go_at_call 46; refine (sigJ hx).mono ?_; rintro e w' ⟨rfl, hb⟩; replace H := H.grow hb; clear hb; dsimp only) | go_step)
  show wpList Tryz.prog _ _ (_ :: _) _ _
  with_reducible refine wpList_built rfl 47 _ rfl c7 (by rw [← h7.out]; kernel_rfl) ?_
  simp only [Act.put, List.setIfInBounds_toArray, List.set_cons_succ, List.set_cons_zero]
  iterate 11 (first | (go_at_call 45; refine (partJ hx).mono ?_; rintro e w' ⟨rfl, hb⟩; replace H := H.grow hb; clear hb; dsimp only) | (go_at_call 46; refine (sigJ hx).mono ?_; rintro e w' ⟨rfl, hb⟩; replace H := H.grow hb; clear hb; dsimp only) | go_step)
  show wpList Tryz.prog _ _ (_ :: _) _ _
  with_reducible refine wpList_built rfl 47 _ rfl c8 (by rw [← h8.out]; kernel_rfl) ?_
  simp only [Act.put, List.setIfInBounds_toArray, List.set_cons_succ, List.set_cons_zero]
  iterate 25 (first | (go_at_call 45; refine (partJ hx).mono ?_; rintro e w' ⟨rfl, hb⟩; replace H := H.grow hb; clear hb; dsimp only) | (go_at_call 46; refine (sigJ hx).mono ?_; rintro e w' ⟨rfl, hb⟩; replace H := H.grow hb; clear hb; dsimp only) | go_step)
  show wpList Tryz.prog _ _ (_ :: _) _ _
  with_reducible refine wpList_built rfl 47 _ rfl c9 (by rw [← h9.out]; kernel_rfl) ?_
  simp only [Act.put, List.setIfInBounds_toArray, List.set_cons_succ, List.set_cons_zero]
  iterate 8 (first | (go_at_call 45; refine (partJ hx).mono ?_; rintro e w' ⟨rfl, hb⟩; replace H := H.grow hb; clear hb; dsimp only) | (go_at_call 46; refine (sigJ hx).mono ?_; rintro e w' ⟨rfl, hb⟩; replace H := H.grow hb; clear hb; dsimp only) | go_step)
  show wpList Tryz.prog _ _ (_ :: _) _ _
  with_reducible refine wpList_built rfl 47 _ rfl c10 (by rw [← h10.out]; kernel_rfl) ?_
  simp only [Act.put, List.setIfInBounds_toArray, List.set_cons_succ, List.set_cons_zero]
  iterate 10 (first | (go_at_call 45; refine (partJ hx).mono ?_; rintro e w' ⟨rfl, hb⟩; replace H := H.grow hb; clear hb; dsimp only) | (go_at_call 46; refine (sigJ hx).mono ?_; rintro e w' ⟨rfl, hb⟩; replace H := H.grow hb; clear hb; dsimp only) | go_step)
  show wpList Tryz.prog _ _ (_ :: _) _ _
  with_reducible refine wpList_built rfl 47 _ rfl c11 (by rw [← h11.out]; kernel_rfl) ?_
  simp only [Act.put, List.setIfInBounds_toArray, List.set_cons_succ, List.set_cons_zero]
  iterate 14 (first | (go_at_call 45; refine (partJ hx).mono ?_; rintro e w' ⟨rfl, hb⟩; replace H := H.grow hb; clear hb; dsimp only) | (go_at_call 46; refine (sigJ hx).mono ?_; rintro e w' ⟨rfl, hb⟩; replace H := H.grow hb; clear hb; dsimp only) | go_step)
  show wpList Tryz.prog _ _ (_ :: _) _ _
  with_reducible refine wpList_built rfl 47 _ rfl c12 (by rw [← h12.out]; kernel_rfl) ?_
  simp only [Act.put, List.setIfInBounds_toArray, List.set_cons_succ, List.set_cons_zero]
  iterate 7 (first | (go_at_call 45; refine (partJ hx).mono ?_; rintro e w' ⟨rfl, hb⟩; replace H := H.grow hb; clear hb; dsimp only) | (go_at_call 46; refine (sigJ hx).mono ?_; rintro e w' ⟨rfl, hb⟩; replace H := H.grow hb; clear hb; dsimp only) | go_step)
  show wpList Tryz.prog _ _ (_ :: _) _ _
  with_reducible refine wpList_built rfl 47 _ rfl c13 (by rw [← h13.out]; kernel_rfl) ?_
  simp only [Act.put, List.setIfInBounds_toArray, List.set_cons_succ, List.set_cons_zero]
  iterate 6 (first | (go_at_call 45; refine (partJ hx).mono ?_; rintro e w' ⟨rfl, hb⟩; replace H := H.grow hb; clear hb; dsimp only) | (go_at_call 46; refine (sigJ hx).mono ?_; rintro e w' ⟨rfl, hb⟩; replace H := H.grow hb; clear hb; dsimp only) | go_step)
  show wpList Tryz.prog _ _ (_ :: _) _ _
  with_reducible refine wpList_built rfl 47 _ rfl c14 (by rw [← h14.out]; kernel_rfl) ?_
  simp only [Act.put, List.setIfInBounds_toArray, List.set_cons_succ, List.set_cons_zero]
  iterate 25 (first | (go_at_call 45; refine (partJ hx).mono ?_; rintro e w' ⟨rfl, hb⟩; replace H := H.grow hb; clear hb; dsimp only) | (go_at_call 46; refine (sigJ hx).mono ?_; rintro e w' ⟨rfl, hb⟩; replace H := H.grow hb; clear hb; dsimp only) | go_step)
  show wpList Tryz.prog _ _ (_ :: _) _ _
  with_reducible refine wpList_built rfl 47 _ rfl c15 (by rw [← h15.out]; kernel_rfl) ?_
  simp only [Act.put, List.setIfInBounds_toArray, List.set_cons_succ, List.set_cons_zero]
  iterate 7 (first | (go_at_call 45; refine (partJ hx).mono ?_; rintro e w' ⟨rfl, hb⟩; replace H := H.grow hb; clear hb; dsimp only) | (go_at_call 46; refine (sigJ hx).mono ?_; rintro e w' ⟨rfl, hb⟩; replace H := H.grow hb; clear hb; dsimp only) | go_step)
  show wpList Tryz.prog _ _ (_ :: _) _ _
  with_reducible refine wpList_built rfl 47 _ rfl c16 (by rw [← h16.out]; kernel_rfl) ?_
  simp only [Act.put, List.setIfInBounds_toArray, List.set_cons_succ, List.set_cons_zero]
  iterate 11 (first | (go_at_call 45; refine (partJ hx).mono ?_; rintro e w' ⟨rfl, hb⟩; replace H := H.grow hb; clear hb; dsimp only) | (go_at_call 46; refine (sigJ hx).mono ?_; rintro e w' ⟨rfl, hb⟩; replace H := H.grow hb; clear hb; dsimp only) | go_step)
  show wpList Tryz.prog _ _ (_ :: _) _ _
  with_reducible refine wpList_built rfl 47 _ rfl c17 (by rw [← h17.out]; kernel_rfl) ?_
  simp only [Act.put, List.setIfInBounds_toArray, List.set_cons_succ, List.set_cons_zero]
  iterate 11 (first | (go_at_call 45; refine (partJ hx).mono ?_; rintro e w' ⟨rfl, hb⟩; replace H := H.grow hb; clear hb; dsimp only) | (go_at_call 46; refine (sigJ hx).mono ?_; rintro e w' ⟨rfl, hb⟩; replace H := H.grow hb; clear hb; dsimp only) | go_step)
  show wpList Tryz.prog _ _ (_ :: _) _ _
  with_reducible refine wpList_built rfl 47 _ rfl c18 (by rw [← h18.out]; kernel_rfl) ?_
  simp only [Act.put, List.setIfInBounds_toArray, List.set_cons_succ, List.set_cons_zero]
  iterate 8 (first | (go_at_call 45; refine (partJ hx).mono ?_; rintro e w' ⟨rfl, hb⟩; replace H := H.grow hb; clear hb; dsimp only) | (go_at_call 46; refine (sigJ hx).mono ?_; rintro e w' ⟨rfl, hb⟩; replace H := H.grow hb; clear hb; dsimp only) | go_step)
  show wpList Tryz.prog _ _ (_ :: _) _ _
  with_reducible refine wpList_built rfl 47 _ rfl c19 (by rw [← h19.out]; kernel_rfl) ?_
  simp only [Act.put, List.setIfInBounds_toArray, List.set_cons_succ, List.set_cons_zero]
  iterate 8 (first | (go_at_call 45; refine (partJ hx).mono ?_; rintro e w' ⟨rfl, hb⟩; replace H := H.grow hb; clear hb; dsimp only) | (go_at_call 46; refine (sigJ hx).mono ?_; rintro e w' ⟨rfl, hb⟩; replace H := H.grow hb; clear hb; dsimp only) | go_step)
  show wpList Tryz.prog _ _ (_ :: _) _ _
  with_reducible refine wpList_built rfl 47 _ rfl c20 (by rw [← h20.out]; kernel_rfl) ?_
  simp only [Act.put, List.setIfInBounds_toArray, List.set_cons_succ, List.set_cons_zero]
  iterate 4 (first | (go_at_call 45; refine (partJ hx).mono ?_; rintro e w' ⟨rfl, hb⟩; replace H := H.grow hb; clear hb; dsimp only) | (go_at_call 46; refine (sigJ hx).mono ?_; rintro e w' ⟨rfl, hb⟩; replace H := H.grow hb; clear hb; dsimp only) | go_step)
  show wpList Tryz.prog _ _ (_ :: _) _ _
  with_reducible refine wpList_built rfl 47 _ rfl c21 (by rw [← h21.out]; kernel_rfl) ?_
  simp only [Act.put, List.setIfInBounds_toArray, List.set_cons_succ, List.set_cons_zero]
  iterate 4 (first | (go_at_call 45; refine (partJ hx).mono ?_; rintro e w' ⟨rfl, hb⟩; replace H := H.grow hb; clear hb; dsimp only) | (go_at_call 46; refine (sigJ hx).mono ?_; rintro e w' ⟨rfl, hb⟩; replace H := H.grow hb; clear hb; dsimp only) | go_step)
  show wpList Tryz.prog _ _ (_ :: _) _ _
  with_reducible refine wpList_built rfl 47 _ rfl c22 (by rw [← h22.out]; kernel_rfl) ?_
  simp only [Act.put, List.setIfInBounds_toArray, List.set_cons_succ, List.set_cons_zero]
  iterate 6 (first | (go_at_call 45; refine (partJ hx).mono ?_; rintro e w' ⟨rfl, hb⟩; replace H := H.grow hb; clear hb; dsimp only) | (go_at_call 46; refine (sigJ hx).mono ?_; rintro e w' ⟨rfl, hb⟩; replace H := H.grow hb; clear hb; dsimp only) | go_step)
  show wpList Tryz.prog _ _ (_ :: _) _ _
  with_reducible refine wpList_built rfl 47 _ rfl c23 (by rw [← h23.out]; kernel_rfl) ?_
  simp only [Act.put, List.setIfInBounds_toArray, List.set_cons_succ, List.set_cons_zero]
  iterate 13 (first | (go_at_call 45; refine (partJ hx).mono ?_; rintro e w' ⟨rfl, hb⟩; replace H := H.grow hb; clear hb; dsimp only) | (go_at_call 46; refine (sigJ hx).mono ?_; rintro e w' ⟨rfl, hb⟩; replace H := H.grow hb; clear hb; dsimp only) | go_step)
  show wpList Tryz.prog _ _ (_ :: _) _ _
  with_reducible refine wpList_built rfl 47 _ rfl c24 (by rw [← h24.out]; kernel_rfl) ?_
  simp only [Act.put, List.setIfInBounds_toArray, List.set_cons_succ, List.set_cons_zero]
  iterate 16 (first | (go_at_call 45; refine (partJ hx).mono ?_; rintro e w' ⟨rfl, hb⟩; replace H := H.grow hb; clear hb; dsimp only) | (go_at_call 46; refine (sigJ hx).mono ?_; rintro e w' ⟨rfl, hb⟩; replace H := H.grow hb; clear hb; dsimp only) | go_step)
  show wpList Tryz.prog _ _ (_ :: _) _ _
  with_reducible refine wpList_built rfl 47 _ rfl c25 (by rw [← h25.out]; kernel_rfl) ?_
  simp only [Act.put, List.setIfInBounds_toArray, List.set_cons_succ, List.set_cons_zero]
  show wpList Tryz.prog _ _ (_ :: _) _ _
  with_reducible refine wpList_built rfl 47 _ rfl c26 (by rw [← h26.out]; kernel_rfl) ?_
  simp only [Act.put, List.setIfInBounds_toArray, List.set_cons_succ, List.set_cons_zero]
  iterate 7 (first | (go_at_call 45; refine (partJ hx).mono ?_; rintro e w' ⟨rfl, hb⟩; replace H := H.grow hb; clear hb; dsimp only) | (go_at_call 46; refine (sigJ hx).mono ?_; rintro e w' ⟨rfl, hb⟩; replace H := H.grow hb; clear hb; dsimp only) | go_step)
  show wpList Tryz.prog _ _ (_ :: _) _ _
  with_reducible refine wpList_built rfl 47 _ rfl c27 (by rw [← h27.out]; kernel_rfl) ?_
  simp only [Act.put, List.setIfInBounds_toArray, List.set_cons_succ, List.set_cons_zero]
  iterate 7 (first | (go_at_call 45; refine (partJ hx).mono ?_; rintro e w' ⟨rfl, hb⟩; replace H := H.grow hb; clear hb; dsimp only) | (go_at_call 46; refine (sigJ hx).mono ?_; rintro e w' ⟨rfl, hb⟩; replace H := H.grow hb; clear hb; dsimp only) | go_step)
  show wpList Tryz.prog _ _ (_ :: _) _ _
  with_reducible refine wpList_built rfl 47 _ rfl c28 (by rw [← h28.out]; kernel_rfl) ?_
  simp only [Act.put, List.setIfInBounds_toArray, List.set_cons_succ, List.set_cons_zero]
  show wpList Tryz.prog _ _ (_ :: _) _ _
  with_reducible refine wpList_built rfl 47 _ rfl c29 (by rw [← h29.out]; kernel_rfl) ?_
  simp only [Act.put, List.setIfInBounds_toArray, List.set_cons_succ, List.set_cons_zero]
  iterate 3 (first | (go_at_call 45; refine (partJ hx).mono ?_; rintro e w' ⟨rfl, hb⟩; replace H := H.grow hb; clear hb; dsimp only) | (go_at_call 46; refine (sigJ hx).mono ?_; rintro e w' ⟨rfl, hb⟩; replace H := H.grow hb; clear hb; dsimp only) | go_step)
  show wpList Tryz.prog _ _ (_ :: _) _ _
  with_reducible refine wpList_built rfl 47 _ rfl c30 (by rw [← h30.out]; kernel_rfl) ?_
  simp only [Act.put, List.setIfInBounds_toArray, List.set_cons_succ, List.set_cons_zero]
  iterate 3 (first | (go_at_call 45; refine (partJ hx).mono ?_; rintro e w' ⟨rfl, hb⟩; replace H := H.grow hb; clear hb; dsimp only) | (go_at_call 46; refine (sigJ hx).mono ?_; rintro e w' ⟨rfl, hb⟩; replace H := H.grow hb; clear hb; dsimp only) | go_step)
  show wpList Tryz.prog _ _ (_ :: _) _ _
  with_reducible refine wpList_built rfl 47 _ rfl c31 (by rw [← h31.out]; kernel_rfl) ?_
  simp only [Act.put, List.setIfInBounds_toArray, List.set_cons_succ, List.set_cons_zero]
  show wpList Tryz.prog _ _ (_ :: _) _ _
  with_reducible refine wpList_built rfl 47 _ rfl c32 (by rw [← h32.out]; kernel_rfl) ?_
  simp only [Act.put, List.setIfInBounds_toArray, List.set_cons_succ, List.set_cons_zero]
  iterate 10 (first | (go_at_call 45; refine (partJ hx).mono ?_; rintro e w' ⟨rfl, hb⟩; replace H := H.grow hb; clear hb; dsimp only) | (go_at_call 46; refine (sigJ hx).mono ?_; rintro e w' ⟨rfl, hb⟩; replace H := H.grow hb; clear hb; dsimp only) | go_step)
  show wpList Tryz.prog _ _ (_ :: _) _ _
  with_reducible refine wpList_built rfl 47 _ rfl c33 (by rw [← h33.out]; kernel_rfl) ?_
  simp only [Act.put, List.setIfInBounds_toArray, List.set_cons_succ, List.set_cons_zero]
  iterate 10 (first | (go_at_call 45; refine (partJ hx).mono ?_; rintro e w' ⟨rfl, hb⟩; replace H := H.grow hb; clear hb; dsimp only) | (go_at_call 46; refine (sigJ hx).mono ?_; rintro e w' ⟨rfl, hb⟩; replace H := H.grow hb; clear hb; dsimp only) | go_step)
  show wpList Tryz.prog _ _ (_ :: _) _ _
  with_reducible refine wpList_built rfl 47 _ rfl c34 (by rw [← h34.out]; kernel_rfl) ?_
  simp only [Act.put, List.setIfInBounds_toArray, List.set_cons_succ, List.set_cons_zero]
  iterate 7 (first | (go_at_call 45; refine (partJ hx).mono ?_; rintro e w' ⟨rfl, hb⟩; replace H := H.grow hb; clear hb; dsimp only) | (go_at_call 46; refine (sigJ hx).mono ?_; rintro e w' ⟨rfl, hb⟩; replace H := H.grow hb; clear hb; dsimp only) | go_step)
  show wpList Tryz.prog _ _ (_ :: _) _ _
  with_reducible refine wpList_built rfl 47 _ rfl c35 (by rw [← h35.out]; kernel_rfl) ?_
  simp only [Act.put, List.setIfInBounds_toArray, List.set_cons_succ, List.set_cons_zero]
  iterate 7 (first | (go_at_call 45; refine (partJ hx).mono ?_; rintro e w' ⟨rfl, hb⟩; replace H := H.grow hb; clear hb; dsimp only) | (go_at_call 46; refine (sigJ hx).mono ?_; rintro e w' ⟨rfl, hb⟩; replace H := H.grow hb; clear hb; dsimp only) | go_step)
  show wpList Tryz.prog _ _ (_ :: _) _ _
  with_reducible refine wpList_built rfl 47 _ rfl c36 (by rw [← h36.out]; kernel_rfl) ?_
  simp only [Act.put, List.setIfInBounds_toArray, List.set_cons_succ, List.set_cons_zero]
  iterate 7 (first | (go_at_call 45; refine (partJ hx).mono ?_; rintro e w' ⟨rfl, hb⟩; replace H := H.grow hb; clear hb; dsimp only) | (go_at_call 46; refine (sigJ hx).mono ?_; rintro e w' ⟨rfl, hb⟩; replace H := H.grow hb; clear hb; dsimp only) | go_step)
  show wpList Tryz.prog _ _ (_ :: _) _ _
  with_reducible refine wpList_built rfl 47 _ rfl c37 (by rw [← h37.out]; kernel_rfl) ?_
  simp only [Act.put, List.setIfInBounds_toArray, List.set_cons_succ, List.set_cons_zero]
  iterate 7 (first | (go_at_call 45; refine (partJ hx).mono ?_; rintro e w' ⟨rfl, hb⟩; replace H := H.grow hb; clear hb; dsimp only) | (go_at_call 46; refine (sigJ hx).mono ?_; rintro e w' ⟨rfl, hb⟩; replace H := H.grow hb; clear hb; dsimp only) | go_step)
  show wpList Tryz.prog _ _ (_ :: _) _ _
  with_reducible refine wpList_built rfl 47 _ rfl c38 (by rw [← h38.out]; kernel_rfl) ?_
  simp only [Act.put, List.setIfInBounds_toArray, List.set_cons_succ, List.set_cons_zero]
  show wpList Tryz.prog _ _ (_ :: _) _ _
  with_reducible refine wpList_built rfl 47 _ rfl c39 (by rw [← h39.out]; kernel_rfl) ?_
  simp only [Act.put, List.setIfInBounds_toArray, List.set_cons_succ, List.set_cons_zero]
  iterate 7 (first | (go_at_call 45; refine (partJ hx).mono ?_; rintro e w' ⟨rfl, hb⟩; replace H := H.grow hb; clear hb; dsimp only) | (go_at_call 46; refine (sigJ hx).mono ?_; rintro e w' ⟨rfl, hb⟩; replace H := H.grow hb; clear hb; dsimp only) | go_step)
  show wpList Tryz.prog _ _ (_ :: _) _ _
  with_reducible refine wpList_built rfl 47 _ rfl c40 (by rw [← h40.out]; kernel_rfl) ?_
  simp only [Act.put, List.setIfInBounds_toArray, List.set_cons_succ, List.set_cons_zero]
  show wpList Tryz.prog _ _ (_ :: _) _ _
  refine wpList_buildRow rfl 85 47 41 _ rfl 16 (L.map Ins.val) (by kernel_rfl) info25 (by kernel_rfl) (by decide) (fun v hv => by obtain ⟨i, _, rfl⟩ := List.mem_map.1 hv; rfl) (by rw [List.length_map, hlen]) (by decide) (by decide) (by rw [← hV.out]; kernel_rfl) ?_
  simp only [Act.put, List.setIfInBounds_toArray, List.set_cons_succ, List.set_cons_zero]
  clear h0 h1 h2 h3 h4 h5 h6 h7 h8 h9 h10 h11 h12 h13 h14 h15 h16 h17 h18 h19 h20 h21 h22 h23 h24 h25 h26 h27 h28 h29 h30 h31 h32 h33 h34 h35 h36 h37 h38 h39 h40 hV
  generalize hw : w'.alloc _ = w3
  replace H : Rl L w'.heap.size w w3 := by rw [← hw]; exact rl_start H L
  clear hw
  generalize w'.heap.size = g at H ⊢
  replace hLL := show Hid _ from hLL
  go_wp2
  go_loopw [15] (fun s8 wr => ∃ k : Nat, k ≤ 41 ∧ s8 = .int .i64 k ∧ Hid (Rl L g w wr) ∧ Hid (rfind x (L.drop k) = rfind x L)) (fun s8 _ => 41 - (intOf s8).toNat)
  case atStart => exact ⟨0, by omega, rfl, H, rfl⟩
  case round =>
    clear H
    obtain ⟨k, hk2, rfl, H, hD⟩ := hrel
    by_cases hlt : k < 41
    · have hl2 : (k : Int) < 41 := by omega
      obtain ⟨i, hi, hd⟩ : ∃ i, L[k]? = some i ∧ L.drop k = i :: L.drop (k + 1) := ⟨L[k]'(by omega), List.getElem?_eq_getElem _, List.drop_eq_getElem_cons _⟩
      have hD : Hid (rfind x (i :: L.drop (k + 1)) = rfind x L) := by rw [← hd]; exact hD.out
      clear hd
      replace H := H.out
      have hat := row_at H.tab hi
      have hi16 : (Tryz.prog.info? 47).map (·.size) = some i.cells.toList.length := info25
      cases hr : rightB i
      · have hV : rfind x (L.drop (k + 1)) = rfind x L := by rw [← hD.out, rfind, hr]; rfl
        go_wp2_with (first | (go_at_call 47; refine (rencode_c i _).mono ?_; rw [hr]; rintro e w4 ⟨rfl, hb⟩; replace H := H.grow hb; replace hat := row_at H.tab hi; clear hb; dsimp only) | ((with_reducible refine wpList_load_mid rfl 47 _ rfl g (k * 16) rfl i.cells.toList _ hat Tryz.underlying47 rfl hi16 ?_); simp only [Act.put, List.setIfInBounds_toArray, List.set_cons_succ, List.set_cons_zero]))
        go_roundw
        case rel => exact ⟨k + 1, by omega, by go_num, H, hV⟩
        case measure => simp [intOf]; omega
      · cases he : ((encV i).1 == x)
        · have hV : rfind x (L.drop (k + 1)) = rfind x L := by rw [← hD.out, rfind, hr, he]; rfl
          go_wp2_with (first | (go_at_call 47; refine (rencode_c i _).mono ?_; rw [hr]; rintro e w4 ⟨rfl, hb⟩; replace H := H.grow hb; replace hat := row_at H.tab hi; clear hb; dsimp only) | ((with_reducible refine wpList_load_mid rfl 47 _ rfl g (k * 16) rfl i.cells.toList _ hat Tryz.underlying47 rfl hi16 ?_); simp only [Act.put, List.setIfInBounds_toArray, List.set_cons_succ, List.set_cons_zero]))
          go_roundw
          case rel => exact ⟨k + 1, by omega, by go_num, H, hV⟩
          case measure => simp [intOf]; omega
        · have hV : rfind x L = i := by rw [← hD.out, rfind, hr, he]; rfl
          go_upto_region 20 with (first | (go_at_call 47; refine (rencode_c i _).mono ?_; rw [hr]; rintro e w4 ⟨rfl, hb⟩; replace H := H.grow hb; replace hat := row_at H.tab hi; clear hb; dsimp only) | ((with_reducible refine wpList_load_mid rfl 47 _ rfl g (k * 16) rfl i.cells.toList _ hat Tryz.underlying47 rfl hi16 ?_); simp only [Act.put, List.setIfInBounds_toArray, List.set_cons_succ, List.set_cons_zero]))
          obtain ⟨Z, hz, hZ⟩ := H.res
          go_wp2_with (first | ((with_reducible refine wpList_load_mid rfl 47 _ rfl g (k * 16) rfl i.cells.toList _ hat Tryz.underlying47 rfl hi16 ?_); simp only [Act.put, List.setIfInBounds_toArray, List.set_cons_succ, List.set_cons_zero]) | (((with_reducible refine wpList_store_row rfl 47 _ _ rfl w.heap.size i.cells rfl ?_ 47 _ hZ i.infoC ?_ i.oneC ?_); (focus rfl); (focus (rw [hz]; rfl)); (simp only [Act.put]))))
          refine bodyPost_ret (results_cell_row rfl _ _ _ 47 _ (0, 0) _ rfl (setRow_heap _ _ _ _ _ _ hZ) Tryz.underlying47 rfl i.infoC) rfl ?_
          exact ⟨by first | rfl | rw [hV], Go.Proofs.YtbjcdpmhmebjnaaGreat.below_setRow H.below (Nat.le_refl _)⟩
    · obtain rfl : k = 41 := by omega
      have hV : rfind x L = nilI := by rw [← hD.out, List.drop_eq_nil_of_le (by omega)]; rfl
      obtain ⟨Z, hz, hZ⟩ := H.out.res
      have HB := H.out.below
      go_upto_region 21 with fail
      refine wp_region_lit ?_
      with_reducible refine wpList_built rfl 47 _ rfl nilI.cells (by kernel_rfl) ?_
      simp only [Act.put, List.setIfInBounds_toArray, List.set_cons_succ, List.set_cons_zero]
      with_reducible refine wpList_store_row rfl 47 _ _ rfl w.heap.size nilI.cells rfl rfl 47 Z hZ nilI.infoC ?_ nilI.oneC ?_
      focus (rw [hz]; rfl)
      go_wp2
      refine bodyPost_ret (results_cell_row rfl _ _ _ 47 _ (0, 0) _ rfl (setRow_heap _ _ _ _ _ _ hZ) Tryz.underlying47 rfl nilI.infoC) rfl ?_
      exact ⟨by first | rfl | rw [hV], Go.Proofs.YtbjcdpmhmebjnaaGreat.below_setRow HB (Nat.le_refl _)⟩
set_option maxRecDepth 10000 in
set_option maxHeartbeats 16000000 in
theorem rdecode_3 (x : Int) (hx : Hid (0 ≤ x ∧ x < 4294967296)) (hk : (partI x 12 1 == 1) = true) (w : World) :
    Calls Tryz.prog 24 #[.int .u32 x] w fun e w' => e = .returned (rfind x (rdec x 3)).val ∧ Below w.heap.size w w' := by
  have p22_1 : 0 ≤ partI x 22 1 ∧ partI x 22 1 < 2 := partI_in x 22 1
  have p21_2 : 0 ≤ partI x 21 2 ∧ partI x 21 2 < 4 := partI_in x 21 2
  have p30_1 : 0 ≤ partI x 30 1 ∧ partI x 30 1 < 2 := partI_in x 30 1
  have p10_1 : 0 ≤ partI x 10 1 ∧ partI x 10 1 < 2 := partI_in x 10 1
  have p31_1 : 0 ≤ partI x 31 1 ∧ partI x 31 1 < 2 := partI_in x 31 1
  have p19_5 : 0 ≤ partI x 19 5 ∧ partI x 19 5 < 32 := partI_in x 19 5
  have p10_12 : 0 ≤ partI x 10 12 ∧ partI x 10 12 < 4096 := partI_in x 10 12
  have p29_2 : 0 ≤ partI x 29 2 ∧ partI x 29 2 < 4 := partI_in x 29 2
  have s5 := (sig_in x 5).2.1
  have s0 := (sig_in x 0).2.2
  have s4 := (sig_in x 5).1
  obtain ⟨c0, h0⟩ : ∃ c, Ins.cells ⟨1, 0, partI x 0 5, partI x 5 5, 0, 0, partI x 10 12, 0, 12 * partI x 22 1, 0, 0, 0, partI x 29 1 == 1, partI x 30 1 == 1, false, false⟩ = c := ⟨_, rfl⟩
  obtain ⟨c1, h1⟩ : ∃ c, Ins.cells ⟨2, 0, partI x 0 5, partI x 5 5, partI x 16 5, 0, 0, 0, partI x 10 6, partI x 22 2, 0, 0, partI x 29 1 == 1, partI x 30 1 == 1, false, false⟩ = c := ⟨_, rfl⟩
  obtain ⟨c2, h2⟩ : ∃ c, Ins.cells ⟨3, partI x 29 2 % 3, partI x 0 5, partI x 5 5, partI x 16 5, 0, 0, 0, partI x 10 6, partI x 22 2, 0, 0, partI x 29 2 == 3, false, partI x 21 1 == 1, false⟩ = c := ⟨_, rfl⟩
  obtain ⟨c3, h3⟩ : ∃ c, Ins.cells ⟨4, partI x 29 2 % 3, partI x 0 5, partI x 5 5, 0, 0, partI x 16 6, partI x 10 6, partI x 22 1, 0, 0, 0, partI x 29 2 == 3, false, false, false⟩ = c := ⟨_, rfl⟩
  obtain ⟨c4, h4⟩ : ∃ c, Ins.cells ⟨5, partI x 29 2, partI x 0 5, 0, 0, 0, partI x 5 16, 0, 16 * partI x 21 2, 0, 0, 0, false, false, false, false⟩ = c := ⟨_, rfl⟩
  obtain ⟨c5, h5⟩ : ∃ c, Ins.cells ⟨6, partI x 29 2, partI x 0 5, partI x 5 5, 0, 0, partI x 16 6, partI x 10 6, 0, 0, 0, 0, false, false, false, false⟩ = c := ⟨_, rfl⟩
  obtain ⟨c6, h6⟩ : ∃ c, Ins.cells ⟨7, partI x 10 2, partI x 0 5, partI x 5 5, partI x 16 5, 0, 0, 0, 0, 0, 0, 0, false, false, false, false⟩ = c := ⟨_, rfl⟩
  obtain ⟨c7, h7⟩ : ∃ c, Ins.cells ⟨8, 0, partI x 0 5, partI x 5 5, partI x 16 5, partI x 10 5, 0, 0, 0, 0, 0, 0, false, partI x 15 1 == 1, false, false⟩ = c := ⟨_, rfl⟩
  obtain ⟨c8, h8⟩ : ∃ c, Ins.cells ⟨9, partI x 10 1, partI x 0 5, partI x 5 5, partI x 16 5, 0, 0, 0, 0, 0, 0, 0, false, false, false, false⟩ = c := ⟨_, rfl⟩
  obtain ⟨c9, h9⟩ : ∃ c, Ins.cells ⟨10, 2 * partI x 30 1 + partI x 10 1, partI x 0 5, partI x 5 5, partI x 16 5, 0, 0, 0, 0, 0, partI x 12 4, 0, false, false, false, false⟩ = c := ⟨_, rfl⟩
  obtain ⟨c10, h10⟩ : ∃ c, Ins.cells ⟨11, 0, partI x 0 5, 0, 0, 0, 4 * sigI x 5 19 + partI x 29 2, 0, 0, 0, 0, 0, false, false, false, false⟩ = c := ⟨_, rfl⟩
  obtain ⟨c11, h11⟩ : ∃ c, Ins.cells ⟨11, 1, partI x 0 5, 0, 0, 0, 4096 * (4 * sigI x 5 19 + partI x 29 2), 0, 0, 0, 0, 0, false, false, false, false⟩ = c := ⟨_, rfl⟩
  obtain ⟨c12, h12⟩ : ∃ c, Ins.cells ⟨12, 0, 0, 0, 0, 0, 4 * sigI x 0 26, 0, 0, 0, 0, 0, false, false, false, partI x 31 1 == 1⟩ = c := ⟨_, rfl⟩
  obtain ⟨c13, h13⟩ : ∃ c, Ins.cells ⟨13, 0, 0, 0, 0, 0, 4 * sigI x 5 19, 0, 0, 0, partI x 0 4, 0, false, false, false, false⟩ = c := ⟨_, rfl⟩
  obtain ⟨c14, h14⟩ : ∃ c, Ins.cells ⟨14, 0, partI x 0 5, 0, 0, 0, 4 * sigI x 5 19, 0, 0, 0, 0, 0, false, false, partI x 24 1 == 1, false⟩ = c := ⟨_, rfl⟩
  obtain ⟨c15, h15⟩ : ∃ c, Ins.cells ⟨15, 0, partI x 0 5, 0, 0, 0, 4 * sigI x 5 14, 0, 32 * partI x 31 1 + partI x 19 5, 0, 0, 0, false, false, partI x 24 1 == 1, false⟩ = c := ⟨_, rfl⟩
  obtain ⟨c16, h16⟩ : ∃ c, Ins.cells ⟨16, partI x 21 2, 0, partI x 5 5, 0, 0, 0, 0, 0, 0, 0, 0, false, false, false, false⟩ = c := ⟨_, rfl⟩
  obtain ⟨c17, h17⟩ : ∃ c, Ins.cells ⟨17, 0, partI x 0 5, partI x 5 5, 0, 0, 8 * partI x 10 12, 0, 0, 0, 0, 0, false, false, false, false⟩ = c := ⟨_, rfl⟩
  obtain ⟨c18, h18⟩ : ∃ c, Ins.cells ⟨18, 0, partI x 0 5, partI x 5 5, 0, 0, 8 * partI x 10 12, 0, 0, 0, 0, 0, false, false, false, false⟩ = c := ⟨_, rfl⟩
  obtain ⟨c19, h19⟩ : ∃ c, Ins.cells ⟨19, 0, partI x 0 5, partI x 5 5, partI x 16 5, 0, 0, 0, 3, 0, 0, 0, false, false, false, false⟩ = c := ⟨_, rfl⟩
  obtain ⟨c20, h20⟩ : ∃ c, Ins.cells ⟨20, 0, partI x 0 5, partI x 5 5, partI x 16 5, 0, 0, 0, 3, 0, 0, 0, false, false, false, false⟩ = c := ⟨_, rfl⟩
  obtain ⟨c21, h21⟩ : ∃ c, Ins.cells ⟨21, 0, partI x 0 5, partI x 5 5, 0, 0, 0, 0, 0, 0, 0, 0, false, false, false, false⟩ = c := ⟨_, rfl⟩
  obtain ⟨c22, h22⟩ : ∃ c, Ins.cells ⟨21, 1, partI x 0 5, partI x 5 5, 0, 0, 0, 0, 0, 0, 0, 0, false, false, false, false⟩ = c := ⟨_, rfl⟩
  obtain ⟨c23, h23⟩ : ∃ c, Ins.cells ⟨22, 0, partI x 0 5, partI x 5 5, 0, 0, 0, 0, 0, 0, 0, 0, false, false, false, false⟩ = c := ⟨_, rfl⟩
  obtain ⟨c24, h24⟩ : ∃ c, Ins.cells ⟨23, partI x 15 1, partI x 0 5, partI x 5 5, 0, 0, 0, 0, 0, 0, 0, 0, false, false, false, false⟩ = c := ⟨_, rfl⟩
  obtain ⟨c25, h25⟩ : ∃ c, Ins.cells ⟨24, partI x 15 1, partI x 0 5, partI x 5 5, partI x 16 5, 0, 0, 0, 0, 0, 0, 0, false, false, false, false⟩ = c := ⟨_, rfl⟩
  obtain ⟨c26, h26⟩ : ∃ c, Ins.cells ⟨25, 0, 0, 0, 0, 0, 0, 0, 0, 0, 0, 0, false, false, false, false⟩ = c := ⟨_, rfl⟩
  obtain ⟨c27, h27⟩ : ∃ c, Ins.cells ⟨26, 0, 0, 0, 0, 0, partI x 8 2, 0, 0, 0, 0, 0, false, false, false, false⟩ = c := ⟨_, rfl⟩
  obtain ⟨c28, h28⟩ : ∃ c, Ins.cells ⟨26, 1, 0, 0, 0, 0, partI x 8 2, 0, 0, 0, 0, 0, false, false, false, false⟩ = c := ⟨_, rfl⟩
  obtain ⟨c29, h29⟩ : ∃ c, Ins.cells ⟨27, 0, 0, 0, 0, 0, 0, 0, 0, 0, 0, 0, false, false, false, false⟩ = c := ⟨_, rfl⟩
  obtain ⟨c30, h30⟩ : ∃ c, Ins.cells ⟨28, 0, partI x 0 5, 0, 0, 0, 0, 0, 0, 0, 0, 0, false, false, false, false⟩ = c := ⟨_, rfl⟩
  obtain ⟨c31, h31⟩ : ∃ c, Ins.cells ⟨30, 0, partI x 0 5, 0, 0, 0, 0, 0, 0, 0, 0, 0, false, false, false, false⟩ = c := ⟨_, rfl⟩
  obtain ⟨c32, h32⟩ : ∃ c, Ins.cells ⟨29, 0, 0, 0, 0, 0, 0, 0, 0, 0, 0, 0, false, false, false, false⟩ = c := ⟨_, rfl⟩
  obtain ⟨c33, h33⟩ : ∃ c, Ins.cells ⟨31, 0, partI x 0 5, 0, 0, 0, 0, 0, 0, 0, 0, partI x 5 15, false, false, false, false⟩ = c := ⟨_, rfl⟩
  obtain ⟨c34, h34⟩ : ∃ c, Ins.cells ⟨32, 0, partI x 0 5, 0, 0, 0, 0, 0, 0, 0, 0, partI x 5 15, false, false, false, false⟩ = c := ⟨_, rfl⟩
  obtain ⟨c35, h35⟩ : ∃ c, Ins.cells ⟨33, 0, 0, 0, 0, 0, partI x 8 4, 0, 0, 0, 0, 0, false, false, false, false⟩ = c := ⟨_, rfl⟩
  obtain ⟨c36, h36⟩ : ∃ c, Ins.cells ⟨33, 1, 0, 0, 0, 0, partI x 8 4, 0, 0, 0, 0, 0, false, false, false, false⟩ = c := ⟨_, rfl⟩
  obtain ⟨c37, h37⟩ : ∃ c, Ins.cells ⟨34, 0, 0, 0, 0, 0, partI x 5 16, 0, 0, 0, 0, 0, false, false, false, false⟩ = c := ⟨_, rfl⟩
  obtain ⟨c38, h38⟩ : ∃ c, Ins.cells ⟨35, 0, 0, 0, 0, 0, partI x 5 16, 0, 0, 0, 0, 0, false, false, false, false⟩ = c := ⟨_, rfl⟩
  obtain ⟨c39, h39⟩ : ∃ c, Ins.cells ⟨36, 0, 0, 0, 0, 0, 0, 0, 0, 0, 0, 0, false, false, false, false⟩ = c := ⟨_, rfl⟩
  obtain ⟨c40, h40⟩ : ∃ c, Ins.cells ⟨37, 0, 0, 0, 0, 0, partI x 5 3, 0, 0, 0, 0, 0, false, false, false, false⟩ = c := ⟨_, rfl⟩
  have hV : ([.agg c0, .agg c1, .agg c2, .agg c3, .agg c4, .agg c5, .agg c6, .agg c7, .agg c8, .agg c9, .agg c10, .agg c11, .agg c12, .agg c13, .agg c14, .agg c15, .agg c16, .agg c17, .agg c18, .agg c19, .agg c20, .agg c21, .agg c22, .agg c23, .agg c24, .agg c25, .agg c26, .agg c27, .agg c28, .agg c29, .agg c30, .agg c31, .agg c32, .agg c33, .agg c34, .agg c35, .agg c36, .agg c37, .agg c38, .agg c39, .agg c40] : List Value) = (rdec x 3).map Ins.val := by subst h0 h1 h2 h3 h4 h5 h6 h7 h8 h9 h10 h11 h12 h13 h14 h15 h16 h17 h18 h19 h20 h21 h22 h23 h24 h25 h26 h27 h28 h29 h30 h31 h32 h33 h34 h35 h36 h37 h38 h39 h40; rfl
  replace h0 := show Hid _ from h0
  replace h1 := show Hid _ from h1
  replace h2 := show Hid _ from h2
  replace h3 := show Hid _ from h3
  replace h4 := show Hid _ from h4
  replace h5 := show Hid _ from h5
  replace h6 := show Hid _ from h6
  replace h7 := show Hid _ from h7
  replace h8 := show Hid _ from h8
  replace h9 := show Hid _ from h9
  replace h10 := show Hid _ from h10
  replace h11 := show Hid _ from h11
  replace h12 := show Hid _ from h12
  replace h13 := show Hid _ from h13
  replace h14 := show Hid _ from h14
  replace h15 := show Hid _ from h15
  replace h16 := show Hid _ from h16
  replace h17 := show Hid _ from h17
  replace h18 := show Hid _ from h18
  replace h19 := show Hid _ from h19
  replace h20 := show Hid _ from h20
  replace h21 := show Hid _ from h21
  replace h22 := show Hid _ from h22
  replace h23 := show Hid _ from h23
  replace h24 := show Hid _ from h24
  replace h25 := show Hid _ from h25
  replace h26 := show Hid _ from h26
  replace h27 := show Hid _ from h27
  replace h28 := show Hid _ from h28
  replace h29 := show Hid _ from h29
  replace h30 := show Hid _ from h30
  replace h31 := show Hid _ from h31
  replace h32 := show Hid _ from h32
  replace h33 := show Hid _ from h33
  replace h34 := show Hid _ from h34
  replace h35 := show Hid _ from h35
  replace h36 := show Hid _ from h36
  replace h37 := show Hid _ from h37
  replace h38 := show Hid _ from h38
  replace h39 := show Hid _ from h39
  replace h40 := show Hid _ from h40
  replace hV := show Hid _ from hV
  generalize hLL : rdec x 3 = L at hV
  have hlen : L.length = 41 := by rw [← hLL]; rfl
  go_enter Tryz.func24, Tryz.ntmps24
  go_upto_region 1 with fail
  generalize hW : w.alloc _ = w1
  have H : Rd w w1 := by rw [← hW]; exact ⟨below_alloc _ _, _, rfl, heap_alloc_new _ _⟩
  clear hW
  go_upto_region 14 with (first | (go_at_call 45; refine (partJ hx).mono ?_; rintro e w' ⟨rfl, hb⟩; replace H := H.grow hb; clear hb; dsimp only) | (go_at_call 46; refine (sigJ hx).mono ?_; rintro e w' ⟨rfl, hb⟩; replace H := H.grow hb; clear hb; dsimp only))
  refine wp_region_lit ?_
  iterate 15 (first | (go_at_call 45; refine (partJ hx).mono ?_; rintro e w' ⟨rfl, hb⟩; replace H := H.grow hb; clear hb; dsimp only) | (go_at_call 46; refine (sigJ hx).mono ?_; rintro e w' ⟨rfl, hb⟩; replace H := H.grow hb; clear hb; dsimp only) | go_step)
  show wpList Tryz.prog _ _ (_ :: _) _ _
  with_reducible refine wpList_built rfl 47 _ rfl c0 (by rw [← h0.out]; kernel_rfl) ?_
  simp only [Act.put, List.setIfInBounds_toArray, List.set_cons_succ, List.set_cons_zero]
  iterate 20 (first | (go_at_call 45; refine (partJ hx).mono ?_; rintro e w' ⟨rfl, hb⟩; replace H := H.grow hb; clear hb; dsimp only) | (go_at_call 46; refine (sigJ hx).mono ?_; rintro e w' ⟨rfl, hb⟩; replace H := H.grow hb; clear hb; dsimp only) | go_step)
  show wpList Tryz.prog _ _ (_ :: _) _ _
  with_reducible refine wpList_built rfl 47 _ rfl c1 (by rw [← h1.out]; kernel_rfl) ?_
  simp only [Act.put, List.setIfInBounds_toArray, List.set_cons_succ, List.set_cons_zero]
  iterate 31 (first | (go_at_call 45; refine (partJ hx).mono ?_; rintro e w' ⟨rfl, hb⟩; replace H := H.grow hb; clear hb; dsimp only) | (go_at_call 46; refine (sigJ hx).mono ?_; rintro e w' ⟨rfl, hb⟩; replace H := H.grow hb; clear hb; dsimp only) | go_step)
  show wpList Tryz.prog _ _ (_ :: _) _ _
  with_reducible refine wpList_built rfl 47 _ rfl c2 (by rw [← h2.out]; kernel_rfl) ?_
  simp only [Act.put, List.setIfInBounds_toArray, List.set_cons_succ, List.set_cons_zero]
  iterate 27 (first | (go_at_call 45; refine (partJ hx).mono ?_; rintro e w' ⟨rfl, hb⟩; replace H := H.grow hb; clear hb; dsimp only) | (go_at_call 46; refine (sigJ hx).mono ?_; rintro e w' ⟨rfl, hb⟩; replace H := H.grow hb; clear hb; dsimp only) | go_step)
  show wpList Tryz.prog _ _ (_ :: _) _ _
  with_reducible refine wpList_built rfl 47 _ rfl c3 (by rw [← h3.out]; kernel_rfl) ?_
  simp only [Act.put, List.setIfInBounds_toArray, List.set_cons_succ, List.set_cons_zero]
  iterate 16 (first | (go_at_call 45; refine (partJ hx).mono ?_; rintro e w' ⟨rfl, hb⟩; replace H := H.grow hb; clear hb; dsimp only) | (go_at_call 46; refine (sigJ hx).mono ?_; rintro e w' ⟨rfl, hb⟩; replace H := H.grow hb; clear hb; dsimp only) | go_step)
  show wpList Tryz.prog _ _ (_ :: _) _ _
  with_reducible refine wpList_built rfl 47 _ rfl c4 (by rw [← h4.out]; kernel_rfl) ?_
  simp only [Act.put, List.setIfInBounds_toArray, List.set_cons_succ, List.set_cons_zero]
  iterate 16 (first | (go_at_call 45; refine (partJ hx).mono ?_; rintro e w' ⟨rfl, hb⟩; replace H := H.grow hb; clear hb; dsimp only) | (go_at_call 46; refine (sigJ hx).mono ?_; rintro e w' ⟨rfl, hb⟩; replace H := H.grow hb; clear hb; dsimp only) | go_step)
  show wpList Tryz.prog _ _ (_ :: _) _ _
  with_reducible refine wpList_built rfl 47 _ rfl c5 (by rw [← h5.out]; kernel_rfl) ?_
  simp only [Act.put, List.setIfInBounds_toArray, List.set_cons_succ, List.set_cons_zero]
  iterate 11 (first | (go_at_call 45; refine (partJ hx).mono ?_; rintro e w' ⟨rfl, hb⟩; replace H := H.grow hb; clear hb; dsimp only) | (go_at_call 46; refine (sigJ hx).mono ?_; rintro e w' ⟨rfl, hb⟩; replace H := H.grow hb; clear hb; dsimp only) | go_step)
  show wpList Tryz.prog _ _ (_ :: _) _ _
  with_reducible refine wpList_built rfl 47 _ rfl c6 (by rw [← h6.out]; kernel_rfl) ?_
  simp only [Act.put, List.setIfInBounds_toArray, List.set_cons_succ, List.set_cons_zero]
  iterate 18 (first | (go_at_call 45; refine (partJ hx).mono ?_; rintro e w' ⟨rfl, hb⟩; replace H := H.grow hb; clear hb; dsimp only) | (go_at_call 46; refine (sigJ hx).mono ?_; rintro e w' ⟨rfl, hb⟩; replace H := H.grow hb; clear hb; dsimp only) | go_step)
  show wpList Tryz.prog _ _ (_ :: _) _ _
  with_reducible refine wpList_built rfl 47 _ rfl c7 (by rw [← h7.out]; kernel_rfl) ?_
  simp only [Act.put, List.setIfInBounds_toArray, List.set_cons_succ, List.set_cons_zero]
  iterate 11 (first | (go_at_call 45; refine (partJ hx).mono ?_; rintro e w' ⟨rfl, hb⟩; replace H := H.grow hb; clear hb; dsimp only) | (go_at_call 46; refine (sigJ hx).mono ?_; rintro e w' ⟨rfl, hb⟩; replace H := H.grow hb; clear hb; dsimp only) | go_step)
  show wpList Tryz.prog _ _ (_ :: _) _ _
  with_reducible refine wpList_built rfl 47 _ rfl c8 (by rw [← h8.out]; kernel_rfl) ?_
  simp only [Act.put, List.setIfInBounds_toArray, List.set_cons_succ, List.set_cons_zero]
  iterate 25 (first | (go_at_call 45; refine (partJ hx).mono ?_; rintro e w' ⟨rfl, hb⟩; replace H := H.grow hb; clear hb; dsimp only) | (go_at_call 46; refine (sigJ hx).mono ?_; rintro e w' ⟨rfl, hb⟩; replace H := H.grow hb; clear hb; dsimp only) | go_step)
  show wpList Tryz.prog _ _ (_ :: _) _ _
  with_reducible refine wpList_built rfl 47 _ rfl c9 (by rw [← h9.out]; kernel_rfl) ?_
  simp only [Act.put, List.setIfInBounds_toArray, List.set_cons_succ, List.set_cons_zero]
  iterate 8 (first | (go_at_call 45; refine (partJ hx).mono ?_; rintro e w' ⟨rfl, hb⟩; replace H := H.grow hb; clear hb; dsimp only) | (go_at_call 46; refine (sigJ hx).mono ?_; rintro e w' ⟨rfl, hb⟩; replace H := H.grow hb; clear hb; dsimp only) | go_step)
  show wpList Tryz.prog _ _ (_ :: _) _ _
  with_reducible refine wpList_built rfl 47 _ rfl c10 (by rw [← h10.out]; kernel_rfl) ?_
  simp only [Act.put, List.setIfInBounds_toArray, List.set_cons_succ, List.set_cons_zero]
  iterate 10 (first | (go_at_call 45; refine (partJ hx).mono ?_; rintro e w' ⟨rfl, hb⟩; replace H := H.grow hb; clear hb; dsimp only) | (go_at_call 46; refine (sigJ hx).mono ?_; rintro e w' ⟨rfl, hb⟩; replace H := H.grow hb; clear hb; dsimp only) | go_step)
  show wpList Tryz.prog _ _ (_ :: _) _ _
  with_reducible refine wpList_built rfl 47 _ rfl c11 (by rw [← h11.out]; kernel_rfl) ?_
  simp only [Act.put, List.setIfInBounds_toArray, List.set_cons_succ, List.set_cons_zero]
  iterate 14 (first | (go_at_call 45; refine (partJ hx).mono ?_; rintro e w' ⟨rfl, hb⟩; replace H := H.grow hb; clear hb; dsimp only) | (go_at_call 46; refine (sigJ hx).mono ?_; rintro e w' ⟨rfl, hb⟩; replace H := H.grow hb; clear hb; dsimp only) | go_step)
  show wpList Tryz.prog _ _ (_ :: _) _ _
  with_reducible refine wpList_built rfl 47 _ rfl c12 (by rw [← h12.out]; kernel_rfl) ?_
  simp only [Act.put, List.setIfInBounds_toArray, List.set_cons_succ, List.set_cons_zero]
  iterate 7 (first | (go_at_call 45; refine (partJ hx).mono ?_; rintro e w' ⟨rfl, hb⟩; replace H := H.grow hb; clear hb; dsimp only) | (go_at_call 46; refine (sigJ hx).mono ?_; rintro e w' ⟨rfl, hb⟩; replace H := H.grow hb; clear hb; dsimp only) | go_step)
  show wpList Tryz.prog _ _ (_ :: _) _ _
  with_reducible refine wpList_built rfl 47 _ rfl c13 (by rw [← h13.out]; kernel_rfl) ?_
  simp only [Act.put, List.setIfInBounds_toArray, List.set_cons_succ, List.set_cons_zero]
  iterate 6 (first | (go_at_call 45; refine (partJ hx).mono ?_; rintro e w' ⟨rfl, hb⟩; replace H := H.grow hb; clear hb; dsimp only) | (go_at_call 46; refine (sigJ hx).mono ?_; rintro e w' ⟨rfl, hb⟩; replace H := H.grow hb; clear hb; dsimp only) | go_step)
  show wpList Tryz.prog _ _ (_ :: _) _ _
  with_reducible refine wpList_built rfl 47 _ rfl c14 (by rw [← h14.out]; kernel_rfl) ?_
  simp only [Act.put, List.setIfInBounds_toArray, List.set_cons_succ, List.set_cons_zero]
  iterate 25 (first | (go_at_call 45; refine (partJ hx).mono ?_; rintro e w' ⟨rfl, hb⟩; replace H := H.grow hb; clear hb; dsimp only) | (go_at_call 46; refine (sigJ hx).mono ?_; rintro e w' ⟨rfl, hb⟩; replace H := H.grow hb; clear hb; dsimp only) | go_step)
  show wpList Tryz.prog _ _ (_ :: _) _ _
  with_reducible refine wpList_built rfl 47 _ rfl c15 (by rw [← h15.out]; kernel_rfl) ?_
  simp only [Act.put, List.setIfInBounds_toArray, List.set_cons_succ, List.set_cons_zero]
  iterate 7 (first | (go_at_call 45; refine (partJ hx).mono ?_; rintro e w' ⟨rfl, hb⟩; replace H := H.grow hb; clear hb; dsimp only) | (go_at_call 46; refine (sigJ hx).mono ?_; rintro e w' ⟨rfl, hb⟩; replace H := H.grow hb; clear hb; dsimp only) | go_step)
  show wpList Tryz.prog _ _ (_ :: _) _ _
  with_reducible refine wpList_built rfl 47 _ rfl c16 (by rw [← h16.out]; kernel_rfl) ?_
  simp only [Act.put, List.setIfInBounds_toArray, List.set_cons_succ, List.set_cons_zero]
  iterate 11 (first | (go_at_call 45; refine (partJ hx).mono ?_; rintro e w' ⟨rfl, hb⟩; replace H := H.grow hb; clear hb; dsimp only) | (go_at_call 46; refine (sigJ hx).mono ?_; rintro e w' ⟨rfl, hb⟩; replace H := H.grow hb; clear hb; dsimp only) | go_step)
  show wpList Tryz.prog _ _ (_ :: _) _ _
  with_reducible refine wpList_built rfl 47 _ rfl c17 (by rw [← h17.out]; kernel_rfl) ?_
  simp only [Act.put, List.setIfInBounds_toArray, List.set_cons_succ, List.set_cons_zero]
  iterate 11 (first | (go_at_call 45; refine (partJ hx).mono ?_; rintro e w' ⟨rfl, hb⟩; replace H := H.grow hb; clear hb; dsimp only) | (go_at_call 46; refine (sigJ hx).mono ?_; rintro e w' ⟨rfl, hb⟩; replace H := H.grow hb; clear hb; dsimp only) | go_step)
  show wpList Tryz.prog _ _ (_ :: _) _ _
  with_reducible refine wpList_built rfl 47 _ rfl c18 (by rw [← h18.out]; kernel_rfl) ?_
  simp only [Act.put, List.setIfInBounds_toArray, List.set_cons_succ, List.set_cons_zero]
  iterate 8 (first | (go_at_call 45; refine (partJ hx).mono ?_; rintro e w' ⟨rfl, hb⟩; replace H := H.grow hb; clear hb; dsimp only) | (go_at_call 46; refine (sigJ hx).mono ?_; rintro e w' ⟨rfl, hb⟩; replace H := H.grow hb; clear hb; dsimp only) | go_step)
  show wpList Tryz.prog _ _ (_ :: _) _ _
  with_reducible refine wpList_built rfl 47 _ rfl c19 (by rw [← h19.out]; kernel_rfl) ?_
  simp only [Act.put, List.setIfInBounds_toArray, List.set_cons_succ, List.set_cons_zero]
  iterate 8 (first | (go_at_call 45; refine (partJ hx).mono ?_; rintro e w' ⟨rfl, hb⟩; replace H := H.grow hb; clear hb; dsimp only) | (go_at_call 46; refine (sigJ hx).mono ?_; rintro e w' ⟨rfl, hb⟩; replace H := H.grow hb; clear hb; dsimp only) | go_step)
  show wpList Tryz.prog _ _ (_ :: _) _ _
  with_reducible refine wpList_built rfl 47 _ rfl c20 (by rw [← h20.out]; kernel_rfl) ?_
  simp only [Act.put, List.setIfInBounds_toArray, List.set_cons_succ, List.set_cons_zero]
  iterate 4 (first | (go_at_call 45; refine (partJ hx).mono ?_; rintro e w' ⟨rfl, hb⟩; replace H := H.grow hb; clear hb; dsimp only) | (go_at_call 46; refine (sigJ hx).mono ?_; rintro e w' ⟨rfl, hb⟩; replace H := H.grow hb; clear hb; dsimp only) | go_step)
  show wpList Tryz.prog _ _ (_ :: _) _ _
  with_reducible refine wpList_built rfl 47 _ rfl c21 (by rw [← h21.out]; kernel_rfl) ?_
  simp only [Act.put, List.setIfInBounds_toArray, List.set_cons_succ, List.set_cons_zero]
  iterate 4 (first | (go_at_call 45; refine (partJ hx).mono ?_; rintro e w' ⟨rfl, hb⟩; replace H := H.grow hb; clear hb; dsimp only) | (go_at_call 46; refine (sigJ hx).mono ?_; rintro e w' ⟨rfl, hb⟩; replace H := H.grow hb; clear hb; dsimp only) | go_step)
  show wpList Tryz.prog _ _ (_ :: _) _ _
  with_reducible refine wpList_built rfl 47 _ rfl c22 (by rw [← h22.out]; kernel_rfl) ?_
  simp only [Act.put, List.setIfInBounds_toArray, List.set_cons_succ, List.set_cons_zero]
  iterate 6 (first | (go_at_call 45; refine (partJ hx).mono ?_; rintro e w' ⟨rfl, hb⟩; replace H := H.grow hb; clear hb; dsimp only) | (go_at_call 46; refine (sigJ hx).mono ?_; rintro e w' ⟨rfl, hb⟩; replace H := H.grow hb; clear hb; dsimp only) | go_step)
  show wpList Tryz.prog _ _ (_ :: _) _ _
  with_reducible refine wpList_built rfl 47 _ rfl c23 (by rw [← h23.out]; kernel_rfl) ?_
  simp only [Act.put, List.setIfInBounds_toArray, List.set_cons_succ, List.set_cons_zero]
  iterate 13 (first | (go_at_call 45; refine (partJ hx).mono ?_; rintro e w' ⟨rfl, hb⟩; replace H := H.grow hb; clear hb; dsimp only) | (go_at_call 46; refine (sigJ hx).mono ?_; rintro e w' ⟨rfl, hb⟩; replace H := H.grow hb; clear hb; dsimp only) | go_step)
  show wpList Tryz.prog _ _ (_ :: _) _ _
  with_reducible refine wpList_built rfl 47 _ rfl c24 (by rw [← h24.out]; kernel_rfl) ?_
  simp only [Act.put, List.setIfInBounds_toArray, List.set_cons_succ, List.set_cons_zero]
  iterate 16 (first | (go_at_call 45; refine (partJ hx).mono ?_; rintro e w' ⟨rfl, hb⟩; replace H := H.grow hb; clear hb; dsimp only) | (go_at_call 46; refine (sigJ hx).mono ?_; rintro e w' ⟨rfl, hb⟩; replace H := H.grow hb; clear hb; dsimp only) | go_step)
  show wpList Tryz.prog _ _ (_ :: _) _ _
  with_reducible refine wpList_built rfl 47 _ rfl c25 (by rw [← h25.out]; kernel_rfl) ?_
  simp only [Act.put, List.setIfInBounds_toArray, List.set_cons_succ, List.set_cons_zero]
  show wpList Tryz.prog _ _ (_ :: _) _ _
  with_reducible refine wpList_built rfl 47 _ rfl c26 (by rw [← h26.out]; kernel_rfl) ?_
  simp only [Act.put, List.setIfInBounds_toArray, List.set_cons_succ, List.set_cons_zero]
  iterate 7 (first | (go_at_call 45; refine (partJ hx).mono ?_; rintro e w' ⟨rfl, hb⟩; replace H := H.grow hb; clear hb; dsimp only) | (go_at_call 46; refine (sigJ hx).mono ?_; rintro e w' ⟨rfl, hb⟩; replace H := H.grow hb; clear hb; dsimp only) | go_step)
  show wpList Tryz.prog _ _ (_ :: _) _ _
  with_reducible refine wpList_built rfl 47 _ rfl c27 (by rw [← h27.out]; kernel_rfl) ?_
  simp only [Act.put, List.setIfInBounds_toArray, List.set_cons_succ, List.set_cons_zero]
  iterate 7 (first | (go_at_call 45; refine (partJ hx).mono ?_; rintro e w' ⟨rfl, hb⟩; replace H := H.grow hb; clear hb; dsimp only) | (go_at_call 46; refine (sigJ hx).mono ?_; rintro e w' ⟨rfl, hb⟩; replace H := H.grow hb; clear hb; dsimp only) | go_step)
  show wpList Tryz.prog _ _ (_ :: _) _ _
  with_reducible refine wpList_built rfl 47 _ rfl c28 (by rw [← h28.out]; kernel_rfl) ?_
  simp only [Act.put, List.setIfInBounds_toArray, List.set_cons_succ, List.set_cons_zero]
  show wpList Tryz.prog _ _ (_ :: _) _ _
  with_reducible refine wpList_built rfl 47 _ rfl c29 (by rw [← h29.out]; kernel_rfl) ?_
  simp only [Act.put, List.setIfInBounds_toArray, List.set_cons_succ, List.set_cons_zero]
  iterate 3 (first | (go_at_call 45; refine (partJ hx).mono ?_; rintro e w' ⟨rfl, hb⟩; replace H := H.grow hb; clear hb; dsimp only) | (go_at_call 46; refine (sigJ hx).mono ?_; rintro e w' ⟨rfl, hb⟩; replace H := H.grow hb; clear hb; dsimp only) | go_step)
  show wpList Tryz.prog _ _ (_ :: _) _ _
  with_reducible refine wpList_built rfl 47 _ rfl c30 (by rw [← h30.out]; kernel_rfl) ?_
  simp only [Act.put, List.setIfInBounds_toArray, List.set_cons_succ, List.set_cons_zero]
  iterate 3 (first | (go_at_call 45; refine (partJ hx).mono ?_; rintro e w' ⟨rfl, hb⟩; replace H := H.grow hb; clear hb; dsimp only) | (go_at_call 46; refine (sigJ hx).mono ?_; rintro e w' ⟨rfl, hb⟩; replace H := H.grow hb; clear hb; dsimp only) | go_step)
  show wpList Tryz.prog _ _ (_ :: _) _ _
  with_reducible refine wpList_built rfl 47 _ rfl c31 (by rw [← h31.out]; kernel_rfl) ?_
  simp only [Act.put, List.setIfInBounds_toArray, List.set_cons_succ, List.set_cons_zero]
  show wpList Tryz.prog _ _ (_ :: _) _ _
  with_reducible refine wpList_built rfl 47 _ rfl c32 (by rw [← h32.out]; kernel_rfl) ?_
  simp only [Act.put, List.setIfInBounds_toArray, List.set_cons_succ, List.set_cons_zero]
  iterate 10 (first | (go_at_call 45; refine (partJ hx).mono ?_; rintro e w' ⟨rfl, hb⟩; replace H := H.grow hb; clear hb; dsimp only) | (go_at_call 46; refine (sigJ hx).mono ?_; rintro e w' ⟨rfl, hb⟩; replace H := H.grow hb; clear hb; dsimp only) | go_step)
  show wpList Tryz.prog _ _ (_ :: _) _ _
  with_reducible refine wpList_built rfl 47 _ rfl c33 (by rw [← h33.out]; kernel_rfl) ?_
  simp only [Act.put, List.setIfInBounds_toArray, List.set_cons_succ, List.set_cons_zero]
  iterate 10 (first | (go_at_call 45; refine (partJ hx).mono ?_; rintro e w' ⟨rfl, hb⟩; replace H := H.grow hb; clear hb; dsimp only) | (go_at_call 46; refine (sigJ hx).mono ?_; rintro e w' ⟨rfl, hb⟩; replace H := H.grow hb; clear hb; dsimp only) | go_step)
  show wpList Tryz.prog _ _ (_ :: _) _ _
  with_reducible refine wpList_built rfl 47 _ rfl c34 (by rw [← h34.out]; kernel_rfl) ?_
  simp only [Act.put, List.setIfInBounds_toArray, List.set_cons_succ, List.set_cons_zero]
  iterate 7 (first | (go_at_call 45; refine (partJ hx).mono ?_; rintro e w' ⟨rfl, hb⟩; replace H := H.grow hb; clear hb; dsimp only) | (go_at_call 46; refine (sigJ hx).mono ?_; rintro e w' ⟨rfl, hb⟩; replace H := H.grow hb; clear hb; dsimp only) | go_step)
  show wpList Tryz.prog _ _ (_ :: _) _ _
  with_reducible refine wpList_built rfl 47 _ rfl c35 (by rw [← h35.out]; kernel_rfl) ?_
  simp only [Act.put, List.setIfInBounds_toArray, List.set_cons_succ, List.set_cons_zero]
  iterate 7 (first | (go_at_call 45; refine (partJ hx).mono ?_; rintro e w' ⟨rfl, hb⟩; replace H := H.grow hb; clear hb; dsimp only) | (go_at_call 46; refine (sigJ hx).mono ?_; rintro e w' ⟨rfl, hb⟩; replace H := H.grow hb; clear hb; dsimp only) | go_step)
  show wpList Tryz.prog _ _ (_ :: _) _ _
  with_reducible refine wpList_built rfl 47 _ rfl c36 (by rw [← h36.out]; kernel_rfl) ?_
  simp only [Act.put, List.setIfInBounds_toArray, List.set_cons_succ, List.set_cons_zero]
  iterate 7 (first | (go_at_call 45; refine (partJ hx).mono ?_; rintro e w' ⟨rfl, hb⟩; replace H := H.grow hb; clear hb; dsimp only) | (go_at_call 46; refine (sigJ hx).mono ?_; rintro e w' ⟨rfl, hb⟩; replace H := H.grow hb; clear hb; dsimp only) | go_step)
  show wpList Tryz.prog _ _ (_ :: _) _ _
  with_reducible refine wpList_built rfl 47 _ rfl c37 (by rw [← h37.out]; kernel_rfl) ?_
  simp only [Act.put, List.setIfInBounds_toArray, List.set_cons_succ, List.set_cons_zero]
  iterate 7 (first | (go_at_call 45; refine (partJ hx).mono ?_; rintro e w' ⟨rfl, hb⟩; replace H := H.grow hb; clear hb; dsimp only) | (go_at_call 46; refine (sigJ hx).mono ?_; rintro e w' ⟨rfl, hb⟩; replace H := H.grow hb; clear hb; dsimp only) | go_step)
  show wpList Tryz.prog _ _ (_ :: _) _ _
  with_reducible refine wpList_built rfl 47 _ rfl c38 (by rw [← h38.out]; kernel_rfl) ?_
  simp only [Act.put, List.setIfInBounds_toArray, List.set_cons_succ, List.set_cons_zero]
  show wpList Tryz.prog _ _ (_ :: _) _ _
  with_reducible refine wpList_built rfl 47 _ rfl c39 (by rw [← h39.out]; kernel_rfl) ?_
  simp only [Act.put, List.setIfInBounds_toArray, List.set_cons_succ, List.set_cons_zero]
  iterate 7 (first | (go_at_call 45; refine (partJ hx).mono ?_; rintro e w' ⟨rfl, hb⟩; replace H := H.grow hb; clear hb; dsimp only) | (go_at_call 46; refine (sigJ hx).mono ?_; rintro e w' ⟨rfl, hb⟩; replace H := H.grow hb; clear hb; dsimp only) | go_step)
  show wpList Tryz.prog _ _ (_ :: _) _ _
  with_reducible refine wpList_built rfl 47 _ rfl c40 (by rw [← h40.out]; kernel_rfl) ?_
  simp only [Act.put, List.setIfInBounds_toArray, List.set_cons_succ, List.set_cons_zero]
  show wpList Tryz.prog _ _ (_ :: _) _ _
  refine wpList_buildRow rfl 85 47 41 _ rfl 16 (L.map Ins.val) (by kernel_rfl) info25 (by kernel_rfl) (by decide) (fun v hv => by obtain ⟨i, _, rfl⟩ := List.mem_map.1 hv; rfl) (by rw [List.length_map, hlen]) (by decide) (by decide) (by rw [← hV.out]; kernel_rfl) ?_
  simp only [Act.put, List.setIfInBounds_toArray, List.set_cons_succ, List.set_cons_zero]
  clear h0 h1 h2 h3 h4 h5 h6 h7 h8 h9 h10 h11 h12 h13 h14 h15 h16 h17 h18 h19 h20 h21 h22 h23 h24 h25 h26 h27 h28 h29 h30 h31 h32 h33 h34 h35 h36 h37 h38 h39 h40 hV
  generalize hw : w'.alloc _ = w3
  replace H : Rl L w'.heap.size w w3 := by rw [← hw]; exact rl_start H L
  clear hw
  generalize w'.heap.size = g at H ⊢
  replace hLL := show Hid _ from hLL
  go_wp2
  go_loopw [15] (fun s8 wr => ∃ k : Nat, k ≤ 41 ∧ s8 = .int .i64 k ∧ Hid (Rl L g w wr) ∧ Hid (rfind x (L.drop k) = rfind x L)) (fun s8 _ => 41 - (intOf s8).toNat)
  case atStart => exact ⟨0, by omega, rfl, H, rfl⟩
  case round =>
    clear H
    obtain ⟨k, hk2, rfl, H, hD⟩ := hrel
    by_cases hlt : k < 41
    · have hl2 : (k : Int) < 41 := by omega
      obtain ⟨i, hi, hd⟩ : ∃ i, L[k]? = some i ∧ L.drop k = i :: L.drop (k + 1) := ⟨L[k]'(by omega), List.getElem?_eq_getElem _, List.drop_eq_getElem_cons _⟩
      have hD : Hid (rfind x (i :: L.drop (k + 1)) = rfind x L) := by rw [← hd]; exact hD.out
      clear hd
      replace H := H.out
      have hat := row_at H.tab hi
      have hi16 : (Tryz.prog.info? 47).map (·.size) = some i.cells.toList.length := info25
      cases hr : rightB i
      · have hV : rfind x (L.drop (k + 1)) = rfind x L := by rw [← hD.out, rfind, hr]; rfl
        go_wp2_with (first | (go_at_call 47; refine (rencode_c i _).mono ?_; rw [hr]; rintro e w4 ⟨rfl, hb⟩; replace H := H.grow hb; replace hat := row_at H.tab hi; clear hb; dsimp only) | ((with_reducible refine wpList_load_mid rfl 47 _ rfl g (k * 16) rfl i.cells.toList _ hat Tryz.underlying47 rfl hi16 ?_); simp only [Act.put, List.setIfInBounds_toArray, List.set_cons_succ, List.set_cons_zero]))
        go_roundw
        case rel => exact ⟨k + 1, by omega, by go_num, H, hV⟩
        case measure => simp [intOf]; omega
      · cases he : ((encV i).1 == x)
        · have hV : rfind x (L.drop (k + 1)) = rfind x L := by rw [← hD.out, rfind, hr, he]; rfl
          go_wp2_with (first | (go_at_call 47; refine (rencode_c i _).mono ?_; rw [hr]; rintro e w4 ⟨rfl, hb⟩; replace H := H.grow hb; replace hat := row_at H.tab hi; clear hb; dsimp only) | ((with_reducible refine wpList_load_mid rfl 47 _ rfl g (k * 16) rfl i.cells.toList _ hat Tryz.underlying47 rfl hi16 ?_); simp only [Act.put, List.setIfInBounds_toArray, List.set_cons_succ, List.set_cons_zero]))
          go_roundw
          case rel => exact ⟨k + 1, by omega, by go_num, H, hV⟩
          case measure => simp [intOf]; omega
        · have hV : rfind x L = i := by rw [← hD.out, rfind, hr, he]; rfl
          go_upto_region 20 with (first | (go_at_call 47; refine (rencode_c i _).mono ?_; rw [hr]; rintro e w4 ⟨rfl, hb⟩; replace H := H.grow hb; replace hat := row_at H.tab hi; clear hb; dsimp only) | ((with_reducible refine wpList_load_mid rfl 47 _ rfl g (k * 16) rfl i.cells.toList _ hat Tryz.underlying47 rfl hi16 ?_); simp only [Act.put, List.setIfInBounds_toArray, List.set_cons_succ, List.set_cons_zero]))
          obtain ⟨Z, hz, hZ⟩ := H.res
          go_wp2_with (first | ((with_reducible refine wpList_load_mid rfl 47 _ rfl g (k * 16) rfl i.cells.toList _ hat Tryz.underlying47 rfl hi16 ?_); simp only [Act.put, List.setIfInBounds_toArray, List.set_cons_succ, List.set_cons_zero]) | (((with_reducible refine wpList_store_row rfl 47 _ _ rfl w.heap.size i.cells rfl ?_ 47 _ hZ i.infoC ?_ i.oneC ?_); (focus rfl); (focus (rw [hz]; rfl)); (simp only [Act.put]))))
          refine bodyPost_ret (results_cell_row rfl _ _ _ 47 _ (0, 0) _ rfl (setRow_heap _ _ _ _ _ _ hZ) Tryz.underlying47 rfl i.infoC) rfl ?_
          exact ⟨by first | rfl | rw [hV], Go.Proofs.YtbjcdpmhmebjnaaGreat.below_setRow H.below (Nat.le_refl _)⟩
    · obtain rfl : k = 41 := by omega
      have hV : rfind x L = nilI := by rw [← hD.out, List.drop_eq_nil_of_le (by omega)]; rfl
      obtain ⟨Z, hz, hZ⟩ := H.out.res
      have HB := H.out.below
      go_upto_region 21 with fail
      refine wp_region_lit ?_
      with_reducible refine wpList_built rfl 47 _ rfl nilI.cells (by kernel_rfl) ?_
      simp only [Act.put, List.setIfInBounds_toArray, List.set_cons_succ, List.set_cons_zero]
      with_reducible refine wpList_store_row rfl 47 _ _ rfl w.heap.size nilI.cells rfl rfl 47 Z hZ nilI.infoC ?_ nilI.oneC ?_
      focus (rw [hz]; rfl)
      go_wp2
      refine bodyPost_ret (results_cell_row rfl _ _ _ 47 _ (0, 0) _ rfl (setRow_heap _ _ _ _ _ _ hZ) Tryz.underlying47 rfl nilI.infoC) rfl ?_
      exact ⟨by first | rfl | rw [hV], Go.Proofs.YtbjcdpmhmebjnaaGreat.below_setRow HB (Nat.le_refl _)⟩
end Go.Proofs.YtbjcdpmhmebjnaaGreat
