/- What the example asks, plainly and call by call. -/
import Derived.Test.YtioeiogcejikbaaDoorEa
import Derived.Test.YtioeiogcejikbaaDoorTb
import Derived.Test.YtioeiogcejikbaaDoorSi
namespace Go.Proofs.YtioeiogcejikbaaDoor
open Go.RowKit
set_option linter.unusedVariables false
set_option linter.unusedSimpArgs false
set_option maxRecDepth 8000

def exC0 : Cor := { nilC with el := 1 }
def exC : Cor := { nilC with el := 1, x := nilC.x.set 1 8 }
def exS1 : Rn := nextV exL (newS 7 exC)
def exS2 : Rn := takeV 7 exS1 ⟨5, false, 0⟩
def exS3 : Rn := nextV exL exS2
def exT2 : Rn := takeV 7 exS1 ⟨0, false, 1⟩
def exT3 : Rn := nextV exL exT2
theorem e1w : exS1.w = ⟨1, 8, 0, 0, false, 0, false, 0, 0, 0⟩ := by kernel_rfl
theorem e1g : exS1.go = 1 := by kernel_rfl
theorem e1n : exS1.next = 5 := by kernel_rfl
theorem e2n : exS2.next = 5 := by kernel_rfl
theorem t2n : exT2.next = 7 := by kernel_rfl
theorem e3w : exS3.w = nilW := by kernel_rfl
theorem e3g : exS3.go = 0 := by kernel_rfl
theorem t3w : exT3.w = nilW := by kernel_rfl
theorem t3g : exT3.go = 0 := by kernel_rfl
theorem e3f : exS3.flt = false := by kernel_rfl
theorem t3f : exT3.flt = true := by kernel_rfl
theorem e3p : exS3.c.pc = 68 := by kernel_rfl
theorem t3p : exT3.c.pc = 64 := by kernel_rfl
theorem e3x : exS3.c.x[0] = 5 := by kernel_rfl
theorem ex_right : rightB 64 1 1 exL = true := by kernel_rfl
theorem ex_newE : newE 64 1 1 exL exC = 0 := by kernel_rfl
theorem ex_len : exL.length = 7 := rfl
theorem ex_immu (k : Nat) : U64 (opAt exL k).imm := by
  match k with
  | 0 => exact ⟨by decide, by decide⟩
  | 1 => exact ⟨by decide, by decide⟩
  | 2 => exact ⟨by decide, by decide⟩
  | 3 => exact ⟨by decide, by decide⟩
  | 4 => exact ⟨by decide, by decide⟩
  | 5 => exact ⟨by decide, by decide⟩
  | 6 => exact ⟨by decide, by decide⟩
  | k + 7 => exact ⟨by show (0 : Int) ≤ 0; decide, by show (0 : Int) < _; decide⟩
theorem ex_imm (k : Nat) : 0 ≤ (opAt exL k).imm := (ex_immu k).1
theorem ex_fit : ∀ k, k < exL.length → OpFit exL (opAt exL k) := fit_of (by have := ex_right; unfold rightB at this; rw [Bool.and_eq_true] at this; exact this.2) ex_immu
theorem ex_ok : CorOk exC := ⟨fun i hi => by
  show U64 ((nilC.x.set 1 8)[i])
  rw [Vector.getElem_set]
  split
  · exact ⟨by decide, by decide⟩
  · show U64 ((Vector.replicate 31 (0 : Int))[i])
    rw [Vector.getElem_replicate]; exact ⟨by decide, by decide⟩, ⟨by decide, by decide⟩, ⟨by decide, by decide⟩⟩
theorem sl_cap (b : Nat) : ∀ ao n cap, Value.slice (some ⟨b, 0, none⟩) 7 7 = .slice ao n cap → n ≤ cap := fun _ _ _ e => by cases e; exact Nat.le_refl _
/-- New of the example. -/
theorem exNew_c {w : World} {b : Nat} (hb : w.heap[b]? = some (.cells exA 42)) : Calls Tryd.prog 7 #[blV 64 1 1 (.slice (some ⟨b, 0, none⟩) 7 7), exC.val] w fun e w' => ∃ p, e = .returned (.tuple #[p, vI 0]) ∧ Fresh exL (newS 7 exC) w.heap.size p w' ∧ Below w.heap.size w w' := by
  refine (new_c (words := 1) (el := 1) (by decide) (ex_ops hb) ex_imm (sl_cap b) ex_ok).mono ?_
  rintro e w' ⟨hB, ⟨hn, _⟩ | ⟨_, u, rfl, F⟩⟩
  · exact absurd ex_newE hn
  · exact ⟨u, rfl, F, hB⟩
theorem nil_ops (w : World) : Ops w (.slice none 0 0) [] := ⟨⟨none, 0, rfl⟩, Nat.zero_le _, fun h => by simp at h⟩
theorem exNone_c (w : World) : Calls Tryd.prog 7 #[blV 0 0 0 (.slice none 0 0), exC.val] w fun e w' => e = .returned (.tuple #[.pointer none, vI 4]) ∧ Below w.heap.size w w' := by
  refine (new_c (words := 0) (el := 0) (by decide) (nil_ops w) (fun k => by unfold opAt; simp [nilO]) (fun _ _ _ e => by cases e; exact Nat.le_refl _) ex_ok).mono ?_
  have e4 : newE 0 0 0 [] exC = 4 := by kernel_rfl
  rintro e w' ⟨hB, ⟨_, h⟩ | ⟨h, _⟩⟩
  · rw [e4] at h; exact ⟨h, hB⟩
  · rw [e4] at h; exact absurd h (by decide)
/-- Two runs of one block, apart. -/
structure Two (l : List Opr) (g1 vb1 : Nat) (so1 : Value) (g2 vb2 : Nat) (so2 : Value) (S T : Rn) (x : World) : Prop where
  r1 : RunAt l g1 vb1 so1 S x
  r2 : RunAt l g2 vb2 so2 T x
  gg : g1 ≠ g2
  vv : vb1 ≠ vb2
  o1 : ∀ k, so1.ownBlock = some k → k ≠ g2 ∧ k ≠ vb2
  o2 : ∀ k, so2.ownBlock = some k → k ≠ g1 ∧ k ≠ vb1
section
variable {l : List Opr} {g1 vb1 : Nat} {so1 : Value} {g2 vb2 : Nat} {so2 : Value} {S T : Rn} {x y : World}
theorem RunAt.apart {l m : List Opr} (h1 : RunAt l g1 vb1 so1 S x) (h2 : RunAt m g2 vb2 so2 T x) : g1 ≠ vb2 := ne_of_type h1.top h2.vals (by decide)
theorem Two.grow (h : Two l g1 vb1 so1 g2 vb2 so2 S T x) (hb : Below x.heap.size x y) : Two l g1 vb1 so1 g2 vb2 so2 S T y := ⟨h.r1.grow hb, h.r2.grow hb, h.gg, h.vv, h.o1, h.o2⟩
theorem Two.one {S' : Rn} (h : Two l g1 vb1 so1 g2 vb2 so2 S T x) (R : RT l g1 vb1 so1 S' x y) : Two l g1 vb1 so1 g2 vb2 so2 S' T y :=
  ⟨R.1, h.r2.keep (R.2.block _ h.r2.lt (fun e => e.elim (Ne.symm h.gg) (h.r2.apart h.r1))) (R.2.block _ h.r2.ltv (fun e => e.elim (Ne.symm (h.r1.apart h.r2)) (Ne.symm h.vv))) (fun k hk => R.2.block _ (h.r2.ob hk).1 (fun e => e.elim (h.o2 k hk).1 (h.o2 k hk).2)), h.gg, h.vv, h.o1, h.o2⟩
theorem Two.two {T' : Rn} (h : Two l g1 vb1 so1 g2 vb2 so2 S T x) (R : RT l g2 vb2 so2 T' x y) : Two l g1 vb1 so1 g2 vb2 so2 S T' y :=
  ⟨h.r1.keep (R.2.block _ h.r1.lt (fun e => e.elim h.gg (h.r1.apart h.r2))) (R.2.block _ h.r1.ltv (fun e => e.elim (Ne.symm (h.r2.apart h.r1)) h.vv)) (fun k hk => R.2.block _ (h.r1.ob hk).1 (fun e => e.elim (h.o1 k hk).1 (h.o1 k hk).2)), R.1, h.gg, h.vv, h.o1, h.o2⟩
end
/-- Calls that turn a run turn nothing that was there before it. -/
theorem RT.low {l : List Opr} {g vb : Nat} {so : Value} {S : Rn} {x y w : World} (R : RT l g vb so S x y) (hb : Below w.heap.size w x) (h1 : w.heap.size ≤ g) (h2 : w.heap.size ≤ vb) : Below w.heap.size w y :=
  hb.trans (R.2.below hb.size (fun k hk => by rcases hk with rfl | rfl <;> assumption))
/-- The digits of the example's numbers. -/
def exI (n : Int) : ByteArray := if n = 0 then ⟨#[48]⟩ else if n = 1 then ⟨#[49]⟩ else if n = 2 then ⟨#[50]⟩ else if n = 3 then ⟨#[51]⟩ else if n = 4 then ⟨#[52]⟩ else if n = 5 then ⟨#[53]⟩ else ⟨#[54]⟩
def exU (n : Int) : ByteArray := if n = 64 then ⟨#[54, 52]⟩ else if n = 68 then ⟨#[54, 56]⟩ else ⟨#[48]⟩
theorem exI_size (n : Int) : (exI n).size ≤ 32 := by unfold exI; repeat (first | decide | (split; decide))
theorem exU_size (n : Int) : (exU n).size ≤ 32 := by unfold exU; repeat (first | decide | (split; decide))
theorem exI_c (n : Int) (h0 : 0 ≤ n) (h1 : n ≤ 6) (w : World) : Calls Tryd.prog 22 #[vI n] w fun e w' => e = .returned (.string (exI n)) ∧ Below w.heap.size w w' := by
  have m : ∀ {s : ByteArray}, (Calls Tryd.prog 22 #[vI n] w fun e w' => e = .returned (.string s) ∧ w' = w) → exI n = s → Calls Tryd.prog 22 #[vI n] w fun e w' => e = .returned (.string (exI n)) ∧ Below w.heap.size w w' := fun h e => h.mono (fun e w' hh => by obtain ⟨h1, h2⟩ := hh; subst h2; exact ⟨by rw [h1, ‹exI n = _›], Below.refl _ _⟩)
  rcases (by omega : n = 0 ∨ n = 1 ∨ n = 2 ∨ n = 3 ∨ n = 4 ∨ n = 5 ∨ n = 6) with rfl | rfl | rfl | rfl | rfl | rfl | rfl
  · exact m (itoa_0 w) rfl
  · exact m (itoa_1 w) rfl
  · exact m (itoa_2 w) rfl
  · exact m (itoa_3 w) rfl
  · exact m (itoa_4 w) rfl
  · exact m (itoa_5 w) rfl
  · exact m (itoa_6 w) rfl
theorem exU_c (n : Int) (h : n = 0 ∨ n = 64 ∨ n = 68) (w : World) : Calls Tryd.prog 40 #[vU n, vI 10] w fun e w' => e = .returned (.string (exU n)) ∧ Below w.heap.size w w' := by
  rcases h with rfl | rfl | rfl
  · exact (uint_0 w).mono fun e w' hh => by obtain ⟨h1, h2⟩ := hh; subst h2; exact ⟨h1, Below.refl _ _⟩
  · exact (uint_64 w).mono fun e w' hh => by obtain ⟨h1, h2⟩ := hh; subst h2; exact ⟨h1, Below.refl _ _⟩
  · exact (uint_68 w).mono fun e w' hh => by obtain ⟨h1, h2⟩ := hh; subst h2; exact ⟨h1, Below.refl _ _⟩
theorem ex_tells : ∀ k, k < 7 → ∀ w, Tells w (opAt exL k) exI exU := by
  have key : ∀ o : Opr, (0 ≤ o.r ∧ o.r ≤ 6) → (0 ≤ o.a ∧ o.a ≤ 6) → (0 ≤ o.b ∧ o.b ≤ 6) → (0 ≤ o.order ∧ o.order ≤ 6) → (o.imm = 0 ∨ o.imm = 64 ∨ o.imm = 68) → ∀ w, Tells w o exI exU := fun o h1 h2 h3 h4 h5 w =>
    ⟨exI_size, exU_size, fun k hk _ w1 _ => by
      match k, hk with
      | 0, _ => exact exI_c _ h1.1 h1.2 w1
      | 1, _ => exact exI_c _ h2.1 h2.2 w1
      | 2, _ => exact exI_c _ h3.1 h3.2 w1
      | 3, _ => exact exI_c _ h4.1 h4.2 w1
      | k + 4, h => exact absurd h (by omega), fun _ w1 _ => exU_c _ h5 w1⟩
  intro k hk
  match k, hk with
  | 0, _ => exact key _ (by decide) (by decide) (by decide) (by decide) (by decide)
  | 1, _ => exact key _ (by decide) (by decide) (by decide) (by decide) (by decide)
  | 2, _ => exact key _ (by decide) (by decide) (by decide) (by decide) (by decide)
  | 3, _ => exact key _ (by decide) (by decide) (by decide) (by decide) (by decide)
  | 4, _ => exact key _ (by decide) (by decide) (by decide) (by decide) (by decide)
  | 5, _ => exact key _ (by decide) (by decide) (by decide) (by decide) (by decide)
  | 6, _ => exact key _ (by decide) (by decide) (by decide) (by decide) (by decide)
  | k + 7, h => exact absurd h (by omega)
def exT : ByteArray := ⟨#[48, 32, 97, 116, 32, 54, 52, 10, 49, 32, 103, 101, 116, 120, 32, 49, 10, 50, 32, 99, 111, 110, 115, 116, 32, 48, 10, 51, 32, 97, 108, 117, 32, 49, 32, 49, 32, 50, 10, 52, 32, 108, 111, 97, 100, 32, 51, 32, 48, 10, 53, 32, 115, 101, 116, 120, 32, 48, 32, 52, 10, 54, 32, 101, 120, 105, 116, 32, 54, 56, 10]⟩
theorem ex_lines : linesS exI exU exL 7 = exT := by kernel_rfl
theorem exText_c {w : World} {b : Nat} (hb : w.heap[b]? = some (.cells exA 42)) : Calls Tryd.prog 15 #[blV 64 1 1 (.slice (some ⟨b, 0, none⟩) 7 7)] w fun e w' => e = .returned (.tuple #[.string exT, vI 0]) ∧ Below w.heap.size w w' := by
  have h := text_c (words := 1) (el := 1) (dI := exI) (dU := exU) (by decide) (ex_ops hb) ex_imm (sl_cap b) ex_right (fun k hk w1 _ => ⟨ex_tells k hk w1, exI_c k (by omega) (by have : k < 7 := hk; omega) w1⟩)
  rw [ex_len, ex_lines] at h
  exact h
end Go.Proofs.YtioeiogcejikbaaDoor
