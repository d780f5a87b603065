/- Words that are laid together of fields, bit by bit: plain. -/
import Derived.Test.YtcmilajlngnibaaPlainC
import Derived.Test.YtcmilajlngnibaaPlainI
namespace Go.Proofs.Ytcmilajlngnibaa
open Go.RowKit

def fld (W a m : Nat) : Nat := W / 2 ^ a % 2 ^ m
theorem testBit_fld (W a m k : Nat) : (fld W a m).testBit k = (decide (k < m) && W.testBit (k + a)) := by
  unfold fld
  rw [Nat.testBit_mod_two_pow, Nat.testBit_div_two_pow]
theorem fld_lt (W a m : Nat) : fld W a m < 2 ^ m := Nat.mod_lt _ (Nat.two_pow_pos m)
def inR (a m i : Nat) : Bool := decide (a ≤ i) && decide (i < a + m)
def putN (W a m v : Nat) : Nat := orBits (fun i => if a ≤ i ∧ i < a + m then v.testBit (i - a) else W.testBit i) 32
theorem putN_in {W a m v i : Nat} (h : i < 32) (h1 : a ≤ i) (h2 : i < a + m) : (putN W a m v).testBit i = v.testBit (i - a) := by
  unfold putN; rw [testBit_orBits]; simp [h, h1, h2]
theorem putN_out {W a m v i : Nat} (h : i < 32) (h1 : ¬ (a ≤ i ∧ i < a + m)) : (putN W a m v).testBit i = W.testBit i := by
  unfold putN; rw [testBit_orBits]; simp only [h, decide_true, Bool.true_and]; rw [if_neg h1]
theorem putN_lt (W a m v : Nat) : putN W a m v < 4294967296 := orBits_lt _ 32

/-- A number laid at a place: the place, how many bits, the number. -/
structure Cr where
  a : Nat
  m : Nat
  v : Nat
def lays (W : Nat) : List Cr → Nat
  | [] => W
  | c :: l => lays (putN W c.a c.m c.v) l
theorem lays_append (W : Nat) (l l' : List Cr) : lays W (l ++ l') = lays (lays W l) l' := by
  induction l generalizing W with
  | nil => rfl
  | cons c l ih => exact ih _
theorem lays_out {i : Nat} (h : i < 32) : ∀ (l : List Cr) (W : Nat), (∀ c ∈ l, ¬ (c.a ≤ i ∧ i < c.a + c.m)) → (lays W l).testBit i = W.testBit i
  | [], _, _ => rfl
  | c :: l, W, hl => by
    show (lays (putN W c.a c.m c.v) l).testBit i = _
    rw [lays_out h l _ (fun d hd => hl d (by simp [hd])), putN_out h (hl c (by simp))]
theorem lays_lt {W : Nat} (hW : W < 4294967296) : ∀ l : List Cr, ∀ {W : Nat}, W < 4294967296 → lays W l < 4294967296
  | [], _, h => h
  | _ :: l, _, _ => lays_lt hW l (putN_lt _ _ _ _)
/-- The places of a list part, and lie within a word. -/
def apartL : List (Nat × Nat) → Bool
  | [] => true
  | (a, m) :: l => decide (a + m ≤ 32) && (l.all fun x => decide (a + m ≤ x.1) || decide (x.1 + x.2 ≤ a)) && apartL l
theorem apart_cons {a m : Nat} {l : List (Nat × Nat)} (h : apartL ((a, m) :: l) = true) : a + m ≤ 32 ∧ (∀ x ∈ l, a + m ≤ x.1 ∨ x.1 + x.2 ≤ a) ∧ apartL l = true := by
  simp only [apartL, Bool.and_eq_true, decide_eq_true_eq, List.all_eq_true, Bool.or_eq_true] at h
  exact ⟨h.1.1, h.1.2, h.2⟩
def placesL (l : List Cr) : List (Nat × Nat) := l.map fun c => (c.a, c.m)
theorem lays_in : ∀ (l : List Cr) (W : Nat), apartL (placesL l) = true → ∀ c ∈ l, ∀ i, c.a ≤ i → i < c.a + c.m → (lays W l).testBit i = c.v.testBit (i - c.a)
  | [], _, _, c, hc, _, _, _ => by cases hc
  | d :: l, W, hp, c, hc, i, h1, h2 => by
    obtain ⟨p1, p2, p3⟩ := apart_cons (show apartL ((d.a, d.m) :: placesL l) = true from hp)
    show (lays (putN W d.a d.m d.v) l).testBit i = _
    rcases List.mem_cons.1 hc with rfl | hc
    · have h32 : i < 32 := by omega
      rw [lays_out h32 l _ (fun e he hh => by
        have := p2 (e.a, e.m) (List.mem_map.2 ⟨e, he, rfl⟩)
        simp only at this
        omega), putN_in h32 h1 h2]
    · exact lays_in l _ p3 c hc i h1 h2
theorem fld_lays {l : List Cr} {W : Nat} (hp : apartL (placesL l) = true) {c : Cr} (hc : c ∈ l) (hv : c.v < 2 ^ c.m) : fld (lays W l) c.a c.m = c.v := by
  apply Nat.eq_of_testBit_eq
  intro k
  rw [testBit_fld]
  by_cases hk : k < c.m
  · rw [lays_in l W hp c hc (k + c.a) (by omega) (by omega)]
    simp [hk]
  · have : c.v.testBit k = false := Nat.testBit_lt_two_pow (Nat.lt_of_lt_of_le hv (Nat.pow_le_pow_right Nat.zero_lt_two (by omega)))
    simp [hk, this]
/-- The mask has just the bits that no place has. -/
def coversB (mask : Nat) (l : List (Nat × Nat)) : Bool := (List.range 32).all fun i => mask.testBit i == !(l.any fun x => decide (x.1 ≤ i) && decide (i < x.1 + x.2))
theorem covers_at {mask : Nat} {l : List (Nat × Nat)} (h : coversB mask l = true) {i : Nat} (hi : i < 32) : mask.testBit i = !(l.any fun x => decide (x.1 ≤ i) && decide (i < x.1 + x.2)) := by
  have := List.all_eq_true.1 h i (List.mem_range.2 hi)
  simpa using this
theorem out_of {mask : Nat} {l : List Cr} (h : coversB mask (placesL l) = true) {i : Nat} (hi : i < 32) (hm : mask.testBit i = true) : ∀ c ∈ l, ¬ (c.a ≤ i ∧ i < c.a + c.m) := by
  intro c hc hh
  rw [covers_at h hi] at hm
  have : (placesL l).any (fun x => decide (x.1 ≤ i) && decide (i < x.1 + x.2)) = true := List.any_eq_true.2 ⟨(c.a, c.m), List.mem_map.2 ⟨c, hc, rfl⟩, by simp [hh.1, hh.2]⟩
  rw [this] at hm; cases hm
theorem in_of {mask : Nat} {l : List Cr} (h : coversB mask (placesL l) = true) {i : Nat} (hi : i < 32) (hm : mask.testBit i = false) : ∃ c ∈ l, c.a ≤ i ∧ i < c.a + c.m := by
  rw [covers_at h hi] at hm
  have : (placesL l).any (fun x => decide (x.1 ≤ i) && decide (i < x.1 + x.2)) = true := by simpa using hm
  obtain ⟨x, hx, h1⟩ := List.any_eq_true.1 this
  obtain ⟨c, hc, rfl⟩ := List.mem_map.1 hx
  simp only [Bool.and_eq_true, decide_eq_true_eq] at h1
  exact ⟨c, hc, h1.1, h1.2⟩
theorem bit_high {x i : Nat} (h : x < 4294967296) (hi : ¬ i < 32) : x.testBit i = false :=
  Nat.testBit_lt_two_pow (Nat.lt_of_lt_of_le (show x < 2 ^ 32 from h) (Nat.pow_le_pow_right Nat.zero_lt_two (by omega)))
/-- What is laid matches the mask. -/
theorem lays_mask {mask base : Nat} {l : List Cr} (h : coversB mask (placesL l) = true) (hb : base &&& mask = base) (hm : mask < 4294967296) : lays base l &&& mask = base := by
  apply Nat.eq_of_testBit_eq
  intro i
  rw [Nat.testBit_and]
  by_cases hi : i < 32
  · cases e : mask.testBit i
    · have := congrArg (fun x => x.testBit i) hb
      simp only [Nat.testBit_and, e, Bool.and_false] at this
      simp [← this]
    · rw [lays_out hi l base (out_of h hi e)]; simp
  · have := congrArg (fun x => x.testBit i) hb
    simp only [Nat.testBit_and, bit_high hm hi, Bool.and_false] at this
    simp [bit_high hm hi, ← this]
/-- A word that matches the mask, and has the numbers at their places, is what is laid together of them. -/
theorem lays_back {mask base w : Nat} {l : List Cr} (h : coversB mask (placesL l) = true) (hp : apartL (placesL l) = true) (hw : w < 4294967296) (hbs : base < 4294967296) (hm : w &&& mask = base) (hf : ∀ c ∈ l, fld w c.a c.m = c.v) : lays base l = w := by
  apply Nat.eq_of_testBit_eq
  intro i
  by_cases hi : i < 32
  · cases e : mask.testBit i
    · obtain ⟨c, hc, h1, h2⟩ := in_of h hi e
      rw [lays_in l base hp c hc i h1 h2, ← hf c hc, testBit_fld]
      simp [show i - c.a < c.m by omega, show i - c.a + c.a = i by omega]
    · rw [lays_out hi l base (out_of h hi e), ← hm, Nat.testBit_and, e, Bool.and_true]
  · rw [bit_high hw hi, bit_high (lays_lt hbs l hbs) hi]
end Go.Proofs.Ytcmilajlngnibaa
