/- Fields as numbers laid into a word and taken from it: plain. -/
import Derived.Test.YtcmilajlngnibaaGood
import Derived.Test.YtcmilajlngnibaaWd
namespace Go.Proofs.Ytcmilajlngnibaa
open Go.RowKit

def lowN (n : Int) (m : Nat) : Nat := (n % 4294967296).toNat % 2 ^ m
theorem lowN_lt (n : Int) (m : Nat) : lowN n m < 2 ^ m := Nat.mod_lt _ (Nat.two_pow_pos m)
theorem lowN_nat {x m : Nat} (hm : m ≤ 32) (h : x < 2 ^ m) : lowN (x : Int) m = x := by
  have : x < 4294967296 := Nat.lt_of_lt_of_le h (show 2 ^ m ≤ 2 ^ 32 from Nat.pow_le_pow_right (by decide) hm)
  unfold lowN
  rw [show ((x : Int) % 4294967296).toNat = x by omega, Nat.mod_eq_of_lt h]
theorem inWord_yes {a m : Nat} (h1 : 1 ≤ m) (h2 : a + m ≤ 32) : inWordB (a : Int) (m : Int) = true := by
  unfold inWordB; simp only [decide_eq_true_eq]; omega
theorem low_eq (n : Int) {m : Nat} (h1 : 1 ≤ m) (h2 : m ≤ 32) : lowV n m = ((lowN n m : Nat) : Int) := by
  unfold lowV fieldV lowN
  rw [if_pos (show inWordB 0 (m : Int) = true from inWord_yes (a := 0) h1 (by omega))]
  simp
theorem put_eq (W n : Int) {a m : Nat} (h1 : 1 ≤ m) (h2 : a + m ≤ 32) : crossW true W n a m = ((putN W.toNat a m (lowN n m) : Nat) : Int) := by
  show putV W a m (lowV n m) = _
  rw [low_eq n h1 (by omega)]
  have hf : fitsB ((lowN n m : Nat) : Int) m = true := by
    unfold fitsB; simp only [decide_eq_true_eq, Int.toNat_natCast]; exact lowN_lt n m
  unfold putV
  rw [if_pos (by rw [inWord_yes h1 h2, hf]; rfl)]
  rfl
theorem fld_put {W a m v : Nat} (h2 : a + m ≤ 32) (hv : v < 2 ^ m) : fld (putN W a m v) a m = v :=
  fld_lays (l := [⟨a, m, v⟩]) (by simp [placesL, apartL, h2]) (c := ⟨a, m, v⟩) (by simp) hv
theorem field_eq (W : Int) {a m : Nat} (h1 : 1 ≤ m) (h2 : a + m ≤ 32) : fieldV W a m = ((fld W.toNat a m : Nat) : Int) := by
  unfold fieldV; rw [if_pos (inWord_yes h1 h2)]; rfl
theorem got_eq (W n : Int) {a m : Nat} (h1 : 1 ≤ m) (h2 : a + m ≤ 32) : crossG true W n a m = ((lowN n m : Nat) : Int) := by
  unfold crossG
  rw [put_eq W n h1 h2, field_eq _ h1 h2, Int.toNat_natCast, fld_put h2 (lowN_lt n m)]
theorem take_eq (W n : Int) {a m : Nat} (h1 : 1 ≤ m) (h2 : a + m ≤ 32) : crossG false W n a m = ((fld W.toNat a m : Nat) : Int) := field_eq W h1 h2

/-- How a step lays an instruction's fields into a word, and takes them out of it. -/
structure Cd (t : Tr) (cr : Ins → List Cr) (fits : Ins → Prop) (ag : Nat → Ins → Prop) (got : Nat → Ins → Ins) : Prop where
  lay : ∀ W i, W32 W → fits i → t true (W, i) = (((lays W.toNat (cr i) : Nat) : Int), i)
  take : ∀ W i, W32 W → t false (W, i) = (W, got W.toNat i)
  into : ∀ W i, ag W i → fits i ∧ ∀ c ∈ cr i, fld W c.a c.m = c.v
  fro : ∀ W i, fits i → (∀ c ∈ cr i, fld W c.a c.m = c.v) → ag W i
  small : ∀ i, ∀ c ∈ cr i, c.v < 2 ^ c.m
theorem w32_nat {n : Nat} (h : n < 4294967296) : W32 (n : Int) := ⟨by omega, by omega⟩
theorem w32_of {W : Int} (h : W32 W) : W.toNat < 4294967296 ∧ ((W.toNat : Nat) : Int) = W := ⟨by have := h.1; have := h.2; omega, Int.toNat_of_nonneg h.1⟩
theorem cd_then {f g : Tr} {cf cg : Ins → List Cr} {pf pg : Ins → Prop} {af ag : Nat → Ins → Prop} {gf gg : Nat → Ins → Ins} (hf : Cd f cf pf af gf) (hg : Cd g cg pg ag gg) :
    Cd (thenT f g) (fun i => cf i ++ cg i) (fun i => pf i ∧ pg i) (fun W i => af W i ∧ ag W i) (fun W i => gg W (gf W i)) where
  lay W i hW h := by
    show g true (f true (W, i)) = _
    rw [hf.lay W i hW h.1, hg.lay _ i (w32_nat (lays_lt (w32_of hW).1 _ (w32_of hW).1)) h.2, Int.toNat_natCast, lays_append]
  take W i hW := by
    show g false (f false (W, i)) = _
    rw [hf.take W i hW, hg.take W _ hW]
  into W i h := by
    obtain ⟨p1, q1⟩ := hf.into W i h.1
    obtain ⟨p2, q2⟩ := hg.into W i h.2
    exact ⟨⟨p1, p2⟩, fun c hc => (List.mem_append.1 hc).elim (q1 c) (q2 c)⟩
  fro W i h hc := ⟨hf.fro W i h.1 fun c hm => hc c (List.mem_append.2 (.inl hm)), hg.fro W i h.2 fun c hm => hc c (List.mem_append.2 (.inr hm))⟩
  small i c hc := (List.mem_append.1 hc).elim (hf.small i c) (hg.small i c)

theorem Fl.set_get (k : Fl) (i : Ins) : k.set (k.get i) i = i := by cases k <;> rfl
theorem Bl.set_get (k : Bl) (i : Ins) : k.set (k.get i) i = i := by cases k <;> rfl
theorem tdiv_nat (x : Nat) {u : Int} (hu : 1 ≤ u) : ((x : Int) * u).tdiv u = x := Int.mul_tdiv_cancel _ (by omega)
theorem cd_num (k : Fl) (u : Int) (a m : Nat) (hu : 1 ≤ u) (h1 : 1 ≤ m) (h2 : a + m ≤ 32) :
    Cd (numT k u a m) (fun i => [⟨a, m, lowN ((k.get i).tdiv u) m⟩]) (fun i => ∃ x : Nat, x < 2 ^ m ∧ k.get i = x * u) (fun W i => k.get i = (fld W a m : Nat) * u) (fun W i => k.set ((fld W a m : Nat) * u) i) where
  lay W i _ h := by
    obtain ⟨x, hx, e⟩ := h
    show (crossW true W ((k.get i).tdiv u) a m, k.set (crossG true W ((k.get i).tdiv u) a m * u) i) = _
    rw [put_eq _ _ h1 h2, got_eq _ _ h1 h2]
    have : ((lowN ((k.get i).tdiv u) m : Nat) : Int) * u = k.get i := by rw [e, tdiv_nat x hu, lowN_nat (by omega) hx]
    rw [this, Fl.set_get]; rfl
  take W i _ := by
    show (W, k.set (crossG false W ((k.get i).tdiv u) a m * u) i) = _
    rw [take_eq _ _ h1 h2]
  into W i h := by
    refine ⟨⟨fld W a m, fld_lt _ _ _, h⟩, ?_⟩
    intro c hc
    obtain rfl : c = ⟨a, m, lowN ((k.get i).tdiv u) m⟩ := by simpa using hc
    show fld W a m = lowN ((k.get i).tdiv u) m
    rw [h, tdiv_nat _ hu, lowN_nat (by omega) (fld_lt _ _ _)]
  fro W i h hc := by
    obtain ⟨x, hx, e⟩ := h
    have := hc _ (List.mem_singleton.2 rfl)
    have this : fld W a m = lowN ((k.get i).tdiv u) m := this
    rw [e, tdiv_nat x hu, lowN_nat (by omega) hx] at this
    rw [this]; exact e
  small i c hc := by
    obtain rfl : c = ⟨a, m, lowN ((k.get i).tdiv u) m⟩ := by simpa using hc
    exact lowN_lt _ _
theorem bool_low (x : Bool) : (((lowN (boolI x) 1 : Nat) : Int) == 1) = x := by cases x <;> decide
theorem fld_one (W a : Nat) : fld W a 1 = lowN (boolI (((fld W a 1 : Nat) : Int) == 1)) 1 := by
  have : fld W a 1 < 2 := fld_lt W a 1
  rcases (by omega : fld W a 1 = 0 ∨ fld W a 1 = 1) with h | h <;> rw [h] <;> rfl
theorem cd_sgn (k : Bl) (a : Nat) (h2 : a + 1 ≤ 32) :
    Cd (sgnT k a) (fun i => [⟨a, 1, lowN (boolI (k.get i)) 1⟩]) (fun _ => True) (fun W i => k.get i = (((fld W a 1 : Nat) : Int) == 1)) (fun W i => k.set (((fld W a 1 : Nat) : Int) == 1) i) where
  lay W i _ _ := by
    show (crossW true W (boolI (k.get i)) a ((1 : Nat) : Int), k.set (crossG true W (boolI (k.get i)) a ((1 : Nat) : Int) == 1) i) = _
    rw [put_eq _ _ (by decide) h2, got_eq _ _ (by decide) h2, bool_low, Bl.set_get]; rfl
  take W i _ := by
    show (W, k.set (crossG false W (boolI (k.get i)) a ((1 : Nat) : Int) == 1) i) = _
    rw [take_eq _ _ (by decide) h2]
  into W i h := by
    refine ⟨trivial, ?_⟩
    intro c hc
    obtain rfl : c = ⟨a, 1, lowN (boolI (k.get i)) 1⟩ := by simpa using hc
    show fld W a 1 = lowN (boolI (k.get i)) 1
    rw [h]; exact fld_one W a
  fro W i _ hc := by
    have this : fld W a 1 = lowN (boolI (k.get i)) 1 := hc _ (List.mem_singleton.2 rfl)
    rw [this, bool_low]
  small i c hc := by
    obtain rfl : c = ⟨a, 1, lowN (boolI (k.get i)) 1⟩ := by simpa using hc
    exact lowN_lt _ _
theorem cd_nothing : Cd nothingT (fun _ => []) (fun _ => True) (fun _ _ => True) (fun _ i => i) where
  lay W i hW _ := by show (W, i) = (((W.toNat : Nat) : Int), i); rw [(w32_of hW).2]
  take _ _ _ := rfl
  into _ _ _ := ⟨trivial, fun _ h => by cases h⟩
  fro _ _ _ _ := trivial
  small _ _ h := by cases h
end Go.Proofs.Ytcmilajlngnibaa
