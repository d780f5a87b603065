/- No two instructions are written alike, but logical ones with one mask: of the plain texts. -/
import Derived.Test.YtjmdgfimmjodjaaGreatDoorV15
namespace Go.Proofs.YtjmdgfimmjodjaaGreatDoor
open Go.RowKit Go.Rel

theorem join_two (x y : Tx) (r : List Tx) : Lib.join (x :: y :: r) commaT = x ++ 44 :: (32 :: Lib.join (y :: r) commaT) := by
  simp [Lib.join, List.intercalate]
theorem tw_left {p : UInt8 → Bool} : ∀ (x r : Tx), (∀ b ∈ x, p b = true) → (∀ c ∈ r.head?, p c = false) → (x ++ r).takeWhile p = x
  | [], [], _, _ => rfl
  | [], c :: r, _, h => by simp [h c (by simp)]
  | a :: x, r, h, h2 => by
    have := tw_left x r (fun b hb => h b (by simp [hb])) h2
    simp [h a (by simp), this]
def noC (x : Tx) : Prop := ∀ b ∈ x, (b != 44) = true
theorem noC_all {x : Tx} (h : x.all (fun b => b != 44) = true) : noC x := List.all_eq_true.1 h
theorem noC_app {x y : Tx} (hx : noC x) (hy : noC y) : noC (x ++ y) := fun b hb => by
  rcases List.mem_append.1 hb with h | h
  · exact hx b h
  · exact hy b h
theorem noC_cons {a : UInt8} {y : Tx} (ha : (a != 44) = true) (hy : noC y) : noC (a :: y) := fun b hb => by
  rcases List.mem_cons.1 hb with h | h
  · exact h ▸ ha
  · exact hy b h
theorem cut_eq {p : UInt8 → Bool} {x y r s : Tx} (hx : ∀ b ∈ x, p b = true) (hy : ∀ b ∈ y, p b = true) (hr : ∀ c ∈ r.head?, p c = false) (hs : ∀ c ∈ s.head?, p c = false) (h : x ++ r = y ++ s) : x = y ∧ r = s := by
  have e : x = y := by rw [← tw_left x r hx hr, h, tw_left y s hy hs]
  subst e
  exact ⟨rfl, List.append_cancel_left h⟩
theorem join_inj : ∀ (xs ys : List Tx), xs ≠ [] → ys ≠ [] → (∀ x ∈ xs, noC x) → (∀ y ∈ ys, noC y) → Lib.join xs commaT = Lib.join ys commaT → xs = ys
  | [], _, h, _, _, _, _ => absurd rfl h
  | _, [], _, h, _, _, _ => absurd rfl h
  | [x], [y], _, _, _, _, h => by rw [Lib.join_one, Lib.join_one] at h; rw [h]
  | [x], y :: y2 :: ys, _, _, hx, hy, h => by
    rw [Lib.join_one, join_two] at h
    have : (44 : UInt8) ∈ x := by rw [h]; simp
    have := hx x (by simp) 44 this
    simp at this
  | x :: x2 :: xs, [y], _, _, hx, hy, h => by
    rw [Lib.join_one, join_two] at h
    have : (44 : UInt8) ∈ y := by rw [← h]; simp
    have := hy y (by simp) 44 this
    simp at this
  | x :: x2 :: xs, y :: y2 :: ys, _, _, hx, hy, h => by
    rw [join_two, join_two] at h
    obtain ⟨rfl, h2⟩ := cut_eq (p := fun b => b != 44) (hx x (by simp)) (hy y (by simp)) (by simp) (by simp) h
    have h3 : Lib.join (x2 :: xs) commaT = Lib.join (y2 :: ys) commaT := by simpa using h2
    rw [join_inj (x2 :: xs) (y2 :: ys) (by simp) (by simp) (fun z hz => hx z (by simp [hz])) (fun z hz => hy z (by simp [hz])) h3]

/-- The digits of a number. -/
theorem dec_digit : ∀ (u : Nat), ∀ b ∈ Lib.decDigits u, 48 ≤ b.toNat ∧ b.toNat ≤ 57 := by
  intro u
  induction u using Nat.strongRecOn with
  | _ u ih =>
    intro b hb
    rw [Lib.decDigits] at hb
    by_cases h : u < 10
    · rw [dif_pos h] at hb
      simp at hb; subst hb; simp [UInt8.toNat_ofNat]; omega
    · rw [dif_neg h] at hb
      rcases List.mem_append.1 hb with h1 | h1
      · exact ih (u / 10) (by omega) b h1
      · simp at h1; subst h1; simp [UInt8.toNat_ofNat]; omega
theorem dec_ne (u : Nat) : Lib.decDigits u ≠ [] := by
  rw [Lib.decDigits]
  split
  · simp
  · simp
theorem dec_inj : ∀ (u v : Nat), Lib.decDigits u = Lib.decDigits v → u = v := by
  intro u
  induction u using Nat.strongRecOn with
  | _ u ih =>
    intro v h
    rw [Lib.decDigits, Lib.decDigits.eq_def v] at h
    by_cases hu : u < 10
    · by_cases hv : v < 10
      · rw [dif_pos hu, dif_pos hv] at h
        have h2 : (UInt8.ofNat (48 + u)).toNat = (UInt8.ofNat (48 + v)).toNat := by rw [List.singleton_inj.1 h]
        simp [UInt8.toNat_ofNat] at h2; omega
      · rw [dif_pos hu, dif_neg hv] at h
        have h2 := congrArg List.length h
        have h3 := List.length_pos_iff.2 (dec_ne (v / 10))
        simp only [List.length_append, List.length_singleton] at h2; omega
    · by_cases hv : v < 10
      · rw [dif_neg hu, dif_pos hv] at h
        have h2 := congrArg List.length h
        have h3 := List.length_pos_iff.2 (dec_ne (u / 10))
        simp only [List.length_append, List.length_singleton] at h2; omega
      · rw [dif_neg hu, dif_neg hv] at h
        have h2 := List.append_inj' h rfl
        have h3 := ih (u / 10) (by omega) (v / 10) h2.1
        have h4 : (UInt8.ofNat (48 + u % 10)).toNat = (UInt8.ofNat (48 + v % 10)).toNat := by rw [List.singleton_inj.1 h2.2]
        simp [UInt8.toNat_ofNat] at h4; omega
/-- A number's bytes: a minus or digits. -/
def numB (b : UInt8) : Bool := decide (45 ≤ b.toNat) && decide (b.toNat ≤ 57)
theorem itoa_bytes (n : Int) : ∀ b ∈ Lib.itoa n, numB b = true := by
  intro b hb
  unfold Lib.itoa at hb
  have key : ∀ u, b ∈ Lib.decDigits u → numB b = true := fun u h => by
    have := dec_digit u b h
    simp [numB]; omega
  split at hb
  · rcases List.mem_cons.1 hb with h | h
    · subst h; rfl
    · exact key _ h
  · exact key _ hb
theorem itoa_inj {n m : Int} (h : Lib.itoa n = Lib.itoa m) : n = m := by
  unfold Lib.itoa at h
  have nd : ∀ u v, (45 : UInt8) :: Lib.decDigits u = Lib.decDigits v → False := fun u v h => by
    have := dec_digit v 45 (by rw [← h]; simp)
    simp at this
  split at h <;> split at h
  · have := dec_inj _ _ (List.cons.inj h).2; omega
  · exact absurd h (nd _ _)
  · exact absurd h.symm (nd _ _)
  · have := dec_inj _ _ h; omega
theorem num_inj {n m : Int} (h : numT n = numT m) : n = m := itoa_inj (List.cons.inj h).2
theorem noC_itoa (n : Int) : noC (Lib.itoa n) := fun b hb => by
  have := itoa_bytes n b hb
  simp [numB] at this
  simp; intro e; subst e; simp at this
theorem noC_num (n : Int) : noC (numT n) := noC_cons rfl (noC_itoa n)
def noS (x : Tx) : Prop := ∀ b ∈ x, (b != 32) = true
theorem noS_all {x : Tx} (h : x.all (fun b => b != 32) = true) : noS x := List.all_eq_true.1 h
theorem noS_itoa (n : Int) : noS (Lib.itoa n) := fun b hb => by
  have := itoa_bytes n b hb
  simp [numB] at this
  simp; intro e; subst e; simp at this
theorem noS_cons {a : UInt8} {y : Tx} (ha : (a != 32) = true) (hy : noS y) : noS (a :: y) := fun b hb => by
  rcases List.mem_cons.1 hb with h | h
  · exact h ▸ ha
  · exact hy b h
theorem noS_num (n : Int) : noS (numT n) := noS_cons rfl (noS_itoa n)
theorem reg_inj {n m : Int} {s t : Bool} (hn : 0 ≤ n) (hm : 0 ≤ m) (h : regT n s = regT m t) : n = m := by
  have nd : ∀ (k : Int), 0 ≤ k → ∀ (s : Bool), (120 : UInt8) :: Lib.itoa k ≠ (bif s then [115, 112] else [120, 122, 114]) := fun k hk s h => by
    cases s
    · have h2 : Lib.itoa k = [122, 114] := (List.cons.inj h).2
      have := itoa_bytes k 122 (by rw [h2]; simp)
      simp [numB] at this
    · have := (List.cons.inj h).1
      simp at this
  unfold regT at h
  cases hn1 : n == 31 <;> cases hm1 : m == 31 <;> rw [hn1, hm1] at h
  · exact itoa_inj (List.cons.inj h).2
  · exact absurd h (nd _ hn _)
  · exact absurd h.symm (nd _ hm _)
  · rw [eq_of_beq hn1, eq_of_beq hm1]
theorem noC_reg (n : Int) (s : Bool) : noC (regT n s) := by
  unfold regT
  cases n == 31
  · exact noC_cons rfl (noC_itoa n)
  · cases s <;> exact noC_all rfl
theorem noS_reg (n : Int) (s : Bool) : noS (regT n s) := by
  unfold regT
  cases n == 31
  · exact noS_cons rfl (noS_itoa n)
  · cases s <;> exact noS_all rfl
theorem reg_num (n m : Int) (s : Bool) : regT n s ≠ numT m := by
  unfold regT numT
  cases n == 31
  · intro h; have := (List.cons.inj h).1; simp at this
  · cases s <;> (intro h; have := (List.cons.inj h).1; simp at this)

theorem noC_shift (k : Int) : noC (shiftT k) := by
  unfold shiftT
  cases k == 0 <;> cases k == 1 <;> cases k == 2 <;> cases k == 3 <;> exact noC_all rfl
theorem noC_daif (k : Int) : noC (daifT k) := by unfold daifT; cases k == 0 <;> cases k == 1 <;> exact noC_all rfl
theorem noS_daif (k : Int) : noS (daifT k) := by unfold daifT; cases k == 0 <;> cases k == 1 <;> exact noS_all rfl
theorem noC_bar (k : Int) : noC (barT k) := by unfold barT; cases k == 0 <;> cases k == 1 <;> cases k == 2 <;> exact noC_all rfl
theorem noS_bar (k : Int) : noS (barT k) := by unfold barT; cases k == 0 <;> cases k == 1 <;> cases k == 2 <;> exact noS_all rfl
theorem cond_fin : ∀ k : Fin 16, (condT (k.val : Int)).all (fun b => b != 44) = true := by decide
theorem noC_cond {k : Int} (h0 : 0 ≤ k) (h1 : k ≤ 15) : noC (condT k) := by
  have := cond_fin ⟨k.toNat, by omega⟩
  rw [show ((⟨k.toNat, by omega⟩ : Fin 16).val : Int) = k by simp; omega] at this
  exact noC_all this
theorem noC_sft (k a : Int) : noC (sftT k a) := noC_app (noC_shift k) (noC_cons rfl (noC_num a))
theorem noC_dec (u : Nat) : noC (Lib.decDigits u) := fun b hb => by
  have := dec_digit u b hb
  simp; intro e; subst e; simp at this

/-- The pieces between the commas. -/
def openT (x : Tx) : Tx := 91 :: x
def closeT (x : Tx) : Tx := x ++ [93]
def piecesV (i : Ins) : List Tx :=
  bif i.op == 17 || i.op == 18 then [rdT i, openT (rnT i), closeT (numT i.imm)] else
  bif i.op == 19 || i.op == 20 then [rdT i, openT (rnT i), rmT i, closeT (sftT 0 i.amount)] else
  bif i.op == 21 || i.op == 22 || i.op == 23 then [rdT i, openT (closeT (rnT i))] else
  bif i.op == 24 then [rmT i, rdT i, openT (closeT (rnT i))] else partsV i
theorem noC_open {x : Tx} (h : noC x) : noC (openT x) := noC_cons rfl h
theorem noC_close {x : Tx} (h : noC x) : noC (closeT x) := noC_app h (noC_all rfl)

def opsL : List Int := [1, 2, 3, 4, 5, 6, 7, 8, 9, 10, 11, 12, 13, 14, 15, 16, 17, 18, 19, 20, 21, 22, 23, 24, 25, 26, 27, 28, 29, 30, 31, 32, 33, 34, 35, 36, 37]
theorem ops_fin : ∀ k : Fin 38, 1 ≤ (k.val : Int) → (k.val : Int) ∈ opsL := by decide
theorem ops_mem {n : Int} (h0 : 1 ≤ n) (h1 : n ≤ 37) : n ∈ opsL := by
  have := ops_fin ⟨n.toNat, by omega⟩
  rw [show ((⟨n.toNat, by omega⟩ : Fin 38).val : Int) = n by simp; omega] at this
  exact this h0

theorem join_pieces (i : Ins) : Lib.join (partsV i) commaT = Lib.join (piecesV i) commaT := by
  obtain ⟨op, sub, rd, rn, rm, ra, imm, imm2, amount, shift, cond, sys, flags, minus, not, link⟩ := i
  by_cases h : 17 ≤ op ∧ op ≤ 24
  · have : op = 17 ∨ op = 18 ∨ op = 19 ∨ op = 20 ∨ op = 21 ∨ op = 22 ∨ op = 23 ∨ op = 24 := by omega
    rcases this with rfl | rfl | rfl | rfl | rfl | rfl | rfl | rfl <;> simp [partsV, piecesV, placeT, openT, closeT, Lib.join, List.intercalate]
  · have e : ∀ k : Int, 17 ≤ k → k ≤ 24 → (op == k) = false := fun k h1 h2 => by simp; omega
    simp only [piecesV, e 17 (by decide) (by decide), e 18 (by decide) (by decide), e 19 (by decide) (by decide), e 20 (by decide) (by decide), e 21 (by decide) (by decide), e 22 (by decide) (by decide), e 23 (by decide) (by decide), e 24 (by decide) (by decide), Bool.or_self, cond_false]

def nullary (op : Int) : Bool := op == 25 || op == 27 || op == 29 || op == 36

/-- What is right: its bounds, as numbers. -/
theorem holds_in {s : Span} {n : Int} (h : holdsB s n = true) : s.lo ≤ n ∧ n ≤ s.hi := by
  simp only [holdsB, Bool.and_eq_true, decide_eq_true_eq] at h
  exact ⟨h.1.1, h.1.2⟩
structure Fits (i : Ins) : Prop where
  o0 : 1 ≤ i.op
  o1 : i.op ≤ 37
  d0 : 0 ≤ i.rd
  d1 : i.rd ≤ h31 (hasRd i.op)
  n0 : 0 ≤ i.rn
  n1 : i.rn ≤ h31 (hasRn i.op)
  m0 : 0 ≤ i.rm
  m1 : i.rm ≤ h31 (hasRm i.op)
  a0 : 0 ≤ i.ra
  a1 : i.ra ≤ h31 (hasRa i.op)
  s0 : (subS i.op).lo ≤ i.sub
  s1 : i.sub ≤ (subS i.op).hi
  i0 : (immS i.op i.sub).lo ≤ i.imm
  i1 : i.imm ≤ (immS i.op i.sub).hi
  j0 : (imm2S i.op).lo ≤ i.imm2
  j1 : i.imm2 ≤ (imm2S i.op).hi
  k0 : (amountS i.op).lo ≤ i.amount
  k1 : i.amount ≤ (amountS i.op).hi
  t0 : (shiftS i.op).lo ≤ i.shift
  t1 : i.shift ≤ (shiftS i.op).hi
  c0 : (condS i.op).lo ≤ i.cond
  c1 : i.cond ≤ (condS i.op).hi
  f : (flagsR i.op i.sub || !i.flags) = true
  m : (minusR i.op || !i.minus) = true
  n : (notR i.op || !i.not) = true
  l : (linkR i.op || !i.link) = true
  y : rightSysB i.op i.sys = true
theorem fits {i : Ins} (h : rightB i = true) : Fits i := by
  simp only [rightB, numbersB, signsB, Bool.and_eq_true, decide_eq_true_eq] at h
  obtain ⟨⟨o0, o1⟩, ⟨⟨⟨⟨⟨⟨⟨⟨⟨⟨⟨⟨hd, hn⟩, hm⟩, ha⟩, hs⟩, hi⟩, hj⟩, hk⟩, ht⟩, hc⟩, ⟨⟨⟨f, m⟩, n⟩, l⟩⟩, y⟩, -⟩⟩ := h
  exact ⟨o0, o1, (holds_in hd).1, (holds_in hd).2, (holds_in hn).1, (holds_in hn).2, (holds_in hm).1, (holds_in hm).2, (holds_in ha).1, (holds_in ha).2, (holds_in hs).1, (holds_in hs).2, (holds_in hi).1, (holds_in hi).2, (holds_in hj).1, (holds_in hj).2, (holds_in hk).1, (holds_in hk).2, (holds_in ht).1, (holds_in ht).2, (holds_in hc).1, (holds_in hc).2, f, m, n, l, y⟩

def keyR (k : Key) : Bool := holdsB (subS k.op) k.sub && (flagsR k.op k.sub || !k.flags) && (minusR k.op || !k.minus) && (notR k.op || !k.not) && (linkR k.op || !k.link)

/-- The keys that are right, written out: each with its word. -/
def compat (a b : Key) : Bool :=
  (a.op == b.op || (a.op == 1 && b.op == 2) || (a.op == 2 && b.op == 1) || (a.op == 3 && b.op == 4) || (a.op == 4 && b.op == 3) || (a.op == 17 && b.op == 19) || (a.op == 19 && b.op == 17) || (a.op == 18 && b.op == 20) || (a.op == 20 && b.op == 18) || (a.op == 32 && b.op == 33) || (a.op == 33 && b.op == 32))
  && (a.sub == b.sub || (a.op == 33) || (b.op == 33)) && (a.op != 13 || a.cond == b.cond) && a.flags == b.flags && a.minus == b.minus && a.not == b.not && a.link == b.link
def eqT : Tx → Tx → Bool
  | [], [] => true
  | a :: x, b :: y => a.toNat == b.toNat && eqT x y
  | _, _ => false
theorem eqT_refl : ∀ x : Tx, eqT x x = true
  | [] => rfl
  | a :: x => by simp [eqT, eqT_refl x]
def boolsL : List Bool := [false, true]
def keysAt (op : Int) : List Key :=
  ([0, 1, 2, 3] : List Int).flatMap fun sub => (bif op == 13 then [0, 1, 2, 3, 4, 5, 6, 7, 8, 9, 10, 11, 12, 13, 14, 15] else [0] : List Int).flatMap fun cond => boolsL.flatMap fun f => boolsL.flatMap fun m => boolsL.flatMap fun n => boolsL.filterMap fun l =>
    bif keyR ⟨op, sub, cond, f, m, n, l⟩ then some ⟨op, sub, cond, f, m, n, l⟩ else none
def keysL : List Key := opsL.flatMap keysAt
set_option maxRecDepth 100000 in
theorem keys_ok : (keysL.all fun a => keysL.all fun b => !eqT (wordK a) (wordK b) || compat a b) = true := by decide +kernel
def Ins.key' (i : Ins) : Key := ⟨i.op, i.sub, bif i.op == 13 then i.cond else 0, i.flags, i.minus, i.not, i.link⟩
theorem word_key' (i : Ins) : wordK i.key' = wordV i := by
  unfold wordV wordK Ins.key' Ins.key
  cases h : i.op == 13
  · simp only [cond_false]
  · rw [eq_of_beq h]; rfl
theorem sub_le : ∀ op : Int, 0 ≤ (subS op).lo ∧ (subS op).hi ≤ 3 := by
  intro op
  unfold subS
  cases (op == 3 || op == 4 || op == 16) <;> cases (op == 10 || op == 7 || op == 5) <;> cases op == 6 <;> cases (op == 9 || op == 11 || op == 21 || op == 23 || op == 24 || op == 26 || op == 33) <;> simp [upToS, zeroS]
theorem bools_mem (b : Bool) : b ∈ boolsL := by cases b <;> simp [boolsL]
theorem cond_mem {n : Int} (h0 : 0 ≤ n) (h1 : n ≤ 15) : n ∈ ([0, 1, 2, 3, 4, 5, 6, 7, 8, 9, 10, 11, 12, 13, 14, 15] : List Int) := by
  have : n = 0 ∨ n = 1 ∨ n = 2 ∨ n = 3 ∨ n = 4 ∨ n = 5 ∨ n = 6 ∨ n = 7 ∨ n = 8 ∨ n = 9 ∨ n = 10 ∨ n = 11 ∨ n = 12 ∨ n = 13 ∨ n = 14 ∨ n = 15 := by omega
  rcases this with rfl | rfl | rfl | rfl | rfl | rfl | rfl | rfl | rfl | rfl | rfl | rfl | rfl | rfl | rfl | rfl <;> decide
theorem key_mem {i : Ins} (h : rightB i = true) : i.key' ∈ keysL := by
  have F := fits h
  have hs := sub_le i.op
  have hs0 := F.s0
  have hs1 := F.s1
  have hsub : holdsB (subS i.op) i.sub = true := by
    simp only [rightB, numbersB, Bool.and_eq_true] at h
    exact h.2.1.1.1.1.1.1.1.1.2
  refine List.mem_flatMap.2 ⟨i.op, ops_mem F.o0 F.o1, ?_⟩
  unfold keysAt
  refine List.mem_flatMap.2 ⟨i.sub, ?_, List.mem_flatMap.2 ⟨bif i.op == 13 then i.cond else 0, ?_, List.mem_flatMap.2 ⟨i.flags, bools_mem _, List.mem_flatMap.2 ⟨i.minus, bools_mem _, List.mem_flatMap.2 ⟨i.not, bools_mem _, List.mem_filterMap.2 ⟨i.link, bools_mem _, ?_⟩⟩⟩⟩⟩⟩
  · have : i.sub = 0 ∨ i.sub = 1 ∨ i.sub = 2 ∨ i.sub = 3 := by omega
    rcases this with e | e | e | e <;> rw [e] <;> decide
  · cases h13 : i.op == 13
    · simp
    · have e := eq_of_beq h13
      have c0 := F.c0
      have c1 := F.c1
      rw [e] at c0 c1
      exact cond_mem c0 c1
  · have e : keyR ⟨i.op, i.sub, bif i.op == 13 then i.cond else 0, i.flags, i.minus, i.not, i.link⟩ = true := by
      simp only [keyR, hsub, F.f, F.m, F.n, F.l, Bool.and_self]
    rw [e]
    rfl
theorem words_compat {i j : Ins} (hi : rightB i = true) (hj : rightB j = true) (h : wordV i = wordV j) : compat i.key' j.key' = true := by
  have h1 := List.all_eq_true.1 (List.all_eq_true.1 keys_ok _ (key_mem hi)) _ (key_mem hj)
  rw [word_key', word_key', h, eqT_refl] at h1
  simpa using h1

theorem open_inj {x y : Tx} (h : openT x = openT y) : x = y := (List.cons.inj h).2
theorem close_inj {x y : Tx} (h : closeT x = closeT y) : x = y := List.append_cancel_right h
theorem sft_inj {k a b : Int} (h : sftT k a = sftT k b) : a = b := num_inj (List.cons.inj (List.append_cancel_left h)).2
theorem shift_split {k : Int} (h0 : 0 ≤ k) (h3 : k ≤ 3) : (shiftT k).length = 3 := by
  have : k = 0 ∨ k = 1 ∨ k = 2 ∨ k = 3 := by omega
  rcases this with rfl | rfl | rfl | rfl <;> rfl
theorem shiftT_inj {k m : Int} (h0 : 0 ≤ k) (h3 : k ≤ 3) (g0 : 0 ≤ m) (g3 : m ≤ 3) (h : shiftT k = shiftT m) : k = m := by
  have a : k = 0 ∨ k = 1 ∨ k = 2 ∨ k = 3 := by omega
  have b : m = 0 ∨ m = 1 ∨ m = 2 ∨ m = 3 := by omega
  rcases a with rfl | rfl | rfl | rfl <;> rcases b with rfl | rfl | rfl | rfl <;> first | rfl | exact absurd h (by decide)
theorem shifted_inj {k a m b : Int} (h0 : 0 ≤ k) (h3 : k ≤ 3) (g0 : 0 ≤ m) (g3 : m ≤ 3) (h : shiftedT k a = shiftedT m b) : k = m ∧ a = b := by
  unfold shiftedT at h
  cases h1 : k == 0 && a == 0 <;> cases h2 : m == 0 && b == 0 <;> rw [h1, h2] at h
  · have e : sftT k a = sftT m b := List.singleton_inj.1 h
    have := List.append_inj e (by rw [shift_split h0 h3, shift_split g0 g3])
    exact ⟨shiftT_inj h0 h3 g0 g3 this.1, num_inj (List.cons.inj this.2).2⟩
  · cases h
  · cases h
  · simp only [Bool.and_eq_true, beq_iff_eq] at h1 h2
    exact ⟨by rw [h1.1, h2.1], by rw [h1.2, h2.2]⟩
theorem daif_inj {k m : Int} (h0 : 0 ≤ k) (h1 : k ≤ 1) (g0 : 0 ≤ m) (g1 : m ≤ 1) (h : daifT k = daifT m) : k = m := by
  have a : k = 0 ∨ k = 1 := by omega
  have b : m = 0 ∨ m = 1 := by omega
  rcases a with rfl | rfl <;> rcases b with rfl | rfl <;> first | rfl | exact absurd h (by decide)
theorem bar_inj {k m : Int} (h0 : 1 ≤ k) (h1 : k ≤ 3) (g0 : 1 ≤ m) (g1 : m ≤ 3) (h : barT (k - 1) = barT (m - 1)) : k = m := by
  have a : k = 1 ∨ k = 2 ∨ k = 3 := by omega
  have b : m = 1 ∨ m = 2 ∨ m = 3 := by omega
  rcases a with rfl | rfl | rfl <;> rcases b with rfl | rfl | rfl <;> first | rfl | exact absurd h (by decide)
theorem condT_inj {k m : Int} (h0 : 0 ≤ k) (h1 : k ≤ 15) (g0 : 0 ≤ m) (g1 : m ≤ 15) (h : condT k = condT m) : k = m := by
  have key : ∀ a b : Fin 16, condT (a.val : Int) = condT (b.val : Int) → a = b := by decide
  have := key ⟨k.toNat, by omega⟩ ⟨m.toNat, by omega⟩ (by simpa [Int.toNat_of_nonneg h0, Int.toNat_of_nonneg g0] using h)
  simp at this; omega
structure Same (i j : Ins) : Prop where
  sub : i.op ≠ 33 → i.sub = j.sub
  cond : i.op = 13 → i.cond = j.cond
  flags : i.flags = j.flags
  minus : i.minus = j.minus
  not : i.not = j.not
  link : i.link = j.link
theorem zero_of {x : Int} (h0 : 0 ≤ x) (h1 : x ≤ 0) : x = 0 := Int.le_antisymm h1 h0

theorem same1 {i j : Ins} (hi : Fits i) (hj : Fits j) (ei : i.op = 1) (ej : j.op = 1) (S : Same i j) (hp : piecesV i = piecesV j) : i = j := by
  obtain ⟨op, sub, rd, rn, rm, ra, imm, imm2, amount, shift, cond, sys, flags, minus, not, link⟩ := i
  obtain ⟨op', sub', rd', rn', rm', ra', imm', imm2', amount', shift', cond', sys', flags', minus', not', link'⟩ := j
  dsimp only at ei ej; subst ei; subst ej
  have h1 := (List.cons.inj hp).1
  have g1 := (List.cons.inj hp).2
  have h2 := (List.cons.inj g1).1
  have g2 := (List.cons.inj g1).2
  have h3 := (List.cons.inj g2).1
  have g3 := (List.cons.inj g2).2
  have h4 := g3
  rw [Ins.mk.injEq]
  exact ⟨rfl, S.sub (show (1 : Int) ≠ 33 by decide), reg_inj hi.d0 hj.d0 h1, reg_inj hi.n0 hj.n0 h2, (zero_of hi.m0 hi.m1).trans (zero_of hj.m0 hj.m1).symm, (zero_of hi.a0 hi.a1).trans (zero_of hj.a0 hj.a1).symm, num_inj h3, (zero_of hi.j0 hi.j1).trans (zero_of hj.j0 hj.j1).symm, (shifted_inj (by decide) (by decide) (by decide) (by decide) h4).2, (zero_of hi.t0 hi.t1).trans (zero_of hj.t0 hj.t1).symm, (zero_of hi.c0 hi.c1).trans (zero_of hj.c0 hj.c1).symm, (eq_of_beq hi.y).trans (eq_of_beq hj.y).symm, S.flags, S.minus, S.not, S.link⟩
theorem same2 {i j : Ins} (hi : Fits i) (hj : Fits j) (ei : i.op = 2) (ej : j.op = 2) (S : Same i j) (hp : piecesV i = piecesV j) : i = j := by
  obtain ⟨op, sub, rd, rn, rm, ra, imm, imm2, amount, shift, cond, sys, flags, minus, not, link⟩ := i
  obtain ⟨op', sub', rd', rn', rm', ra', imm', imm2', amount', shift', cond', sys', flags', minus', not', link'⟩ := j
  dsimp only at ei ej; subst ei; subst ej
  have h1 := (List.cons.inj hp).1
  have g1 := (List.cons.inj hp).2
  have h2 := (List.cons.inj g1).1
  have g2 := (List.cons.inj g1).2
  have h3 := (List.cons.inj g2).1
  have g3 := (List.cons.inj g2).2
  have h4 := g3
  rw [Ins.mk.injEq]
  exact ⟨rfl, S.sub (show (2 : Int) ≠ 33 by decide), reg_inj hi.d0 hj.d0 h1, reg_inj hi.n0 hj.n0 h2, reg_inj hi.m0 hj.m0 h3, (zero_of hi.a0 hi.a1).trans (zero_of hj.a0 hj.a1).symm, (zero_of hi.i0 hi.i1).trans (zero_of hj.i0 hj.i1).symm, (zero_of hi.j0 hi.j1).trans (zero_of hj.j0 hj.j1).symm, (shifted_inj hi.t0 (Int.le_trans hi.t1 (show (shiftS 2).hi ≤ 3 by decide)) hj.t0 (Int.le_trans hj.t1 (show (shiftS 2).hi ≤ 3 by decide)) h4).2, (shifted_inj hi.t0 (Int.le_trans hi.t1 (show (shiftS 2).hi ≤ 3 by decide)) hj.t0 (Int.le_trans hj.t1 (show (shiftS 2).hi ≤ 3 by decide)) h4).1, (zero_of hi.c0 hi.c1).trans (zero_of hj.c0 hj.c1).symm, (eq_of_beq hi.y).trans (eq_of_beq hj.y).symm, S.flags, S.minus, S.not, S.link⟩
theorem same3 {i j : Ins} (hi : Fits i) (hj : Fits j) (ei : i.op = 3) (ej : j.op = 3) (S : Same i j) (hp : piecesV i = piecesV j) : i = j := by
  obtain ⟨op, sub, rd, rn, rm, ra, imm, imm2, amount, shift, cond, sys, flags, minus, not, link⟩ := i
  obtain ⟨op', sub', rd', rn', rm', ra', imm', imm2', amount', shift', cond', sys', flags', minus', not', link'⟩ := j
  dsimp only at ei ej; subst ei; subst ej
  have h1 := (List.cons.inj hp).1
  have g1 := (List.cons.inj hp).2
  have h2 := (List.cons.inj g1).1
  have g2 := (List.cons.inj g1).2
  have h3 := (List.cons.inj g2).1
  have g3 := (List.cons.inj g2).2
  have h4 := g3
  rw [Ins.mk.injEq]
  exact ⟨rfl, S.sub (show (3 : Int) ≠ 33 by decide), reg_inj hi.d0 hj.d0 h1, reg_inj hi.n0 hj.n0 h2, reg_inj hi.m0 hj.m0 h3, (zero_of hi.a0 hi.a1).trans (zero_of hj.a0 hj.a1).symm, (zero_of hi.i0 hi.i1).trans (zero_of hj.i0 hj.i1).symm, (zero_of hi.j0 hi.j1).trans (zero_of hj.j0 hj.j1).symm, (shifted_inj hi.t0 (Int.le_trans hi.t1 (show (shiftS 3).hi ≤ 3 by decide)) hj.t0 (Int.le_trans hj.t1 (show (shiftS 3).hi ≤ 3 by decide)) h4).2, (shifted_inj hi.t0 (Int.le_trans hi.t1 (show (shiftS 3).hi ≤ 3 by decide)) hj.t0 (Int.le_trans hj.t1 (show (shiftS 3).hi ≤ 3 by decide)) h4).1, (zero_of hi.c0 hi.c1).trans (zero_of hj.c0 hj.c1).symm, (eq_of_beq hi.y).trans (eq_of_beq hj.y).symm, S.flags, S.minus, S.not, S.link⟩
theorem same5 {i j : Ins} (hi : Fits i) (hj : Fits j) (ei : i.op = 5) (ej : j.op = 5) (S : Same i j) (hp : piecesV i = piecesV j) : i = j := by
  obtain ⟨op, sub, rd, rn, rm, ra, imm, imm2, amount, shift, cond, sys, flags, minus, not, link⟩ := i
  obtain ⟨op', sub', rd', rn', rm', ra', imm', imm2', amount', shift', cond', sys', flags', minus', not', link'⟩ := j
  dsimp only at ei ej; subst ei; subst ej
  have h1 := (List.cons.inj hp).1
  have g1 := (List.cons.inj hp).2
  have h2 := (List.cons.inj g1).1
  have g2 := (List.cons.inj g1).2
  have h3 := g2
  rw [Ins.mk.injEq]
  exact ⟨rfl, S.sub (show (5 : Int) ≠ 33 by decide), reg_inj hi.d0 hj.d0 h1, (zero_of hi.n0 hi.n1).trans (zero_of hj.n0 hj.n1).symm, (zero_of hi.m0 hi.m1).trans (zero_of hj.m0 hj.m1).symm, (zero_of hi.a0 hi.a1).trans (zero_of hj.a0 hj.a1).symm, num_inj h2, (zero_of hi.j0 hi.j1).trans (zero_of hj.j0 hj.j1).symm, (shifted_inj (by decide) (by decide) (by decide) (by decide) h3).2, (zero_of hi.t0 hi.t1).trans (zero_of hj.t0 hj.t1).symm, (zero_of hi.c0 hi.c1).trans (zero_of hj.c0 hj.c1).symm, (eq_of_beq hi.y).trans (eq_of_beq hj.y).symm, S.flags, S.minus, S.not, S.link⟩
theorem same6 {i j : Ins} (hi : Fits i) (hj : Fits j) (ei : i.op = 6) (ej : j.op = 6) (S : Same i j) (hp : piecesV i = piecesV j) : i = j := by
  obtain ⟨op, sub, rd, rn, rm, ra, imm, imm2, amount, shift, cond, sys, flags, minus, not, link⟩ := i
  obtain ⟨op', sub', rd', rn', rm', ra', imm', imm2', amount', shift', cond', sys', flags', minus', not', link'⟩ := j
  dsimp only at ei ej; subst ei; subst ej
  have h1 := (List.cons.inj hp).1
  have g1 := (List.cons.inj hp).2
  have h2 := (List.cons.inj g1).1
  have g2 := (List.cons.inj g1).2
  have h3 := (List.cons.inj g2).1
  have g3 := (List.cons.inj g2).2
  have h4 := (List.cons.inj g3).1
  rw [Ins.mk.injEq]
  exact ⟨rfl, S.sub (show (6 : Int) ≠ 33 by decide), reg_inj hi.d0 hj.d0 h1, reg_inj hi.n0 hj.n0 h2, (zero_of hi.m0 hi.m1).trans (zero_of hj.m0 hj.m1).symm, (zero_of hi.a0 hi.a1).trans (zero_of hj.a0 hj.a1).symm, num_inj h3, num_inj h4, (zero_of hi.k0 hi.k1).trans (zero_of hj.k0 hj.k1).symm, (zero_of hi.t0 hi.t1).trans (zero_of hj.t0 hj.t1).symm, (zero_of hi.c0 hi.c1).trans (zero_of hj.c0 hj.c1).symm, (eq_of_beq hi.y).trans (eq_of_beq hj.y).symm, S.flags, S.minus, S.not, S.link⟩
theorem same7 {i j : Ins} (hi : Fits i) (hj : Fits j) (ei : i.op = 7) (ej : j.op = 7) (S : Same i j) (hp : piecesV i = piecesV j) : i = j := by
  obtain ⟨op, sub, rd, rn, rm, ra, imm, imm2, amount, shift, cond, sys, flags, minus, not, link⟩ := i
  obtain ⟨op', sub', rd', rn', rm', ra', imm', imm2', amount', shift', cond', sys', flags', minus', not', link'⟩ := j
  dsimp only at ei ej; subst ei; subst ej
  have h1 := (List.cons.inj hp).1
  have g1 := (List.cons.inj hp).2
  have h2 := (List.cons.inj g1).1
  have g2 := (List.cons.inj g1).2
  have h3 := (List.cons.inj g2).1
  rw [Ins.mk.injEq]
  exact ⟨rfl, S.sub (show (7 : Int) ≠ 33 by decide), reg_inj hi.d0 hj.d0 h1, reg_inj hi.n0 hj.n0 h2, reg_inj hi.m0 hj.m0 h3, (zero_of hi.a0 hi.a1).trans (zero_of hj.a0 hj.a1).symm, (zero_of hi.i0 hi.i1).trans (zero_of hj.i0 hj.i1).symm, (zero_of hi.j0 hi.j1).trans (zero_of hj.j0 hj.j1).symm, (zero_of hi.k0 hi.k1).trans (zero_of hj.k0 hj.k1).symm, (zero_of hi.t0 hi.t1).trans (zero_of hj.t0 hj.t1).symm, (zero_of hi.c0 hi.c1).trans (zero_of hj.c0 hj.c1).symm, (eq_of_beq hi.y).trans (eq_of_beq hj.y).symm, S.flags, S.minus, S.not, S.link⟩
theorem same8 {i j : Ins} (hi : Fits i) (hj : Fits j) (ei : i.op = 8) (ej : j.op = 8) (S : Same i j) (hp : piecesV i = piecesV j) : i = j := by
  obtain ⟨op, sub, rd, rn, rm, ra, imm, imm2, amount, shift, cond, sys, flags, minus, not, link⟩ := i
  obtain ⟨op', sub', rd', rn', rm', ra', imm', imm2', amount', shift', cond', sys', flags', minus', not', link'⟩ := j
  dsimp only at ei ej; subst ei; subst ej
  have h1 := (List.cons.inj hp).1
  have g1 := (List.cons.inj hp).2
  have h2 := (List.cons.inj g1).1
  have g2 := (List.cons.inj g1).2
  have h3 := (List.cons.inj g2).1
  have g3 := (List.cons.inj g2).2
  have h4 := (List.cons.inj g3).1
  rw [Ins.mk.injEq]
  exact ⟨rfl, S.sub (show (8 : Int) ≠ 33 by decide), reg_inj hi.d0 hj.d0 h1, reg_inj hi.n0 hj.n0 h2, reg_inj hi.m0 hj.m0 h3, reg_inj hi.a0 hj.a0 h4, (zero_of hi.i0 hi.i1).trans (zero_of hj.i0 hj.i1).symm, (zero_of hi.j0 hi.j1).trans (zero_of hj.j0 hj.j1).symm, (zero_of hi.k0 hi.k1).trans (zero_of hj.k0 hj.k1).symm, (zero_of hi.t0 hi.t1).trans (zero_of hj.t0 hj.t1).symm, (zero_of hi.c0 hi.c1).trans (zero_of hj.c0 hj.c1).symm, (eq_of_beq hi.y).trans (eq_of_beq hj.y).symm, S.flags, S.minus, S.not, S.link⟩
theorem same9 {i j : Ins} (hi : Fits i) (hj : Fits j) (ei : i.op = 9) (ej : j.op = 9) (S : Same i j) (hp : piecesV i = piecesV j) : i = j := by
  obtain ⟨op, sub, rd, rn, rm, ra, imm, imm2, amount, shift, cond, sys, flags, minus, not, link⟩ := i
  obtain ⟨op', sub', rd', rn', rm', ra', imm', imm2', amount', shift', cond', sys', flags', minus', not', link'⟩ := j
  dsimp only at ei ej; subst ei; subst ej
  have h1 := (List.cons.inj hp).1
  have g1 := (List.cons.inj hp).2
  have h2 := (List.cons.inj g1).1
  have g2 := (List.cons.inj g1).2
  have h3 := (List.cons.inj g2).1
  rw [Ins.mk.injEq]
  exact ⟨rfl, S.sub (show (9 : Int) ≠ 33 by decide), reg_inj hi.d0 hj.d0 h1, reg_inj hi.n0 hj.n0 h2, reg_inj hi.m0 hj.m0 h3, (zero_of hi.a0 hi.a1).trans (zero_of hj.a0 hj.a1).symm, (zero_of hi.i0 hi.i1).trans (zero_of hj.i0 hj.i1).symm, (zero_of hi.j0 hi.j1).trans (zero_of hj.j0 hj.j1).symm, (zero_of hi.k0 hi.k1).trans (zero_of hj.k0 hj.k1).symm, (zero_of hi.t0 hi.t1).trans (zero_of hj.t0 hj.t1).symm, (zero_of hi.c0 hi.c1).trans (zero_of hj.c0 hj.c1).symm, (eq_of_beq hi.y).trans (eq_of_beq hj.y).symm, S.flags, S.minus, S.not, S.link⟩
theorem same10 {i j : Ins} (hi : Fits i) (hj : Fits j) (ei : i.op = 10) (ej : j.op = 10) (S : Same i j) (hp : piecesV i = piecesV j) : i = j := by
  obtain ⟨op, sub, rd, rn, rm, ra, imm, imm2, amount, shift, cond, sys, flags, minus, not, link⟩ := i
  obtain ⟨op', sub', rd', rn', rm', ra', imm', imm2', amount', shift', cond', sys', flags', minus', not', link'⟩ := j
  dsimp only at ei ej; subst ei; subst ej
  have h1 := (List.cons.inj hp).1
  have g1 := (List.cons.inj hp).2
  have h2 := (List.cons.inj g1).1
  have g2 := (List.cons.inj g1).2
  have h3 := (List.cons.inj g2).1
  have g3 := (List.cons.inj g2).2
  have h4 := (List.cons.inj g3).1
  rw [Ins.mk.injEq]
  exact ⟨rfl, S.sub (show (10 : Int) ≠ 33 by decide), reg_inj hi.d0 hj.d0 h1, reg_inj hi.n0 hj.n0 h2, reg_inj hi.m0 hj.m0 h3, (zero_of hi.a0 hi.a1).trans (zero_of hj.a0 hj.a1).symm, (zero_of hi.i0 hi.i1).trans (zero_of hj.i0 hj.i1).symm, (zero_of hi.j0 hi.j1).trans (zero_of hj.j0 hj.j1).symm, (zero_of hi.k0 hi.k1).trans (zero_of hj.k0 hj.k1).symm, (zero_of hi.t0 hi.t1).trans (zero_of hj.t0 hj.t1).symm, condT_inj hi.c0 hi.c1 hj.c0 hj.c1 h4, (eq_of_beq hi.y).trans (eq_of_beq hj.y).symm, S.flags, S.minus, S.not, S.link⟩
theorem same11 {i j : Ins} (hi : Fits i) (hj : Fits j) (ei : i.op = 11) (ej : j.op = 11) (S : Same i j) (hp : piecesV i = piecesV j) : i = j := by
  obtain ⟨op, sub, rd, rn, rm, ra, imm, imm2, amount, shift, cond, sys, flags, minus, not, link⟩ := i
  obtain ⟨op', sub', rd', rn', rm', ra', imm', imm2', amount', shift', cond', sys', flags', minus', not', link'⟩ := j
  dsimp only at ei ej; subst ei; subst ej
  have h1 := (List.cons.inj hp).1
  have g1 := (List.cons.inj hp).2
  have h2 := (List.cons.inj g1).1
  rw [Ins.mk.injEq]
  exact ⟨rfl, S.sub (show (11 : Int) ≠ 33 by decide), reg_inj hi.d0 hj.d0 h1, (zero_of hi.n0 hi.n1).trans (zero_of hj.n0 hj.n1).symm, (zero_of hi.m0 hi.m1).trans (zero_of hj.m0 hj.m1).symm, (zero_of hi.a0 hi.a1).trans (zero_of hj.a0 hj.a1).symm, num_inj h2, (zero_of hi.j0 hi.j1).trans (zero_of hj.j0 hj.j1).symm, (zero_of hi.k0 hi.k1).trans (zero_of hj.k0 hj.k1).symm, (zero_of hi.t0 hi.t1).trans (zero_of hj.t0 hj.t1).symm, (zero_of hi.c0 hi.c1).trans (zero_of hj.c0 hj.c1).symm, (eq_of_beq hi.y).trans (eq_of_beq hj.y).symm, S.flags, S.minus, S.not, S.link⟩
theorem same12 {i j : Ins} (hi : Fits i) (hj : Fits j) (ei : i.op = 12) (ej : j.op = 12) (S : Same i j) (hp : piecesV i = piecesV j) : i = j := by
  obtain ⟨op, sub, rd, rn, rm, ra, imm, imm2, amount, shift, cond, sys, flags, minus, not, link⟩ := i
  obtain ⟨op', sub', rd', rn', rm', ra', imm', imm2', amount', shift', cond', sys', flags', minus', not', link'⟩ := j
  dsimp only at ei ej; subst ei; subst ej
  have h1 := (List.cons.inj hp).1
  rw [Ins.mk.injEq]
  exact ⟨rfl, S.sub (show (12 : Int) ≠ 33 by decide), (zero_of hi.d0 hi.d1).trans (zero_of hj.d0 hj.d1).symm, (zero_of hi.n0 hi.n1).trans (zero_of hj.n0 hj.n1).symm, (zero_of hi.m0 hi.m1).trans (zero_of hj.m0 hj.m1).symm, (zero_of hi.a0 hi.a1).trans (zero_of hj.a0 hj.a1).symm, num_inj h1, (zero_of hi.j0 hi.j1).trans (zero_of hj.j0 hj.j1).symm, (zero_of hi.k0 hi.k1).trans (zero_of hj.k0 hj.k1).symm, (zero_of hi.t0 hi.t1).trans (zero_of hj.t0 hj.t1).symm, (zero_of hi.c0 hi.c1).trans (zero_of hj.c0 hj.c1).symm, (eq_of_beq hi.y).trans (eq_of_beq hj.y).symm, S.flags, S.minus, S.not, S.link⟩
theorem same13 {i j : Ins} (hi : Fits i) (hj : Fits j) (ei : i.op = 13) (ej : j.op = 13) (S : Same i j) (hp : piecesV i = piecesV j) : i = j := by
  obtain ⟨op, sub, rd, rn, rm, ra, imm, imm2, amount, shift, cond, sys, flags, minus, not, link⟩ := i
  obtain ⟨op', sub', rd', rn', rm', ra', imm', imm2', amount', shift', cond', sys', flags', minus', not', link'⟩ := j
  dsimp only at ei ej; subst ei; subst ej
  have h1 := (List.cons.inj hp).1
  rw [Ins.mk.injEq]
  exact ⟨rfl, S.sub (show (13 : Int) ≠ 33 by decide), (zero_of hi.d0 hi.d1).trans (zero_of hj.d0 hj.d1).symm, (zero_of hi.n0 hi.n1).trans (zero_of hj.n0 hj.n1).symm, (zero_of hi.m0 hi.m1).trans (zero_of hj.m0 hj.m1).symm, (zero_of hi.a0 hi.a1).trans (zero_of hj.a0 hj.a1).symm, num_inj h1, (zero_of hi.j0 hi.j1).trans (zero_of hj.j0 hj.j1).symm, (zero_of hi.k0 hi.k1).trans (zero_of hj.k0 hj.k1).symm, (zero_of hi.t0 hi.t1).trans (zero_of hj.t0 hj.t1).symm, S.cond rfl, (eq_of_beq hi.y).trans (eq_of_beq hj.y).symm, S.flags, S.minus, S.not, S.link⟩
theorem same14 {i j : Ins} (hi : Fits i) (hj : Fits j) (ei : i.op = 14) (ej : j.op = 14) (S : Same i j) (hp : piecesV i = piecesV j) : i = j := by
  obtain ⟨op, sub, rd, rn, rm, ra, imm, imm2, amount, shift, cond, sys, flags, minus, not, link⟩ := i
  obtain ⟨op', sub', rd', rn', rm', ra', imm', imm2', amount', shift', cond', sys', flags', minus', not', link'⟩ := j
  dsimp only at ei ej; subst ei; subst ej
  have h1 := (List.cons.inj hp).1
  have g1 := (List.cons.inj hp).2
  have h2 := (List.cons.inj g1).1
  rw [Ins.mk.injEq]
  exact ⟨rfl, S.sub (show (14 : Int) ≠ 33 by decide), reg_inj hi.d0 hj.d0 h1, (zero_of hi.n0 hi.n1).trans (zero_of hj.n0 hj.n1).symm, (zero_of hi.m0 hi.m1).trans (zero_of hj.m0 hj.m1).symm, (zero_of hi.a0 hi.a1).trans (zero_of hj.a0 hj.a1).symm, num_inj h2, (zero_of hi.j0 hi.j1).trans (zero_of hj.j0 hj.j1).symm, (zero_of hi.k0 hi.k1).trans (zero_of hj.k0 hj.k1).symm, (zero_of hi.t0 hi.t1).trans (zero_of hj.t0 hj.t1).symm, (zero_of hi.c0 hi.c1).trans (zero_of hj.c0 hj.c1).symm, (eq_of_beq hi.y).trans (eq_of_beq hj.y).symm, S.flags, S.minus, S.not, S.link⟩
theorem same15 {i j : Ins} (hi : Fits i) (hj : Fits j) (ei : i.op = 15) (ej : j.op = 15) (S : Same i j) (hp : piecesV i = piecesV j) : i = j := by
  obtain ⟨op, sub, rd, rn, rm, ra, imm, imm2, amount, shift, cond, sys, flags, minus, not, link⟩ := i
  obtain ⟨op', sub', rd', rn', rm', ra', imm', imm2', amount', shift', cond', sys', flags', minus', not', link'⟩ := j
  dsimp only at ei ej; subst ei; subst ej
  have h1 := (List.cons.inj hp).1
  have g1 := (List.cons.inj hp).2
  have h2 := (List.cons.inj g1).1
  have g2 := (List.cons.inj g1).2
  have h3 := (List.cons.inj g2).1
  rw [Ins.mk.injEq]
  exact ⟨rfl, S.sub (show (15 : Int) ≠ 33 by decide), reg_inj hi.d0 hj.d0 h1, (zero_of hi.n0 hi.n1).trans (zero_of hj.n0 hj.n1).symm, (zero_of hi.m0 hi.m1).trans (zero_of hj.m0 hj.m1).symm, (zero_of hi.a0 hi.a1).trans (zero_of hj.a0 hj.a1).symm, num_inj h3, (zero_of hi.j0 hi.j1).trans (zero_of hj.j0 hj.j1).symm, num_inj h2, (zero_of hi.t0 hi.t1).trans (zero_of hj.t0 hj.t1).symm, (zero_of hi.c0 hi.c1).trans (zero_of hj.c0 hj.c1).symm, (eq_of_beq hi.y).trans (eq_of_beq hj.y).symm, S.flags, S.minus, S.not, S.link⟩
theorem same16 {i j : Ins} (hi : Fits i) (hj : Fits j) (ei : i.op = 16) (ej : j.op = 16) (S : Same i j) (hp : piecesV i = piecesV j) : i = j := by
  obtain ⟨op, sub, rd, rn, rm, ra, imm, imm2, amount, shift, cond, sys, flags, minus, not, link⟩ := i
  obtain ⟨op', sub', rd', rn', rm', ra', imm', imm2', amount', shift', cond', sys', flags', minus', not', link'⟩ := j
  dsimp only at ei ej; subst ei; subst ej
  have h1 := (List.cons.inj hp).1
  rw [Ins.mk.injEq]
  exact ⟨rfl, S.sub (show (16 : Int) ≠ 33 by decide), (zero_of hi.d0 hi.d1).trans (zero_of hj.d0 hj.d1).symm, reg_inj hi.n0 hj.n0 h1, (zero_of hi.m0 hi.m1).trans (zero_of hj.m0 hj.m1).symm, (zero_of hi.a0 hi.a1).trans (zero_of hj.a0 hj.a1).symm, (zero_of hi.i0 hi.i1).trans (zero_of hj.i0 hj.i1).symm, (zero_of hi.j0 hi.j1).trans (zero_of hj.j0 hj.j1).symm, (zero_of hi.k0 hi.k1).trans (zero_of hj.k0 hj.k1).symm, (zero_of hi.t0 hi.t1).trans (zero_of hj.t0 hj.t1).symm, (zero_of hi.c0 hi.c1).trans (zero_of hj.c0 hj.c1).symm, (eq_of_beq hi.y).trans (eq_of_beq hj.y).symm, S.flags, S.minus, S.not, S.link⟩
theorem same17 {i j : Ins} (hi : Fits i) (hj : Fits j) (ei : i.op = 17) (ej : j.op = 17) (S : Same i j) (hp : piecesV i = piecesV j) : i = j := by
  obtain ⟨op, sub, rd, rn, rm, ra, imm, imm2, amount, shift, cond, sys, flags, minus, not, link⟩ := i
  obtain ⟨op', sub', rd', rn', rm', ra', imm', imm2', amount', shift', cond', sys', flags', minus', not', link'⟩ := j
  dsimp only at ei ej; subst ei; subst ej
  have h1 := (List.cons.inj hp).1
  have g1 := (List.cons.inj hp).2
  have h2 := (List.cons.inj g1).1
  have g2 := (List.cons.inj g1).2
  have h3 := (List.cons.inj g2).1
  rw [Ins.mk.injEq]
  exact ⟨rfl, S.sub (show (17 : Int) ≠ 33 by decide), reg_inj hi.d0 hj.d0 h1, reg_inj hi.n0 hj.n0 (open_inj h2), (zero_of hi.m0 hi.m1).trans (zero_of hj.m0 hj.m1).symm, (zero_of hi.a0 hi.a1).trans (zero_of hj.a0 hj.a1).symm, num_inj (close_inj h3), (zero_of hi.j0 hi.j1).trans (zero_of hj.j0 hj.j1).symm, (zero_of hi.k0 hi.k1).trans (zero_of hj.k0 hj.k1).symm, (zero_of hi.t0 hi.t1).trans (zero_of hj.t0 hj.t1).symm, (zero_of hi.c0 hi.c1).trans (zero_of hj.c0 hj.c1).symm, (eq_of_beq hi.y).trans (eq_of_beq hj.y).symm, S.flags, S.minus, S.not, S.link⟩
theorem same18 {i j : Ins} (hi : Fits i) (hj : Fits j) (ei : i.op = 18) (ej : j.op = 18) (S : Same i j) (hp : piecesV i = piecesV j) : i = j := by
  obtain ⟨op, sub, rd, rn, rm, ra, imm, imm2, amount, shift, cond, sys, flags, minus, not, link⟩ := i
  obtain ⟨op', sub', rd', rn', rm', ra', imm', imm2', amount', shift', cond', sys', flags', minus', not', link'⟩ := j
  dsimp only at ei ej; subst ei; subst ej
  have h1 := (List.cons.inj hp).1
  have g1 := (List.cons.inj hp).2
  have h2 := (List.cons.inj g1).1
  have g2 := (List.cons.inj g1).2
  have h3 := (List.cons.inj g2).1
  rw [Ins.mk.injEq]
  exact ⟨rfl, S.sub (show (18 : Int) ≠ 33 by decide), reg_inj hi.d0 hj.d0 h1, reg_inj hi.n0 hj.n0 (open_inj h2), (zero_of hi.m0 hi.m1).trans (zero_of hj.m0 hj.m1).symm, (zero_of hi.a0 hi.a1).trans (zero_of hj.a0 hj.a1).symm, num_inj (close_inj h3), (zero_of hi.j0 hi.j1).trans (zero_of hj.j0 hj.j1).symm, (zero_of hi.k0 hi.k1).trans (zero_of hj.k0 hj.k1).symm, (zero_of hi.t0 hi.t1).trans (zero_of hj.t0 hj.t1).symm, (zero_of hi.c0 hi.c1).trans (zero_of hj.c0 hj.c1).symm, (eq_of_beq hi.y).trans (eq_of_beq hj.y).symm, S.flags, S.minus, S.not, S.link⟩
theorem same19 {i j : Ins} (hi : Fits i) (hj : Fits j) (ei : i.op = 19) (ej : j.op = 19) (S : Same i j) (hp : piecesV i = piecesV j) : i = j := by
  obtain ⟨op, sub, rd, rn, rm, ra, imm, imm2, amount, shift, cond, sys, flags, minus, not, link⟩ := i
  obtain ⟨op', sub', rd', rn', rm', ra', imm', imm2', amount', shift', cond', sys', flags', minus', not', link'⟩ := j
  dsimp only at ei ej; subst ei; subst ej
  have h1 := (List.cons.inj hp).1
  have g1 := (List.cons.inj hp).2
  have h2 := (List.cons.inj g1).1
  have g2 := (List.cons.inj g1).2
  have h3 := (List.cons.inj g2).1
  have g3 := (List.cons.inj g2).2
  have h4 := (List.cons.inj g3).1
  rw [Ins.mk.injEq]
  exact ⟨rfl, S.sub (show (19 : Int) ≠ 33 by decide), reg_inj hi.d0 hj.d0 h1, reg_inj hi.n0 hj.n0 (open_inj h2), reg_inj hi.m0 hj.m0 h3, (zero_of hi.a0 hi.a1).trans (zero_of hj.a0 hj.a1).symm, (zero_of hi.i0 hi.i1).trans (zero_of hj.i0 hj.i1).symm, (zero_of hi.j0 hi.j1).trans (zero_of hj.j0 hj.j1).symm, sft_inj (close_inj h4), (zero_of hi.t0 hi.t1).trans (zero_of hj.t0 hj.t1).symm, (zero_of hi.c0 hi.c1).trans (zero_of hj.c0 hj.c1).symm, (eq_of_beq hi.y).trans (eq_of_beq hj.y).symm, S.flags, S.minus, S.not, S.link⟩
theorem same20 {i j : Ins} (hi : Fits i) (hj : Fits j) (ei : i.op = 20) (ej : j.op = 20) (S : Same i j) (hp : piecesV i = piecesV j) : i = j := by
  obtain ⟨op, sub, rd, rn, rm, ra, imm, imm2, amount, shift, cond, sys, flags, minus, not, link⟩ := i
  obtain ⟨op', sub', rd', rn', rm', ra', imm', imm2', amount', shift', cond', sys', flags', minus', not', link'⟩ := j
  dsimp only at ei ej; subst ei; subst ej
  have h1 := (List.cons.inj hp).1
  have g1 := (List.cons.inj hp).2
  have h2 := (List.cons.inj g1).1
  have g2 := (List.cons.inj g1).2
  have h3 := (List.cons.inj g2).1
  have g3 := (List.cons.inj g2).2
  have h4 := (List.cons.inj g3).1
  rw [Ins.mk.injEq]
  exact ⟨rfl, S.sub (show (20 : Int) ≠ 33 by decide), reg_inj hi.d0 hj.d0 h1, reg_inj hi.n0 hj.n0 (open_inj h2), reg_inj hi.m0 hj.m0 h3, (zero_of hi.a0 hi.a1).trans (zero_of hj.a0 hj.a1).symm, (zero_of hi.i0 hi.i1).trans (zero_of hj.i0 hj.i1).symm, (zero_of hi.j0 hi.j1).trans (zero_of hj.j0 hj.j1).symm, sft_inj (close_inj h4), (zero_of hi.t0 hi.t1).trans (zero_of hj.t0 hj.t1).symm, (zero_of hi.c0 hi.c1).trans (zero_of hj.c0 hj.c1).symm, (eq_of_beq hi.y).trans (eq_of_beq hj.y).symm, S.flags, S.minus, S.not, S.link⟩
theorem same21 {i j : Ins} (hi : Fits i) (hj : Fits j) (ei : i.op = 21) (ej : j.op = 21) (S : Same i j) (hp : piecesV i = piecesV j) : i = j := by
  obtain ⟨op, sub, rd, rn, rm, ra, imm, imm2, amount, shift, cond, sys, flags, minus, not, link⟩ := i
  obtain ⟨op', sub', rd', rn', rm', ra', imm', imm2', amount', shift', cond', sys', flags', minus', not', link'⟩ := j
  dsimp only at ei ej; subst ei; subst ej
  have h1 := (List.cons.inj hp).1
  have g1 := (List.cons.inj hp).2
  have h2 := (List.cons.inj g1).1
  rw [Ins.mk.injEq]
  exact ⟨rfl, S.sub (show (21 : Int) ≠ 33 by decide), reg_inj hi.d0 hj.d0 h1, reg_inj hi.n0 hj.n0 (close_inj (open_inj h2)), (zero_of hi.m0 hi.m1).trans (zero_of hj.m0 hj.m1).symm, (zero_of hi.a0 hi.a1).trans (zero_of hj.a0 hj.a1).symm, (zero_of hi.i0 hi.i1).trans (zero_of hj.i0 hj.i1).symm, (zero_of hi.j0 hi.j1).trans (zero_of hj.j0 hj.j1).symm, (zero_of hi.k0 hi.k1).trans (zero_of hj.k0 hj.k1).symm, (zero_of hi.t0 hi.t1).trans (zero_of hj.t0 hj.t1).symm, (zero_of hi.c0 hi.c1).trans (zero_of hj.c0 hj.c1).symm, (eq_of_beq hi.y).trans (eq_of_beq hj.y).symm, S.flags, S.minus, S.not, S.link⟩
theorem same22 {i j : Ins} (hi : Fits i) (hj : Fits j) (ei : i.op = 22) (ej : j.op = 22) (S : Same i j) (hp : piecesV i = piecesV j) : i = j := by
  obtain ⟨op, sub, rd, rn, rm, ra, imm, imm2, amount, shift, cond, sys, flags, minus, not, link⟩ := i
  obtain ⟨op', sub', rd', rn', rm', ra', imm', imm2', amount', shift', cond', sys', flags', minus', not', link'⟩ := j
  dsimp only at ei ej; subst ei; subst ej
  have h1 := (List.cons.inj hp).1
  have g1 := (List.cons.inj hp).2
  have h2 := (List.cons.inj g1).1
  rw [Ins.mk.injEq]
  exact ⟨rfl, S.sub (show (22 : Int) ≠ 33 by decide), reg_inj hi.d0 hj.d0 h1, reg_inj hi.n0 hj.n0 (close_inj (open_inj h2)), (zero_of hi.m0 hi.m1).trans (zero_of hj.m0 hj.m1).symm, (zero_of hi.a0 hi.a1).trans (zero_of hj.a0 hj.a1).symm, (zero_of hi.i0 hi.i1).trans (zero_of hj.i0 hj.i1).symm, (zero_of hi.j0 hi.j1).trans (zero_of hj.j0 hj.j1).symm, (zero_of hi.k0 hi.k1).trans (zero_of hj.k0 hj.k1).symm, (zero_of hi.t0 hi.t1).trans (zero_of hj.t0 hj.t1).symm, (zero_of hi.c0 hi.c1).trans (zero_of hj.c0 hj.c1).symm, (eq_of_beq hi.y).trans (eq_of_beq hj.y).symm, S.flags, S.minus, S.not, S.link⟩
theorem same23 {i j : Ins} (hi : Fits i) (hj : Fits j) (ei : i.op = 23) (ej : j.op = 23) (S : Same i j) (hp : piecesV i = piecesV j) : i = j := by
  obtain ⟨op, sub, rd, rn, rm, ra, imm, imm2, amount, shift, cond, sys, flags, minus, not, link⟩ := i
  obtain ⟨op', sub', rd', rn', rm', ra', imm', imm2', amount', shift', cond', sys', flags', minus', not', link'⟩ := j
  dsimp only at ei ej; subst ei; subst ej
  have h1 := (List.cons.inj hp).1
  have g1 := (List.cons.inj hp).2
  have h2 := (List.cons.inj g1).1
  rw [Ins.mk.injEq]
  exact ⟨rfl, S.sub (show (23 : Int) ≠ 33 by decide), reg_inj hi.d0 hj.d0 h1, reg_inj hi.n0 hj.n0 (close_inj (open_inj h2)), (zero_of hi.m0 hi.m1).trans (zero_of hj.m0 hj.m1).symm, (zero_of hi.a0 hi.a1).trans (zero_of hj.a0 hj.a1).symm, (zero_of hi.i0 hi.i1).trans (zero_of hj.i0 hj.i1).symm, (zero_of hi.j0 hi.j1).trans (zero_of hj.j0 hj.j1).symm, (zero_of hi.k0 hi.k1).trans (zero_of hj.k0 hj.k1).symm, (zero_of hi.t0 hi.t1).trans (zero_of hj.t0 hj.t1).symm, (zero_of hi.c0 hi.c1).trans (zero_of hj.c0 hj.c1).symm, (eq_of_beq hi.y).trans (eq_of_beq hj.y).symm, S.flags, S.minus, S.not, S.link⟩
theorem same24 {i j : Ins} (hi : Fits i) (hj : Fits j) (ei : i.op = 24) (ej : j.op = 24) (S : Same i j) (hp : piecesV i = piecesV j) : i = j := by
  obtain ⟨op, sub, rd, rn, rm, ra, imm, imm2, amount, shift, cond, sys, flags, minus, not, link⟩ := i
  obtain ⟨op', sub', rd', rn', rm', ra', imm', imm2', amount', shift', cond', sys', flags', minus', not', link'⟩ := j
  dsimp only at ei ej; subst ei; subst ej
  have h1 := (List.cons.inj hp).1
  have g1 := (List.cons.inj hp).2
  have h2 := (List.cons.inj g1).1
  have g2 := (List.cons.inj g1).2
  have h3 := (List.cons.inj g2).1
  rw [Ins.mk.injEq]
  exact ⟨rfl, S.sub (show (24 : Int) ≠ 33 by decide), reg_inj hi.d0 hj.d0 h2, reg_inj hi.n0 hj.n0 (close_inj (open_inj h3)), reg_inj hi.m0 hj.m0 h1, (zero_of hi.a0 hi.a1).trans (zero_of hj.a0 hj.a1).symm, (zero_of hi.i0 hi.i1).trans (zero_of hj.i0 hj.i1).symm, (zero_of hi.j0 hi.j1).trans (zero_of hj.j0 hj.j1).symm, (zero_of hi.k0 hi.k1).trans (zero_of hj.k0 hj.k1).symm, (zero_of hi.t0 hi.t1).trans (zero_of hj.t0 hj.t1).symm, (zero_of hi.c0 hi.c1).trans (zero_of hj.c0 hj.c1).symm, (eq_of_beq hi.y).trans (eq_of_beq hj.y).symm, S.flags, S.minus, S.not, S.link⟩
theorem same25 {i j : Ins} (hi : Fits i) (hj : Fits j) (ei : i.op = 25) (ej : j.op = 25) (S : Same i j) (hp : piecesV i = piecesV j) : i = j := by
  obtain ⟨op, sub, rd, rn, rm, ra, imm, imm2, amount, shift, cond, sys, flags, minus, not, link⟩ := i
  obtain ⟨op', sub', rd', rn', rm', ra', imm', imm2', amount', shift', cond', sys', flags', minus', not', link'⟩ := j
  dsimp only at ei ej; subst ei; subst ej
  rw [Ins.mk.injEq]
  exact ⟨rfl, S.sub (show (25 : Int) ≠ 33 by decide), (zero_of hi.d0 hi.d1).trans (zero_of hj.d0 hj.d1).symm, (zero_of hi.n0 hi.n1).trans (zero_of hj.n0 hj.n1).symm, (zero_of hi.m0 hi.m1).trans (zero_of hj.m0 hj.m1).symm, (zero_of hi.a0 hi.a1).trans (zero_of hj.a0 hj.a1).symm, (zero_of hi.i0 hi.i1).trans (zero_of hj.i0 hj.i1).symm, (zero_of hi.j0 hi.j1).trans (zero_of hj.j0 hj.j1).symm, (zero_of hi.k0 hi.k1).trans (zero_of hj.k0 hj.k1).symm, (zero_of hi.t0 hi.t1).trans (zero_of hj.t0 hj.t1).symm, (zero_of hi.c0 hi.c1).trans (zero_of hj.c0 hj.c1).symm, (eq_of_beq hi.y).trans (eq_of_beq hj.y).symm, S.flags, S.minus, S.not, S.link⟩
theorem same26 {i j : Ins} (hi : Fits i) (hj : Fits j) (ei : i.op = 26) (ej : j.op = 26) (S : Same i j) (hp : piecesV i = piecesV j) : i = j := by
  obtain ⟨op, sub, rd, rn, rm, ra, imm, imm2, amount, shift, cond, sys, flags, minus, not, link⟩ := i
  obtain ⟨op', sub', rd', rn', rm', ra', imm', imm2', amount', shift', cond', sys', flags', minus', not', link'⟩ := j
  dsimp only at ei ej; subst ei; subst ej
  have h1 := (List.cons.inj hp).1
  rw [Ins.mk.injEq]
  exact ⟨rfl, S.sub (show (26 : Int) ≠ 33 by decide), (zero_of hi.d0 hi.d1).trans (zero_of hj.d0 hj.d1).symm, (zero_of hi.n0 hi.n1).trans (zero_of hj.n0 hj.n1).symm, (zero_of hi.m0 hi.m1).trans (zero_of hj.m0 hj.m1).symm, (zero_of hi.a0 hi.a1).trans (zero_of hj.a0 hj.a1).symm, bar_inj hi.i0 hi.i1 hj.i0 hj.i1 h1, (zero_of hi.j0 hi.j1).trans (zero_of hj.j0 hj.j1).symm, (zero_of hi.k0 hi.k1).trans (zero_of hj.k0 hj.k1).symm, (zero_of hi.t0 hi.t1).trans (zero_of hj.t0 hj.t1).symm, (zero_of hi.c0 hi.c1).trans (zero_of hj.c0 hj.c1).symm, (eq_of_beq hi.y).trans (eq_of_beq hj.y).symm, S.flags, S.minus, S.not, S.link⟩
theorem same27 {i j : Ins} (hi : Fits i) (hj : Fits j) (ei : i.op = 27) (ej : j.op = 27) (S : Same i j) (hp : piecesV i = piecesV j) : i = j := by
  obtain ⟨op, sub, rd, rn, rm, ra, imm, imm2, amount, shift, cond, sys, flags, minus, not, link⟩ := i
  obtain ⟨op', sub', rd', rn', rm', ra', imm', imm2', amount', shift', cond', sys', flags', minus', not', link'⟩ := j
  dsimp only at ei ej; subst ei; subst ej
  rw [Ins.mk.injEq]
  exact ⟨rfl, S.sub (show (27 : Int) ≠ 33 by decide), (zero_of hi.d0 hi.d1).trans (zero_of hj.d0 hj.d1).symm, (zero_of hi.n0 hi.n1).trans (zero_of hj.n0 hj.n1).symm, (zero_of hi.m0 hi.m1).trans (zero_of hj.m0 hj.m1).symm, (zero_of hi.a0 hi.a1).trans (zero_of hj.a0 hj.a1).symm, (zero_of hi.i0 hi.i1).trans (zero_of hj.i0 hj.i1).symm, (zero_of hi.j0 hi.j1).trans (zero_of hj.j0 hj.j1).symm, (zero_of hi.k0 hi.k1).trans (zero_of hj.k0 hj.k1).symm, (zero_of hi.t0 hi.t1).trans (zero_of hj.t0 hj.t1).symm, (zero_of hi.c0 hi.c1).trans (zero_of hj.c0 hj.c1).symm, (eq_of_beq hi.y).trans (eq_of_beq hj.y).symm, S.flags, S.minus, S.not, S.link⟩
theorem same28 {i j : Ins} (hi : Fits i) (hj : Fits j) (ei : i.op = 28) (ej : j.op = 28) (S : Same i j) (hp : piecesV i = piecesV j) : i = j := by
  obtain ⟨op, sub, rd, rn, rm, ra, imm, imm2, amount, shift, cond, sys, flags, minus, not, link⟩ := i
  obtain ⟨op', sub', rd', rn', rm', ra', imm', imm2', amount', shift', cond', sys', flags', minus', not', link'⟩ := j
  dsimp only at ei ej; subst ei; subst ej
  have h1 := (List.cons.inj hp).1
  rw [Ins.mk.injEq]
  exact ⟨rfl, S.sub (show (28 : Int) ≠ 33 by decide), reg_inj hi.d0 hj.d0 h1, (zero_of hi.n0 hi.n1).trans (zero_of hj.n0 hj.n1).symm, (zero_of hi.m0 hi.m1).trans (zero_of hj.m0 hj.m1).symm, (zero_of hi.a0 hi.a1).trans (zero_of hj.a0 hj.a1).symm, (zero_of hi.i0 hi.i1).trans (zero_of hj.i0 hj.i1).symm, (zero_of hi.j0 hi.j1).trans (zero_of hj.j0 hj.j1).symm, (zero_of hi.k0 hi.k1).trans (zero_of hj.k0 hj.k1).symm, (zero_of hi.t0 hi.t1).trans (zero_of hj.t0 hj.t1).symm, (zero_of hi.c0 hi.c1).trans (zero_of hj.c0 hj.c1).symm, (eq_of_beq hi.y).trans (eq_of_beq hj.y).symm, S.flags, S.minus, S.not, S.link⟩
theorem same29 {i j : Ins} (hi : Fits i) (hj : Fits j) (ei : i.op = 29) (ej : j.op = 29) (S : Same i j) (hp : piecesV i = piecesV j) : i = j := by
  obtain ⟨op, sub, rd, rn, rm, ra, imm, imm2, amount, shift, cond, sys, flags, minus, not, link⟩ := i
  obtain ⟨op', sub', rd', rn', rm', ra', imm', imm2', amount', shift', cond', sys', flags', minus', not', link'⟩ := j
  dsimp only at ei ej; subst ei; subst ej
  rw [Ins.mk.injEq]
  exact ⟨rfl, S.sub (show (29 : Int) ≠ 33 by decide), (zero_of hi.d0 hi.d1).trans (zero_of hj.d0 hj.d1).symm, (zero_of hi.n0 hi.n1).trans (zero_of hj.n0 hj.n1).symm, (zero_of hi.m0 hi.m1).trans (zero_of hj.m0 hj.m1).symm, (zero_of hi.a0 hi.a1).trans (zero_of hj.a0 hj.a1).symm, (zero_of hi.i0 hi.i1).trans (zero_of hj.i0 hj.i1).symm, (zero_of hi.j0 hi.j1).trans (zero_of hj.j0 hj.j1).symm, (zero_of hi.k0 hi.k1).trans (zero_of hj.k0 hj.k1).symm, (zero_of hi.t0 hi.t1).trans (zero_of hj.t0 hj.t1).symm, (zero_of hi.c0 hi.c1).trans (zero_of hj.c0 hj.c1).symm, (eq_of_beq hi.y).trans (eq_of_beq hj.y).symm, S.flags, S.minus, S.not, S.link⟩
theorem same30 {i j : Ins} (hi : Fits i) (hj : Fits j) (ei : i.op = 30) (ej : j.op = 30) (S : Same i j) (hp : piecesV i = piecesV j) : i = j := by
  obtain ⟨op, sub, rd, rn, rm, ra, imm, imm2, amount, shift, cond, sys, flags, minus, not, link⟩ := i
  obtain ⟨op', sub', rd', rn', rm', ra', imm', imm2', amount', shift', cond', sys', flags', minus', not', link'⟩ := j
  dsimp only at ei ej; subst ei; subst ej
  have h1 := (List.cons.inj hp).1
  rw [Ins.mk.injEq]
  exact ⟨rfl, S.sub (show (30 : Int) ≠ 33 by decide), reg_inj hi.d0 hj.d0 h1, (zero_of hi.n0 hi.n1).trans (zero_of hj.n0 hj.n1).symm, (zero_of hi.m0 hi.m1).trans (zero_of hj.m0 hj.m1).symm, (zero_of hi.a0 hi.a1).trans (zero_of hj.a0 hj.a1).symm, (zero_of hi.i0 hi.i1).trans (zero_of hj.i0 hj.i1).symm, (zero_of hi.j0 hi.j1).trans (zero_of hj.j0 hj.j1).symm, (zero_of hi.k0 hi.k1).trans (zero_of hj.k0 hj.k1).symm, (zero_of hi.t0 hi.t1).trans (zero_of hj.t0 hj.t1).symm, (zero_of hi.c0 hi.c1).trans (zero_of hj.c0 hj.c1).symm, (eq_of_beq hi.y).trans (eq_of_beq hj.y).symm, S.flags, S.minus, S.not, S.link⟩
theorem same31 {i j : Ins} (hi : Fits i) (hj : Fits j) (ei : i.op = 31) (ej : j.op = 31) (S : Same i j) (hp : piecesV i = piecesV j) : i = j := by
  obtain ⟨op, sub, rd, rn, rm, ra, imm, imm2, amount, shift, cond, sys, flags, minus, not, link⟩ := i
  obtain ⟨op', sub', rd', rn', rm', ra', imm', imm2', amount', shift', cond', sys', flags', minus', not', link'⟩ := j
  dsimp only at ei ej; subst ei; subst ej
  have h1 := (List.cons.inj hp).1
  have g1 := (List.cons.inj hp).2
  have h2 := (List.cons.inj g1).1
  rw [Ins.mk.injEq]
  exact ⟨rfl, S.sub (show (31 : Int) ≠ 33 by decide), reg_inj hi.d0 hj.d0 h1, (zero_of hi.n0 hi.n1).trans (zero_of hj.n0 hj.n1).symm, (zero_of hi.m0 hi.m1).trans (zero_of hj.m0 hj.m1).symm, (zero_of hi.a0 hi.a1).trans (zero_of hj.a0 hj.a1).symm, (zero_of hi.i0 hi.i1).trans (zero_of hj.i0 hj.i1).symm, (zero_of hi.j0 hi.j1).trans (zero_of hj.j0 hj.j1).symm, (zero_of hi.k0 hi.k1).trans (zero_of hj.k0 hj.k1).symm, (zero_of hi.t0 hi.t1).trans (zero_of hj.t0 hj.t1).symm, (zero_of hi.c0 hi.c1).trans (zero_of hj.c0 hj.c1).symm, num_inj h2, S.flags, S.minus, S.not, S.link⟩
theorem same32 {i j : Ins} (hi : Fits i) (hj : Fits j) (ei : i.op = 32) (ej : j.op = 32) (S : Same i j) (hp : piecesV i = piecesV j) : i = j := by
  obtain ⟨op, sub, rd, rn, rm, ra, imm, imm2, amount, shift, cond, sys, flags, minus, not, link⟩ := i
  obtain ⟨op', sub', rd', rn', rm', ra', imm', imm2', amount', shift', cond', sys', flags', minus', not', link'⟩ := j
  dsimp only at ei ej; subst ei; subst ej
  have h1 := (List.cons.inj hp).1
  have g1 := (List.cons.inj hp).2
  have h2 := (List.cons.inj g1).1
  rw [Ins.mk.injEq]
  exact ⟨rfl, S.sub (show (32 : Int) ≠ 33 by decide), reg_inj hi.d0 hj.d0 h2, (zero_of hi.n0 hi.n1).trans (zero_of hj.n0 hj.n1).symm, (zero_of hi.m0 hi.m1).trans (zero_of hj.m0 hj.m1).symm, (zero_of hi.a0 hi.a1).trans (zero_of hj.a0 hj.a1).symm, (zero_of hi.i0 hi.i1).trans (zero_of hj.i0 hj.i1).symm, (zero_of hi.j0 hi.j1).trans (zero_of hj.j0 hj.j1).symm, (zero_of hi.k0 hi.k1).trans (zero_of hj.k0 hj.k1).symm, (zero_of hi.t0 hi.t1).trans (zero_of hj.t0 hj.t1).symm, (zero_of hi.c0 hi.c1).trans (zero_of hj.c0 hj.c1).symm, num_inj h1, S.flags, S.minus, S.not, S.link⟩
theorem same33 {i j : Ins} (hi : Fits i) (hj : Fits j) (ei : i.op = 33) (ej : j.op = 33) (S : Same i j) (hp : piecesV i = piecesV j) : i = j := by
  obtain ⟨op, sub, rd, rn, rm, ra, imm, imm2, amount, shift, cond, sys, flags, minus, not, link⟩ := i
  obtain ⟨op', sub', rd', rn', rm', ra', imm', imm2', amount', shift', cond', sys', flags', minus', not', link'⟩ := j
  dsimp only at ei ej; subst ei; subst ej
  have h1 := (List.cons.inj hp).1
  have g1 := (List.cons.inj hp).2
  have h2 := (List.cons.inj g1).1
  rw [Ins.mk.injEq]
  exact ⟨rfl, daif_inj hi.s0 hi.s1 hj.s0 hj.s1 h1, (zero_of hi.d0 hi.d1).trans (zero_of hj.d0 hj.d1).symm, (zero_of hi.n0 hi.n1).trans (zero_of hj.n0 hj.n1).symm, (zero_of hi.m0 hi.m1).trans (zero_of hj.m0 hj.m1).symm, (zero_of hi.a0 hi.a1).trans (zero_of hj.a0 hj.a1).symm, num_inj h2, (zero_of hi.j0 hi.j1).trans (zero_of hj.j0 hj.j1).symm, (zero_of hi.k0 hi.k1).trans (zero_of hj.k0 hj.k1).symm, (zero_of hi.t0 hi.t1).trans (zero_of hj.t0 hj.t1).symm, (zero_of hi.c0 hi.c1).trans (zero_of hj.c0 hj.c1).symm, (eq_of_beq hi.y).trans (eq_of_beq hj.y).symm, S.flags, S.minus, S.not, S.link⟩
theorem same34 {i j : Ins} (hi : Fits i) (hj : Fits j) (ei : i.op = 34) (ej : j.op = 34) (S : Same i j) (hp : piecesV i = piecesV j) : i = j := by
  obtain ⟨op, sub, rd, rn, rm, ra, imm, imm2, amount, shift, cond, sys, flags, minus, not, link⟩ := i
  obtain ⟨op', sub', rd', rn', rm', ra', imm', imm2', amount', shift', cond', sys', flags', minus', not', link'⟩ := j
  dsimp only at ei ej; subst ei; subst ej
  have h1 := (List.cons.inj hp).1
  rw [Ins.mk.injEq]
  exact ⟨rfl, S.sub (show (34 : Int) ≠ 33 by decide), (zero_of hi.d0 hi.d1).trans (zero_of hj.d0 hj.d1).symm, (zero_of hi.n0 hi.n1).trans (zero_of hj.n0 hj.n1).symm, (zero_of hi.m0 hi.m1).trans (zero_of hj.m0 hj.m1).symm, (zero_of hi.a0 hi.a1).trans (zero_of hj.a0 hj.a1).symm, num_inj h1, (zero_of hi.j0 hi.j1).trans (zero_of hj.j0 hj.j1).symm, (zero_of hi.k0 hi.k1).trans (zero_of hj.k0 hj.k1).symm, (zero_of hi.t0 hi.t1).trans (zero_of hj.t0 hj.t1).symm, (zero_of hi.c0 hi.c1).trans (zero_of hj.c0 hj.c1).symm, (eq_of_beq hi.y).trans (eq_of_beq hj.y).symm, S.flags, S.minus, S.not, S.link⟩
theorem same35 {i j : Ins} (hi : Fits i) (hj : Fits j) (ei : i.op = 35) (ej : j.op = 35) (S : Same i j) (hp : piecesV i = piecesV j) : i = j := by
  obtain ⟨op, sub, rd, rn, rm, ra, imm, imm2, amount, shift, cond, sys, flags, minus, not, link⟩ := i
  obtain ⟨op', sub', rd', rn', rm', ra', imm', imm2', amount', shift', cond', sys', flags', minus', not', link'⟩ := j
  dsimp only at ei ej; subst ei; subst ej
  have h1 := (List.cons.inj hp).1
  rw [Ins.mk.injEq]
  exact ⟨rfl, S.sub (show (35 : Int) ≠ 33 by decide), (zero_of hi.d0 hi.d1).trans (zero_of hj.d0 hj.d1).symm, (zero_of hi.n0 hi.n1).trans (zero_of hj.n0 hj.n1).symm, (zero_of hi.m0 hi.m1).trans (zero_of hj.m0 hj.m1).symm, (zero_of hi.a0 hi.a1).trans (zero_of hj.a0 hj.a1).symm, num_inj h1, (zero_of hi.j0 hi.j1).trans (zero_of hj.j0 hj.j1).symm, (zero_of hi.k0 hi.k1).trans (zero_of hj.k0 hj.k1).symm, (zero_of hi.t0 hi.t1).trans (zero_of hj.t0 hj.t1).symm, (zero_of hi.c0 hi.c1).trans (zero_of hj.c0 hj.c1).symm, (eq_of_beq hi.y).trans (eq_of_beq hj.y).symm, S.flags, S.minus, S.not, S.link⟩
theorem same36 {i j : Ins} (hi : Fits i) (hj : Fits j) (ei : i.op = 36) (ej : j.op = 36) (S : Same i j) (hp : piecesV i = piecesV j) : i = j := by
  obtain ⟨op, sub, rd, rn, rm, ra, imm, imm2, amount, shift, cond, sys, flags, minus, not, link⟩ := i
  obtain ⟨op', sub', rd', rn', rm', ra', imm', imm2', amount', shift', cond', sys', flags', minus', not', link'⟩ := j
  dsimp only at ei ej; subst ei; subst ej
  rw [Ins.mk.injEq]
  exact ⟨rfl, S.sub (show (36 : Int) ≠ 33 by decide), (zero_of hi.d0 hi.d1).trans (zero_of hj.d0 hj.d1).symm, (zero_of hi.n0 hi.n1).trans (zero_of hj.n0 hj.n1).symm, (zero_of hi.m0 hi.m1).trans (zero_of hj.m0 hj.m1).symm, (zero_of hi.a0 hi.a1).trans (zero_of hj.a0 hj.a1).symm, (zero_of hi.i0 hi.i1).trans (zero_of hj.i0 hj.i1).symm, (zero_of hi.j0 hi.j1).trans (zero_of hj.j0 hj.j1).symm, (zero_of hi.k0 hi.k1).trans (zero_of hj.k0 hj.k1).symm, (zero_of hi.t0 hi.t1).trans (zero_of hj.t0 hj.t1).symm, (zero_of hi.c0 hi.c1).trans (zero_of hj.c0 hj.c1).symm, (eq_of_beq hi.y).trans (eq_of_beq hj.y).symm, S.flags, S.minus, S.not, S.link⟩
theorem same37 {i j : Ins} (hi : Fits i) (hj : Fits j) (ei : i.op = 37) (ej : j.op = 37) (S : Same i j) (hp : piecesV i = piecesV j) : i = j := by
  obtain ⟨op, sub, rd, rn, rm, ra, imm, imm2, amount, shift, cond, sys, flags, minus, not, link⟩ := i
  obtain ⟨op', sub', rd', rn', rm', ra', imm', imm2', amount', shift', cond', sys', flags', minus', not', link'⟩ := j
  dsimp only at ei ej; subst ei; subst ej
  have h1 := (List.cons.inj hp).1
  rw [Ins.mk.injEq]
  exact ⟨rfl, S.sub (show (37 : Int) ≠ 33 by decide), (zero_of hi.d0 hi.d1).trans (zero_of hj.d0 hj.d1).symm, (zero_of hi.n0 hi.n1).trans (zero_of hj.n0 hj.n1).symm, (zero_of hi.m0 hi.m1).trans (zero_of hj.m0 hj.m1).symm, (zero_of hi.a0 hi.a1).trans (zero_of hj.a0 hj.a1).symm, num_inj h1, (zero_of hi.j0 hi.j1).trans (zero_of hj.j0 hj.j1).symm, (zero_of hi.k0 hi.k1).trans (zero_of hj.k0 hj.k1).symm, (zero_of hi.t0 hi.t1).trans (zero_of hj.t0 hj.t1).symm, (zero_of hi.c0 hi.c1).trans (zero_of hj.c0 hj.c1).symm, (eq_of_beq hi.y).trans (eq_of_beq hj.y).symm, S.flags, S.minus, S.not, S.link⟩

/-- The text, cut at its commas: the word stands in the first piece. -/
def segsV (i : Ins) : List Tx := match piecesV i with
  | [] => [wordV i]
  | p :: ps => (wordV i ++ 32 :: p) :: ps
theorem pieces_nil (i : Ins) : piecesV i = [] ↔ partsV i = [] := by
  obtain ⟨op, sub, rd, rn, rm, ra, imm, imm2, amount, shift, cond, sys, flags, minus, not, link⟩ := i
  by_cases h : 17 ≤ op ∧ op ≤ 24
  · have : op = 17 ∨ op = 18 ∨ op = 19 ∨ op = 20 ∨ op = 21 ∨ op = 22 ∨ op = 23 ∨ op = 24 := by omega
    rcases this with rfl | rfl | rfl | rfl | rfl | rfl | rfl | rfl <;> simp [partsV, piecesV]
  · have e : ∀ k : Int, 17 ≤ k → k ≤ 24 → (op == k) = false := fun k h1 h2 => by simp; omega
    simp only [piecesV, e 17 (by decide) (by decide), e 18 (by decide) (by decide), e 19 (by decide) (by decide), e 20 (by decide) (by decide), e 21 (by decide) (by decide), e 22 (by decide) (by decide), e 23 (by decide) (by decide), e 24 (by decide) (by decide), Bool.or_self, cond_false]
theorem text_segs (i : Ins) : textV i = Lib.join (segsV i) commaT := by
  unfold textV segsV
  cases hq : piecesV i with
  | nil => rw [(pieces_nil i).1 hq, Lib.join_one]; rfl
  | cons p ps =>
    cases hr : partsV i with
    | nil => exact absurd ((pieces_nil i).2 hr) (by rw [hq]; simp)
    | cons r rs =>
      show wordV i ++ ([32] ++ Lib.join (r :: rs) commaT) = _
      rw [← hr, join_pieces, hq]
      cases ps with
      | nil => simp [Lib.join_one]
      | cons q qs => rw [join_two, join_two]; simp
/-- What opens the first piece. -/
def firstB (x : Tx) : Bool := match x with
  | a :: _ => a == 120 || a == 115 || a == 35 || a == 108 || a == 100
  | [] => false
structure Good (x : Tx) : Prop where
  sp : noS x
  first : firstB x = true
theorem good_reg (n : Int) (s : Bool) : Good (regT n s) := ⟨noS_reg n s, by unfold regT; cases n == 31 <;> cases s <;> rfl⟩
theorem good_num (n : Int) : Good (numT n) := ⟨noS_num n, rfl⟩
theorem good_daif {k : Int} (h0 : 0 ≤ k) (h1 : k ≤ 1) : Good (daifT k) := ⟨noS_daif k, by
  have a : k = 0 ∨ k = 1 := by omega
  rcases a with rfl | rfl <;> rfl⟩
theorem good_bar {k : Int} (h0 : 1 ≤ k) (h1 : k ≤ 3) : Good (barT (k - 1)) := ⟨noS_bar _, by
  have a : k = 1 ∨ k = 2 ∨ k = 3 := by omega
  rcases a with rfl | rfl | rfl <;> rfl⟩
def goodHead (xs : List Tx) : Prop := match xs with
  | [] => True
  | x :: _ => Good x
def allC (xs : List Tx) : Prop := match xs with
  | [] => True
  | x :: r => noC x ∧ allC r
theorem allC_mem : ∀ {xs : List Tx}, allC xs → ∀ x ∈ xs, noC x
  | [], _, _, h => by simp at h
  | a :: r, hc, x, h => by
    rcases List.mem_cons.1 h with e | e
    · rw [e]; exact hc.1
    · exact allC_mem hc.2 x e
theorem allC_shifted (k a : Int) : allC (shiftedT k a) := by
  unfold shiftedT
  cases k == 0 && a == 0
  · exact ⟨noC_sft k a, trivial⟩
  · exact trivial
theorem noC_mask (i : Ins) : noC (maskT i) := noC_cons rfl (noC_dec _)
theorem pieces_good {i : Ins} (F : Fits i) : goodHead (piecesV i) ∧ allC (piecesV i) ∧ (piecesV i = [] → nullary i.op = true) := by
  obtain ⟨op, sub, rd, rn, rm, ra, imm, imm2, amount, shift, cond, sys, flags, minus, not, link⟩ := i
  have hm := ops_mem F.o0 F.o1
  simp only [opsL, List.mem_cons, List.not_mem_nil, or_false] at hm
  rcases hm with rfl | rfl | rfl | rfl | rfl | rfl | rfl | rfl | rfl | rfl | rfl | rfl | rfl | rfl | rfl | rfl | rfl | rfl | rfl | rfl | rfl | rfl | rfl | rfl | rfl | rfl | rfl | rfl | rfl | rfl | rfl | rfl | rfl | rfl | rfl | rfl | rfl
  · exact ⟨good_reg _ _, ⟨noC_reg _ _, noC_reg _ _, noC_num _, allC_shifted _ _⟩, nofun⟩
  · exact ⟨good_reg _ _, ⟨noC_reg _ _, noC_reg _ _, noC_reg _ _, allC_shifted _ _⟩, nofun⟩
  · exact ⟨good_reg _ _, ⟨noC_reg _ _, noC_reg _ _, noC_reg _ _, allC_shifted _ _⟩, nofun⟩
  · exact ⟨good_reg _ _, ⟨noC_reg _ _, noC_reg _ _, noC_mask _, trivial⟩, nofun⟩
  · exact ⟨good_reg _ _, ⟨noC_reg _ _, noC_num _, allC_shifted _ _⟩, nofun⟩
  · exact ⟨good_reg _ _, ⟨noC_reg _ _, noC_reg _ _, noC_num _, noC_num _, trivial⟩, nofun⟩
  · exact ⟨good_reg _ _, ⟨noC_reg _ _, noC_reg _ _, noC_reg _ _, trivial⟩, nofun⟩
  · exact ⟨good_reg _ _, ⟨noC_reg _ _, noC_reg _ _, noC_reg _ _, noC_reg _ _, trivial⟩, nofun⟩
  · exact ⟨good_reg _ _, ⟨noC_reg _ _, noC_reg _ _, noC_reg _ _, trivial⟩, nofun⟩
  · exact ⟨good_reg _ _, ⟨noC_reg _ _, noC_reg _ _, noC_reg _ _, noC_cond F.c0 F.c1, trivial⟩, nofun⟩
  · exact ⟨good_reg _ _, ⟨noC_reg _ _, noC_num _, trivial⟩, nofun⟩
  · exact ⟨good_num _, ⟨noC_num _, trivial⟩, nofun⟩
  · exact ⟨good_num _, ⟨noC_num _, trivial⟩, nofun⟩
  · exact ⟨good_reg _ _, ⟨noC_reg _ _, noC_num _, trivial⟩, nofun⟩
  · exact ⟨good_reg _ _, ⟨noC_reg _ _, noC_num _, noC_num _, trivial⟩, nofun⟩
  · exact ⟨good_reg _ _, ⟨noC_reg _ _, trivial⟩, nofun⟩
  · exact ⟨good_reg _ _, ⟨noC_reg _ _, noC_open (noC_reg _ _), noC_close (noC_num _), trivial⟩, nofun⟩
  · exact ⟨good_reg _ _, ⟨noC_reg _ _, noC_open (noC_reg _ _), noC_close (noC_num _), trivial⟩, nofun⟩
  · exact ⟨good_reg _ _, ⟨noC_reg _ _, noC_open (noC_reg _ _), noC_reg _ _, noC_close (noC_sft _ _), trivial⟩, nofun⟩
  · exact ⟨good_reg _ _, ⟨noC_reg _ _, noC_open (noC_reg _ _), noC_reg _ _, noC_close (noC_sft _ _), trivial⟩, nofun⟩
  · exact ⟨good_reg _ _, ⟨noC_reg _ _, noC_open (noC_close (noC_reg _ _)), trivial⟩, nofun⟩
  · exact ⟨good_reg _ _, ⟨noC_reg _ _, noC_open (noC_close (noC_reg _ _)), trivial⟩, nofun⟩
  · exact ⟨good_reg _ _, ⟨noC_reg _ _, noC_open (noC_close (noC_reg _ _)), trivial⟩, nofun⟩
  · exact ⟨good_reg _ _, ⟨noC_reg _ _, noC_reg _ _, noC_open (noC_close (noC_reg _ _)), trivial⟩, nofun⟩
  · exact ⟨trivial, trivial, fun _ => rfl⟩
  · exact ⟨good_bar F.i0 F.i1, ⟨noC_bar _, trivial⟩, nofun⟩
  · exact ⟨trivial, trivial, fun _ => rfl⟩
  · exact ⟨good_reg _ _, ⟨noC_reg _ _, trivial⟩, nofun⟩
  · exact ⟨trivial, trivial, fun _ => rfl⟩
  · exact ⟨good_reg _ _, ⟨noC_reg _ _, trivial⟩, nofun⟩
  · exact ⟨good_reg _ _, ⟨noC_reg _ _, noC_num _, trivial⟩, nofun⟩
  · exact ⟨good_num _, ⟨noC_num _, noC_reg _ _, trivial⟩, nofun⟩
  · exact ⟨good_daif F.s0 F.s1, ⟨noC_daif _, noC_num _, trivial⟩, nofun⟩
  · exact ⟨good_num _, ⟨noC_num _, trivial⟩, nofun⟩
  · exact ⟨good_num _, ⟨noC_num _, trivial⟩, nofun⟩
  · exact ⟨trivial, trivial, fun _ => rfl⟩
  · exact ⟨good_num _, ⟨noC_num _, trivial⟩, nofun⟩
set_option maxRecDepth 100000 in
theorem words_noC : (keysL.all fun k => (wordK k).all fun b => b != 44) = true := by decide +kernel
theorem noC_word {i : Ins} (h : rightB i = true) : noC (wordV i) := by
  rw [← word_key']
  exact noC_all (List.all_eq_true.1 words_noC _ (key_mem h))
theorem segs_noC {i : Ins} (h : rightB i = true) : ∀ x ∈ segsV i, noC x := by
  have hg := (pieces_good (fits h)).2.1
  unfold segsV
  cases hq : piecesV i with
  | nil => intro x hx; simp at hx; rw [hx]; exact noC_word h
  | cons p ps =>
    rw [hq] at hg
    exact allC_mem (xs := (wordV i ++ 32 :: p) :: ps) ⟨noC_app (noC_word h) (noC_cons rfl hg.1), hg.2⟩
theorem segs_ne (i : Ins) : segsV i ≠ [] := by unfold segsV; cases piecesV i <;> simp
theorem last_cut {w v p q : Tx} (hp : noS p) (hq : noS q) (h : w ++ 32 :: p = v ++ 32 :: q) : w = v ∧ p = q := by
  have h2 := congrArg List.reverse h
  simp only [List.reverse_append, List.reverse_cons, List.append_assoc, List.singleton_append] at h2
  obtain ⟨h3, h4⟩ := cut_eq (p := fun b => b != 32) (fun b hb => hp b (List.mem_reverse.1 hb)) (fun b hb => hq b (List.mem_reverse.1 hb)) (by simp) (by simp) h2
  exact ⟨List.reverse_inj.1 (List.cons.inj h4).2, List.reverse_inj.1 h3⟩
def nullW : List Tx := [[99, 108, 114, 101, 120], [105, 115, 98], [105, 99, 32, 105, 97, 108, 108, 117], [101, 114, 101, 116]]
theorem null_word {i : Ins} (h : nullary i.op = true) : wordV i ∈ nullW := by
  obtain ⟨op, sub, rd, rn, rm, ra, imm, imm2, amount, shift, cond, sys, flags, minus, not, link⟩ := i
  simp only [nullary, Bool.or_eq_true, beq_iff_eq] at h
  rcases h with ((rfl | rfl) | rfl) | rfl
  · exact List.mem_cons_self ..
  · exact List.mem_cons_of_mem _ (List.mem_cons_self ..)
  · exact List.mem_cons_of_mem _ (List.mem_cons_of_mem _ (List.mem_cons_self ..))
  · exact List.mem_cons_of_mem _ (List.mem_cons_of_mem _ (List.mem_cons_of_mem _ (List.mem_cons_self ..)))
theorem null_no {w v p : Tx} (hw : w ∈ nullW) (hp : Good p) (h : w = v ++ 32 :: p) : False := by
  have hm : (32 : UInt8) ∈ w := by rw [h]; simp
  simp only [nullW, List.mem_cons, List.not_mem_nil, or_false] at hw
  rcases hw with rfl | rfl | rfl | rfl
  · exact absurd hm (by decide)
  · exact absurd hm (by decide)
  · obtain ⟨-, e⟩ := last_cut (w := [105, 99]) (p := [105, 97, 108, 108, 117]) (noS_all rfl) hp.sp h
    have := hp.first
    rw [← e] at this
    exact absurd this (by decide)
  · exact absurd hm (by decide)

theorem same_all {i j : Ins} (hi : Fits i) (hj : Fits j) (e : i.op = j.op) (S : Same i j) (hp : piecesV i = piecesV j) : i = j ∨ (i.op = 4 ∧ j.op = 4) := by
  have hm := ops_mem hi.o0 hi.o1
  simp only [opsL, List.mem_cons, List.not_mem_nil, or_false] at hm
  rcases hm with h | h | h | h | h | h | h | h | h | h | h | h | h | h | h | h | h | h | h | h | h | h | h | h | h | h | h | h | h | h | h | h | h | h | h | h | h
  · exact Or.inl (same1 hi hj h (e ▸ h) S hp)
  · exact Or.inl (same2 hi hj h (e ▸ h) S hp)
  · exact Or.inl (same3 hi hj h (e ▸ h) S hp)
  · exact Or.inr ⟨h, e ▸ h⟩
  · exact Or.inl (same5 hi hj h (e ▸ h) S hp)
  · exact Or.inl (same6 hi hj h (e ▸ h) S hp)
  · exact Or.inl (same7 hi hj h (e ▸ h) S hp)
  · exact Or.inl (same8 hi hj h (e ▸ h) S hp)
  · exact Or.inl (same9 hi hj h (e ▸ h) S hp)
  · exact Or.inl (same10 hi hj h (e ▸ h) S hp)
  · exact Or.inl (same11 hi hj h (e ▸ h) S hp)
  · exact Or.inl (same12 hi hj h (e ▸ h) S hp)
  · exact Or.inl (same13 hi hj h (e ▸ h) S hp)
  · exact Or.inl (same14 hi hj h (e ▸ h) S hp)
  · exact Or.inl (same15 hi hj h (e ▸ h) S hp)
  · exact Or.inl (same16 hi hj h (e ▸ h) S hp)
  · exact Or.inl (same17 hi hj h (e ▸ h) S hp)
  · exact Or.inl (same18 hi hj h (e ▸ h) S hp)
  · exact Or.inl (same19 hi hj h (e ▸ h) S hp)
  · exact Or.inl (same20 hi hj h (e ▸ h) S hp)
  · exact Or.inl (same21 hi hj h (e ▸ h) S hp)
  · exact Or.inl (same22 hi hj h (e ▸ h) S hp)
  · exact Or.inl (same23 hi hj h (e ▸ h) S hp)
  · exact Or.inl (same24 hi hj h (e ▸ h) S hp)
  · exact Or.inl (same25 hi hj h (e ▸ h) S hp)
  · exact Or.inl (same26 hi hj h (e ▸ h) S hp)
  · exact Or.inl (same27 hi hj h (e ▸ h) S hp)
  · exact Or.inl (same28 hi hj h (e ▸ h) S hp)
  · exact Or.inl (same29 hi hj h (e ▸ h) S hp)
  · exact Or.inl (same30 hi hj h (e ▸ h) S hp)
  · exact Or.inl (same31 hi hj h (e ▸ h) S hp)
  · exact Or.inl (same32 hi hj h (e ▸ h) S hp)
  · exact Or.inl (same33 hi hj h (e ▸ h) S hp)
  · exact Or.inl (same34 hi hj h (e ▸ h) S hp)
  · exact Or.inl (same35 hi hj h (e ▸ h) S hp)
  · exact Or.inl (same36 hi hj h (e ▸ h) S hp)
  · exact Or.inl (same37 hi hj h (e ▸ h) S hp)

theorem third {a b c a' b' c' : Tx} {r r' : List Tx} (h : [a, b, c] ++ r = [a', b', c'] ++ r') : c = c' := (List.cons.inj (List.cons.inj (List.cons.inj h).2).2).1
theorem mask_reg (i : Ins) (n : Int) (s : Bool) : maskT i ≠ regT n s := by
  unfold maskT regT
  cases n == 31
  · intro h; have := (List.cons.inj h).1; simp at this
  · cases s <;> (intro h; have := (List.cons.inj h).1; simp at this)
theorem daif_num {k : Int} (h0 : 0 ≤ k) (h1 : k ≤ 1) (n : Int) : daifT k ≠ numT n := by
  have a : k = 0 ∨ k = 1 := by omega
  rcases a with rfl | rfl <;> (intro h; have := (List.cons.inj h).1; simp at this)
theorem apart {i j : Ins} (hi : Fits i) (hj : Fits j) (hp : piecesV i = piecesV j) (h : (i.op = 1 ∧ j.op = 2) ∨ (i.op = 3 ∧ j.op = 4) ∨ (i.op = 17 ∧ j.op = 19) ∨ (i.op = 18 ∧ j.op = 20) ∨ (i.op = 32 ∧ j.op = 33)) : False := by
  obtain ⟨op, sub, rd, rn, rm, ra, imm, imm2, amount, shift, cond, sys, flags, minus, not, link⟩ := i
  obtain ⟨op', sub', rd', rn', rm', ra', imm', imm2', amount', shift', cond', sys', flags', minus', not', link'⟩ := j
  dsimp only at h
  rcases h with ⟨rfl, rfl⟩ | ⟨rfl, rfl⟩ | ⟨rfl, rfl⟩ | ⟨rfl, rfl⟩ | ⟨rfl, rfl⟩
  · exact reg_num _ _ _ (third hp).symm
  · exact mask_reg _ _ _ (third (r' := []) hp).symm
  · have := congrArg List.length hp
    simp [piecesV] at this
  · have := congrArg List.length hp
    simp [piecesV] at this
  · exact daif_num hj.s0 hj.s1 _ (List.cons.inj hp).1.symm

/-- No two instructions are written alike, but logical ones with one mask. -/
theorem text_inj {i j : Ins} (ri : rightB i = true) (rj : rightB j = true) (h : textV i = textV j) : i = j ∨ (i.op = 4 ∧ j.op = 4) := by
  rw [text_segs, text_segs] at h
  have hs := join_inj _ _ (segs_ne i) (segs_ne j) (segs_noC ri) (segs_noC rj) h
  have Fi := fits ri
  have Fj := fits rj
  have gi := pieces_good Fi
  have gj := pieces_good Fj
  have both : wordV i = wordV j ∧ piecesV i = piecesV j := by
    unfold segsV at hs
    cases hqi : piecesV i with
    | nil =>
      cases hqj : piecesV j with
      | nil => rw [hqi, hqj] at hs; exact ⟨List.singleton_inj.1 hs, rfl⟩
      | cons q qs =>
        rw [hqi, hqj] at hs
        rw [hqj] at gj
        exact absurd (List.cons.inj hs).1 (null_no (null_word (gi.2.2 hqi)) gj.1)
    | cons p ps =>
      cases hqj : piecesV j with
      | nil =>
        rw [hqi, hqj] at hs
        rw [hqi] at gi
        exact absurd (List.cons.inj hs).1.symm (null_no (null_word (gj.2.2 hqj)) gi.1)
      | cons q qs =>
        rw [hqi, hqj] at hs
        rw [hqi] at gi
        rw [hqj] at gj
        obtain ⟨h1, h2⟩ := List.cons.inj hs
        obtain ⟨h3, h4⟩ := last_cut gi.1.sp gj.1.sp h1
        exact ⟨h3, by rw [h4, h2]⟩
  obtain ⟨hw, hp⟩ := both
  have hc := words_compat ri rj hw
  simp only [compat, Ins.key', Bool.and_eq_true, Bool.or_eq_true, beq_iff_eq, bne_iff_ne] at hc
  obtain ⟨⟨⟨⟨⟨⟨hop, hsub⟩, hcond⟩, hf⟩, hmi⟩, hno⟩, hl⟩ := hc
  by_cases e : i.op = j.op
  · refine same_all Fi Fj e ⟨fun hne => ?_, fun h13 => ?_, hf, hmi, hno, hl⟩ hp
    · rcases hsub with (h1 | h1) | h1
      · exact h1
      · exact absurd h1 hne
      · exact absurd (e.trans h1) hne
    · rcases hcond with h1 | h1
      · exact absurd h13 h1
      · rw [← e, h13] at h1; exact h1
  · exfalso
    rcases hop with (((((((((h1 | h1) | h1) | h1) | h1) | h1) | h1) | h1) | h1) | h1) | h1
    · exact e h1
    · exact apart Fi Fj hp (Or.inl h1)
    · exact apart Fj Fi hp.symm (Or.inl h1.symm)
    · exact apart Fi Fj hp (Or.inr (Or.inl h1))
    · exact apart Fj Fi hp.symm (Or.inr (Or.inl h1.symm))
    · exact apart Fi Fj hp (Or.inr (Or.inr (Or.inl h1)))
    · exact apart Fj Fi hp.symm (Or.inr (Or.inr (Or.inl h1.symm)))
    · exact apart Fi Fj hp (Or.inr (Or.inr (Or.inr (Or.inl h1))))
    · exact apart Fj Fi hp.symm (Or.inr (Or.inr (Or.inr (Or.inl h1.symm))))
    · exact apart Fi Fj hp (Or.inr (Or.inr (Or.inr (Or.inr h1))))
    · exact apart Fj Fi hp.symm (Or.inr (Or.inr (Or.inr (Or.inr h1.symm))))
end Go.Proofs.YtjmdgfimmjodjaaGreatDoor
