/- Instructions as records, and what an instruction leaves to its fields: plain definitions, as the chapter has them. No function of the program is named. -/
import GoSem.Claim
import Derived.WalkKit
import Derived.WalkSpells
import Derived.WalkLawsBesides
import Derived.Below
import Derived.Test.YtcmilajlngnibaaRows
import Derived.ProofKit
import Derived.OpenShut
import Derived.Laws.Bits64b
import Derived.Laws.BitsLemmas
import Derived.Deep.QuietTactic
import Derived.BigQuiet
namespace Go.Proofs.Ytcmilajlngnibaa
open Go.RowKit

structure Ins where
  op : Int
  sub : Int
  rd : Int
  rn : Int
  rm : Int
  ra : Int
  imm : Int
  imm2 : Int
  amount : Int
  shift : Int
  cond : Int
  sys : Int
  flags : Bool
  minus : Bool
  not : Bool
  link : Bool

structure Span where
  lo : Int
  hi : Int
  st : Int

def upToS (n : Int) : Span := ⟨0, n, 1⟩
def zeroS : Span := ⟨0, 0, 0⟩

def hasRa (op : Int) : Bool := op == 8
def hasRm (op : Int) : Bool := op == 8 || op == 2 || op == 3 || op == 7 || op == 9 || op == 10 || op == 19 || op == 20 || op == 24
def hasRn2 (op : Int) : Bool := hasRm op || op == 1 || op == 4 || op == 6 || op == 17 || op == 18 || op == 21 || op == 22 || op == 23
def hasRd (op : Int) : Bool := hasRn2 op || op == 5 || op == 11 || op == 14 || op == 15 || op == 28 || op == 30 || op == 31 || op == 32
def hasRn (op : Int) : Bool := hasRn2 op || op == 16
def h31 (b : Bool) : Int := bif b then 31 else 0
def h1 (b : Bool) : Int := bif b then 1 else 0
def regS (b : Bool) : Span := ⟨0, h31 b, h1 b⟩

def subS (op : Int) : Span :=
  bif op == 3 || op == 4 || op == 16 then upToS 2 else bif op == 10 || op == 7 || op == 5 then upToS 3 else bif op == 6 then ⟨0, 2, 2⟩
  else bif op == 9 || op == 11 || op == 21 || op == 23 || op == 24 || op == 26 || op == 33 then upToS 1 else zeroS
def shiftS (op : Int) : Span := bif op == 2 then upToS 2 else bif op == 3 then upToS 3 else zeroS
def condS (op : Int) : Span := bif op == 10 || op == 13 then upToS 15 else zeroS
def imm2S (op : Int) : Span := bif op == 4 || op == 6 then upToS 63 else zeroS
def brS (m : Int) : Span := bif m == 26 then ⟨-134217728, 134217724, 4⟩ else bif m == 19 then ⟨-1048576, 1048572, 4⟩ else ⟨-32768, 32764, 4⟩
def immS (op sub : Int) : Span :=
  bif op == 1 then upToS 4095 else bif op == 4 || op == 6 then upToS 63 else bif op == 5 || op == 34 || op == 35 then upToS 65535
  else bif op == 11 then (bif sub == 1 then ⟨-4294967296, 4294963200, 4096⟩ else ⟨-1048576, 1048575, 1⟩)
  else bif op == 12 then brS 26 else bif op == 13 || op == 14 then brS 19 else bif op == 15 then brS 14
  else bif op == 17 || op == 18 then ⟨0, 32760, 8⟩ else bif op == 26 then ⟨1, 3, 1⟩ else bif op == 33 then upToS 15 else bif op == 37 then upToS 5 else zeroS
def amountS (op : Int) : Span :=
  bif op == 1 then ⟨0, 12, 12⟩ else bif op == 2 || op == 3 || op == 15 then upToS 63 else bif op == 4 then upToS 1 else bif op == 5 then ⟨0, 48, 16⟩
  else bif op == 19 || op == 20 then ⟨0, 3, 3⟩ else zeroS
def flagsR (op sub : Int) : Bool := op == 2 || op == 1 || ((op == 3 || op == 4) && sub == 0)
def minusR (op : Int) : Bool := op == 2 || op == 1 || op == 8
def notR (op : Int) : Bool := op == 3 || op == 14 || op == 15
def linkR (op : Int) : Bool := op == 12

def holdsB (s : Span) (n : Int) : Bool := decide (s.lo ≤ n) && decide (n ≤ s.hi) && (n == 0 || n.tmod s.st == 0)

/-- The values, as the machine has them. -/
abbrev vI (n : Int) : Value := .int .i64 n
abbrev Ins.cells (i : Ins) : Array Value := #[vI i.op, vI i.sub, vI i.rd, vI i.rn, vI i.rm, vI i.ra, vI i.imm, vI i.imm2, vI i.amount, vI i.shift, vI i.cond, vI i.sys, .bool i.flags, .bool i.minus, .bool i.not, .bool i.link]
abbrev Ins.val (i : Ins) : Value := .agg #[vI i.op, vI i.sub, vI i.rd, vI i.rn, vI i.rm, vI i.ra, vI i.imm, vI i.imm2, vI i.amount, vI i.shift, vI i.cond, vI i.sys, .bool i.flags, .bool i.minus, .bool i.not, .bool i.link]
abbrev Span.val (s : Span) : Value := .agg #[vI s.lo, vI s.hi, vI s.st]
abbrev Span.cells (s : Span) : Array Value := #[vI s.lo, vI s.hi, vI s.st]

end Go.Proofs.Ytcmilajlngnibaa
/- Values that lead to no memory (numbers, bools, strings, and structs and arrays of such): they read the same in every world. -/
namespace Go.Proofs.Ytcmilajlngnibaa
open Go.ChangeShapes Go.WideShapes Go.ChangeAt Go.RowKit

def flatT (P : Program) : Nat → TypeId → Bool
  | 0, _ => true
  | n + 1, t => match P.underlying t with
    | some .bool | some (.int _) | some .string => true
    | some (.struct fs) => fs.toList.all fun f => flatT P n f.type
    | some (.array _ e) => flatT P n e
    | _ => false

theorem mapM_congr' {α β : Type} {f g : α → Option β} : ∀ {l : List α}, (∀ x ∈ l, f x = g x) → l.mapM f = l.mapM g
  | [], _ => rfl
  | x :: l, h => by rw [List.mapM_cons, List.mapM_cons, h x (by simp), mapM_congr' (fun y hy => h y (by simp [hy]))]

section
variable {H : Type} {enc : TypeId × Value → H} {P : Program}
theorem trod_flat {w w' : World} {b b' : Nat} {s s' : Nat → Bool} {h h' : Bool} : ∀ (fuel : Nat) (t : TypeId) (cs : List Value), flatT P fuel t = true →
    DataW.trod enc P w b s h fuel t cs = DataW.trod enc P w' b' s' h' fuel t cs
  | 0, _, _, _ => rfl
  | n + 1, t, cs, hf => by
    unfold flatT at hf
    unfold DataW.trod
    cases hu : P.underlying t with
    | none => rfl
    | some d =>
      rw [hu] at hf
      cases d with
      | bool => rcases cs with _ | ⟨v, _ | ⟨v2, rest⟩⟩ <;> (try cases v) <;> rfl
      | int k => rcases cs with _ | ⟨v, _ | ⟨v2, rest⟩⟩ <;> (try cases v) <;> rfl
      | string => rcases cs with _ | ⟨v, _ | ⟨v2, rest⟩⟩ <;> (try cases v) <;> rfl
      | struct fs =>
        simp only [List.all_eq_true] at hf
        dsimp only
        rw [mapM_congr' (fun f hm => trod_flat n f.type _ (hf f hm))]
      | array m e =>
        dsimp only at hf ⊢
        rw [mapM_congr' (fun i _ => trod_flat n e _ hf)]
      | _ => simp at hf
theorem trod_flat_nil {w : World} {b : Nat} {s : Nat → Bool} {h : Bool} : ∀ (fuel : Nat) (t : TypeId) (cs : List Value) (x : DataW H × List MemPlace), flatT P fuel t = true → DataW.trod enc P w b s h fuel t cs = some x → x.2 = []
  | 0, _, _, _, _, hx => by simp [DataW.trod] at hx
  | n + 1, t, cs, x, hf, hx => by
    unfold flatT at hf
    cases hu : P.underlying t with
    | none => unfold DataW.trod at hx; rw [hu] at hx; simp at hx
    | some d =>
      rw [hu] at hf
      cases d with
      | bool => obtain ⟨_, _, rfl⟩ := DataW.trod_bool hu hx; rfl
      | int k => obtain ⟨_, _, rfl, _⟩ := DataW.trod_int hu hx; rfl
      | string =>
        unfold DataW.trod at hx
        rw [hu] at hx
        split at hx <;> simp_all
        obtain ⟨_, rfl⟩ := hx; rfl
      | struct fs =>
        simp only [List.all_eq_true] at hf
        obtain ⟨xs, m, hm, rfl, -, hl, hq⟩ := DataW.trod_struct hu hx
        obtain rfl : n = m := by omega
        dsimp only
        rw [List.flatMap_eq_nil_iff]
        intro y hy
        obtain ⟨i, hi, rfl⟩ := List.mem_iff_getElem.1 hy
        have hi' : i < fs.size := by omega
        refine trod_flat_nil n fs[i].type _ _ (hf _ (by simp)) ((hq i fs[i] (by simp [hi'])).trans (by simp [hi]))
      | array m e =>
        obtain ⟨xs, k, hm, rfl, -, hl, hq⟩ := DataW.trod_array hu hx
        obtain rfl : n = k := by omega
        dsimp only at hf ⊢
        rw [List.flatMap_eq_nil_iff]
        intro y hy
        obtain ⟨i, hi, rfl⟩ := List.mem_iff_getElem.1 hy
        exact trod_flat_nil n e _ _ hf ((hq i (by omega)).trans (by simp [hi]))
      | _ => simp at hf
/-- What was read is read again, wherever. -/
theorem Trod_flat {w w' : World} {b b' : Nat} {s s' : Nat → Bool} {h h' : Bool} {t : TypeId} {v : Value} {d : DataW H} {p : List MemPlace} (hf : ∀ n, flatT P n t = true) (hx : DataW.Trod enc P w b s h t v d p) :
    p = [] ∧ DataW.Trod enc P w' b' s' h' t v d [] := by
  obtain ⟨fuel, hx⟩ := hx
  have := trod_flat_nil fuel t _ _ (hf fuel) hx
  simp only at this
  subst this
  exact ⟨rfl, fuel, (trod_flat fuel t _ (hf fuel)).symm.trans hx⟩
end

/-- What is left to show where no argument leads to memory: whatever blocks the call has laid, frozen or not, nothing that came in is met in them. -/
theorem post_flat {H : Type} {enc : TypeId × Value → H} {P : Program} {f : Func} {s : ChangeSpec} {apart fresh handsOn again : Bool} {W W' : World} {args : Array Value} {v : Value} {ds gs : List (DataW H)}
    (hW : DataW.Whole enc P f.params.toList s.vars apart W args.toList ds gs [])
    (hres : ∀ (b : Nat) (sp : Nat → Bool) (hd : Bool), DataW.TrodAll enc P W' b sp hd f.resultTypes.toList (v.resultList f.resultTypes.size) (s.fn H (ds ++ gs)).results [])
    (hargs : ∀ sp : Nat → Bool, DataW.TrodAll enc P W' 0 sp true f.params.toList args.toList (s.fn H (ds ++ gs)).args [])
    (hvars : ∀ sp : Nat → Bool, DataW.TrodVars enc P W' sp s.vars (s.fn H (ds ++ gs)).vars []) (hk : ∀ may, W.keptBut W' may)
    (hok : ∀ (j : Nat) (t : TypeId) (r : Value), f.resultTypes[j]? = some t → (v.resultList f.resultTypes.size)[j]? = some r → Value.okWide P W' .any 0 t r) :
    s.post enc P f apart fresh handsOn again W args v W' := by
  refine ⟨ds, gs, [], [], [], [], hW, hres _ _ _, hargs _, hvars _, hk _, fun _ => ?_⟩
  refine ⟨hok, _, _, ([] ++ []) ++ [], ⟨[] ++ [], [], trodAll_append (hargs _) (hres _ _ _), hvars _, rfl, ?_, ?_⟩, ?_⟩
  · intro b off hp; simp at hp
  · intro _; simp
  · intro p hp; simp at hp
end Go.Proofs.Ytcmilajlngnibaa
/- Plain facts on numbers and their bits, on which the proofs of this seat stand: no Go text is named here. -/
namespace Go.Proofs.Ytcmilajlngnibaa
open Go.RowKit

/-- The number whose bits below k are those of f. -/
def orBits (f : Nat → Bool) : Nat → Nat
  | 0 => 0
  | k + 1 => orBits f k ||| (f k).toNat * 2 ^ k

theorem testBit_bool (b : Bool) (j : Nat) : b.toNat.testBit j = (decide (j = 0) && b) := by
  cases b
  · simp
  · cases j with
    | zero => decide
    | succ n => simp [Nat.testBit_succ]

theorem testBit_orBits (f : Nat → Bool) (k i : Nat) : (orBits f k).testBit i = (decide (i < k) && f i) := by
  induction k with
  | zero => simp [orBits]
  | succ k ih =>
    rw [orBits, Nat.testBit_or, ih, Nat.testBit_mul_two_pow, testBit_bool]
    by_cases h1 : i < k
    · have : ¬ k ≤ i := by omega
      have h2 : i < k + 1 := by omega
      simp [h1, this, h2]
    · by_cases h2 : i = k
      · subst h2; simp
      · have h3 : ¬ i < k + 1 := by omega
        have h4 : ¬ i - k = 0 := by omega
        simp [h1, h3, h4]

theorem orBits_lt (f : Nat → Bool) (k : Nat) : orBits f k < 2 ^ k := by
  apply Nat.lt_pow_two_of_testBit
  intro i hi
  rw [testBit_orBits]
  have : ¬ i < k := by omega
  simp [this]

theorem orBits_lt64 (f : Nat → Bool) (k : Nat) (hk : k ≤ 64) : orBits f k < 18446744073709551616 :=
  Nat.lt_of_lt_of_le (orBits_lt f k) (Nat.pow_le_pow_right (by decide) hk)

theorem eq_orBits {x k : Nat} {f : Nat → Bool} (h : ∀ i, x.testBit i = (decide (i < k) && f i)) : x = orBits f k := by
  apply Nat.eq_of_testBit_eq
  intro i
  rw [h, testBit_orBits]

theorem orBits_congr {f g : Nat → Bool} {k : Nat} (h : ∀ i, i < k → f i = g i) : orBits f k = orBits g k := by
  apply eq_orBits
  intro i
  rw [testBit_orBits]
  by_cases hi : i < k
  · simp [hi, h i hi]
  · simp [hi]

/-- One bit of a number, as the document's own 'bit' tells it. -/
def bitF (v n : Int) : Int := v / 2 ^ n.toNat % 2

theorem and_one (x : Nat) : x &&& 1 = x % 2 := by
  simp

theorem bitF_walk (v n : Int) : bits .and .u64 (v / 2 ^ n.toNat) 1 = bitF v n := by
  unfold bitF
  generalize v / 2 ^ n.toNat = x
  show IntKind.u64.wrap ((BitVec.ofInt 64 x &&& BitVec.ofInt 64 1).toNat : Int) = _
  rw [BitVec.toNat_and, show (BitVec.ofInt 64 1).toNat = 1 from rfl, and_one, BitVec.toNat_ofInt, IntKind.wrap_u64]
  omega

theorem bitF_nat (V M : Nat) : bitF (V : Int) (M : Int) = ((V.testBit M).toNat : Nat) := by
  unfold bitF
  rw [Nat.toNat_testBit]
  simp

theorem bitF_of {v n : Int} (hv : 0 ≤ v) (hn : 0 ≤ n) : bitF v n = ((v.toNat.testBit n.toNat).toNat : Nat) := by
  obtain ⟨V, rfl⟩ := Int.eq_ofNat_of_zero_le hv
  obtain ⟨M, rfl⟩ := Int.eq_ofNat_of_zero_le hn
  simp only [Int.toNat_natCast]
  exact bitF_nat V M

theorem wrap_u64_in {x : Int} (h0 : 0 ≤ x) (h1 : x < 18446744073709551616) : IntKind.u64.wrap x = x := by
  rw [IntKind.wrap_u64]; omega

/-- One bit more is laid, as the walk spells it. -/
theorem or_step (f : Nat → Bool) (k : Nat) (hk : k < 64) (b : Int) (hb : b = ((f k).toNat : Nat)) :
    bits .or .u64 ((orBits f k : Nat) : Int) (IntKind.u64.wrap (b * 2 ^ k)) = ((orBits f (k + 1) : Nat) : Int) := by
  subst hb
  have h1 : (f k).toNat * 2 ^ k < 18446744073709551616 := by
    have hp : 2 ^ k ≤ 2 ^ 63 := Nat.pow_le_pow_right (by decide) (by omega)
    have : (f k).toNat ≤ 1 := Bool.toNat_le _
    have h3 : (f k).toNat * 2 ^ k ≤ 1 * 2 ^ 63 := Nat.mul_le_mul this hp
    have : (2 : Nat) ^ 63 < 18446744073709551616 := by decide
    omega
  have e : IntKind.u64.wrap ((((f k).toNat : Nat) : Int) * 2 ^ k) = (((f k).toNat * 2 ^ k : Nat) : Int) := by
    rw [IntKind.wrap_u64]
    have : (((f k).toNat : Nat) : Int) * 2 ^ k = (((f k).toNat * 2 ^ k : Nat) : Int) := by simp
    rw [this]
    omega
  rw [e, bits_or_u64_nat _ _ (orBits_lt64 f k (by omega)) h1]
  rfl

/-! ### The numbers that the calls tell -/
def inWordB (a m : Int) : Bool := decide (0 ≤ a ∧ 1 ≤ m ∧ m ≤ 32 ∧ a ≤ 32 - m)
def inNumB (m : Int) : Bool := decide (1 ≤ m ∧ m ≤ 64)
def sixB (m : Int) : Bool := decide (0 ≤ m ∧ m ≤ 63)
def lowWordF (k : Int) : Int := ((2 ^ k.toNat - 1 : Nat) : Int)
def lowF (k : Int) : Int := ((2 ^ min k.toNat 64 - 1 : Nat) : Int)

theorem lowWord_walk (k : Int) (h2 : k ≤ 32) : ((2 : Int) ^ k.toNat % 4294967296 - 1) % 4294967296 = lowWordF k := by
  unfold lowWordF
  have hk : k.toNat ≤ 32 := by omega
  have e : ((2 : Int) ^ k.toNat) = ((2 ^ k.toNat : Nat) : Int) := by simp
  rw [e]
  have h3 : 2 ^ k.toNat ≤ 2 ^ 32 := Nat.pow_le_pow_right (by decide) hk
  have h4 : 1 ≤ 2 ^ k.toNat := Nat.one_le_two_pow
  have h5 : (2 : Nat) ^ 32 = 4294967296 := by decide
  omega

theorem low_walk (k : Int) : IntKind.u64.wrap (IntKind.u64.wrap ((2 : Int) ^ min k.toNat 64) - 1) = lowF k := by
  unfold lowF
  rw [IntKind.wrap_u64, IntKind.wrap_u64]
  have e : ((2 : Int) ^ min k.toNat 64) = ((2 ^ min k.toNat 64 : Nat) : Int) := by simp
  rw [e]
  have h3 : 2 ^ min k.toNat 64 ≤ 2 ^ 64 := Nat.pow_le_pow_right (by decide) (by omega)
  have h4 : 1 ≤ 2 ^ min k.toNat 64 := Nat.one_le_two_pow
  have h5 : (2 : Nat) ^ 64 = 18446744073709551616 := by decide
  omega

/-! ### Field, Put -/
def inE (b : Bool) : Int := if b = true then 0 else 1
def fieldV (word a m : Int) : Int := if inWordB a m = true then ((word.toNat / 2 ^ a.toNat % 2 ^ m.toNat : Nat) : Int) else 0
def putBit (word a m value : Int) (i : Nat) : Bool := if a.toNat ≤ i ∧ i < a.toNat + m.toNat then value.toNat.testBit (i - a.toNat) else word.toNat.testBit i
def fitsB (value m : Int) : Bool := decide (value.toNat < 2 ^ m.toNat)
def putV (word a m value : Int) : Int := if (inWordB a m && fitsB value m) = true then ((orBits (putBit word a m value) 32 : Nat) : Int) else 0
def putE (a m value : Int) : Int := if inWordB a m = true then (if fitsB value m = true then 0 else 2) else 1

theorem and32 (a b : Nat) (ha : a < 4294967296) (hb : b < 4294967296) : bits .and .u32 (a : Int) (b : Int) = ((a &&& b : Nat) : Int) := by
  have hx : a &&& b < 2 ^ 32 := Nat.and_lt_two_pow _ (by omega)
  have h1 : (BitVec.ofInt 32 (a : Int)).toNat = a := by
    rw [BitVec.ofInt_natCast, BitVec.toNat_ofNat]; exact Nat.mod_eq_of_lt (by omega)
  have h2 : (BitVec.ofInt 32 (b : Int)).toNat = b := by
    rw [BitVec.ofInt_natCast, BitVec.toNat_ofNat]; exact Nat.mod_eq_of_lt (by omega)
  show IntKind.u32.wrap ((BitVec.ofInt 32 (a : Int) &&& BitVec.ofInt 32 (b : Int)).toNat : Int) = _
  rw [BitVec.toNat_and, h1, h2, IntKind.wrap_u32]
  omega

theorem or32 (a b : Nat) (ha : a < 4294967296) (hb : b < 4294967296) : bits .or .u32 (a : Int) (b : Int) = ((a ||| b : Nat) : Int) := by
  have hx : a ||| b < 2 ^ 32 := Nat.or_lt_two_pow (by omega) (by omega)
  have h1 : (BitVec.ofInt 32 (a : Int)).toNat = a := by
    rw [BitVec.ofInt_natCast, BitVec.toNat_ofNat]; exact Nat.mod_eq_of_lt (by omega)
  have h2 : (BitVec.ofInt 32 (b : Int)).toNat = b := by
    rw [BitVec.ofInt_natCast, BitVec.toNat_ofNat]; exact Nat.mod_eq_of_lt (by omega)
  show IntKind.u32.wrap ((BitVec.ofInt 32 (a : Int) ||| BitVec.ofInt 32 (b : Int)).toNat : Int) = _
  rw [BitVec.toNat_or, h1, h2, IntKind.wrap_u32]
  omega

theorem andNot32 (a b : Nat) (ha : a < 4294967296) (hb : b < 4294967296) : bits .andNot .u32 (a : Int) (b : Int) = ((a &&& (4294967296 - (b + 1)) : Nat) : Int) := by
  have hx : a &&& (4294967296 - (b + 1)) < 2 ^ 32 := Nat.and_lt_two_pow _ (by omega)
  have h1 : (BitVec.ofInt 32 (a : Int)).toNat = a := by
    rw [BitVec.ofInt_natCast, BitVec.toNat_ofNat]; exact Nat.mod_eq_of_lt (by omega)
  have h2 : (BitVec.ofInt 32 (b : Int)).toNat = b := by
    rw [BitVec.ofInt_natCast, BitVec.toNat_ofNat]; exact Nat.mod_eq_of_lt (by omega)
  have h3 : (2 : Nat) ^ 32 - 1 - b = 4294967296 - (b + 1) := by omega
  show IntKind.u32.wrap ((BitVec.ofInt 32 (a : Int) &&& ~~~ BitVec.ofInt 32 (b : Int)).toNat : Int) = _
  rw [BitVec.toNat_and, BitVec.toNat_not, h1, h2, h3, IntKind.wrap_u32]
  omega

theorem lowW_lt (m : Int) (h : m ≤ 32) : 2 ^ m.toNat - 1 < 4294967296 := by
  have h3 : 2 ^ m.toNat ≤ 2 ^ 32 := Nat.pow_le_pow_right (by decide) (by omega)
  have h5 : (2 : Nat) ^ 32 = 4294967296 := by decide
  omega

theorem field_walk (word a m : Int) (h : Hid (0 ≤ word ∧ word < 4294967296)) (hb : inWordB a m = true) :
    bits .and .u32 (word / 2 ^ a.toNat) (lowWordF m) = fieldV word a m := by
  have hb' := hb
  unfold inWordB at hb'
  simp only [decide_eq_true_eq] at hb'
  unfold fieldV
  rw [if_pos hb]
  obtain ⟨W, rfl⟩ := Int.eq_ofNat_of_zero_le h.out.1
  have h2 := h.out.2
  have e : ((W : Int) / 2 ^ a.toNat) = ((W / 2 ^ a.toNat : Nat) : Int) := by simp
  unfold lowWordF
  rw [e, and32 _ _ (Nat.lt_of_le_of_lt (Nat.div_le_self _ _) (by omega)) (lowW_lt m (by omega)), Nat.and_two_pow_sub_one_eq_mod]
  simp

theorem field_ref (word a m : Int) (hb : inWordB a m = true) :
    ((orBits (fun j => word.toNat.testBit (a.toNat + j)) m.toNat : Nat) : Int) % 4294967296 = fieldV word a m := by
  have hb' := hb
  unfold inWordB at hb'
  simp only [decide_eq_true_eq] at hb'
  unfold fieldV
  rw [if_pos hb]
  have e : word.toNat / 2 ^ a.toNat % 2 ^ m.toNat = orBits (fun j => word.toNat.testBit (a.toNat + j)) m.toNat := by
    apply eq_orBits
    intro i
    rw [Nat.testBit_mod_two_pow, Nat.testBit_div_two_pow, Nat.add_comm]
  rw [e]
  have h1 := orBits_lt (fun j => word.toNat.testBit (a.toNat + j)) m.toNat
  have h3 : 2 ^ m.toNat ≤ 2 ^ 32 := Nat.pow_le_pow_right (by decide) (by omega)
  have h5 : (2 : Nat) ^ 32 = 4294967296 := by decide
  omega

theorem inWord_of {a m : Int} (hb : inWordB a m = true) : 0 ≤ a ∧ 1 ≤ m ∧ m ≤ 32 ∧ a ≤ 32 - m := by
  unfold inWordB at hb
  simpa only [decide_eq_true_eq] using hb

theorem fits_low {value m : Int} (h0 : 0 ≤ value) : fitsB value m = true ↔ value ≤ lowWordF m := by
  unfold fitsB lowWordF
  rw [decide_eq_true_eq]
  have : 1 ≤ 2 ^ m.toNat := Nat.one_le_two_pow
  omega

theorem put_walk (word a m value : Int) (h : Hid (0 ≤ word ∧ word < 4294967296)) (hv : Hid (0 ≤ value ∧ value < 4294967296)) (hb : inWordB a m = true) (hf : fitsB value m = true) :
    bits .or .u32 (bits .andNot .u32 word (lowWordF m * 2 ^ a.toNat % 4294967296)) (value * 2 ^ a.toNat % 4294967296) = putV word a m value := by
  have hb' := inWord_of hb
  unfold putV
  rw [hb, hf, if_pos (by rfl)]
  obtain ⟨W, rfl⟩ := Int.eq_ofNat_of_zero_le h.out.1
  obtain ⟨V, rfl⟩ := Int.eq_ofNat_of_zero_le hv.out.1
  obtain ⟨A, rfl⟩ := Int.eq_ofNat_of_zero_le hb'.1
  obtain ⟨M, rfl⟩ := Int.eq_ofNat_of_zero_le (show 0 ≤ m by omega)
  have h2 := h.out.2
  have h3 := hv.out.2
  unfold fitsB at hf
  rw [decide_eq_true_eq] at hf
  simp only [Int.toNat_natCast] at hf
  have hA : A ≤ 32 - M := by omega
  have hM : M ≤ 32 := by omega
  have p1 : 2 ^ M * 2 ^ A ≤ 2 ^ 32 := by
    rw [← Nat.pow_add]; exact Nat.pow_le_pow_right (by decide) (by omega)
  have p2 : (2 : Nat) ^ 32 = 4294967296 := by decide
  have p3 : 1 ≤ 2 ^ M := Nat.one_le_two_pow
  have p4 : 1 ≤ 2 ^ A := Nat.one_le_two_pow
  have q1 : (2 ^ M - 1) * 2 ^ A < 4294967296 := by
    rw [Nat.sub_mul]; omega
  have q2 : V * 2 ^ A < 4294967296 := by
    have : V * 2 ^ A < 2 ^ M * 2 ^ A := Nat.mul_lt_mul_of_pos_right hf (by omega)
    omega
  unfold lowWordF
  simp only [Int.toNat_natCast]
  have e1 : (((2 ^ M - 1 : Nat) : Int) * 2 ^ A) % 4294967296 = (((2 ^ M - 1) * 2 ^ A : Nat) : Int) := by
    have : (((2 ^ M - 1 : Nat) : Int) * 2 ^ A) = (((2 ^ M - 1) * 2 ^ A : Nat) : Int) := by simp
    rw [this]; omega
  have e2 : ((V : Int) * 2 ^ A) % 4294967296 = ((V * 2 ^ A : Nat) : Int) := by
    have : ((V : Int) * 2 ^ A) = ((V * 2 ^ A : Nat) : Int) := by simp
    rw [this]; omega
  have q3 : W &&& (4294967296 - ((2 ^ M - 1) * 2 ^ A + 1)) < 4294967296 :=
    Nat.and_lt_two_pow (n := 32) _ (by omega)
  rw [e1, e2, andNot32 _ _ (by omega) q1, or32 _ _ q3 q2]
  congr 1
  apply eq_orBits
  intro i
  unfold putBit
  simp only [Int.toNat_natCast]
  rw [Nat.testBit_or, Nat.testBit_and, ← p2, Nat.testBit_two_pow_sub_succ (by omega), Nat.testBit_mul_two_pow, Nat.testBit_mul_two_pow, Nat.testBit_two_pow_sub_one]
  by_cases h32 : i < 32
  · by_cases c1 : A ≤ i
    · by_cases c2 : i < A + M
      · have c3 : i - A < M := by omega
        simp [h32, c1, c2, c3]
      · have c3 : ¬ i - A < M := by omega
        have c4 : V.testBit (i - A) = false := Nat.testBit_lt_two_pow (Nat.lt_of_lt_of_le hf (Nat.pow_le_pow_right (by decide) (by omega)))
        simp [h32, c2, c3, c4]
    · simp [h32, c1]
  · have c4 : V.testBit (i - A) = false := Nat.testBit_lt_two_pow (Nat.lt_of_lt_of_le hf (Nat.pow_le_pow_right (by decide) (by omega)))
    simp [h32, c4]

theorem put_ref (word a m value : Int) (hb : inWordB a m = true) (hf : fitsB value m = true) :
    ((orBits (putBit word a m value) 32 : Nat) : Int) % 4294967296 = putV word a m value := by
  unfold putV
  rw [hb, hf, if_pos (by rfl)]
  have h1 := orBits_lt (putBit word a m value) 32
  have h5 : (2 : Nat) ^ 32 = 4294967296 := by decide
  omega

theorem fits_shr {value m : Int} (h : Hid (0 ≤ value ∧ value < 4294967296)) : (IntKind.u64.wrap value / 2 ^ m.toNat != 0) = !(fitsB value m) := by
  have h1 := h.out.1
  have h2 := h.out.2
  rw [wrap_u64_in h1 (by omega)]
  obtain ⟨V, rfl⟩ := Int.eq_ofNat_of_zero_le h1
  unfold fitsB
  have e : ((V : Int) / 2 ^ m.toNat) = ((V / 2 ^ m.toNat : Nat) : Int) := by simp
  rw [e]
  have p : 0 < 2 ^ m.toNat := Nat.two_pow_pos _
  by_cases c : V < 2 ^ m.toNat
  · rw [Nat.div_eq_of_lt c]; simp [c]
  · have : 0 < V / 2 ^ m.toNat := Nat.div_pos (by omega) p
    have c' : decide ((V : Int).toNat < 2 ^ m.toNat) = false := by simpa using c
    rw [c']
    simp
    omega

end Go.Proofs.Ytcmilajlngnibaa
/- What the small functions of package bits and of the document's own answer give back, each for all numbers that it is called with: contracts, on which the statements' proofs stand. -/
namespace Go.Proofs.Ytcmilajlngnibaa
open Go.RowKit

theorem ret_bool {a b : Bool} (h : a = b) : Ending.returned (.bool a) = .returned (.bool b) := by rw [h]
theorem ret_two {k l : IntKind} {a b c d : Int} (h : a = b) (h' : c = d) : Ending.returned (.tuple #[.int k a, .int l c]) = .returned (.tuple #[.int k b, .int l d]) := by rw [h, h']
theorem ret_int {k : IntKind} {a b : Int} (h : a = b) : Ending.returned (.int k a) = .returned (.int k b) := by rw [h]

set_option maxHeartbeats 400000 in
theorem six_c (m : Int) (w : World) :
    Calls Try.prog 92 #[.int .i64 m] w fun e w' => e = .returned (.bool (sixB m)) ∧ w' = w := by
  go_enter Try.func92, Try.ntmps92
  go_wp2
  all_goals (go_ret; refine ⟨ret_bool ?_, rfl⟩; unfold sixB; first | (rw [eq_comm, decide_eq_false_iff_not]; omega) | (rw [decide_eq_decide]; omega))

set_option maxHeartbeats 400000 in
theorem low_c (k : Int) (hk : 0 ≤ k) (w : World) :
    Calls Try.prog 94 #[.int .i64 k] w fun e w' => e = .returned (.int .u64 (lowF k)) ∧ w' = w := by
  go_enter Try.func94, Try.ntmps94
  go_wp2
  go_ret
  exact ⟨ret_int (low_walk k), rfl⟩

end Go.Proofs.Ytcmilajlngnibaa
/- Whether places lie in a word: contracts. -/
namespace Go.Proofs.Ytcmilajlngnibaa
open Go.RowKit

set_option maxHeartbeats 400000 in
theorem inWord_c (a m : Int) (w : World) :
    Calls Try.prog 89 #[.int .i64 a, .int .i64 m] w fun e w' => e = .returned (.bool (inWordB a m)) ∧ w' = w := by
  go_enter Try.func89, Try.ntmps89
  go_wp2
  all_goals (go_ret; refine ⟨ret_bool ?_, rfl⟩; unfold inWordB; first | (rw [eq_comm, decide_eq_false_iff_not]; omega) | (rw [decide_eq_decide]; omega))

set_option maxHeartbeats 400000 in
theorem inNum_c (m : Int) (w : World) :
    Calls Try.prog 91 #[.int .i64 m] w fun e w' => e = .returned (.bool (inNumB m)) ∧ w' = w := by
  go_enter Try.func91, Try.ntmps91
  go_wp2
  all_goals (go_ret; refine ⟨ret_bool ?_, rfl⟩; unfold inNumB; first | (rw [eq_comm, decide_eq_false_iff_not]; omega) | (rw [decide_eq_decide]; omega))

set_option maxHeartbeats 400000 in
theorem lowWord_c (k : Int) (hk : 0 ≤ k) (hk2 : k ≤ 32) (w : World) :
    Calls Try.prog 90 #[.int .i64 k] w fun e w' => e = .returned (.int .u32 (lowWordF k)) ∧ w' = w := by
  go_enter Try.func90, Try.ntmps90
  go_wp2
  go_ret
  exact ⟨ret_int (lowWord_walk k hk2), rfl⟩

end Go.Proofs.Ytcmilajlngnibaa
/- What Field and Put of package bits, and of the document's own answer, give back, for all words and numbers: contracts. -/
namespace Go.Proofs.Ytcmilajlngnibaa
open Go.RowKit

set_option maxHeartbeats 400000 in
theorem field_c (word a m : Int) (hw : Hid (0 ≤ word ∧ word < 4294967296)) (w : World) :
    Calls Try.prog 84 #[.int .u32 word, .int .i64 a, .int .i64 m] w fun e w' => e = .returned (.tuple #[.int .u32 (fieldV word a m), .int .i64 (inE (inWordB a m))]) ∧ ∃ n, w' = w.drewN n := by
  by_cases hb : inWordB a m = true
  · obtain ⟨h1, h2, h3, h4⟩ := inWord_of hb
    have hE : Hid (bits .and .u32 (word / 2 ^ a.toNat) (lowWordF m) = fieldV word a m) := field_walk word a m hw hb
    go_enter Try.func84, Try.ntmps84
    go_wp2_with (go_at_call 89; refine (inWord_c _ _ _).mono ?_; rintro e w' ⟨rfl, rfl⟩)
    go_quiet ((go_at_call 90; exact Calls.quiet_of_same (lowWord_c _ (by omega) (by omega) _)))
    go_wp2
    go_ret2
    exact ⟨ret_two hE.out (by rw [hb]; rfl), _, rfl⟩
  · have hb : inWordB a m = false := by simpa using hb
    go_enter Try.func84, Try.ntmps84
    go_wp2_with (go_at_call 89; refine (inWord_c _ _ _).mono ?_; rintro e w' ⟨rfl, rfl⟩)
    go_ret2
    exact ⟨ret_two (by simp [fieldV, hb]) (by rw [hb]; rfl), 0, rfl⟩

set_option maxHeartbeats 400000 in
theorem put_c (word a m value : Int) (hw : Hid (0 ≤ word ∧ word < 4294967296)) (hv : Hid (0 ≤ value ∧ value < 4294967296)) (w : World) :
    Calls Try.prog 85 #[.int .u32 word, .int .i64 a, .int .i64 m, .int .u32 value] w fun e w' => e = .returned (.tuple #[.int .u32 (putV word a m value), .int .i64 (putE a m value)]) ∧ ∃ n, w' = w.drewN n := by
  by_cases hb : inWordB a m = true
  · obtain ⟨h1, h2, h3, h4⟩ := inWord_of hb
    by_cases hf : fitsB value m = true
    · have hE : Hid (bits .or .u32 (bits .andNot .u32 word (lowWordF m * 2 ^ a.toNat % 4294967296)) (value * 2 ^ a.toNat % 4294967296) = putV word a m value) := put_walk word a m value hw hv hb hf
      have hl : value ≤ lowWordF m := (fits_low hv.out.1).1 hf
      go_enter Try.func85, Try.ntmps85
      go_wp2_with (first | (go_at_call 89; refine (inWord_c _ _ _).mono ?_; rintro e w' ⟨rfl, rfl⟩) | (go_at_call 90; refine (lowWord_c _ (by omega) (by omega) _).mono ?_; rintro e w' ⟨rfl, rfl⟩))
      go_quiet ((go_at_call 90; exact Calls.quiet_of_same (lowWord_c _ (by omega) (by omega) _)))
      go_wp2
      go_ret2
      exact ⟨ret_two hE.out (by simp [putE, hb, hf]), _, rfl⟩
    · have hl : lowWordF m < value := Int.not_le.mp fun h => hf ((fits_low hv.out.1).2 h)
      go_enter Try.func85, Try.ntmps85
      go_wp2_with (first | (go_at_call 89; refine (inWord_c _ _ _).mono ?_; rintro e w' ⟨rfl, rfl⟩) | (go_at_call 90; refine (lowWord_c _ (by omega) (by omega) _).mono ?_; rintro e w' ⟨rfl, rfl⟩))
      go_ret2
      exact ⟨ret_two (by simp [putV, hf]) (by simp [putE, hb, hf]), 0, rfl⟩
  · have hb : inWordB a m = false := by simpa using hb
    go_enter Try.func85, Try.ntmps85
    go_wp2_with (go_at_call 89; refine (inWord_c _ _ _).mono ?_; rintro e w' ⟨rfl, rfl⟩)
    go_ret2
    exact ⟨ret_two (by simp [putV, hb]) (by simp [putE, hb]), 0, rfl⟩

end Go.Proofs.Ytcmilajlngnibaa
/- Plain facts on numbers that are read with a sign or turned: no Go text is named here. -/
namespace Go.Proofs.Ytcmilajlngnibaa
open Go.RowKit

theorem inNum_of {m : Int} (hb : inNumB m = true) : 1 ≤ m ∧ m ≤ 64 := by
  unfold inNumB at hb
  simpa only [decide_eq_true_eq] using hb

/-! ### Signed -/
def signBit (value m : Int) (i : Nat) : Bool := value.toNat.testBit (min i (m.toNat - 1))
def signedV (value m : Int) : Int := if inNumB m = true then ((orBits (signBit value m) 64 : Nat) : Int) else 0

theorem signed_walk (value m : Int) (h : Hid (0 ≤ value ∧ value < 18446744073709551616)) (hb : inNumB m = true) :
    IntKind.u64.wrap (wrap64 (IntKind.u64.wrap (value * 2 ^ (64 - m).toNat)) / 2 ^ (64 - m).toNat) = signedV value m := by
  have hb' := inNum_of hb
  unfold signedV
  rw [if_pos hb]
  obtain ⟨V, rfl⟩ := Int.eq_ofNat_of_zero_le h.out.1
  obtain ⟨M, rfl⟩ := Int.eq_ofNat_of_zero_le (show 0 ≤ m by omega)
  have hv := h.out.2
  have hA : (64 - (M : Int)).toNat = 64 - M := by omega
  rw [hA]
  generalize hAA : 64 - M = A
  let X : BitVec 64 := BitVec.ofNat 64 V
  have hX : X.toNat = V := by
    show (BitVec.ofNat 64 V).toNat = V
    rw [BitVec.toNat_ofNat]; exact Nat.mod_eq_of_lt (by omega)
  have e1 : IntKind.u64.wrap ((V : Int) * 2 ^ A) = (((X <<< A).toNat : Nat) : Int) := by
    rw [IntKind.wrap_u64, BitVec.toNat_shiftLeft, hX, Nat.shiftLeft_eq]
    have : ((V : Int) * 2 ^ A) = ((V * 2 ^ A : Nat) : Int) := by simp
    rw [this]
    omega
  have e2 : ∀ Y : BitVec 64, wrap64 ((Y.toNat : Nat) : Int) = Y.toInt := by
    intro Y
    unfold wrap64
    rw [BitVec.toInt_eq_toNat_cond]
    have := Y.isLt
    split <;> omega
  have e3 : ∀ Y : BitVec 64, IntKind.u64.wrap Y.toInt = ((Y.toNat : Nat) : Int) := by
    intro Y
    rw [IntKind.wrap_u64, BitVec.toInt_eq_toNat_cond]
    have := Y.isLt
    split <;> omega
  have e4 : (X <<< A).toInt / 2 ^ A = ((X <<< A).sshiftRight A).toInt := by
    rw [BitVec.toInt_sshiftRight, Int.shiftRight_eq_div_pow]
    simp
  rw [e1, e2, e4, e3]
  congr 1
  apply eq_orBits
  intro i
  show ((X <<< A).sshiftRight A).getLsbD i = _
  rw [BitVec.getLsbD_sshiftRight]
  unfold signBit
  simp only [Int.toNat_natCast]
  by_cases hi : i < 64
  · have hi' : ¬ 64 ≤ i := by omega
    simp only [hi, hi', decide_true, decide_false, Bool.not_false, Bool.true_and]
    by_cases c : A + i < 64
    · rw [if_pos c, BitVec.getLsbD_shiftLeft]
      have c1 : ¬ A + i < A := by omega
      have c2 : A + i - A = i := by omega
      have c3 : min i (M - 1) = i := by omega
      simp only [c, c1, c2, c3, decide_true, decide_false, Bool.not_false, Bool.true_and]
      show X.toNat.testBit i = _
      rw [hX]
    · rw [if_neg c, BitVec.msb_eq_getLsbD_last, BitVec.getLsbD_shiftLeft]
      have c0 : 64 - 1 < 64 := by omega
      have c1 : ¬ 64 - 1 < A := by omega
      have c3 : min i (M - 1) = 64 - 1 - A := by omega
      simp only [c0, c1, c3, decide_true, decide_false, Bool.not_false, Bool.true_and]
      show X.toNat.testBit (64 - 1 - A) = _
      rw [hX]
  · have hi' : 64 ≤ i := by omega
    simp [hi, hi']

/-! ### Turning -/
def turnN (v b m : Nat) : Nat := (v / 2 ^ (b % m) ||| v * 2 ^ (m - b % m) % 2 ^ 64) &&& (2 ^ m - 1)
def turnF (v b m : Int) : Int := ((turnN v.toNat b.toNat m.toNat : Nat) : Int)
def rorBit (v b m : Nat) (i : Nat) : Bool := v.testBit ((i + b % m) % m)

theorem turnN_eq {v b m : Nat} (hm : 1 ≤ m) (hm2 : m ≤ 64) (hv : v < 2 ^ m) : turnN v b m = orBits (rorBit v b m) m := by
  apply eq_orBits
  intro i
  unfold turnN rorBit
  rw [Nat.testBit_and, Nat.testBit_or, Nat.testBit_div_two_pow, Nat.testBit_mod_two_pow, Nat.testBit_mul_two_pow, Nat.testBit_two_pow_sub_one]
  have hb : b % m < m := Nat.mod_lt _ (by omega)
  generalize b % m = c at *
  by_cases hi : i < m
  · have hi' : i < 64 := by omega
    by_cases h1 : i + c < m
    · have h2 : ¬ m - c ≤ i := by omega
      rw [Nat.mod_eq_of_lt h1]
      simp [hi, h2]
    · have h2 : m - c ≤ i := by omega
      have h3 : (i + c) % m = i - (m - c) := by
        rw [Nat.mod_eq_sub_mod (by omega), Nat.mod_eq_of_lt (by omega)]
        omega
      have h4 : v.testBit (i + c) = false := Nat.testBit_lt_two_pow (Nat.lt_of_lt_of_le hv (Nat.pow_le_pow_right (by decide) (by omega)))
      rw [h3, h4]
      simp [hi, hi', h2]
  · simp [hi]

theorem turnN_lt (v b m : Nat) : turnN v b m < 2 ^ m := by
  unfold turnN
  have : 2 ^ m - 1 < 2 ^ m := by have := Nat.two_pow_pos m; omega
  exact Nat.and_lt_two_pow _ this

theorem pow_le64 {m : Nat} (hm : m ≤ 64) : 2 ^ m ≤ 18446744073709551616 :=
  Nat.pow_le_pow_right (n := 2) (by decide) hm

theorem turn_walk (v b m : Int) (h : Hid (0 ≤ v ∧ v < 18446744073709551616)) (hb : 0 ≤ b) (hm : 1 ≤ m) (hm2 : m ≤ 64) :
    bits .and .u64 (bits .or .u64 (v / 2 ^ (b % m).toNat) (IntKind.u64.wrap (v * 2 ^ (m - b % m).toNat))) (lowF m) = turnF v b m := by
  obtain ⟨V, rfl⟩ := Int.eq_ofNat_of_zero_le h.out.1
  obtain ⟨B, rfl⟩ := Int.eq_ofNat_of_zero_le hb
  obtain ⟨M, rfl⟩ := Int.eq_ofNat_of_zero_le (show 0 ≤ m by omega)
  have hv := h.out.2
  have hlt : B % M < M := Nat.mod_lt _ (by omega)
  have r1 : ((B : Int) % (M : Int)) = ((B % M : Nat) : Int) := by simp
  have r2 : ((M : Int) - ((B % M : Nat) : Int)).toNat = M - B % M := by omega
  rw [r1, r2]
  unfold turnF turnN lowF
  simp only [Int.toNat_natCast]
  generalize B % M = C at *
  have e0 : ((V : Int) / 2 ^ C) = ((V / 2 ^ C : Nat) : Int) := by simp
  have e1 : IntKind.u64.wrap ((V : Int) * 2 ^ (M - C)) = ((V * 2 ^ (M - C) % 2 ^ 64 : Nat) : Int) := by
    rw [IntKind.wrap_u64]
    have : ((V : Int) * 2 ^ (M - C)) = ((V * 2 ^ (M - C) : Nat) : Int) := by simp
    rw [this]
    omega
  have q0 : V / 2 ^ C < 18446744073709551616 := Nat.lt_of_le_of_lt (Nat.div_le_self _ _) (by omega)
  have q1 : V * 2 ^ (M - C) % 2 ^ 64 < 18446744073709551616 := Nat.mod_lt _ (by decide)
  have q2 : V / 2 ^ C ||| V * 2 ^ (M - C) % 2 ^ 64 < 18446744073709551616 := Nat.or_lt_two_pow (n := 64) q0 q1
  have q3 : 2 ^ min M 64 - 1 < 18446744073709551616 := by
    have := pow_le64 (m := min M 64) (by omega)
    have := Nat.two_pow_pos (min M 64)
    omega
  rw [e0, e1, bits_or_u64_nat _ _ q0 q1, bits_and_u64_nat _ _ q2 q3, show min M 64 = M by omega]

/-! ### Ror -/
def fits64 (value m : Int) : Bool := decide (value.toNat < 2 ^ m.toNat)
def rorV (value b m : Int) : Int := if (inNumB m && decide (0 ≤ b) && fits64 value m) = true then ((orBits (rorBit value.toNat b.toNat m.toNat) m.toNat : Nat) : Int) else 0
def rorE (value b m : Int) : Int := if (inNumB m && decide (0 ≤ b)) = true then (if fits64 value m = true then 0 else 2) else 1

theorem fits64_low {value m : Int} (h0 : 0 ≤ value) (hm : m ≤ 64) : fits64 value m = true ↔ value ≤ lowF m := by
  unfold fits64 lowF
  rw [decide_eq_true_eq, show min m.toNat 64 = m.toNat by omega]
  have : 1 ≤ 2 ^ m.toNat := Nat.one_le_two_pow
  omega

theorem ror_walk {value b m : Int} (hb : inNumB m = true) (h0 : 0 ≤ b) (hf : fits64 value m = true) : turnF value b m = rorV value b m := by
  have h1 := inNum_of hb
  unfold turnF rorV
  rw [hb, hf, decide_eq_true h0, if_pos (by rfl)]
  unfold fits64 at hf
  rw [decide_eq_true_eq] at hf
  rw [turnN_eq (by omega) (by omega) hf]

theorem ror_yes {value b m : Int} (hb : inNumB m = true) (h0 : 0 ≤ b) (hf : fits64 value m = true) : ((orBits (rorBit value.toNat b.toNat m.toNat) m.toNat : Nat) : Int) = rorV value b m ∧ rorE value b m = 0 := by
  unfold rorV rorE
  rw [hb, hf, decide_eq_true h0, if_pos (by rfl), if_pos (by rfl), if_pos (by rfl)]
  exact ⟨rfl, rfl⟩

theorem ror_no {value b m : Int} (hb : inNumB m = true) (h0 : 0 ≤ b) (hf : fits64 value m = false) : rorV value b m = 0 ∧ rorE value b m = 2 := by
  unfold rorV rorE
  rw [hb, hf, decide_eq_true h0]
  exact ⟨rfl, rfl⟩

theorem ror_arg {value b m : Int} (h : ¬ (1 ≤ m ∧ m ≤ 64 ∧ 0 ≤ b)) : rorV value b m = 0 ∧ rorE value b m = 1 := by
  have : (inNumB m && decide (0 ≤ b)) = false := by
    unfold inNumB
    rw [← Bool.decide_and, decide_eq_false_iff_not]
    omega
  unfold rorV rorE
  rw [this]
  exact ⟨rfl, rfl⟩

theorem fits64_shr {value m : Int} (h : Hid (0 ≤ value ∧ value < 18446744073709551616)) : (value / 2 ^ m.toNat != 0) = !(fits64 value m) := by
  have h1 := h.out.1
  obtain ⟨V, rfl⟩ := Int.eq_ofNat_of_zero_le h1
  unfold fits64
  have e : ((V : Int) / 2 ^ m.toNat) = ((V / 2 ^ m.toNat : Nat) : Int) := by simp
  rw [e]
  have p : 0 < 2 ^ m.toNat := Nat.two_pow_pos _
  by_cases c : V < 2 ^ m.toNat
  · rw [Nat.div_eq_of_lt c]; simp [c]
  · have : 0 < V / 2 ^ m.toNat := Nat.div_pos (by omega) p
    have c' : decide ((V : Int).toNat < 2 ^ m.toNat) = false := by simpa using c
    rw [c']
    simp
    omega

theorem fits64_all {value : Int} (h : Hid (0 ≤ value ∧ value < 18446744073709551616)) : fits64 value 64 = true := by
  have h1 := h.out
  unfold fits64
  rw [decide_eq_true_eq]
  have : (2 : Nat) ^ (64 : Int).toNat = 18446744073709551616 := by decide
  omega

end Go.Proofs.Ytcmilajlngnibaa
/- Numbers with a sign: the contract of Signed of package bits. -/
namespace Go.Proofs.Ytcmilajlngnibaa
open Go.RowKit

set_option maxHeartbeats 400000 in
theorem signed_c (value m : Int) (hv : Hid (0 ≤ value ∧ value < 18446744073709551616)) (w : World) :
    Calls Try.prog 86 #[.int .u64 value, .int .i64 m] w fun e w' => e = .returned (.tuple #[.int .u64 (signedV value m), .int .i64 (inE (inNumB m))]) ∧ w' = w := by
  by_cases hb : inNumB m = true
  · obtain ⟨h1, h2⟩ := inNum_of hb
    have hE := signed_walk value m hv hb
    replace hE := show Hid _ from hE
    go_enter Try.func86, Try.ntmps86
    go_wp2_with (go_at_call 91; refine (inNum_c _ _).mono ?_; rintro e w' ⟨rfl, rfl⟩)
    go_ret2
    exact ⟨ret_two hE.out (by rw [hb]; rfl), rfl⟩
  · have hb : inNumB m = false := by simpa using hb
    go_enter Try.func86, Try.ntmps86
    go_wp2_with (go_at_call 91; refine (inNum_c _ _).mono ?_; rintro e w' ⟨rfl, rfl⟩)
    go_ret2
    exact ⟨ret_two (by simp [signedV, hb]) (by rw [hb]; rfl), rfl⟩

end Go.Proofs.Ytcmilajlngnibaa
