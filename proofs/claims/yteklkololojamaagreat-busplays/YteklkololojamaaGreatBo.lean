/- Words of bits of a bus, plain. -/
import Derived.Test.YteklkololojamaaGreatBl
namespace Go.Proofs.YteklkololojamaaGreat
open Go.RowKit
set_option linter.unusedVariables false
set_option linter.unusedSimpArgs false
set_option maxRecDepth 8000

theorem pos_iff {n c d i j : Nat} (hc : c < n) (hd : d < n) (hi : i < 64) (hj : j < 64) : (pr n d i = pr n c j ∧ pk i = pk j) ↔ (j = i ∧ (d = c ∨ 32 ≤ i)) := by
  have e1 : pr n d i = if 32 ≤ i then n else d := by (unfold pr; by_cases h : 32 ≤ i; (rw [if_pos (by omega : 32 ≤ (i : Int)), if_pos h]); (rw [if_neg (by omega : ¬ 32 ≤ (i : Int)), if_neg h]; exact Int.toNat_natCast _))
  have e2 : pr n c j = if 32 ≤ j then n else c := by (unfold pr; by_cases h : 32 ≤ j; (rw [if_pos (by omega : 32 ≤ (j : Int)), if_pos h]); (rw [if_neg (by omega : ¬ 32 ≤ (j : Int)), if_neg h]; exact Int.toNat_natCast _))
  have e3 : pk i = if 32 ≤ i then i - 32 else i := by (unfold pk; by_cases h : 32 ≤ i; (rw [if_pos (by omega : 32 ≤ (i : Int)), if_pos h]; omega); (rw [if_neg (by omega : ¬ 32 ≤ (i : Int)), if_neg h]; exact Int.toNat_natCast _))
  have e4 : pk j = if 32 ≤ j then j - 32 else j := by (unfold pk; by_cases h : 32 ≤ j; (rw [if_pos (by omega : 32 ≤ (j : Int)), if_pos h]; omega); (rw [if_neg (by omega : ¬ 32 ≤ (j : Int)), if_neg h]; exact Int.toNat_natCast _))
  rw [e1, e2, e3, e4]
  by_cases h1 : 32 ≤ i
  · rw [if_pos h1, if_pos h1]
    by_cases h2 : 32 ≤ j
    · rw [if_pos h2, if_pos h2]; omega
    · rw [if_neg h2, if_neg h2]; omega
  · rw [if_neg h1, if_neg h1]
    by_cases h2 : 32 ≤ j
    · rw [if_pos h2, if_pos h2]; omega
    · rw [if_neg h2, if_neg h2]; omega
theorem look_put {n c d i j : Nat} {P : Pg} {s : Src} (hc : c < n) (hd : d < n) (hi : i < 64) (hj : j < 64) : lookV n (P.put (pr n c j) (pk j) s) d i = if j = i ∧ (d = c ∨ 32 ≤ i) then s else lookV n P d i := by
  rw [look_nat hd (by omega) (by omega), look_nat hd (by omega) (by omega)]
  show (if pr n d i = pr n c j ∧ pk i = pk j then s else P.src (pr n d i) (pk i)) = _
  by_cases h : j = i ∧ (d = c ∨ 32 ≤ i)
  · rw [if_pos h, if_pos ((pos_iff hc hd hi hj).2 h)]
  · rw [if_neg h, if_neg (fun e => h ((pos_iff hc hd hi hj).1 e))]

theorem look_en {n c d i j : Nat} {Q : Pg} (hc : c < n) (hd : d < n) (hi : i < 64) (hj : j < 64) (on : Bool) : lookV n (genableP n Q c j on) d i = if j = i ∧ (d = c ∨ 32 ≤ i) then { lookV n Q d i with e := on } else lookV n Q d i := by
  have hE : genableE n c j on = false := bad_nat hc (by omega) (by omega)
  rw [genableP, hE, if_neg (by decide), look_put hc hd hi hj]
  by_cases h : j = i ∧ (d = c ∨ 32 ≤ i)
  · rw [if_pos h, if_pos h, look_nat hd (by omega) (by omega), (pos_iff hc hd hi hj).2 h |>.1, (pos_iff hc hd hi hj).2 h |>.2]
  · rw [if_neg h, if_neg h]
theorem spr_en {n c d i : Nat} {P : Pg} (hc : c < n) (hd : d < n) (hi : i < 64) (on : Bool) (v : Nat) : ∀ m, m ≤ 64 → lookV n (sprF (fun Q id => genableP n Q c id on) P v m) d i = if i < m ∧ v.testBit i = true ∧ (d = c ∨ 32 ≤ i) then { lookV n P d i with e := on } else lookV n P d i
  | 0, _ => by rw [if_neg (fun h => absurd h.1 (by omega))]; rfl
  | m + 1, hm => by
    have ih := spr_en (P := P) hc hd hi on v m (by omega)
    show lookV n (if v.testBit m = true then genableP n (sprF (fun Q id => genableP n Q c id on) P v m) c m on else sprF (fun Q id => genableP n Q c id on) P v m) d i = _
    by_cases hb : v.testBit m = true
    · rw [if_pos hb, look_en hc hd hi (by omega) on, ih]
      by_cases e : m = i
      · subst e
        by_cases hs : d = c ∨ 32 ≤ m
        · rw [if_pos ⟨rfl, hs⟩, if_neg (fun h => absurd h.1 (by omega)), if_pos ⟨by omega, hb, hs⟩]
        · rw [if_neg (fun h => hs h.2), if_neg (fun h => absurd h.1 (by omega)), if_neg (fun h => hs h.2.2)]
      · rw [if_neg (fun h => e h.1)]
        by_cases hl : i < m ∧ v.testBit i = true ∧ (d = c ∨ 32 ≤ i)
        · rw [if_pos hl, if_pos ⟨by omega, hl.2⟩]
        · rw [if_neg hl, if_neg (fun h => hl ⟨by omega, h.2⟩)]
    · rw [if_neg hb, ih]
      by_cases hl : i < m ∧ v.testBit i = true ∧ (d = c ∨ 32 ≤ i)
      · rw [if_pos hl, if_pos ⟨by omega, hl.2⟩]
      · rw [if_neg hl, if_neg (fun h => hl ⟨by
          have : i ≠ m := fun e => hb (e ▸ h.2.1)
          omega, h.2⟩)]

theorem look_pe {n c d i j : Nat} {Q : Pg} (hc : c < n) (hd : d < n) (hi : i < 64) (hj : j < 64) (on : Bool) : lookV n (gpendP n Q c j on) d i = if j = i ∧ (d = c ∨ 32 ≤ i) then { lookV n Q d i with l := on } else lookV n Q d i := by
  have hE : gpendE n c j on = false := bad_nat hc (by omega) (by omega)
  rw [gpendP, hE, if_neg (by decide), look_put hc hd hi hj]
  by_cases h : j = i ∧ (d = c ∨ 32 ≤ i)
  · rw [if_pos h, if_pos h, look_nat hd (by omega) (by omega), (pos_iff hc hd hi hj).2 h |>.1, (pos_iff hc hd hi hj).2 h |>.2]
  · rw [if_neg h, if_neg h]
theorem spr_pe {n c d i : Nat} {P : Pg} (hc : c < n) (hd : d < n) (hi : i < 64) (on : Bool) (v : Nat) : ∀ m, m ≤ 64 → lookV n (sprF (fun Q id => gpendP n Q c id on) P v m) d i = if i < m ∧ v.testBit i = true ∧ (d = c ∨ 32 ≤ i) then { lookV n P d i with l := on } else lookV n P d i
  | 0, _ => by rw [if_neg (fun h => absurd h.1 (by omega))]; rfl
  | m + 1, hm => by
    have ih := spr_pe (P := P) hc hd hi on v m (by omega)
    show lookV n (if v.testBit m = true then gpendP n (sprF (fun Q id => gpendP n Q c id on) P v m) c m on else sprF (fun Q id => gpendP n Q c id on) P v m) d i = _
    by_cases hb : v.testBit m = true
    · rw [if_pos hb, look_pe hc hd hi (by omega) on, ih]
      by_cases e : m = i
      · subst e
        by_cases hs : d = c ∨ 32 ≤ m
        · rw [if_pos ⟨rfl, hs⟩, if_neg (fun h => absurd h.1 (by omega)), if_pos ⟨by omega, hb, hs⟩]
        · rw [if_neg (fun h => hs h.2), if_neg (fun h => absurd h.1 (by omega)), if_neg (fun h => hs h.2.2)]
      · rw [if_neg (fun h => e h.1)]
        by_cases hl : i < m ∧ v.testBit i = true ∧ (d = c ∨ 32 ≤ i)
        · rw [if_pos hl, if_pos ⟨by omega, hl.2⟩]
        · rw [if_neg hl, if_neg (fun h => hl ⟨by omega, h.2⟩)]
    · rw [if_neg hb, ih]
      by_cases hl : i < m ∧ v.testBit i = true ∧ (d = c ∨ 32 ≤ i)
      · rw [if_pos hl, if_pos ⟨by omega, hl.2⟩]
      · rw [if_neg hl, if_neg (fun h => hl ⟨by
          have : i ≠ m := fun e => hb (e ▸ h.2.1)
          omega, h.2⟩)]

theorem look_new {n d i : Nat} (hd : d < n) (hi : i < 64) : lookV n newP d i = s160 := by rw [look_nat hd (by omega) (by omega)]; rfl
theorem find0 : findK 134217728 = some 0 := by kernel_rfl
theorem find1 : findK 134217736 = some 1 := by kernel_rfl
theorem find2 : findK 134217744 = some 2 := by kernel_rfl
theorem find3 : findK 134217752 = some 3 := by kernel_rfl
theorem brd_at {n c k : Nat} {a : Int} {S : Bs} (hc : c < n) (h : findK a = some k) : brdV n S c a = rdV n S c k (plcK k a) ∧ brdE n c a = 0 := by
  unfold brdV brdE
  rw [h]
  dsimp only
  rw [has_nat hc, if_pos rfl, if_pos rfl]
  exact ⟨rfl, rfl⟩
theorem bwr_at {n c k : Nat} {a : Int} {S : Bs} {v : Nat} (hc : c < n) (h : findK a = some k) : bwrS n S c a v = wrS n S c k (plcK k a) v := by
  unfold bwrS
  rw [h]
  dsimp only
  rw [has_nat hc, if_pos rfl]
theorem andNot_bit {a b : Nat} (ha : a < 2 ^ 64) (hb : b < 2 ^ 64) : bits .andNot .u64 (a : Int) (b : Int) = ((Bit.less a b : Nat) : Int) := by
  have key : (BitVec.ofInt 64 (a : Int) &&& ~~~ BitVec.ofInt 64 (b : Int)).toNat = Bit.less a b := by
    apply Nat.eq_of_testBit_eq
    intro j
    rw [Bit.test_less, ← BitVec.getLsbD, BitVec.getLsbD_and, BitVec.getLsbD_not]
    have e1 : (BitVec.ofInt 64 (a : Int)).getLsbD j = a.testBit j := by
      rw [BitVec.getLsbD, BitVec.toNat_ofInt]
      have : ((a : Int) % ((2 ^ 64 : Nat) : Int)).toNat = a := by omega
      rw [this]
    have e2 : (BitVec.ofInt 64 (b : Int)).getLsbD j = b.testBit j := by
      rw [BitVec.getLsbD, BitVec.toNat_ofInt]
      have : ((b : Int) % ((2 ^ 64 : Nat) : Int)).toNat = b := by omega
      rw [this]
    rw [e1, e2]
    by_cases hj : j < 64
    · rw [decide_eq_true hj]; simp
    · rw [decide_eq_false hj]; simp
  have hlt : Bit.less a b < 2 ^ 64 := Bit.orN_lt _ _
  show IntKind.u64.wrap ((BitVec.ofInt 64 (a : Int) &&& ~~~ BitVec.ofInt 64 (b : Int)).toNat : Nat) = _
  rw [key, IntKind.wrap_u64]
  omega
/-- The bus behind the law's four words. -/
def bb1 (c on : Nat) : Bs := bwrS 3 newS c 134217728 on
def bb2 (c on off : Nat) : Bs := bwrS 3 (bb1 c on) c 134217736 off
def bb3 (c on off la : Nat) : Bs := bwrS 3 (bb2 c on off) c 134217744 la
def bb4 (c on off la cl : Nat) : Bs := bwrS 3 (bb3 c on off la) c 134217752 cl
theorem bb_look {c d i on off la cl : Nat} (hc : c < 3) (hd : d < 3) (hi : i < 64) : (lookV 3 (bb4 c on off la cl).P d i).e = ((decide (d = c) || decide (32 ≤ i)) && (on.testBit i && !off.testBit i)) ∧ (lookV 3 (bb4 c on off la cl).P d i).l = ((decide (d = c) || decide (32 ≤ i)) && (la.testBit i && !cl.testBit i)) ∧ (lookV 3 (bb4 c on off la cl).P d i).h = false := by
  unfold bb4 bb3 bb2 bb1
  rw [bwr_at hc find3, bwr_at hc find2, bwr_at hc find1, bwr_at hc find0]
  simp only [wrS]
  rw [spr_pe hc hd hi false cl 64 (by omega), spr_pe hc hd hi true la 64 (by omega), spr_en hc hd hi false off 64 (by omega), spr_en hc hd hi true on 64 (by omega)]
  have hnew : lookV 3 newS.P d i = s160 := look_new hd hi
  rw [hnew]
  by_cases hs : d = c ∨ 32 ≤ i
  · have hs' : (decide (d = c) || decide (32 ≤ i)) = true := by simpa using hs
    rw [hs']
    cases h1 : on.testBit i <;> cases h2 : off.testBit i <;> cases h3 : la.testBit i <;> cases h4 : cl.testBit i <;> simp [hi, hs, s160]
  · have hs' : (decide (d = c) || decide (32 ≤ i)) = false := by simpa using hs
    rw [hs', if_neg (fun h => hs h.2.2), if_neg (fun h => hs h.2.2), if_neg (fun h => hs h.2.2), if_neg (fun h => hs h.2.2)]
    simp [s160]
theorem bb_en {c on off la cl : Nat} (hc : c < 3) : enW 3 (bb4 c on off la cl) c = Bit.less on off := Bit.orN_congr 64 fun i hi => by rw [(bb_look hc hc hi).1]; simp
theorem bb_pe {c on off la cl : Nat} (hc : c < 3) : peW 3 (bb4 c on off la cl) c = Bit.less la cl := Bit.orN_congr 64 fun i hi => by rw [(bb_look hc hc hi).2.1, (bb_look hc hc hi).2.2]; simp
theorem bb_up {c d on off la cl : Nat} (hc : c < 3) (hd : d < 3) (hn : d ≠ c) : enW 3 (bb4 c on off la cl) d = Bit.less on off / 2 ^ 32 * 2 ^ 32 := by
  rw [← Bit.up32 (Bit.less on off) (Bit.orN_lt _ _)]
  refine Bit.orN_congr 64 fun i hi => ?_
  rw [(bb_look hc hd hi).1, Bit.test_less, decide_eq_false hn, decide_eq_true hi]
  simp
end Go.Proofs.YteklkololojamaaGreat
