/- The fields of a form, crossed one by one: states, and the contracts of the functions of package code that cross them. -/
import Derived.Test.YtcmilajlngnibaaPair
namespace Go.Proofs.Ytcmilajlngnibaa
open Go.RowKit

abbrev St := Int × Ins
inductive Fl | sub | rd | rn | rm | ra | imm | imm2 | amount | shift | cond | sys
inductive Bl | flags | minus | not | link
def Fl.get : Fl → Ins → Int
  | .sub, i => i.sub
  | .rd, i => i.rd
  | .rn, i => i.rn
  | .rm, i => i.rm
  | .ra, i => i.ra
  | .imm, i => i.imm
  | .imm2, i => i.imm2
  | .amount, i => i.amount
  | .shift, i => i.shift
  | .cond, i => i.cond
  | .sys, i => i.sys
def Fl.set : Fl → Int → Ins → Ins
  | .sub, n, i => { i with sub := n }
  | .rd, n, i => { i with rd := n }
  | .rn, n, i => { i with rn := n }
  | .rm, n, i => { i with rm := n }
  | .ra, n, i => { i with ra := n }
  | .imm, n, i => { i with imm := n }
  | .imm2, n, i => { i with imm2 := n }
  | .amount, n, i => { i with amount := n }
  | .shift, n, i => { i with shift := n }
  | .cond, n, i => { i with cond := n }
  | .sys, n, i => { i with sys := n }
def Fl.ix : Fl → Nat
  | .sub => 2
  | .rd => 3
  | .rn => 4
  | .rm => 5
  | .ra => 6
  | .imm => 7
  | .imm2 => 8
  | .amount => 9
  | .shift => 10
  | .cond => 11
  | .sys => 12
def Bl.get : Bl → Ins → Bool
  | .flags, i => i.flags
  | .minus, i => i.minus
  | .not, i => i.not
  | .link, i => i.link
def Bl.set : Bl → Bool → Ins → Ins
  | .flags, n, i => { i with flags := n }
  | .minus, n, i => { i with minus := n }
  | .not, n, i => { i with not := n }
  | .link, n, i => { i with link := n }
def Bl.ix : Bl → Nat
  | .flags => 13
  | .minus => 14
  | .not => 15
  | .link => 16
def pairS (s : St) (lay : Bool) : Array Value := #[.int .u32 s.1, .int .i64 s.2.op, .int .i64 s.2.sub, .int .i64 s.2.rd, .int .i64 s.2.rn, .int .i64 s.2.rm, .int .i64 s.2.ra, .int .i64 s.2.imm, .int .i64 s.2.imm2, .int .i64 s.2.amount, .int .i64 s.2.shift, .int .i64 s.2.cond, .int .i64 s.2.sys, .bool s.2.flags, .bool s.2.minus, .bool s.2.not, .bool s.2.link, .bool lay]
theorem pair_0 (s : St) (lay : Bool) : (pairS s lay)[0]? = some (.int .u32 s.1) := rfl
theorem pair_17 (s : St) (lay : Bool) : (pairS s lay)[17]? = some (.bool lay) := rfl
theorem pair_f (k : Fl) (s : St) (lay : Bool) : (pairS s lay)[k.ix]? = some (.int .i64 (k.get s.2)) := by cases k <;> rfl
theorem pair_b (k : Bl) (s : St) (lay : Bool) : (pairS s lay)[k.ix]? = some (.bool (k.get s.2)) := by cases k <;> rfl
theorem pair_s0 (s : St) (lay : Bool) (W : Int) : (pairS s lay).setIfInBounds 0 (.int .u32 W) = pairS (W, s.2) lay := rfl
theorem pair_sf (k : Fl) (s : St) (lay : Bool) (n : Int) : (pairS s lay).setIfInBounds k.ix (.int .i64 n) = pairS (s.1, k.set n s.2) lay := by cases k <;> rfl
theorem pair_sb (k : Bl) (s : St) (lay : Bool) (n : Bool) : (pairS s lay).setIfInBounds k.ix (.bool n) = pairS (s.1, k.set n s.2) lay := by cases k <;> rfl

def I64 (n : Int) : Prop := -9223372036854775808 ≤ n ∧ n < 9223372036854775808
structure Ok (s : St) : Prop where
  w : W32 s.1
  f : ∀ k : Fl, I64 (k.get s.2)
theorem ok_word {s : St} (h : Ok s) {W : Int} (hW : W32 W) : Ok (W, s.2) := ⟨hW, h.f⟩
theorem ok_set {s : St} (h : Ok s) (k : Fl) {n : Int} (hn : I64 n) : Ok (s.1, k.set n s.2) := by
  refine ⟨h.w, fun j => ?_⟩
  have hj := h.f j
  cases k <;> cases j <;> first | exact hn | exact hj
theorem ok_setB {s : St} (h : Ok s) (k : Bl) (n : Bool) : Ok (s.1, k.set n s.2) := by
  refine ⟨h.w, fun j => ?_⟩
  have hj := h.f j
  cases k <;> cases j <;> exact hj
theorem wrap_i64 {n : Int} (h : I64 n) : wrap64 n = n := by
  obtain ⟨h0, h1⟩ := h
  unfold wrap64; omega
theorem tdiv_in {n u : Int} (h : I64 n) (hu : 1 ≤ u) : I64 (n.tdiv u) := by
  obtain ⟨h0, h1⟩ := h
  have h2 := Int.natAbs_tdiv_le_natAbs n u
  by_cases hn : 0 ≤ n
  · have := Int.tdiv_nonneg hn (show 0 ≤ u by omega)
    exact ⟨by omega, by omega⟩
  · have h3 := Int.tdiv_nonneg (show 0 ≤ -n by omega) (show 0 ≤ u by omega)
    rw [Int.neg_tdiv] at h3
    exact ⟨by omega, by omega⟩
theorem mul_in {g u : Int} (h : W32 g) (h1 : 1 ≤ u) (h2 : u ≤ 4096) : I64 (g * u) := by
  obtain ⟨g0, g1⟩ := h
  have a := Int.mul_nonneg g0 (show 0 ≤ u by omega)
  have b := Int.mul_le_mul (show g ≤ 4294967296 by omega) h2 (by omega) (by omega)
  exact ⟨by omega, by omega⟩

abbrev Tr := Bool → St → St
def numT (k : Fl) (u a m : Int) : Tr := fun lay s => (numW lay s.1 (k.get s.2) u a m, k.set (numG lay s.1 (k.get s.2) u a m) s.2)
def sgnT (k : Bl) (a : Int) : Tr := fun lay s => (crossW lay s.1 (boolI (k.get s.2)) a 1, k.set (crossG lay s.1 (boolI (k.get s.2)) a 1 == 1) s.2)
def thenT (f g : Tr) : Tr := fun lay s => g lay (f lay s)
def OkT (f : Tr) : Prop := ∀ lay s, Ok s → Ok (f lay s)
theorem ok_then {f g : Tr} (hf : OkT f) (hg : OkT g) : OkT (thenT f g) := fun lay s h => hg lay _ (hf lay s h)
theorem ok_num (k : Fl) (u a m : Int) (h1 : 1 ≤ u) (h2 : u ≤ 4096) : OkT (numT k u a m) := fun _ _ h =>
  ok_set (ok_word h (cross_lt h.w)) k (mul_in (got_lt h.w) h1 h2)
theorem ok_sgn (k : Bl) (a : Int) : OkT (sgnT k a) := fun _ _ h => ok_setB (ok_word h (cross_lt h.w)) k _

theorem number_t (k : Fl) (u a m : Int) (h1 : 1 ≤ u) (h2 : u ≤ 4096) (b : Nat) (s : St) (lay : Bool) (h : Ok s) (w : World) (hp : w.heap[b]? = some (.cells (pairS s lay) 52)) :
    Calls Try.prog 63 #[.pointer (some ⟨b, 0, none⟩), .pointer (some ⟨b, k.ix, none⟩), .int .i64 u, .int .i64 a, .int .i64 m] w fun e w' => e = .returned (.tuple #[]) ∧ Pr w b (pairS (numT k u a m lay s) lay) w' := by
  have := number_c b (pairS s lay) s.1 lay k.ix (k.get s.2) u a m (by cases k <;> decide) (pair_0 s lay) (pair_17 s lay) (pair_f k s lay) h.w h1 h2 (wrap_i64 (tdiv_in (h.f k) h1)) (wrap_i64 (mul_in (got_lt h.w) h1 h2)) w hp
  rw [pair_s0, pair_sf k] at this
  exact this
theorem register_t (k : Fl) (a : Int) (b : Nat) (s : St) (lay : Bool) (h : Ok s) (w : World) (hp : w.heap[b]? = some (.cells (pairS s lay) 52)) :
    Calls Try.prog 69 #[.pointer (some ⟨b, 0, none⟩), .pointer (some ⟨b, k.ix, none⟩), .int .i64 a] w fun e w' => e = .returned (.tuple #[]) ∧ Pr w b (pairS (numT k 1 a 5 lay s) lay) w' := by
  have := register_c b (pairS s lay) s.1 lay k.ix (k.get s.2) a (by cases k <;> decide) (pair_0 s lay) (pair_17 s lay) (pair_f k s lay) h.w (wrap_i64 (tdiv_in (h.f k) (by decide))) (wrap_i64 (mul_in (got_lt h.w) (by decide) (by decide))) w hp
  rw [pair_s0, pair_sf k] at this
  exact this
theorem sign_t (k : Bl) (a : Int) (b : Nat) (s : St) (lay : Bool) (h : Ok s) (w : World) (hp : w.heap[b]? = some (.cells (pairS s lay) 52)) :
    Calls Try.prog 66 #[.pointer (some ⟨b, 0, none⟩), .pointer (some ⟨b, k.ix, none⟩), .int .i64 a] w fun e w' => e = .returned (.tuple #[]) ∧ Pr w b (pairS (sgnT k a lay s) lay) w' := by
  have := sign_c b (pairS s lay) s.1 lay k.ix (k.get s.2) a (by cases k <;> decide) (pair_0 s lay) (pair_17 s lay) (pair_b k s lay) h.w w hp
  rw [pair_s0, pair_sb k] at this
  exact this
/-- What a function makes of a pair. -/
def FC (f : Nat) (t : Tr) : Prop := ∀ (b : Nat) (s : St) (lay : Bool) (w : World), Ok s → w.heap[b]? = some (.cells (pairS s lay) 52) →
  Calls Try.prog f #[.pointer (some ⟨b, 0, none⟩)] w fun e w' => e = .returned (.tuple #[]) ∧ Pr w b (pairS (t lay s) lay) w'
def rdT : Tr := numT .rd 1 0 5
theorem rd_ok : OkT rdT := ok_num .rd 1 0 5 (by decide) (by decide)
set_option maxHeartbeats 1000000 in
theorem rd_c : FC 47 rdT := by
  intro b s lay w O hp
  have H := pr_start hp
  go_enter Try.func47, Try.ntmps47
  go_wp2_with (go_at_call 69; refine (register_t .rd 0 b _ lay O _ H.row).mono ?_; rintro e w1 ⟨rfl, H1⟩; replace H := H.then H1; replace O := (ok_num .rd 1 0 5 (by decide) (by decide)) lay _ O; clear H1; dsimp only)
  go_end0
  exact ⟨rfl, H⟩
def rdRnT : Tr := thenT (numT .rn 1 5 5) (rdT)
theorem rdRn_ok : OkT rdRnT := ok_then (ok_num .rn 1 5 5 (by decide) (by decide)) (rd_ok)
set_option maxHeartbeats 1000000 in
theorem rdRn_c : FC 42 rdRnT := by
  intro b s lay w O hp
  have H := pr_start hp
  go_enter Try.func42, Try.ntmps42
  go_upto_region 1 with (go_at_call 69; refine (register_t .rn 5 b _ lay O _ H.row).mono ?_; rintro e w1 ⟨rfl, H1⟩; replace H := H.then H1; replace O := (ok_num .rn 1 5 5 (by decide) (by decide)) lay _ O; clear H1; dsimp only)
  go_wp2_with (go_at_call 47; refine (rd_c b _ lay _ O H.row).mono ?_; rintro e w1 ⟨rfl, H1⟩; replace H := H.then H1; replace O := rd_ok lay _ O; clear H1; dsimp only)
  go_end0
  exact ⟨rfl, H⟩
def rdRnRmT : Tr := thenT (numT .rm 1 16 5) (rdRnT)
theorem rdRnRm_ok : OkT rdRnRmT := ok_then (ok_num .rm 1 16 5 (by decide) (by decide)) (rdRn_ok)
set_option maxHeartbeats 1000000 in
theorem rdRnRm_c : FC 68 rdRnRmT := by
  intro b s lay w O hp
  have H := pr_start hp
  go_enter Try.func68, Try.ntmps68
  go_upto_region 1 with (go_at_call 69; refine (register_t .rm 16 b _ lay O _ H.row).mono ?_; rintro e w1 ⟨rfl, H1⟩; replace H := H.then H1; replace O := (ok_num .rm 1 16 5 (by decide) (by decide)) lay _ O; clear H1; dsimp only)
  go_wp2_with (go_at_call 42; refine (rdRn_c b _ lay _ O H.row).mono ?_; rintro e w1 ⟨rfl, H1⟩; replace H := H.then H1; replace O := rdRn_ok lay _ O; clear H1; dsimp only)
  go_end0
  exact ⟨rfl, H⟩
def sumT : Tr := thenT (sgnT .minus 30) (sgnT .flags 29)
theorem sum_ok : OkT sumT := ok_then (ok_sgn .minus 30) (ok_sgn .flags 29)
set_option maxHeartbeats 1000000 in
theorem sum_c : FC 62 sumT := by
  intro b s lay w O hp
  have H := pr_start hp
  go_enter Try.func62, Try.ntmps62
  go_upto_region 1 with (go_at_call 66; refine (sign_t .minus 30 b _ lay O _ H.row).mono ?_; rintro e w1 ⟨rfl, H1⟩; replace H := H.then H1; replace O := (ok_sgn .minus 30) lay _ O; clear H1; dsimp only)
  go_wp2_with (go_at_call 66; refine (sign_t .flags 29 b _ lay O _ H.row).mono ?_; rintro e w1 ⟨rfl, H1⟩; replace H := H.then H1; replace O := (ok_sgn .flags 29) lay _ O; clear H1; dsimp only)
  go_end0
  exact ⟨rfl, H⟩
def shiftedT : Tr := thenT (numT .shift 1 22 2) (thenT (numT .amount 1 10 6) (rdRnRmT))
theorem shifted_ok : OkT shiftedT := ok_then (ok_num .shift 1 22 2 (by decide) (by decide)) (ok_then (ok_num .amount 1 10 6 (by decide) (by decide)) (rdRnRm_ok))
set_option maxHeartbeats 1000000 in
theorem shifted_c : FC 64 shiftedT := by
  intro b s lay w O hp
  have H := pr_start hp
  go_enter Try.func64, Try.ntmps64
  go_upto_region 1 with (go_at_call 63; refine (number_t .shift 1 22 2 (by decide) (by decide) b _ lay O _ H.row).mono ?_; rintro e w1 ⟨rfl, H1⟩; replace H := H.then H1; replace O := (ok_num .shift 1 22 2 (by decide) (by decide)) lay _ O; clear H1; dsimp only)
  go_upto_region 2 with (go_at_call 63; refine (number_t .amount 1 10 6 (by decide) (by decide) b _ lay O _ H.row).mono ?_; rintro e w1 ⟨rfl, H1⟩; replace H := H.then H1; replace O := (ok_num .amount 1 10 6 (by decide) (by decide)) lay _ O; clear H1; dsimp only)
  go_wp2_with (go_at_call 68; refine (rdRnRm_c b _ lay _ O H.row).mono ?_; rintro e w1 ⟨rfl, H1⟩; replace H := H.then H1; replace O := rdRnRm_ok lay _ O; clear H1; dsimp only)
  go_end0
  exact ⟨rfl, H⟩
def boundsT : Tr := thenT (numT .imm 1 16 6) (thenT (numT .imm2 1 10 6) (rdRnT))
theorem bounds_ok : OkT boundsT := ok_then (ok_num .imm 1 16 6 (by decide) (by decide)) (ok_then (ok_num .imm2 1 10 6 (by decide) (by decide)) (rdRn_ok))
set_option maxHeartbeats 1000000 in
theorem bounds_c : FC 67 boundsT := by
  intro b s lay w O hp
  have H := pr_start hp
  go_enter Try.func67, Try.ntmps67
  go_upto_region 1 with (go_at_call 63; refine (number_t .imm 1 16 6 (by decide) (by decide) b _ lay O _ H.row).mono ?_; rintro e w1 ⟨rfl, H1⟩; replace H := H.then H1; replace O := (ok_num .imm 1 16 6 (by decide) (by decide)) lay _ O; clear H1; dsimp only)
  go_upto_region 2 with (go_at_call 63; refine (number_t .imm2 1 10 6 (by decide) (by decide) b _ lay O _ H.row).mono ?_; rintro e w1 ⟨rfl, H1⟩; replace H := H.then H1; replace O := (ok_num .imm2 1 10 6 (by decide) (by decide)) lay _ O; clear H1; dsimp only)
  go_wp2_with (go_at_call 42; refine (rdRn_c b _ lay _ O H.row).mono ?_; rintro e w1 ⟨rfl, H1⟩; replace H := H.then H1; replace O := rdRn_ok lay _ O; clear H1; dsimp only)
  go_end0
  exact ⟨rfl, H⟩
def addImmT : Tr := thenT (sumT) (thenT (numT .amount 12 22 1) (thenT (numT .imm 1 10 12) (rdRnT)))
theorem addImm_ok : OkT addImmT := ok_then (sum_ok) (ok_then (ok_num .amount 12 22 1 (by decide) (by decide)) (ok_then (ok_num .imm 1 10 12 (by decide) (by decide)) (rdRn_ok)))
set_option maxHeartbeats 1000000 in
theorem addImm_c : FC 24 addImmT := by
  intro b s lay w O hp
  have H := pr_start hp
  go_enter Try.func24, Try.ntmps24
  go_upto_region 1 with (go_at_call 62; refine (sum_c b _ lay _ O H.row).mono ?_; rintro e w1 ⟨rfl, H1⟩; replace H := H.then H1; replace O := sum_ok lay _ O; clear H1; dsimp only)
  go_upto_region 2 with (go_at_call 63; refine (number_t .amount 12 22 1 (by decide) (by decide) b _ lay O _ H.row).mono ?_; rintro e w1 ⟨rfl, H1⟩; replace H := H.then H1; replace O := (ok_num .amount 12 22 1 (by decide) (by decide)) lay _ O; clear H1; dsimp only)
  go_upto_region 3 with (go_at_call 63; refine (number_t .imm 1 10 12 (by decide) (by decide) b _ lay O _ H.row).mono ?_; rintro e w1 ⟨rfl, H1⟩; replace H := H.then H1; replace O := (ok_num .imm 1 10 12 (by decide) (by decide)) lay _ O; clear H1; dsimp only)
  go_wp2_with (go_at_call 42; refine (rdRn_c b _ lay _ O H.row).mono ?_; rintro e w1 ⟨rfl, H1⟩; replace H := H.then H1; replace O := rdRn_ok lay _ O; clear H1; dsimp only)
  go_end0
  exact ⟨rfl, H⟩
def addRegT : Tr := thenT (sumT) (shiftedT)
theorem addReg_ok : OkT addRegT := ok_then (sum_ok) (shifted_ok)
set_option maxHeartbeats 1000000 in
theorem addReg_c : FC 25 addRegT := by
  intro b s lay w O hp
  have H := pr_start hp
  go_enter Try.func25, Try.ntmps25
  go_upto_region 1 with (go_at_call 62; refine (sum_c b _ lay _ O H.row).mono ?_; rintro e w1 ⟨rfl, H1⟩; replace H := H.then H1; replace O := sum_ok lay _ O; clear H1; dsimp only)
  go_wp2_with (go_at_call 64; refine (shifted_c b _ lay _ O H.row).mono ?_; rintro e w1 ⟨rfl, H1⟩; replace H := H.then H1; replace O := shifted_ok lay _ O; clear H1; dsimp only)
  go_end0
  exact ⟨rfl, H⟩
def movWideT : Tr := thenT (numT .sub 1 29 2) (thenT (numT .amount 16 21 2) (thenT (numT .imm 1 5 16) (rdT)))
theorem movWide_ok : OkT movWideT := ok_then (ok_num .sub 1 29 2 (by decide) (by decide)) (ok_then (ok_num .amount 16 21 2 (by decide) (by decide)) (ok_then (ok_num .imm 1 5 16 (by decide) (by decide)) (rd_ok)))
set_option maxHeartbeats 1000000 in
theorem movWide_c : FC 28 movWideT := by
  intro b s lay w O hp
  have H := pr_start hp
  go_enter Try.func28, Try.ntmps28
  go_upto_region 1 with (go_at_call 63; refine (number_t .sub 1 29 2 (by decide) (by decide) b _ lay O _ H.row).mono ?_; rintro e w1 ⟨rfl, H1⟩; replace H := H.then H1; replace O := (ok_num .sub 1 29 2 (by decide) (by decide)) lay _ O; clear H1; dsimp only)
  go_upto_region 2 with (go_at_call 63; refine (number_t .amount 16 21 2 (by decide) (by decide) b _ lay O _ H.row).mono ?_; rintro e w1 ⟨rfl, H1⟩; replace H := H.then H1; replace O := (ok_num .amount 16 21 2 (by decide) (by decide)) lay _ O; clear H1; dsimp only)
  go_upto_region 3 with (go_at_call 63; refine (number_t .imm 1 5 16 (by decide) (by decide) b _ lay O _ H.row).mono ?_; rintro e w1 ⟨rfl, H1⟩; replace H := H.then H1; replace O := (ok_num .imm 1 5 16 (by decide) (by decide)) lay _ O; clear H1; dsimp only)
  go_wp2_with (go_at_call 47; refine (rd_c b _ lay _ O H.row).mono ?_; rintro e w1 ⟨rfl, H1⟩; replace H := H.then H1; replace O := rd_ok lay _ O; clear H1; dsimp only)
  go_end0
  exact ⟨rfl, H⟩
def bitfieldT : Tr := thenT (numT .sub 1 29 2) (boundsT)
theorem bitfield_ok : OkT bitfieldT := ok_then (ok_num .sub 1 29 2 (by decide) (by decide)) (bounds_ok)
set_option maxHeartbeats 1000000 in
theorem bitfield_c : FC 29 bitfieldT := by
  intro b s lay w O hp
  have H := pr_start hp
  go_enter Try.func29, Try.ntmps29
  go_upto_region 1 with (go_at_call 63; refine (number_t .sub 1 29 2 (by decide) (by decide) b _ lay O _ H.row).mono ?_; rintro e w1 ⟨rfl, H1⟩; replace H := H.then H1; replace O := (ok_num .sub 1 29 2 (by decide) (by decide)) lay _ O; clear H1; dsimp only)
  go_wp2_with (go_at_call 67; refine (bounds_c b _ lay _ O H.row).mono ?_; rintro e w1 ⟨rfl, H1⟩; replace H := H.then H1; replace O := bounds_ok lay _ O; clear H1; dsimp only)
  go_end0
  exact ⟨rfl, H⟩
def shiftRegT : Tr := thenT (numT .sub 1 10 2) (rdRnRmT)
theorem shiftReg_ok : OkT shiftRegT := ok_then (ok_num .sub 1 10 2 (by decide) (by decide)) (rdRnRm_ok)
set_option maxHeartbeats 1000000 in
theorem shiftReg_c : FC 30 shiftRegT := by
  intro b s lay w O hp
  have H := pr_start hp
  go_enter Try.func30, Try.ntmps30
  go_upto_region 1 with (go_at_call 63; refine (number_t .sub 1 10 2 (by decide) (by decide) b _ lay O _ H.row).mono ?_; rintro e w1 ⟨rfl, H1⟩; replace H := H.then H1; replace O := (ok_num .sub 1 10 2 (by decide) (by decide)) lay _ O; clear H1; dsimp only)
  go_wp2_with (go_at_call 68; refine (rdRnRm_c b _ lay _ O H.row).mono ?_; rintro e w1 ⟨rfl, H1⟩; replace H := H.then H1; replace O := rdRnRm_ok lay _ O; clear H1; dsimp only)
  go_end0
  exact ⟨rfl, H⟩
def mulT : Tr := thenT (sgnT .minus 15) (thenT (numT .ra 1 10 5) (rdRnRmT))
theorem mul_ok : OkT mulT := ok_then (ok_sgn .minus 15) (ok_then (ok_num .ra 1 10 5 (by decide) (by decide)) (rdRnRm_ok))
set_option maxHeartbeats 1000000 in
theorem mul_c : FC 31 mulT := by
  intro b s lay w O hp
  have H := pr_start hp
  go_enter Try.func31, Try.ntmps31
  go_upto_region 1 with (go_at_call 66; refine (sign_t .minus 15 b _ lay O _ H.row).mono ?_; rintro e w1 ⟨rfl, H1⟩; replace H := H.then H1; replace O := (ok_sgn .minus 15) lay _ O; clear H1; dsimp only)
  go_upto_region 2 with (go_at_call 69; refine (register_t .ra 10 b _ lay O _ H.row).mono ?_; rintro e w1 ⟨rfl, H1⟩; replace H := H.then H1; replace O := (ok_num .ra 1 10 5 (by decide) (by decide)) lay _ O; clear H1; dsimp only)
  go_wp2_with (go_at_call 68; refine (rdRnRm_c b _ lay _ O H.row).mono ?_; rintro e w1 ⟨rfl, H1⟩; replace H := H.then H1; replace O := rdRnRm_ok lay _ O; clear H1; dsimp only)
  go_end0
  exact ⟨rfl, H⟩
def divT : Tr := thenT (numT .sub 1 10 1) (rdRnRmT)
theorem div_ok : OkT divT := ok_then (ok_num .sub 1 10 1 (by decide) (by decide)) (rdRnRm_ok)
set_option maxHeartbeats 1000000 in
theorem div_c : FC 32 divT := by
  intro b s lay w O hp
  have H := pr_start hp
  go_enter Try.func32, Try.ntmps32
  go_upto_region 1 with (go_at_call 63; refine (number_t .sub 1 10 1 (by decide) (by decide) b _ lay O _ H.row).mono ?_; rintro e w1 ⟨rfl, H1⟩; replace H := H.then H1; replace O := (ok_num .sub 1 10 1 (by decide) (by decide)) lay _ O; clear H1; dsimp only)
  go_wp2_with (go_at_call 68; refine (rdRnRm_c b _ lay _ O H.row).mono ?_; rintro e w1 ⟨rfl, H1⟩; replace H := H.then H1; replace O := rdRnRm_ok lay _ O; clear H1; dsimp only)
  go_end0
  exact ⟨rfl, H⟩
def brT : Tr := thenT (numT .sub 1 21 2) (numT .rn 1 5 5)
theorem br_ok : OkT brT := ok_then (ok_num .sub 1 21 2 (by decide) (by decide)) (ok_num .rn 1 5 5 (by decide) (by decide))
set_option maxHeartbeats 1000000 in
theorem br_c : FC 39 brT := by
  intro b s lay w O hp
  have H := pr_start hp
  go_enter Try.func39, Try.ntmps39
  go_upto_region 1 with (go_at_call 63; refine (number_t .sub 1 21 2 (by decide) (by decide) b _ lay O _ H.row).mono ?_; rintro e w1 ⟨rfl, H1⟩; replace H := H.then H1; replace O := (ok_num .sub 1 21 2 (by decide) (by decide)) lay _ O; clear H1; dsimp only)
  go_wp2_with (go_at_call 69; refine (register_t .rn 5 b _ lay O _ H.row).mono ?_; rintro e w1 ⟨rfl, H1⟩; replace H := H.then H1; replace O := (ok_num .rn 1 5 5 (by decide) (by decide)) lay _ O; clear H1; dsimp only)
  go_end0
  exact ⟨rfl, H⟩
def atImmT : Tr := thenT (numT .imm 8 10 12) (rdRnT)
theorem atImm_ok : OkT atImmT := ok_then (ok_num .imm 8 10 12 (by decide) (by decide)) (rdRn_ok)
set_option maxHeartbeats 1000000 in
theorem atImm_c : FC 40 atImmT := by
  intro b s lay w O hp
  have H := pr_start hp
  go_enter Try.func40, Try.ntmps40
  go_upto_region 1 with (go_at_call 63; refine (number_t .imm 8 10 12 (by decide) (by decide) b _ lay O _ H.row).mono ?_; rintro e w1 ⟨rfl, H1⟩; replace H := H.then H1; replace O := (ok_num .imm 8 10 12 (by decide) (by decide)) lay _ O; clear H1; dsimp only)
  go_wp2_with (go_at_call 42; refine (rdRn_c b _ lay _ O H.row).mono ?_; rintro e w1 ⟨rfl, H1⟩; replace H := H.then H1; replace O := rdRn_ok lay _ O; clear H1; dsimp only)
  go_end0
  exact ⟨rfl, H⟩
def atRegT : Tr := thenT (numT .amount 3 12 1) (rdRnRmT)
theorem atReg_ok : OkT atRegT := ok_then (ok_num .amount 3 12 1 (by decide) (by decide)) (rdRnRm_ok)
set_option maxHeartbeats 1000000 in
theorem atReg_c : FC 41 atRegT := by
  intro b s lay w O hp
  have H := pr_start hp
  go_enter Try.func41, Try.ntmps41
  go_upto_region 1 with (go_at_call 63; refine (number_t .amount 3 12 1 (by decide) (by decide) b _ lay O _ H.row).mono ?_; rintro e w1 ⟨rfl, H1⟩; replace H := H.then H1; replace O := (ok_num .amount 3 12 1 (by decide) (by decide)) lay _ O; clear H1; dsimp only)
  go_wp2_with (go_at_call 68; refine (rdRnRm_c b _ lay _ O H.row).mono ?_; rintro e w1 ⟨rfl, H1⟩; replace H := H.then H1; replace O := rdRnRm_ok lay _ O; clear H1; dsimp only)
  go_end0
  exact ⟨rfl, H⟩
def ldxrT : Tr := thenT (numT .sub 1 15 1) (rdRnT)
theorem ldxr_ok : OkT ldxrT := ok_then (ok_num .sub 1 15 1 (by decide) (by decide)) (rdRn_ok)
set_option maxHeartbeats 1000000 in
theorem ldxr_c : FC 43 ldxrT := by
  intro b s lay w O hp
  have H := pr_start hp
  go_enter Try.func43, Try.ntmps43
  go_upto_region 1 with (go_at_call 63; refine (number_t .sub 1 15 1 (by decide) (by decide) b _ lay O _ H.row).mono ?_; rintro e w1 ⟨rfl, H1⟩; replace H := H.then H1; replace O := (ok_num .sub 1 15 1 (by decide) (by decide)) lay _ O; clear H1; dsimp only)
  go_wp2_with (go_at_call 42; refine (rdRn_c b _ lay _ O H.row).mono ?_; rintro e w1 ⟨rfl, H1⟩; replace H := H.then H1; replace O := rdRn_ok lay _ O; clear H1; dsimp only)
  go_end0
  exact ⟨rfl, H⟩
def stxrT : Tr := thenT (numT .sub 1 15 1) (rdRnRmT)
theorem stxr_ok : OkT stxrT := ok_then (ok_num .sub 1 15 1 (by decide) (by decide)) (rdRnRm_ok)
set_option maxHeartbeats 1000000 in
theorem stxr_c : FC 44 stxrT := by
  intro b s lay w O hp
  have H := pr_start hp
  go_enter Try.func44, Try.ntmps44
  go_upto_region 1 with (go_at_call 63; refine (number_t .sub 1 15 1 (by decide) (by decide) b _ lay O _ H.row).mono ?_; rintro e w1 ⟨rfl, H1⟩; replace H := H.then H1; replace O := (ok_num .sub 1 15 1 (by decide) (by decide)) lay _ O; clear H1; dsimp only)
  go_wp2_with (go_at_call 68; refine (rdRnRm_c b _ lay _ O H.row).mono ?_; rintro e w1 ⟨rfl, H1⟩; replace H := H.then H1; replace O := rdRnRm_ok lay _ O; clear H1; dsimp only)
  go_end0
  exact ⟨rfl, H⟩
def dmbT : Tr := numT .imm 1 8 2
theorem dmb_ok : OkT dmbT := ok_num .imm 1 8 2 (by decide) (by decide)
set_option maxHeartbeats 1000000 in
theorem dmb_c : FC 46 dmbT := by
  intro b s lay w O hp
  have H := pr_start hp
  go_enter Try.func46, Try.ntmps46
  go_wp2_with (go_at_call 63; refine (number_t .imm 1 8 2 (by decide) (by decide) b _ lay O _ H.row).mono ?_; rintro e w1 ⟨rfl, H1⟩; replace H := H.then H1; replace O := (ok_num .imm 1 8 2 (by decide) (by decide)) lay _ O; clear H1; dsimp only)
  go_end0
  exact ⟨rfl, H⟩
def systemT : Tr := thenT (numT .sys 1 5 15) (rdT)
theorem system_ok : OkT systemT := ok_then (ok_num .sys 1 5 15 (by decide) (by decide)) (rd_ok)
set_option maxHeartbeats 1000000 in
theorem system_c : FC 48 systemT := by
  intro b s lay w O hp
  have H := pr_start hp
  go_enter Try.func48, Try.ntmps48
  go_upto_region 1 with (go_at_call 63; refine (number_t .sys 1 5 15 (by decide) (by decide) b _ lay O _ H.row).mono ?_; rintro e w1 ⟨rfl, H1⟩; replace H := H.then H1; replace O := (ok_num .sys 1 5 15 (by decide) (by decide)) lay _ O; clear H1; dsimp only)
  go_wp2_with (go_at_call 47; refine (rd_c b _ lay _ O H.row).mono ?_; rintro e w1 ⟨rfl, H1⟩; replace H := H.then H1; replace O := rd_ok lay _ O; clear H1; dsimp only)
  go_end0
  exact ⟨rfl, H⟩
def msrMaskT : Tr := numT .imm 1 8 4
theorem msrMask_ok : OkT msrMaskT := ok_num .imm 1 8 4 (by decide) (by decide)
set_option maxHeartbeats 1000000 in
theorem msrMask_c : FC 49 msrMaskT := by
  intro b s lay w O hp
  have H := pr_start hp
  go_enter Try.func49, Try.ntmps49
  go_wp2_with (go_at_call 63; refine (number_t .imm 1 8 4 (by decide) (by decide) b _ lay O _ H.row).mono ?_; rintro e w1 ⟨rfl, H1⟩; replace H := H.then H1; replace O := (ok_num .imm 1 8 4 (by decide) (by decide)) lay _ O; clear H1; dsimp only)
  go_end0
  exact ⟨rfl, H⟩
def callT : Tr := numT .imm 1 5 16
theorem call_ok : OkT callT := ok_num .imm 1 5 16 (by decide) (by decide)
set_option maxHeartbeats 1000000 in
theorem call_c : FC 50 callT := by
  intro b s lay w O hp
  have H := pr_start hp
  go_enter Try.func50, Try.ntmps50
  go_wp2_with (go_at_call 63; refine (number_t .imm 1 5 16 (by decide) (by decide) b _ lay O _ H.row).mono ?_; rintro e w1 ⟨rfl, H1⟩; replace H := H.then H1; replace O := (ok_num .imm 1 5 16 (by decide) (by decide)) lay _ O; clear H1; dsimp only)
  go_end0
  exact ⟨rfl, H⟩
def hintT : Tr := numT .imm 1 5 3
theorem hint_ok : OkT hintT := ok_num .imm 1 5 3 (by decide) (by decide)
set_option maxHeartbeats 1000000 in
theorem hint_c : FC 51 hintT := by
  intro b s lay w O hp
  have H := pr_start hp
  go_enter Try.func51, Try.ntmps51
  go_wp2_with (go_at_call 63; refine (number_t .imm 1 5 3 (by decide) (by decide) b _ lay O _ H.row).mono ?_; rintro e w1 ⟨rfl, H1⟩; replace H := H.then H1; replace O := (ok_num .imm 1 5 3 (by decide) (by decide)) lay _ O; clear H1; dsimp only)
  go_end0
  exact ⟨rfl, H⟩
end Go.Proofs.Ytcmilajlngnibaa
