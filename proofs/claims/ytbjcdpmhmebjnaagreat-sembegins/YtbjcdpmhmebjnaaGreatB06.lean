/- The fields of a form, crossed one by one: states, and the contracts of the functions of package code that cross them. -/
import Derived.Test.YtbjcdpmhmebjnaaGreatB05
import Derived.Deep.RegionHeld3
import Derived.Deep.MidRow
import Derived.Laws.ResultCell
import Derived.Test.YtbjcdpmhmebjnaaGreatB02
import Derived.Test.YtbjcdpmhmebjnaaGreatB03
import Derived.BigQuiet
namespace Go.Proofs.YtbjcdpmhmebjnaaGreat
open Go.RowKit

abbrev St := Int × Ins
inductive Fl | sub | rd | rn | rm | ra | imm | imm2 | amount | shift | cond | sys
inductive Bl | flags | minus | not | link
def Fl.get : Fl → Ins → Int
  | .sub, i => i.sub
  | .rd, i => i.rd
  | .rn, i => i.rn
  | .rm, i => i.rm
  | .ra, i => i.ra
  | .imm, i => i.imm
  | .imm2, i => i.imm2
  | .amount, i => i.amount
  | .shift, i => i.shift
  | .cond, i => i.cond
  | .sys, i => i.sys
def Fl.set : Fl → Int → Ins → Ins
  | .sub, n, i => { i with sub := n }
  | .rd, n, i => { i with rd := n }
  | .rn, n, i => { i with rn := n }
  | .rm, n, i => { i with rm := n }
  | .ra, n, i => { i with ra := n }
  | .imm, n, i => { i with imm := n }
  | .imm2, n, i => { i with imm2 := n }
  | .amount, n, i => { i with amount := n }
  | .shift, n, i => { i with shift := n }
  | .cond, n, i => { i with cond := n }
  | .sys, n, i => { i with sys := n }
def Fl.ix : Fl → Nat
  | .sub => 2
  | .rd => 3
  | .rn => 4
  | .rm => 5
  | .ra => 6
  | .imm => 7
  | .imm2 => 8
  | .amount => 9
  | .shift => 10
  | .cond => 11
  | .sys => 12
def Bl.get : Bl → Ins → Bool
  | .flags, i => i.flags
  | .minus, i => i.minus
  | .not, i => i.not
  | .link, i => i.link
def Bl.set : Bl → Bool → Ins → Ins
  | .flags, n, i => { i with flags := n }
  | .minus, n, i => { i with minus := n }
  | .not, n, i => { i with not := n }
  | .link, n, i => { i with link := n }
def Bl.ix : Bl → Nat
  | .flags => 13
  | .minus => 14
  | .not => 15
  | .link => 16
def pairS (s : St) (lay : Bool) : Array Value := #[.int .u32 s.1, .int .i64 s.2.op, .int .i64 s.2.sub, .int .i64 s.2.rd, .int .i64 s.2.rn, .int .i64 s.2.rm, .int .i64 s.2.ra, .int .i64 s.2.imm, .int .i64 s.2.imm2, .int .i64 s.2.amount, .int .i64 s.2.shift, .int .i64 s.2.cond, .int .i64 s.2.sys, .bool s.2.flags, .bool s.2.minus, .bool s.2.not, .bool s.2.link, .bool lay]
theorem pair_0 (s : St) (lay : Bool) : (pairS s lay)[0]? = some (.int .u32 s.1) := rfl
theorem pair_17 (s : St) (lay : Bool) : (pairS s lay)[17]? = some (.bool lay) := rfl
theorem pair_f (k : Fl) (s : St) (lay : Bool) : (pairS s lay)[k.ix]? = some (.int .i64 (k.get s.2)) := by cases k <;> rfl
theorem pair_b (k : Bl) (s : St) (lay : Bool) : (pairS s lay)[k.ix]? = some (.bool (k.get s.2)) := by cases k <;> rfl
theorem pair_s0 (s : St) (lay : Bool) (W : Int) : (pairS s lay).setIfInBounds 0 (.int .u32 W) = pairS (W, s.2) lay := rfl
theorem pair_sf (k : Fl) (s : St) (lay : Bool) (n : Int) : (pairS s lay).setIfInBounds k.ix (.int .i64 n) = pairS (s.1, k.set n s.2) lay := by cases k <;> rfl
theorem pair_sb (k : Bl) (s : St) (lay : Bool) (n : Bool) : (pairS s lay).setIfInBounds k.ix (.bool n) = pairS (s.1, k.set n s.2) lay := by cases k <;> rfl

def I64 (n : Int) : Prop := -9223372036854775808 ≤ n ∧ n < 9223372036854775808
structure Ok (s : St) : Prop where
  w : W32 s.1
  f : ∀ k : Fl, I64 (k.get s.2)
theorem ok_word {s : St} (h : Ok s) {W : Int} (hW : W32 W) : Ok (W, s.2) := ⟨hW, h.f⟩
theorem ok_set {s : St} (h : Ok s) (k : Fl) {n : Int} (hn : I64 n) : Ok (s.1, k.set n s.2) := by
  refine ⟨h.w, fun j => ?_⟩
  have hj := h.f j
  cases k <;> cases j <;> first | exact hn | exact hj
theorem ok_setB {s : St} (h : Ok s) (k : Bl) (n : Bool) : Ok (s.1, k.set n s.2) := by
  refine ⟨h.w, fun j => ?_⟩
  have hj := h.f j
  cases k <;> cases j <;> exact hj
theorem wrap_i64 {n : Int} (h : I64 n) : wrap64 n = n := by
  obtain ⟨h0, h1⟩ := h
  unfold wrap64; omega
theorem tdiv_in {n u : Int} (h : I64 n) (hu : 1 ≤ u) : I64 (n.tdiv u) := by
  obtain ⟨h0, h1⟩ := h
  have h2 := Int.natAbs_tdiv_le_natAbs n u
  by_cases hn : 0 ≤ n
  · have := Int.tdiv_nonneg hn (show 0 ≤ u by omega)
    exact ⟨by omega, by omega⟩
  · have h3 := Int.tdiv_nonneg (show 0 ≤ -n by omega) (show 0 ≤ u by omega)
    rw [Int.neg_tdiv] at h3
    exact ⟨by omega, by omega⟩
theorem mul_in {g u : Int} (h : W32 g) (h1 : 1 ≤ u) (h2 : u ≤ 4096) : I64 (g * u) := by
  obtain ⟨g0, g1⟩ := h
  have a := Int.mul_nonneg g0 (show 0 ≤ u by omega)
  have b := Int.mul_le_mul (show g ≤ 4294967296 by omega) h2 (by omega) (by omega)
  exact ⟨by omega, by omega⟩

abbrev Tr := Bool → St → St
def numT (k : Fl) (u a m : Int) : Tr := fun lay s => (numW lay s.1 (k.get s.2) u a m, k.set (numG lay s.1 (k.get s.2) u a m) s.2)
def sgnT (k : Bl) (a : Int) : Tr := fun lay s => (crossW lay s.1 (boolI (k.get s.2)) a 1, k.set (crossG lay s.1 (boolI (k.get s.2)) a 1 == 1) s.2)
def thenT (f g : Tr) : Tr := fun lay s => g lay (f lay s)
def OkT (f : Tr) : Prop := ∀ lay s, Ok s → Ok (f lay s)
theorem ok_then {f g : Tr} (hf : OkT f) (hg : OkT g) : OkT (thenT f g) := fun lay s h => hg lay _ (hf lay s h)
theorem ok_num (k : Fl) (u a m : Int) (h1 : 1 ≤ u) (h2 : u ≤ 4096) : OkT (numT k u a m) := fun _ _ h =>
  ok_set (ok_word h (cross_lt h.w)) k (mul_in (got_lt h.w) h1 h2)
theorem ok_sgn (k : Bl) (a : Int) : OkT (sgnT k a) := fun _ _ h => ok_setB (ok_word h (cross_lt h.w)) k _

theorem number_t (k : Fl) (u a m : Int) (h1 : 1 ≤ u) (h2 : u ≤ 4096) (b : Nat) (s : St) (lay : Bool) (h : Ok s) (w : World) (hp : w.heap[b]? = some (.cells (pairS s lay) 103)) :
    Calls Tryz.prog 162 #[.pointer (some ⟨b, 0, none⟩), .pointer (some ⟨b, k.ix, none⟩), .int .i64 u, .int .i64 a, .int .i64 m] w fun e w' => e = .returned (.tuple #[]) ∧ Pr w b (pairS (numT k u a m lay s) lay) w' := by
  have := number_c b (pairS s lay) s.1 lay k.ix (k.get s.2) u a m (by cases k <;> decide) (pair_0 s lay) (pair_17 s lay) (pair_f k s lay) h.w h1 h2 (wrap_i64 (tdiv_in (h.f k) h1)) (wrap_i64 (mul_in (got_lt h.w) h1 h2)) w hp
  rw [pair_s0, pair_sf k] at this
  exact this
theorem register_t (k : Fl) (a : Int) (b : Nat) (s : St) (lay : Bool) (h : Ok s) (w : World) (hp : w.heap[b]? = some (.cells (pairS s lay) 103)) :
    Calls Tryz.prog 168 #[.pointer (some ⟨b, 0, none⟩), .pointer (some ⟨b, k.ix, none⟩), .int .i64 a] w fun e w' => e = .returned (.tuple #[]) ∧ Pr w b (pairS (numT k 1 a 5 lay s) lay) w' := by
  have := register_c b (pairS s lay) s.1 lay k.ix (k.get s.2) a (by cases k <;> decide) (pair_0 s lay) (pair_17 s lay) (pair_f k s lay) h.w (wrap_i64 (tdiv_in (h.f k) (by decide))) (wrap_i64 (mul_in (got_lt h.w) (by decide) (by decide))) w hp
  rw [pair_s0, pair_sf k] at this
  exact this
theorem sign_t (k : Bl) (a : Int) (b : Nat) (s : St) (lay : Bool) (h : Ok s) (w : World) (hp : w.heap[b]? = some (.cells (pairS s lay) 103)) :
    Calls Tryz.prog 165 #[.pointer (some ⟨b, 0, none⟩), .pointer (some ⟨b, k.ix, none⟩), .int .i64 a] w fun e w' => e = .returned (.tuple #[]) ∧ Pr w b (pairS (sgnT k a lay s) lay) w' := by
  have := sign_c b (pairS s lay) s.1 lay k.ix (k.get s.2) a (by cases k <;> decide) (pair_0 s lay) (pair_17 s lay) (pair_b k s lay) h.w w hp
  rw [pair_s0, pair_sb k] at this
  exact this
/-- What a function makes of a pair. -/
def FC (f : Nat) (t : Tr) : Prop := ∀ (b : Nat) (s : St) (lay : Bool) (w : World), Ok s → w.heap[b]? = some (.cells (pairS s lay) 103) →
  Calls Tryz.prog f #[.pointer (some ⟨b, 0, none⟩)] w fun e w' => e = .returned (.tuple #[]) ∧ Pr w b (pairS (t lay s) lay) w'
def rdT : Tr := numT .rd 1 0 5
theorem rd_ok : OkT rdT := ok_num .rd 1 0 5 (by decide) (by decide)
set_option maxHeartbeats 1000000 in
theorem rd_c : FC 87 rdT := by
  intro b s lay w O hp
  have H := pr_start hp
  go_enter Tryz.func87, Tryz.ntmps87
  go_wp2_with (go_at_call 168; refine (register_t .rd 0 b _ lay O _ H.row).mono ?_; rintro e w1 ⟨rfl, H1⟩; replace H := H.then H1; replace O := (ok_num .rd 1 0 5 (by decide) (by decide)) lay _ O; clear H1; dsimp only)
  go_end0
  exact ⟨rfl, H⟩
def rdRnT : Tr := thenT (numT .rn 1 5 5) (rdT)
theorem rdRn_ok : OkT rdRnT := ok_then (ok_num .rn 1 5 5 (by decide) (by decide)) (rd_ok)
set_option maxHeartbeats 1000000 in
theorem rdRn_c : FC 82 rdRnT := by
  intro b s lay w O hp
  have H := pr_start hp
  go_enter Tryz.func82, Tryz.ntmps82
  go_upto_region 1 with (go_at_call 168; refine (register_t .rn 5 b _ lay O _ H.row).mono ?_; rintro e w1 ⟨rfl, H1⟩; replace H := H.then H1; replace O := (ok_num .rn 1 5 5 (by decide) (by decide)) lay _ O; clear H1; dsimp only)
  go_wp2_with (go_at_call 87; refine (rd_c b _ lay _ O H.row).mono ?_; rintro e w1 ⟨rfl, H1⟩; replace H := H.then H1; replace O := rd_ok lay _ O; clear H1; dsimp only)
  go_end0
  exact ⟨rfl, H⟩
def rdRnRmT : Tr := thenT (numT .rm 1 16 5) (rdRnT)
theorem rdRnRm_ok : OkT rdRnRmT := ok_then (ok_num .rm 1 16 5 (by decide) (by decide)) (rdRn_ok)
set_option maxHeartbeats 1000000 in
theorem rdRnRm_c : FC 167 rdRnRmT := by
  intro b s lay w O hp
  have H := pr_start hp
  go_enter Tryz.func167, Tryz.ntmps167
  go_upto_region 1 with (go_at_call 168; refine (register_t .rm 16 b _ lay O _ H.row).mono ?_; rintro e w1 ⟨rfl, H1⟩; replace H := H.then H1; replace O := (ok_num .rm 1 16 5 (by decide) (by decide)) lay _ O; clear H1; dsimp only)
  go_wp2_with (go_at_call 82; refine (rdRn_c b _ lay _ O H.row).mono ?_; rintro e w1 ⟨rfl, H1⟩; replace H := H.then H1; replace O := rdRn_ok lay _ O; clear H1; dsimp only)
  go_end0
  exact ⟨rfl, H⟩
def sumT : Tr := thenT (sgnT .minus 30) (sgnT .flags 29)
theorem sum_ok : OkT sumT := ok_then (ok_sgn .minus 30) (ok_sgn .flags 29)
set_option maxHeartbeats 1000000 in
theorem sum_c : FC 161 sumT := by
  intro b s lay w O hp
  have H := pr_start hp
  go_enter Tryz.func161, Tryz.ntmps161
  go_upto_region 1 with (go_at_call 165; refine (sign_t .minus 30 b _ lay O _ H.row).mono ?_; rintro e w1 ⟨rfl, H1⟩; replace H := H.then H1; replace O := (ok_sgn .minus 30) lay _ O; clear H1; dsimp only)
  go_wp2_with (go_at_call 165; refine (sign_t .flags 29 b _ lay O _ H.row).mono ?_; rintro e w1 ⟨rfl, H1⟩; replace H := H.then H1; replace O := (ok_sgn .flags 29) lay _ O; clear H1; dsimp only)
  go_end0
  exact ⟨rfl, H⟩
def shiftedT : Tr := thenT (numT .shift 1 22 2) (thenT (numT .amount 1 10 6) (rdRnRmT))
theorem shifted_ok : OkT shiftedT := ok_then (ok_num .shift 1 22 2 (by decide) (by decide)) (ok_then (ok_num .amount 1 10 6 (by decide) (by decide)) (rdRnRm_ok))
set_option maxHeartbeats 1000000 in
theorem shifted_c : FC 163 shiftedT := by
  intro b s lay w O hp
  have H := pr_start hp
  go_enter Tryz.func163, Tryz.ntmps163
  go_upto_region 1 with (go_at_call 162; refine (number_t .shift 1 22 2 (by decide) (by decide) b _ lay O _ H.row).mono ?_; rintro e w1 ⟨rfl, H1⟩; replace H := H.then H1; replace O := (ok_num .shift 1 22 2 (by decide) (by decide)) lay _ O; clear H1; dsimp only)
  go_upto_region 2 with (go_at_call 162; refine (number_t .amount 1 10 6 (by decide) (by decide) b _ lay O _ H.row).mono ?_; rintro e w1 ⟨rfl, H1⟩; replace H := H.then H1; replace O := (ok_num .amount 1 10 6 (by decide) (by decide)) lay _ O; clear H1; dsimp only)
  go_wp2_with (go_at_call 167; refine (rdRnRm_c b _ lay _ O H.row).mono ?_; rintro e w1 ⟨rfl, H1⟩; replace H := H.then H1; replace O := rdRnRm_ok lay _ O; clear H1; dsimp only)
  go_end0
  exact ⟨rfl, H⟩
def boundsT : Tr := thenT (numT .imm 1 16 6) (thenT (numT .imm2 1 10 6) (rdRnT))
theorem bounds_ok : OkT boundsT := ok_then (ok_num .imm 1 16 6 (by decide) (by decide)) (ok_then (ok_num .imm2 1 10 6 (by decide) (by decide)) (rdRn_ok))
set_option maxHeartbeats 1000000 in
theorem bounds_c : FC 166 boundsT := by
  intro b s lay w O hp
  have H := pr_start hp
  go_enter Tryz.func166, Tryz.ntmps166
  go_upto_region 1 with (go_at_call 162; refine (number_t .imm 1 16 6 (by decide) (by decide) b _ lay O _ H.row).mono ?_; rintro e w1 ⟨rfl, H1⟩; replace H := H.then H1; replace O := (ok_num .imm 1 16 6 (by decide) (by decide)) lay _ O; clear H1; dsimp only)
  go_upto_region 2 with (go_at_call 162; refine (number_t .imm2 1 10 6 (by decide) (by decide) b _ lay O _ H.row).mono ?_; rintro e w1 ⟨rfl, H1⟩; replace H := H.then H1; replace O := (ok_num .imm2 1 10 6 (by decide) (by decide)) lay _ O; clear H1; dsimp only)
  go_wp2_with (go_at_call 82; refine (rdRn_c b _ lay _ O H.row).mono ?_; rintro e w1 ⟨rfl, H1⟩; replace H := H.then H1; replace O := rdRn_ok lay _ O; clear H1; dsimp only)
  go_end0
  exact ⟨rfl, H⟩
def addImmT : Tr := thenT (sumT) (thenT (numT .amount 12 22 1) (thenT (numT .imm 1 10 12) (rdRnT)))
theorem addImm_ok : OkT addImmT := ok_then (sum_ok) (ok_then (ok_num .amount 12 22 1 (by decide) (by decide)) (ok_then (ok_num .imm 1 10 12 (by decide) (by decide)) (rdRn_ok)))
set_option maxHeartbeats 1000000 in
theorem addImm_c : FC 64 addImmT := by
  intro b s lay w O hp
  have H := pr_start hp
  go_enter Tryz.func64, Tryz.ntmps64
  go_upto_region 1 with (go_at_call 161; refine (sum_c b _ lay _ O H.row).mono ?_; rintro e w1 ⟨rfl, H1⟩; replace H := H.then H1; replace O := sum_ok lay _ O; clear H1; dsimp only)
  go_upto_region 2 with (go_at_call 162; refine (number_t .amount 12 22 1 (by decide) (by decide) b _ lay O _ H.row).mono ?_; rintro e w1 ⟨rfl, H1⟩; replace H := H.then H1; replace O := (ok_num .amount 12 22 1 (by decide) (by decide)) lay _ O; clear H1; dsimp only)
  go_upto_region 3 with (go_at_call 162; refine (number_t .imm 1 10 12 (by decide) (by decide) b _ lay O _ H.row).mono ?_; rintro e w1 ⟨rfl, H1⟩; replace H := H.then H1; replace O := (ok_num .imm 1 10 12 (by decide) (by decide)) lay _ O; clear H1; dsimp only)
  go_wp2_with (go_at_call 82; refine (rdRn_c b _ lay _ O H.row).mono ?_; rintro e w1 ⟨rfl, H1⟩; replace H := H.then H1; replace O := rdRn_ok lay _ O; clear H1; dsimp only)
  go_end0
  exact ⟨rfl, H⟩
def addRegT : Tr := thenT (sumT) (shiftedT)
theorem addReg_ok : OkT addRegT := ok_then (sum_ok) (shifted_ok)
set_option maxHeartbeats 1000000 in
theorem addReg_c : FC 65 addRegT := by
  intro b s lay w O hp
  have H := pr_start hp
  go_enter Tryz.func65, Tryz.ntmps65
  go_upto_region 1 with (go_at_call 161; refine (sum_c b _ lay _ O H.row).mono ?_; rintro e w1 ⟨rfl, H1⟩; replace H := H.then H1; replace O := sum_ok lay _ O; clear H1; dsimp only)
  go_wp2_with (go_at_call 163; refine (shifted_c b _ lay _ O H.row).mono ?_; rintro e w1 ⟨rfl, H1⟩; replace H := H.then H1; replace O := shifted_ok lay _ O; clear H1; dsimp only)
  go_end0
  exact ⟨rfl, H⟩
def movWideT : Tr := thenT (numT .sub 1 29 2) (thenT (numT .amount 16 21 2) (thenT (numT .imm 1 5 16) (rdT)))
theorem movWide_ok : OkT movWideT := ok_then (ok_num .sub 1 29 2 (by decide) (by decide)) (ok_then (ok_num .amount 16 21 2 (by decide) (by decide)) (ok_then (ok_num .imm 1 5 16 (by decide) (by decide)) (rd_ok)))
set_option maxHeartbeats 1000000 in
theorem movWide_c : FC 68 movWideT := by
  intro b s lay w O hp
  have H := pr_start hp
  go_enter Tryz.func68, Tryz.ntmps68
  go_upto_region 1 with (go_at_call 162; refine (number_t .sub 1 29 2 (by decide) (by decide) b _ lay O _ H.row).mono ?_; rintro e w1 ⟨rfl, H1⟩; replace H := H.then H1; replace O := (ok_num .sub 1 29 2 (by decide) (by decide)) lay _ O; clear H1; dsimp only)
  go_upto_region 2 with (go_at_call 162; refine (number_t .amount 16 21 2 (by decide) (by decide) b _ lay O _ H.row).mono ?_; rintro e w1 ⟨rfl, H1⟩; replace H := H.then H1; replace O := (ok_num .amount 16 21 2 (by decide) (by decide)) lay _ O; clear H1; dsimp only)
  go_upto_region 3 with (go_at_call 162; refine (number_t .imm 1 5 16 (by decide) (by decide) b _ lay O _ H.row).mono ?_; rintro e w1 ⟨rfl, H1⟩; replace H := H.then H1; replace O := (ok_num .imm 1 5 16 (by decide) (by decide)) lay _ O; clear H1; dsimp only)
  go_wp2_with (go_at_call 87; refine (rd_c b _ lay _ O H.row).mono ?_; rintro e w1 ⟨rfl, H1⟩; replace H := H.then H1; replace O := rd_ok lay _ O; clear H1; dsimp only)
  go_end0
  exact ⟨rfl, H⟩
def bitfieldT : Tr := thenT (numT .sub 1 29 2) (boundsT)
theorem bitfield_ok : OkT bitfieldT := ok_then (ok_num .sub 1 29 2 (by decide) (by decide)) (bounds_ok)
set_option maxHeartbeats 1000000 in
theorem bitfield_c : FC 69 bitfieldT := by
  intro b s lay w O hp
  have H := pr_start hp
  go_enter Tryz.func69, Tryz.ntmps69
  go_upto_region 1 with (go_at_call 162; refine (number_t .sub 1 29 2 (by decide) (by decide) b _ lay O _ H.row).mono ?_; rintro e w1 ⟨rfl, H1⟩; replace H := H.then H1; replace O := (ok_num .sub 1 29 2 (by decide) (by decide)) lay _ O; clear H1; dsimp only)
  go_wp2_with (go_at_call 166; refine (bounds_c b _ lay _ O H.row).mono ?_; rintro e w1 ⟨rfl, H1⟩; replace H := H.then H1; replace O := bounds_ok lay _ O; clear H1; dsimp only)
  go_end0
  exact ⟨rfl, H⟩
def shiftRegT : Tr := thenT (numT .sub 1 10 2) (rdRnRmT)
theorem shiftReg_ok : OkT shiftRegT := ok_then (ok_num .sub 1 10 2 (by decide) (by decide)) (rdRnRm_ok)
set_option maxHeartbeats 1000000 in
theorem shiftReg_c : FC 70 shiftRegT := by
  intro b s lay w O hp
  have H := pr_start hp
  go_enter Tryz.func70, Tryz.ntmps70
  go_upto_region 1 with (go_at_call 162; refine (number_t .sub 1 10 2 (by decide) (by decide) b _ lay O _ H.row).mono ?_; rintro e w1 ⟨rfl, H1⟩; replace H := H.then H1; replace O := (ok_num .sub 1 10 2 (by decide) (by decide)) lay _ O; clear H1; dsimp only)
  go_wp2_with (go_at_call 167; refine (rdRnRm_c b _ lay _ O H.row).mono ?_; rintro e w1 ⟨rfl, H1⟩; replace H := H.then H1; replace O := rdRnRm_ok lay _ O; clear H1; dsimp only)
  go_end0
  exact ⟨rfl, H⟩
def mulT : Tr := thenT (sgnT .minus 15) (thenT (numT .ra 1 10 5) (rdRnRmT))
theorem mul_ok : OkT mulT := ok_then (ok_sgn .minus 15) (ok_then (ok_num .ra 1 10 5 (by decide) (by decide)) (rdRnRm_ok))
set_option maxHeartbeats 1000000 in
theorem mul_c : FC 71 mulT := by
  intro b s lay w O hp
  have H := pr_start hp
  go_enter Tryz.func71, Tryz.ntmps71
  go_upto_region 1 with (go_at_call 165; refine (sign_t .minus 15 b _ lay O _ H.row).mono ?_; rintro e w1 ⟨rfl, H1⟩; replace H := H.then H1; replace O := (ok_sgn .minus 15) lay _ O; clear H1; dsimp only)
  go_upto_region 2 with (go_at_call 168; refine (register_t .ra 10 b _ lay O _ H.row).mono ?_; rintro e w1 ⟨rfl, H1⟩; replace H := H.then H1; replace O := (ok_num .ra 1 10 5 (by decide) (by decide)) lay _ O; clear H1; dsimp only)
  go_wp2_with (go_at_call 167; refine (rdRnRm_c b _ lay _ O H.row).mono ?_; rintro e w1 ⟨rfl, H1⟩; replace H := H.then H1; replace O := rdRnRm_ok lay _ O; clear H1; dsimp only)
  go_end0
  exact ⟨rfl, H⟩
def divT : Tr := thenT (numT .sub 1 10 1) (rdRnRmT)
theorem div_ok : OkT divT := ok_then (ok_num .sub 1 10 1 (by decide) (by decide)) (rdRnRm_ok)
set_option maxHeartbeats 1000000 in
theorem div_c : FC 72 divT := by
  intro b s lay w O hp
  have H := pr_start hp
  go_enter Tryz.func72, Tryz.ntmps72
  go_upto_region 1 with (go_at_call 162; refine (number_t .sub 1 10 1 (by decide) (by decide) b _ lay O _ H.row).mono ?_; rintro e w1 ⟨rfl, H1⟩; replace H := H.then H1; replace O := (ok_num .sub 1 10 1 (by decide) (by decide)) lay _ O; clear H1; dsimp only)
  go_wp2_with (go_at_call 167; refine (rdRnRm_c b _ lay _ O H.row).mono ?_; rintro e w1 ⟨rfl, H1⟩; replace H := H.then H1; replace O := rdRnRm_ok lay _ O; clear H1; dsimp only)
  go_end0
  exact ⟨rfl, H⟩
def brT : Tr := thenT (numT .sub 1 21 2) (numT .rn 1 5 5)
theorem br_ok : OkT brT := ok_then (ok_num .sub 1 21 2 (by decide) (by decide)) (ok_num .rn 1 5 5 (by decide) (by decide))
set_option maxHeartbeats 1000000 in
theorem br_c : FC 79 brT := by
  intro b s lay w O hp
  have H := pr_start hp
  go_enter Tryz.func79, Tryz.ntmps79
  go_upto_region 1 with (go_at_call 162; refine (number_t .sub 1 21 2 (by decide) (by decide) b _ lay O _ H.row).mono ?_; rintro e w1 ⟨rfl, H1⟩; replace H := H.then H1; replace O := (ok_num .sub 1 21 2 (by decide) (by decide)) lay _ O; clear H1; dsimp only)
  go_wp2_with (go_at_call 168; refine (register_t .rn 5 b _ lay O _ H.row).mono ?_; rintro e w1 ⟨rfl, H1⟩; replace H := H.then H1; replace O := (ok_num .rn 1 5 5 (by decide) (by decide)) lay _ O; clear H1; dsimp only)
  go_end0
  exact ⟨rfl, H⟩
def atImmT : Tr := thenT (numT .imm 8 10 12) (rdRnT)
theorem atImm_ok : OkT atImmT := ok_then (ok_num .imm 8 10 12 (by decide) (by decide)) (rdRn_ok)
set_option maxHeartbeats 1000000 in
theorem atImm_c : FC 80 atImmT := by
  intro b s lay w O hp
  have H := pr_start hp
  go_enter Tryz.func80, Tryz.ntmps80
  go_upto_region 1 with (go_at_call 162; refine (number_t .imm 8 10 12 (by decide) (by decide) b _ lay O _ H.row).mono ?_; rintro e w1 ⟨rfl, H1⟩; replace H := H.then H1; replace O := (ok_num .imm 8 10 12 (by decide) (by decide)) lay _ O; clear H1; dsimp only)
  go_wp2_with (go_at_call 82; refine (rdRn_c b _ lay _ O H.row).mono ?_; rintro e w1 ⟨rfl, H1⟩; replace H := H.then H1; replace O := rdRn_ok lay _ O; clear H1; dsimp only)
  go_end0
  exact ⟨rfl, H⟩
def atRegT : Tr := thenT (numT .amount 3 12 1) (rdRnRmT)
theorem atReg_ok : OkT atRegT := ok_then (ok_num .amount 3 12 1 (by decide) (by decide)) (rdRnRm_ok)
set_option maxHeartbeats 1000000 in
theorem atReg_c : FC 81 atRegT := by
  intro b s lay w O hp
  have H := pr_start hp
  go_enter Tryz.func81, Tryz.ntmps81
  go_upto_region 1 with (go_at_call 162; refine (number_t .amount 3 12 1 (by decide) (by decide) b _ lay O _ H.row).mono ?_; rintro e w1 ⟨rfl, H1⟩; replace H := H.then H1; replace O := (ok_num .amount 3 12 1 (by decide) (by decide)) lay _ O; clear H1; dsimp only)
  go_wp2_with (go_at_call 167; refine (rdRnRm_c b _ lay _ O H.row).mono ?_; rintro e w1 ⟨rfl, H1⟩; replace H := H.then H1; replace O := rdRnRm_ok lay _ O; clear H1; dsimp only)
  go_end0
  exact ⟨rfl, H⟩
def ldxrT : Tr := thenT (numT .sub 1 15 1) (rdRnT)
theorem ldxr_ok : OkT ldxrT := ok_then (ok_num .sub 1 15 1 (by decide) (by decide)) (rdRn_ok)
set_option maxHeartbeats 1000000 in
theorem ldxr_c : FC 83 ldxrT := by
  intro b s lay w O hp
  have H := pr_start hp
  go_enter Tryz.func83, Tryz.ntmps83
  go_upto_region 1 with (go_at_call 162; refine (number_t .sub 1 15 1 (by decide) (by decide) b _ lay O _ H.row).mono ?_; rintro e w1 ⟨rfl, H1⟩; replace H := H.then H1; replace O := (ok_num .sub 1 15 1 (by decide) (by decide)) lay _ O; clear H1; dsimp only)
  go_wp2_with (go_at_call 82; refine (rdRn_c b _ lay _ O H.row).mono ?_; rintro e w1 ⟨rfl, H1⟩; replace H := H.then H1; replace O := rdRn_ok lay _ O; clear H1; dsimp only)
  go_end0
  exact ⟨rfl, H⟩
def stxrT : Tr := thenT (numT .sub 1 15 1) (rdRnRmT)
theorem stxr_ok : OkT stxrT := ok_then (ok_num .sub 1 15 1 (by decide) (by decide)) (rdRnRm_ok)
set_option maxHeartbeats 1000000 in
theorem stxr_c : FC 84 stxrT := by
  intro b s lay w O hp
  have H := pr_start hp
  go_enter Tryz.func84, Tryz.ntmps84
  go_upto_region 1 with (go_at_call 162; refine (number_t .sub 1 15 1 (by decide) (by decide) b _ lay O _ H.row).mono ?_; rintro e w1 ⟨rfl, H1⟩; replace H := H.then H1; replace O := (ok_num .sub 1 15 1 (by decide) (by decide)) lay _ O; clear H1; dsimp only)
  go_wp2_with (go_at_call 167; refine (rdRnRm_c b _ lay _ O H.row).mono ?_; rintro e w1 ⟨rfl, H1⟩; replace H := H.then H1; replace O := rdRnRm_ok lay _ O; clear H1; dsimp only)
  go_end0
  exact ⟨rfl, H⟩
def dmbT : Tr := numT .imm 1 8 2
theorem dmb_ok : OkT dmbT := ok_num .imm 1 8 2 (by decide) (by decide)
set_option maxHeartbeats 1000000 in
theorem dmb_c : FC 86 dmbT := by
  intro b s lay w O hp
  have H := pr_start hp
  go_enter Tryz.func86, Tryz.ntmps86
  go_wp2_with (go_at_call 162; refine (number_t .imm 1 8 2 (by decide) (by decide) b _ lay O _ H.row).mono ?_; rintro e w1 ⟨rfl, H1⟩; replace H := H.then H1; replace O := (ok_num .imm 1 8 2 (by decide) (by decide)) lay _ O; clear H1; dsimp only)
  go_end0
  exact ⟨rfl, H⟩
def systemT : Tr := thenT (numT .sys 1 5 15) (rdT)
theorem system_ok : OkT systemT := ok_then (ok_num .sys 1 5 15 (by decide) (by decide)) (rd_ok)
set_option maxHeartbeats 1000000 in
theorem system_c : FC 88 systemT := by
  intro b s lay w O hp
  have H := pr_start hp
  go_enter Tryz.func88, Tryz.ntmps88
  go_upto_region 1 with (go_at_call 162; refine (number_t .sys 1 5 15 (by decide) (by decide) b _ lay O _ H.row).mono ?_; rintro e w1 ⟨rfl, H1⟩; replace H := H.then H1; replace O := (ok_num .sys 1 5 15 (by decide) (by decide)) lay _ O; clear H1; dsimp only)
  go_wp2_with (go_at_call 87; refine (rd_c b _ lay _ O H.row).mono ?_; rintro e w1 ⟨rfl, H1⟩; replace H := H.then H1; replace O := rd_ok lay _ O; clear H1; dsimp only)
  go_end0
  exact ⟨rfl, H⟩
def msrMaskT : Tr := numT .imm 1 8 4
theorem msrMask_ok : OkT msrMaskT := ok_num .imm 1 8 4 (by decide) (by decide)
set_option maxHeartbeats 1000000 in
theorem msrMask_c : FC 89 msrMaskT := by
  intro b s lay w O hp
  have H := pr_start hp
  go_enter Tryz.func89, Tryz.ntmps89
  go_wp2_with (go_at_call 162; refine (number_t .imm 1 8 4 (by decide) (by decide) b _ lay O _ H.row).mono ?_; rintro e w1 ⟨rfl, H1⟩; replace H := H.then H1; replace O := (ok_num .imm 1 8 4 (by decide) (by decide)) lay _ O; clear H1; dsimp only)
  go_end0
  exact ⟨rfl, H⟩
def callT : Tr := numT .imm 1 5 16
theorem call_ok : OkT callT := ok_num .imm 1 5 16 (by decide) (by decide)
set_option maxHeartbeats 1000000 in
theorem call_c : FC 90 callT := by
  intro b s lay w O hp
  have H := pr_start hp
  go_enter Tryz.func90, Tryz.ntmps90
  go_wp2_with (go_at_call 162; refine (number_t .imm 1 5 16 (by decide) (by decide) b _ lay O _ H.row).mono ?_; rintro e w1 ⟨rfl, H1⟩; replace H := H.then H1; replace O := (ok_num .imm 1 5 16 (by decide) (by decide)) lay _ O; clear H1; dsimp only)
  go_end0
  exact ⟨rfl, H⟩
def hintT : Tr := numT .imm 1 5 3
theorem hint_ok : OkT hintT := ok_num .imm 1 5 3 (by decide) (by decide)
set_option maxHeartbeats 1000000 in
theorem hint_c : FC 91 hintT := by
  intro b s lay w O hp
  have H := pr_start hp
  go_enter Tryz.func91, Tryz.ntmps91
  go_wp2_with (go_at_call 162; refine (number_t .imm 1 5 3 (by decide) (by decide) b _ lay O _ H.row).mono ?_; rintro e w1 ⟨rfl, H1⟩; replace H := H.then H1; replace O := (ok_num .imm 1 5 3 (by decide) (by decide)) lay _ O; clear H1; dsimp only)
  go_end0
  exact ⟨rfl, H⟩
end Go.Proofs.YtbjcdpmhmebjnaaGreat
/- The forms' functions that do more than cross numbers: branches, logic, sel, adr, tbz: contracts. -/
namespace Go.Proofs.YtbjcdpmhmebjnaaGreat
open Go.RowKit

def sgV (n m : Int) : Int := wrap64 (signedV n m)
set_option maxHeartbeats 400000 in
theorem csigned_c (n m : Int) (hn : W32 n) (w : World) : Calls Tryz.prog 170 #[.int .i64 n, .int .i64 m] w fun e w' => e = .returned (.int .i64 (sgV n m)) ∧ w' = w := by
  have h1 : IntKind.u64.wrap n = n := by rw [IntKind.wrap_u64]; have := hn.1; have := hn.2; omega
  have h2 : n % 18446744073709551616 = n := by have := hn.1; have := hn.2; omega
  have h3 : Hid (0 ≤ n ∧ n < 18446744073709551616) := ⟨hn.1, by have := hn.2; omega⟩
  go_enter Tryz.func170, Tryz.ntmps170
  go_wp2_with (go_at_call 216; refine (signed_c _ _ h3 _).mono ?_; rintro e w1 ⟨rfl, rfl⟩)
  go_ret
  exact ⟨rfl, rfl⟩
theorem wrapK_i64 {n : Int} (h : I64 n) : IntKind.i64.wrap n = n := by
  obtain ⟨h0, h1⟩ := h
  rw [IntKind.wrap_i64]; omega
theorem wrap_in (x : Int) : I64 (wrap64 x) := by unfold wrap64 I64; omega
def wordsT (a m : Int) : Tr := fun lay s => (crossW lay s.1 (s.2.imm.tdiv 4) a m, { s.2 with imm := wrap64 (sgV (crossG lay s.1 (s.2.imm.tdiv 4) a m) m * 4) })
theorem words_ok (a m : Int) : OkT (wordsT a m) := fun _ _ h => ok_set (ok_word h (cross_lt h.w)) .imm (wrap_in _)
theorem cross_t (n a m : Int) (b : Nat) (s : St) (lay : Bool) (h : Ok s) (w : World) (hp : w.heap[b]? = some (.cells (pairS s lay) 103)) :
    Calls Tryz.prog 169 #[.pointer (some ⟨b, 0, none⟩), .int .i64 n, .int .i64 a, .int .i64 m] w fun e w' => e = .returned (.int .i64 (crossG lay s.1 n a m)) ∧ Pr w b (pairS (crossW lay s.1 n a m, s.2) lay) w' :=
  cross_c b (pairS s lay) s.1 lay n a m (pair_0 s lay) (pair_17 s lay) h.w w hp
theorem cross_p {w0 w1 : World} {b : Nat} {s : St} {lay : Bool} (H : Pr w0 b (pairS s lay) w1) (h : Ok s) (n a m : Int) (w : World) (hw : w.heap[b]? = w1.heap[b]?) :
    Calls Tryz.prog 169 #[.pointer (some ⟨b, 0, none⟩), .int .i64 n, .int .i64 a, .int .i64 m] w fun e w' => e = .returned (.int .i64 (crossG lay s.1 n a m)) ∧ Pr w b (pairS (crossW lay s.1 n a m, s.2) lay) w' :=
  cross_t n a m b s lay h w (hw.trans H.row)
theorem Pr.more {w0 w1 w w' : World} {b : Nat} {cs cs' : Array Value} (H : Pr w0 b cs w1) (H1 : Pr w b cs' w') (ho : w.os = w1.os) (ht : w.tape = w1.tape) (hu : w.output = w1.output) (hh : w.heap = w1.heap) : Pr w0 b cs' w' :=
  H.then ⟨⟨H1.keep.os.trans ho, H1.keep.tape.trans ht, H1.keep.output.trans hu, by rw [← hh]; exact H1.keep.size, fun k hk hl => by rw [← hh] at hl ⊢; exact H1.keep.block k hk hl⟩, H1.row⟩
set_option maxHeartbeats 1000000 in
theorem words_c (a m : Int) (b : Nat) (s : St) (lay : Bool) (O : Ok s) (w : World) (hp : w.heap[b]? = some (.cells (pairS s lay) 103)) :
    Calls Tryz.prog 171 #[.pointer (some ⟨b, 0, none⟩), .int .i64 a, .int .i64 m] w fun e w' => e = .returned (.tuple #[]) ∧ Pr w b (pairS (wordsT a m lay s) lay) w' := by
  have H := pr_start hp
  have c7 : w.cell? ⟨b, 7, none⟩ = some (.int .i64 s.2.imm) := H.at (pair_f .imm s lay)
  have hd : wrap64 (s.2.imm.tdiv 4) = s.2.imm.tdiv 4 := wrap_i64 (tdiv_in (O.f .imm) (by decide))
  have hg : Hid (W32 (crossG lay s.1 (s.2.imm.tdiv 4) a m)) := got_lt O.w
  go_enter Tryz.func171, Tryz.ntmps171
  go_wp2_with (first | (go_at_call 169; refine (cross_t _ _ _ b s lay O _ hp).mono ?_; rintro e w1 ⟨rfl, H1⟩; replace H := H.then H1; clear H1 c7; have c7 : w1.cell? ⟨b, 7, none⟩ = some (.int .i64 s.2.imm) := H.at (pair_f .imm _ lay); have fz := H.frozen 7; dsimp only) | (go_at_call 170; refine (csigned_c _ _ hg.out _).mono ?_; rintro e w1 ⟨rfl, rfl⟩))
  go_end0
  exact ⟨rfl, H.set 7 _⟩
def nothingT : Tr := fun _ s => s
theorem nothing_ok : OkT nothingT := fun _ _ h => h
theorem nothing_c : FC 85 nothingT := by
  intro b s lay w O hp
  go_enter Tryz.func85, Tryz.ntmps85
  go_wp2
  go_end0
  exact ⟨rfl, pr_start hp⟩
def logN (i : Ins) : Int := bif i.flags then 3 else i.sub
def logicT : Tr := fun lay s => (crossW lay s.1 (logN s.2) 29 2, { s.2 with sub := (crossG lay s.1 (logN s.2) 29 2).tmod 3, flags := crossG lay s.1 (logN s.2) 29 2 == 3 })
theorem tmod_in {g : Int} (h : W32 g) (u : Int) (hu : 1 ≤ u) (hu2 : u ≤ 4096) : I64 (g.tmod u) := by
  obtain ⟨h0, h1⟩ := h
  rw [Int.tmod_eq_emod_of_nonneg h0]
  have := Int.emod_nonneg g (show u ≠ 0 by omega)
  have := Int.emod_lt_of_pos g (show 0 < u by omega)
  exact ⟨by omega, by omega⟩
theorem logic_ok : OkT logicT := fun lay s h =>
  ok_setB (s := (crossW lay s.1 (logN s.2) 29 2, Fl.sub.set ((crossG lay s.1 (logN s.2) 29 2).tmod 3) s.2)) (ok_set (s := (crossW lay s.1 (logN s.2) 29 2, s.2)) (ok_word h (cross_lt h.w)) .sub (tmod_in (got_lt h.w) 3 (by decide) (by decide))) .flags (crossG lay s.1 (logN s.2) 29 2 == 3)
set_option maxHeartbeats 1000000 in
theorem logic_c : FC 164 logicT := by
  intro b s lay w O hp
  have H := pr_start hp
  have c2 : w.cell? ⟨b, 2, none⟩ = some (.int .i64 s.2.sub) := H.at (pair_f .sub s lay)
  have c13 : w.cell? ⟨b, 13, none⟩ = some (.bool s.2.flags) := H.at (pair_b .flags s lay)
  have hN : Hid (logN s.2 = bif s.2.flags then 3 else s.2.sub) := rfl
  cases hf : s.2.flags
  all_goals
    rw [hf] at c13 hN
    go_enter Tryz.func164, Tryz.ntmps164
    go_upto_region 4 with (go_at_call 169; refine (cross_t _ _ _ b s lay O _ hp).mono ?_; rintro e w1 ⟨rfl, H1⟩; replace H := H.then H1; clear H1; dsimp only)
    clear c2 c13
    have c2 : w1.cell? ⟨b, 2, none⟩ = some (.int .i64 s.2.sub) := H.at (pair_f .sub (_, s.2) lay)
    have c13 : w1.cell? ⟨b, 13, none⟩ = some (.bool s.2.flags) := H.at (pair_b .flags (_, s.2) lay)
    have f2 := H.frozen 2
    have f13 := H.frozen 13
    go_wp2
    go_end0
    refine ⟨rfl, ?_⟩
    unfold logicT
    rw [hN.out]
    exact (H.set 2 _).set 13 _
end Go.Proofs.YtbjcdpmhmebjnaaGreat
/- sel and tbz: two numbers of one field: contracts. -/
namespace Go.Proofs.YtbjcdpmhmebjnaaGreat
open Go.RowKit

theorem wrapK_in (x : Int) : I64 (IntKind.i64.wrap x) := by rw [IntKind.wrap_i64]; unfold I64; omega
def sel0T : Tr := fun lay s => (crossW lay (crossW lay s.1 (s.2.sub.tdiv 2) 30 1) (s.2.sub.tmod 2) 10 1, { s.2 with sub := IntKind.i64.wrap (IntKind.i64.wrap (crossG lay s.1 (s.2.sub.tdiv 2) 30 1 * 2) + crossG lay (crossW lay s.1 (s.2.sub.tdiv 2) 30 1) (s.2.sub.tmod 2) 10 1) })
theorem sel0_ok : OkT sel0T := fun lay s h => ok_set (s := (crossW lay (crossW lay s.1 (s.2.sub.tdiv 2) 30 1) (s.2.sub.tmod 2) 10 1, s.2)) (ok_word h (cross_lt (cross_lt h.w))) .sub (wrapK_in _)
def selT : Tr := thenT sel0T (thenT (numT .cond 1 12 4) rdRnRmT)
theorem sel_ok : OkT selT := ok_then sel0_ok (ok_then (ok_num .cond 1 12 4 (by decide) (by decide)) rdRnRm_ok)
set_option maxRecDepth 4000 in
set_option maxHeartbeats 4000000 in
theorem sel_c : FC 73 selT := by
  intro b s lay w O hp
  have H := pr_start hp
  have c2 : w.cell? ⟨b, 2, none⟩ = some (.int .i64 s.2.sub) := H.at (pair_f .sub s lay)
  have hd : IntKind.i64.wrap (s.2.sub.tdiv 2) = s.2.sub.tdiv 2 := wrapK_i64 (tdiv_in (O.f .sub) (by decide))
  have O1 : Ok (crossW lay s.1 (s.2.sub.tdiv 2) 30 1, s.2) := ok_word O (cross_lt O.w)
  have O2 := sel0_ok lay s O
  go_enter Tryz.func73, Tryz.ntmps73
  go_upto_region 0 with fail
  go_region_with ((go_at_call 169; (try simp only [hd]); refine (cross_p H (by first | exact O | exact O1) _ _ _ _ (by rfl)).mono ?_; rintro e w1 ⟨rfl, H1⟩; replace H := H.more H1 rfl rfl rfl rfl; clear H1; have c2 : w1.cell? ⟨b, 2, none⟩ = some (.int .i64 s.2.sub) := H.at (pair_f .sub (_, s.2) lay); have fz := H.frozen 2; dsimp only))
  all_goals
    generalize hw2 : w1.setCell _ _ = w2
    replace H : Pr w b (pairS (sel0T lay s) lay) w2 := by rw [← hw2]; exact H.set 2 _
    clear hw2
    clear c2 fz
    go_upto_region 2 with (go_at_call 162; refine (number_t .cond 1 12 4 (by decide) (by decide) b _ lay O2 _ H.row).mono ?_; rintro e w1 ⟨rfl, H1⟩; replace H := H.then H1; clear H1; dsimp only)
    replace O2 := (ok_num .cond 1 12 4 (by decide) (by decide)) lay _ O2
    go_wp2_with (go_at_call 167; refine (rdRnRm_c b _ lay _ O2 H.row).mono ?_; rintro e w1 ⟨rfl, H1⟩; replace H := H.then H1; clear H1; dsimp only)
    go_end0
    exact ⟨rfl, H⟩
end Go.Proofs.YtbjcdpmhmebjnaaGreat
/- adr: the contract. -/
namespace Go.Proofs.YtbjcdpmhmebjnaaGreat
open Go.RowKit

theorem cross_q {w0 w1 : World} {b : Nat} {s : St} {lay : Bool} (H : Pr w0 b (pairS s lay) w1) (h : Ok s) (n a m : Int) (w : World) (hw : w.heap[b]? = w1.heap[b]?) :
    Calls Tryz.prog 169 #[.pointer (some ⟨b, 0, none⟩), .int .i64 n, .int .i64 a, .int .i64 m] w fun e w' => e = .returned (.int .i64 (crossG lay s.1 n a m)) ∧ Pr w b (pairS (crossW lay s.1 n a m, s.2) lay) w' ∧ Ok (crossW lay s.1 n a m, s.2) := by
  refine (cross_p H h n a m w hw).mono ?_
  rintro e w' ⟨he, hP⟩
  exact ⟨he, hP, ok_word h (cross_lt h.w)⟩
theorem field_small {word a m : Int} : 0 ≤ fieldV word a m ∧ fieldV word a m < 2 ^ m.toNat := by
  unfold fieldV
  have hp : (0 : Int) < 2 ^ m.toNat := Int.pow_pos (by decide)
  split
  · have h := Nat.mod_lt (word.toNat / 2 ^ a.toNat) (Nat.two_pow_pos m.toNat)
    have e : ((2 ^ m.toNat : Nat) : Int) = 2 ^ m.toNat := by simp
    omega
  · omega
theorem got2 (lay : Bool) (W n a : Int) : 0 ≤ crossG lay W n a 2 ∧ crossG lay W n a 2 < 4 := field_small
theorem got19 (lay : Bool) (W n a : Int) : 0 ≤ crossG lay W n a 19 ∧ crossG lay W n a 19 < 524288 := field_small
def adrN (i : Ins) : Int := bif i.sub == 1 then i.imm.tdiv 4096 else i.imm
def adrU (i : Ins) : Int := bif i.sub == 1 then 4096 else 1
def adrG (lay : Bool) (s : St) : Int := crossG lay s.1 (adrN s.2) 29 2 + crossG lay (crossW lay s.1 (adrN s.2) 29 2) (adrN s.2 / 4) 5 19 * 4
def adr0T : Tr := fun lay s => (crossW lay (crossW lay s.1 (adrN s.2) 29 2) (adrN s.2 / 4) 5 19, { s.2 with imm := wrap64 (sgV (adrG lay s) 21 * adrU s.2) })
theorem adr0_ok : OkT adr0T := fun lay s h => ok_set (s := (crossW lay (crossW lay s.1 (adrN s.2) 29 2) (adrN s.2 / 4) 5 19, s.2)) (ok_word h (cross_lt (cross_lt h.w))) .imm (wrap_in _)
def adrT : Tr := thenT (numT .sub 1 31 1) (thenT adr0T rdT)
theorem adr_ok : OkT adrT := ok_then (ok_num .sub 1 31 1 (by decide) (by decide)) (ok_then adr0_ok rd_ok)
set_option maxRecDepth 4000 in
set_option maxHeartbeats 4000000 in
theorem adr_page (b : Nat) (s0 : St) (lay : Bool) (w : World) (O0 : Ok s0) (hp : w.heap[b]? = some (.cells (pairS s0 lay) 103)) (hs : ((numT .sub 1 31 1 lay s0).2.sub == 1) = true) : Calls Tryz.prog 74 #[.pointer (some ⟨b, 0, none⟩)] w fun e w' => e = .returned (.tuple #[]) ∧ Pr w b (pairS (adrT lay s0) lay) w' := by
  have H := pr_start hp
  go_enter Tryz.func74, Tryz.ntmps74
  go_upto_region 1 with (go_at_call 162; refine (number_t .sub 1 31 1 (by decide) (by decide) b s0 lay O0 _ hp).mono ?_; rintro e w1 ⟨rfl, H1⟩; replace H := H.then H1; clear H1; dsimp only)
  have O := ok_num .sub 1 31 1 (by decide) (by decide) lay s0 O0
  have hT : Hid (adrT lay s0 = rdT lay (adr0T lay (numT .sub 1 31 1 lay s0))) := rfl
  generalize numT .sub 1 31 1 lay s0 = s at H O hs hT
  have O2 := adr0_ok lay s O
  have hA : Hid (adr0T lay s = (crossW lay (crossW lay s.1 (s.2.imm.tdiv 4096) 29 2) (s.2.imm.tdiv 4096 / 4) 5 19, { s.2 with imm := wrap64 (sgV (crossG lay s.1 (s.2.imm.tdiv 4096) 29 2 + crossG lay (crossW lay s.1 (s.2.imm.tdiv 4096) 29 2) (s.2.imm.tdiv 4096 / 4) 5 19 * 4) 21 * 4096) })) := by
    show _ = _
    unfold adr0T adrG adrU adrN
    rw [hs]; rfl
  have c2 : w1.cell? ⟨b, 2, none⟩ = some (.int .i64 s.2.sub) := H.at (pair_f .sub s lay)
  have c7 : w1.cell? ⟨b, 7, none⟩ = some (.int .i64 s.2.imm) := H.at (pair_f .imm s lay)
  have hd : wrap64 (s.2.imm.tdiv 4096) = s.2.imm.tdiv 4096 := wrap_i64 (tdiv_in (O.f .imm) (by decide))
  have k1 := got2 lay s.1 (s.2.imm.tdiv 4096) 29
  have k2 := got19 lay (crossW lay s.1 (s.2.imm.tdiv 4096) 29 2) (s.2.imm.tdiv 4096 / 4) 5
  have hd2 : wrap64 (crossG lay (crossW lay s.1 (s.2.imm.tdiv 4096) 29 2) (s.2.imm.tdiv 4096 / 4) 5 19 * 4) = crossG lay (crossW lay s.1 (s.2.imm.tdiv 4096) 29 2) (s.2.imm.tdiv 4096 / 4) 5 19 * 4 := by unfold wrap64; omega
  have hd3 : wrap64 (crossG lay s.1 (s.2.imm.tdiv 4096) 29 2 + crossG lay (crossW lay s.1 (s.2.imm.tdiv 4096) 29 2) (s.2.imm.tdiv 4096 / 4) 5 19 * 4) = crossG lay s.1 (s.2.imm.tdiv 4096) 29 2 + crossG lay (crossW lay s.1 (s.2.imm.tdiv 4096) 29 2) (s.2.imm.tdiv 4096 / 4) 5 19 * 4 := by unfold wrap64; omega
  have hw3 : Hid (W32 (crossG lay s.1 (s.2.imm.tdiv 4096) 29 2 + crossG lay (crossW lay s.1 (s.2.imm.tdiv 4096) 29 2) (s.2.imm.tdiv 4096 / 4) 5 19 * 4)) := ⟨by omega, by omega⟩
  clear k1 k2
  go_upto_region 6 with (go_at_call 169; refine (cross_q H O _ _ _ _ (by rfl)).mono ?_; rintro e w1 ⟨rfl, H1, O1⟩; replace H := H.more H1 rfl rfl rfl rfl; replace O := O1; clear H1 O1; dsimp only)
  have c7 : w1.cell? ⟨b, 7, none⟩ = some (.int .i64 s.2.imm) := H.at (pair_f .imm (_, s.2) lay)
  have fz := H.frozen 7
  go_upto_region 7 with (go_at_call 170; refine (csigned_c _ _ hw3.out _).mono ?_; rintro e w1 ⟨rfl, rfl⟩)
  generalize hw2 : w1.setCell _ _ = w2
  replace H : Pr w b (pairS (adr0T lay s) lay) w2 := by rw [← hw2, hA.out]; exact H.set 7 _
  clear hw2 c7 fz
  go_wp2_with (go_at_call 87; refine (rd_c b _ lay _ O2 H.row).mono ?_; rintro e w1 ⟨rfl, H1⟩; replace H := H.then H1; clear H1; dsimp only)
  go_end0
  refine ⟨rfl, ?_⟩
  rw [hT.out]
  exact H
set_option maxRecDepth 4000 in
set_option maxHeartbeats 4000000 in
theorem adr_near (b : Nat) (s0 : St) (lay : Bool) (w : World) (O0 : Ok s0) (hp : w.heap[b]? = some (.cells (pairS s0 lay) 103)) (hs : ((numT .sub 1 31 1 lay s0).2.sub == 1) = false) : Calls Tryz.prog 74 #[.pointer (some ⟨b, 0, none⟩)] w fun e w' => e = .returned (.tuple #[]) ∧ Pr w b (pairS (adrT lay s0) lay) w' := by
  have H := pr_start hp
  go_enter Tryz.func74, Tryz.ntmps74
  go_upto_region 1 with (go_at_call 162; refine (number_t .sub 1 31 1 (by decide) (by decide) b s0 lay O0 _ hp).mono ?_; rintro e w1 ⟨rfl, H1⟩; replace H := H.then H1; clear H1; dsimp only)
  have O := ok_num .sub 1 31 1 (by decide) (by decide) lay s0 O0
  have hT : Hid (adrT lay s0 = rdT lay (adr0T lay (numT .sub 1 31 1 lay s0))) := rfl
  generalize numT .sub 1 31 1 lay s0 = s at H O hs hT
  have O2 := adr0_ok lay s O
  have hA : Hid (adr0T lay s = (crossW lay (crossW lay s.1 (s.2.imm) 29 2) (s.2.imm / 4) 5 19, { s.2 with imm := wrap64 (sgV (crossG lay s.1 (s.2.imm) 29 2 + crossG lay (crossW lay s.1 (s.2.imm) 29 2) (s.2.imm / 4) 5 19 * 4) 21) })) := by
    show _ = _
    unfold adr0T adrG adrU adrN
    rw [hs, cond_false, cond_false, Int.mul_one]
  have c2 : w1.cell? ⟨b, 2, none⟩ = some (.int .i64 s.2.sub) := H.at (pair_f .sub s lay)
  have c7 : w1.cell? ⟨b, 7, none⟩ = some (.int .i64 s.2.imm) := H.at (pair_f .imm s lay)
  have hd : wrap64 (s.2.imm) = s.2.imm := wrap_i64 (O.f .imm)
  have k1 := got2 lay s.1 (s.2.imm) 29
  have k2 := got19 lay (crossW lay s.1 (s.2.imm) 29 2) (s.2.imm / 4) 5
  have hd2 : wrap64 (crossG lay (crossW lay s.1 (s.2.imm) 29 2) (s.2.imm / 4) 5 19 * 4) = crossG lay (crossW lay s.1 (s.2.imm) 29 2) (s.2.imm / 4) 5 19 * 4 := by unfold wrap64; omega
  have hd3 : wrap64 (crossG lay s.1 (s.2.imm) 29 2 + crossG lay (crossW lay s.1 (s.2.imm) 29 2) (s.2.imm / 4) 5 19 * 4) = crossG lay s.1 (s.2.imm) 29 2 + crossG lay (crossW lay s.1 (s.2.imm) 29 2) (s.2.imm / 4) 5 19 * 4 := by unfold wrap64; omega
  have hw3 : Hid (W32 (crossG lay s.1 (s.2.imm) 29 2 + crossG lay (crossW lay s.1 (s.2.imm) 29 2) (s.2.imm / 4) 5 19 * 4)) := ⟨by omega, by omega⟩
  clear k1 k2
  go_upto_region 6 with (go_at_call 169; refine (cross_q H O _ _ _ _ (by rfl)).mono ?_; rintro e w1 ⟨rfl, H1, O1⟩; replace H := H.more H1 rfl rfl rfl rfl; replace O := O1; clear H1 O1; dsimp only)
  have c7 : w1.cell? ⟨b, 7, none⟩ = some (.int .i64 s.2.imm) := H.at (pair_f .imm (_, s.2) lay)
  have fz := H.frozen 7
  go_upto_region 7 with (go_at_call 170; refine (csigned_c _ _ hw3.out _).mono ?_; rintro e w1 ⟨rfl, rfl⟩)
  generalize hw2 : w1.setCell _ _ = w2
  replace H : Pr w b (pairS (adr0T lay s) lay) w2 := by rw [← hw2, hA.out]; exact H.set 7 _
  clear hw2 c7 fz
  go_wp2_with (go_at_call 87; refine (rd_c b _ lay _ O2 H.row).mono ?_; rintro e w1 ⟨rfl, H1⟩; replace H := H.then H1; clear H1; dsimp only)
  go_end0
  refine ⟨rfl, ?_⟩
  rw [hT.out]
  exact H
theorem adr_c : FC 74 adrT := by
  intro b s lay w O hp
  cases h : ((numT .sub 1 31 1 lay s).2.sub == 1)
  · exact adr_near b s lay w O hp h
  · exact adr_page b s lay w O hp h
end Go.Proofs.YtbjcdpmhmebjnaaGreat
/- tbz: two numbers of one field, behind a sign: the contract. -/
namespace Go.Proofs.YtbjcdpmhmebjnaaGreat
open Go.RowKit

def tbz0T : Tr := fun lay s => (crossW lay (crossW lay s.1 (s.2.amount.tdiv 32) 31 1) (s.2.amount.tmod 32) 19 5, { s.2 with amount := IntKind.i64.wrap (IntKind.i64.wrap (crossG lay s.1 (s.2.amount.tdiv 32) 31 1 * 32) + crossG lay (crossW lay s.1 (s.2.amount.tdiv 32) 31 1) (s.2.amount.tmod 32) 19 5) })
theorem tbz0_ok : OkT tbz0T := fun lay s h => ok_set (s := (crossW lay (crossW lay s.1 (s.2.amount.tdiv 32) 31 1) (s.2.amount.tmod 32) 19 5, s.2)) (ok_word h (cross_lt (cross_lt h.w))) .amount (wrapK_in _)
def tbzT : Tr := thenT (sgnT .not 24) (thenT tbz0T (thenT (wordsT 5 14) rdT))
theorem tbz_ok : OkT tbzT := ok_then (ok_sgn .not 24) (ok_then tbz0_ok (ok_then (words_ok 5 14) rd_ok))
set_option maxRecDepth 4000 in
set_option maxHeartbeats 4000000 in
theorem tbz_c : FC 78 tbzT := by
  intro b s0 lay w O0 hp
  have H := pr_start hp
  go_enter Tryz.func78, Tryz.ntmps78
  go_upto_region 1 with (go_at_call 165; refine (sign_t .not 24 b s0 lay O0 _ hp).mono ?_; rintro e w1 ⟨rfl, H1⟩; replace H := H.then H1; clear H1; dsimp only)
  have O := ok_sgn .not 24 lay s0 O0
  have hT : Hid (tbzT lay s0 = rdT lay (wordsT 5 14 lay (tbz0T lay (sgnT .not 24 lay s0)))) := rfl
  generalize sgnT .not 24 lay s0 = s at H O hT
  have c2 : w1.cell? ⟨b, 9, none⟩ = some (.int .i64 s.2.amount) := H.at (pair_f .amount s lay)
  have hd : IntKind.i64.wrap (s.2.amount.tdiv 32) = s.2.amount.tdiv 32 := wrapK_i64 (tdiv_in (O.f .amount) (by decide))
  have O1 : Ok (crossW lay s.1 (s.2.amount.tdiv 32) 31 1, s.2) := ok_word O (cross_lt O.w)
  have O2 := tbz0_ok lay s O
  go_region_with ((go_at_call 169; (try simp only [hd]); refine (cross_p H (by first | exact O | exact O1) _ _ _ _ (by rfl)).mono ?_; rintro e w1 ⟨rfl, H1⟩; replace H := H.more H1 rfl rfl rfl rfl; clear H1; have c2 : w1.cell? ⟨b, 9, none⟩ = some (.int .i64 s.2.amount) := H.at (pair_f .amount (_, s.2) lay); have fz := H.frozen 9; dsimp only))
  all_goals
    generalize hw2 : w1.setCell _ _ = w2
    replace H : Pr w b (pairS (tbz0T lay s) lay) w2 := by rw [← hw2]; exact H.set 9 _
    clear hw2
    clear c2 fz
    go_upto_region 3 with (go_at_call 171; refine (words_c 5 14 b _ lay O2 _ H.row).mono ?_; rintro e w1 ⟨rfl, H1⟩; replace H := H.then H1; clear H1; dsimp only)
    replace O2 := words_ok 5 14 lay _ O2
    go_wp2_with (go_at_call 87; refine (rd_c b _ lay _ O2 H.row).mono ?_; rintro e w1 ⟨rfl, H1⟩; replace H := H.then H1; clear H1; dsimp only)
    go_end0
    refine ⟨rfl, ?_⟩
    rw [hT.out]
    exact H
end Go.Proofs.YtbjcdpmhmebjnaaGreat
/- logReg, logImm, b, bCond, cbz, adr: contracts. -/
namespace Go.Proofs.YtbjcdpmhmebjnaaGreat
open Go.RowKit

def logRegT : Tr := thenT (logicT) (thenT (sgnT .not 21) (shiftedT))
theorem logReg_ok : OkT logRegT := ok_then (logic_ok) (ok_then (ok_sgn .not 21) (shifted_ok))
set_option maxHeartbeats 1000000 in
theorem logReg_c : FC 66 logRegT := by
  intro b s lay w O hp
  have H := pr_start hp
  go_enter Tryz.func66, Tryz.ntmps66
  go_upto_region 1 with (go_at_call 164; refine (logic_c b _ lay _ O H.row).mono ?_; rintro e w1 ⟨rfl, H1⟩; replace H := H.then H1; replace O := logic_ok lay _ O; clear H1; dsimp only)
  go_upto_region 2 with (go_at_call 165; refine (sign_t .not 21 b _ lay O _ H.row).mono ?_; rintro e w1 ⟨rfl, H1⟩; replace H := H.then H1; replace O := (ok_sgn .not 21) lay _ O; clear H1; dsimp only)
  go_wp2_with (go_at_call 163; refine (shifted_c b _ lay _ O H.row).mono ?_; rintro e w1 ⟨rfl, H1⟩; replace H := H.then H1; replace O := shifted_ok lay _ O; clear H1; dsimp only)
  go_end0
  exact ⟨rfl, H⟩
def logImmT : Tr := thenT (logicT) (thenT (numT .amount 1 22 1) (boundsT))
theorem logImm_ok : OkT logImmT := ok_then (logic_ok) (ok_then (ok_num .amount 1 22 1 (by decide) (by decide)) (bounds_ok))
set_option maxHeartbeats 1000000 in
theorem logImm_c : FC 67 logImmT := by
  intro b s lay w O hp
  have H := pr_start hp
  go_enter Tryz.func67, Tryz.ntmps67
  go_upto_region 1 with (go_at_call 164; refine (logic_c b _ lay _ O H.row).mono ?_; rintro e w1 ⟨rfl, H1⟩; replace H := H.then H1; replace O := logic_ok lay _ O; clear H1; dsimp only)
  go_upto_region 2 with (go_at_call 162; refine (number_t .amount 1 22 1 (by decide) (by decide) b _ lay O _ H.row).mono ?_; rintro e w1 ⟨rfl, H1⟩; replace H := H.then H1; replace O := (ok_num .amount 1 22 1 (by decide) (by decide)) lay _ O; clear H1; dsimp only)
  go_wp2_with (go_at_call 166; refine (bounds_c b _ lay _ O H.row).mono ?_; rintro e w1 ⟨rfl, H1⟩; replace H := H.then H1; replace O := bounds_ok lay _ O; clear H1; dsimp only)
  go_end0
  exact ⟨rfl, H⟩
def bT : Tr := thenT (sgnT .link 31) (wordsT 0 26)
theorem b_ok : OkT bT := ok_then (ok_sgn .link 31) (words_ok 0 26)
set_option maxHeartbeats 1000000 in
theorem b_c : FC 75 bT := by
  intro b s lay w O hp
  have H := pr_start hp
  go_enter Tryz.func75, Tryz.ntmps75
  go_upto_region 1 with (go_at_call 165; refine (sign_t .link 31 b _ lay O _ H.row).mono ?_; rintro e w1 ⟨rfl, H1⟩; replace H := H.then H1; replace O := (ok_sgn .link 31) lay _ O; clear H1; dsimp only)
  go_wp2_with (go_at_call 171; refine (words_c 0 26 b _ lay O _ H.row).mono ?_; rintro e w1 ⟨rfl, H1⟩; replace H := H.then H1; replace O := (words_ok 0 26) lay _ O; clear H1; dsimp only)
  go_end0
  exact ⟨rfl, H⟩
def bCondT : Tr := thenT (wordsT 5 19) (numT .cond 1 0 4)
theorem bCond_ok : OkT bCondT := ok_then (words_ok 5 19) (ok_num .cond 1 0 4 (by decide) (by decide))
set_option maxHeartbeats 1000000 in
theorem bCond_c : FC 76 bCondT := by
  intro b s lay w O hp
  have H := pr_start hp
  go_enter Tryz.func76, Tryz.ntmps76
  go_upto_region 1 with (go_at_call 171; refine (words_c 5 19 b _ lay O _ H.row).mono ?_; rintro e w1 ⟨rfl, H1⟩; replace H := H.then H1; replace O := (words_ok 5 19) lay _ O; clear H1; dsimp only)
  go_wp2_with (go_at_call 162; refine (number_t .cond 1 0 4 (by decide) (by decide) b _ lay O _ H.row).mono ?_; rintro e w1 ⟨rfl, H1⟩; replace H := H.then H1; replace O := (ok_num .cond 1 0 4 (by decide) (by decide)) lay _ O; clear H1; dsimp only)
  go_end0
  exact ⟨rfl, H⟩
def cbzT : Tr := thenT (sgnT .not 24) (thenT (wordsT 5 19) (rdT))
theorem cbz_ok : OkT cbzT := ok_then (ok_sgn .not 24) (ok_then (words_ok 5 19) (rd_ok))
set_option maxHeartbeats 1000000 in
theorem cbz_c : FC 77 cbzT := by
  intro b s lay w O hp
  have H := pr_start hp
  go_enter Tryz.func77, Tryz.ntmps77
  go_upto_region 1 with (go_at_call 165; refine (sign_t .not 24 b _ lay O _ H.row).mono ?_; rintro e w1 ⟨rfl, H1⟩; replace H := H.then H1; replace O := (ok_sgn .not 24) lay _ O; clear H1; dsimp only)
  go_upto_region 2 with (go_at_call 171; refine (words_c 5 19 b _ lay O _ H.row).mono ?_; rintro e w1 ⟨rfl, H1⟩; replace H := H.then H1; replace O := (words_ok 5 19) lay _ O; clear H1; dsimp only)
  go_wp2_with (go_at_call 87; refine (rd_c b _ lay _ O H.row).mono ?_; rintro e w1 ⟨rfl, H1⟩; replace H := H.then H1; replace O := rd_ok lay _ O; clear H1; dsimp only)
  go_end0
  exact ⟨rfl, H⟩
end Go.Proofs.YtbjcdpmhmebjnaaGreat
/- A form: a kind of words; what apart, together and holds make of it: contracts. -/
namespace Go.Proofs.YtbjcdpmhmebjnaaGreat
open Go.RowKit

structure Fm where
  op : Int
  sub : Int
  mask : Int
  base : Int
  f : Nat
  t : Tr
def Fm.cells (F : Fm) : List Value := [.int .i64 F.op, .int .i64 F.sub, .int .u32 F.mask, .int .u32 F.base, .func (.func F.f) #[] #[]]
/-- A form lies in a block, from an offset on. -/
structure FmAt (F : Fm) (g o : Nat) (w : World) : Prop where
  c0 : w.cell? ⟨g, o, none⟩ = some (.int .i64 F.op)
  c1 : w.cell? ⟨g, o + 1, none⟩ = some (.int .i64 F.sub)
  c2 : w.cell? ⟨g, o + 2, none⟩ = some (.int .u32 F.mask)
  c3 : w.cell? ⟨g, o + 3, none⟩ = some (.int .u32 F.base)
  c4 : w.cell? ⟨g, o + 4, none⟩ = some (.func (.func F.f) #[] #[])
theorem FmAt.keep {F : Fm} {g o : Nat} {w w' : World} (h : FmAt F g o w) (hk : w'.heap[g]? = w.heap[g]?) : FmAt F g o w' := by
  have e : ∀ k, w'.cell? ⟨g, k, none⟩ = w.cell? ⟨g, k, none⟩ := fun k => World.cell?_of_block (w := w) hk
  exact ⟨by rw [e]; exact h.c0, by rw [e]; exact h.c1, by rw [e]; exact h.c2, by rw [e]; exact h.c3, by rw [e]; exact h.c4⟩
theorem below_alloc (w : World) (o : Obj) : Below w.heap.size w (w.alloc o) := (Below.refl _ w).alloc (Nat.le_refl _) o
theorem below_more {w x : World} {o : Obj} (h : Below w.heap.size w x) : Below w.heap.size w (x.alloc o) := h.alloc h.size o
theorem zero_in : I64 0 := ⟨by decide, by decide⟩
def nilI : Ins := ⟨0, 0, 0, 0, 0, 0, 0, 0, 0, 0, 0, 0, false, false, false, false⟩
def startI (F : Fm) : Ins := { nilI with op := F.op, sub := F.sub }
def Ins.listV (i : Ins) : List Value := [vI i.op, vI i.sub, vI i.rd, vI i.rn, vI i.rm, vI i.ra, vI i.imm, vI i.imm2, vI i.amount, vI i.shift, vI i.cond, vI i.sys, .bool i.flags, .bool i.minus, .bool i.not, .bool i.link]
theorem info25 : (Tryz.prog.info? 47).map (·.size) = some 16 := by kernel_rfl
theorem Ins.info (i : Ins) : (Tryz.prog.info? 47).map (·.size) = some i.listV.length := info25
theorem Ins.info' (i : Ins) : (Tryz.prog.info? 47).map (·.size) = some i.listV.toArray.size := info25
theorem Ins.one (i : Ins) : i.listV.toArray.all (·.oneCell') = true := by simp [Ins.listV, Value.oneCell']
theorem pair_range {s : St} {lay : Bool} {b : Nat} {w : World} (h : w.heap[b]? = some (.cells (pairS s lay) 103)) : w.rangeAt b 1 s.2.listV := by
  intro j v hv
  rw [cell_of_row _ _ _ _ _ _ h]
  obtain ⟨hj, -⟩ := List.getElem?_eq_some_iff.1 hv
  have hj : j < 16 := hj
  have : j = 0 ∨ j = 1 ∨ j = 2 ∨ j = 3 ∨ j = 4 ∨ j = 5 ∨ j = 6 ∨ j = 7 ∨ j = 8 ∨ j = 9 ∨ j = 10 ∨ j = 11 ∨ j = 12 ∨ j = 13 ∨ j = 14 ∨ j = 15 := by omega
  rcases this with rfl | rfl | rfl | rfl | rfl | rfl | rfl | rfl | rfl | rfl | rfl | rfl | rfl | rfl | rfl | rfl <;> exact hv
theorem below_setRow {w x : World} {g : Nat} {cs : Array Value} (h : Below w.heap.size w x) (hg : w.heap.size ≤ g) : Below w.heap.size w (x.setRow g cs) :=
  h.trans ⟨rfl, rfl, rfl, by rw [size_setRow]; exact Nat.le_refl _, fun k hk => setRow_other _ _ _ _ (by omega)⟩
set_option maxRecDepth 4000 in
set_option maxHeartbeats 4000000 in
theorem apart_c (F : Fm) (hF : FC F.f F.t) (hE : ∀ (args : Array Value) (w : World), (callFunc F.f args).run Tryz.prog w = .ok (.enter F.f args) w) (g o : Nat) (word : Int) (hW' : W32 word) (hs : I64 F.sub) (w : World) (h : FmAt F g o w) :
    Calls Tryz.prog 36 #[.pointer (some ⟨g, o, none⟩), .int .u32 word] w fun e w' => e = .returned (F.t false (word, startI F)).2.val ∧ Below w.heap.size w w' := by
  have c0 := h.c0
  have c1 := h.c1
  have c4 := h.c4
  go_enter Tryz.func36, Tryz.ntmps36
  have hg : g < w.heap.size := block_lt_of_cell c0
  have hne := World.new_ne w ⟨g, o, none⟩ c0
  go_upto_region 1 with fail
  go_region_held3 (fun x : World => x.cell? ⟨g, o, none⟩ = some (.int .i64 F.op) ∧ x.cell? ⟨g, o + 1, none⟩ = some (.int .i64 F.sub)) (go_keep) (fail)
  all_goals
    generalize hW : World.drew _ = w1
    have HB : Below w.heap.size w w1 := by
      rw [← hW]
      exact Below.drew (below_more (below_alloc _ _))
    have hrow : w1.heap[w.heap.size + 1]? = some (.cells (pairS (word, startI F) false) 103) := by
      rw [← hW]
      exact heap_alloc2_new _ _ _
    have hres : ∃ Z, w1.heap[w.heap.size]? = some (.cells Z 47) ∧ Z.size = 16 := ⟨_, by rw [← hW]; exact heap_alloc2_old _ _ _, rfl⟩
    obtain ⟨Z, hres, hZ⟩ := hres
    have hfm : FmAt F g o w1 := h.keep (HB.block g hg)
    clear hW c0 c1 c4 hne
    have c4 := hfm.c4
    have O : Ok (word, startI F) := ⟨hW', fun k => by cases k <;> first | exact hs | exact zero_in⟩
    go_upto_region 3 with (first | (refine (hF (w.heap.size + 1) (word, startI F) false _ O hrow).mono ?_; rintro e w2 ⟨rfl, H1⟩; dsimp only))
    have H2 : Below w.heap.size w w2 := ⟨H1.keep.os.trans HB.os, H1.keep.tape.trans HB.tape, H1.keep.output.trans HB.output, Nat.le_trans HB.size H1.keep.size, fun k hk => (H1.keep.block k (by omega) (Nat.lt_of_lt_of_le hk HB.size)).trans (HB.block k hk)⟩
    have hres2 : w2.heap[w.heap.size]? = some (.cells Z 47) := (H1.keep.block _ (by omega) (Array.getElem?_eq_some_iff.1 hres).1).trans hres
    iterate 4 go_step
    with_reducible refine wpList_load_mid rfl 47 _ rfl (w.heap.size + 1) 1 rfl (Ins.listV _) _ (pair_range H1.row) Tryz.underlying47 rfl (Ins.info _) ?_
    simp only [Act.put, List.setIfInBounds_toArray, List.set_cons_succ, List.set_cons_zero]
    with_reducible refine wpList_store_row rfl 47 _ _ rfl w.heap.size _ rfl rfl 47 _ hres2 (Ins.info' _) ?_ (Ins.one _) ?_
    focus (rw [hZ]; rfl)
    go_wp2
    refine bodyPost_ret (results_cell_row rfl _ _ _ 47 _ (0, 0) _ rfl (setRow_heap _ _ _ _ _ _ hres2) Tryz.underlying47 rfl (Ins.info' _)) rfl ?_
    exact ⟨rfl, below_setRow H2 (Nat.le_refl _)⟩
end Go.Proofs.YtbjcdpmhmebjnaaGreat
/- What together and holds make of a form and an instruction: contracts. -/
namespace Go.Proofs.YtbjcdpmhmebjnaaGreat
open Go.RowKit Go.Rel

theorem rel_load_insn {o : Oper} {a : Act} {w : World} {i : Ins} (x : Operand) (ho : o.op = .load 47 x) (g : Nat) (hx : a.eval x = .pointer (some ⟨g, 0, none⟩)) (hg : w.heap[g]? = some (.cells i.cells 47)) :
    relUpon Tryz.prog Grows (fun v _ => v = i.val) w ((execOp a.eval o).run Tryz.prog w) := by
  unfold execOp
  simp only [ho, hx, Instr.loadAt, Instr.sureAddr, Sem.run_bind, Sem.run_pure, Result.andThen_ok, run_loadVar_row w g 47 47 i.cells (0, 0) _ hg Tryz.underlying47 rfl info25]
  exact ⟨Below.refl _ _, rfl⟩
/-- The form, and the instruction's box. -/
structure Tg (F : Fm) (g o : Nat) (i : Ins) (w0 w : World) : Prop where
  below : Below w0.heap.size w0 w
  box : w.heap[w0.heap.size]? = some (.cells i.cells 47)
  fm : FmAt F g o w
theorem Tg.grow {F : Fm} {g o : Nat} {i : Ins} {w0 w w' : World} (h : Tg F g o i w0 w) (hb : Below w.heap.size w w') : Tg F g o i w0 w' :=
  ⟨h.below.trans (hb.mono h.below.size), by rw [hb.block _ (Array.getElem?_eq_some_iff.1 h.box).1]; exact h.box, h.fm.keep (hb.block g (block_lt_of_cell h.fm.c0))⟩
theorem tg_start {F : Fm} {g o : Nat} (i : Ins) {w : World} (h : FmAt F g o w) : Tg F g o i w (w.alloc (.cells i.cells 47)) :=
  ⟨Go.Proofs.YtbjcdpmhmebjnaaGreat.below_alloc _ _, heap_alloc_new _ _, h.keep (Below.heap_alloc _ _ _ (block_lt_of_cell h.c0))⟩
theorem tg_up (F : Fm) (g o : Nat) (i : Ins) (w0 : World) : Up Grows (fun w => Tg F g o i w0 w) := fun _ _ h hb => h.grow hb
/-- A new variable of the pair's type. -/
def Fresh (n : Nat) (v : Value) (w : World) : Prop := ∃ b Z, v = .pointer (some ⟨b, 0, none⟩) ∧ n < b ∧ w.heap[b]? = some (.cells Z 103) ∧ Z.size = 18
theorem fresh_up (n : Nat) (v : Value) : Up Grows (Fresh n v) := fun _ _ ⟨b, Z, e, hn, hh, hz⟩ hb => ⟨b, Z, e, hn, by rw [hb.block _ (Array.getElem?_eq_some_iff.1 hh).1]; exact hh, hz⟩
theorem info52 : (Tryz.prog.info? 103).map (·.size) = some 18 := by kernel_rfl
theorem pair_info (s : St) (lay : Bool) : (Tryz.prog.info? 103).map (·.size) = some (pairS s lay).size := info52
theorem pair_one (s : St) (lay : Bool) : (pairS s lay).all (·.oneCell') = true := by simp [pairS, Value.oneCell']
end Go.Proofs.YtbjcdpmhmebjnaaGreat
/- What holds makes of a form and an instruction: its contract. -/
namespace Go.Proofs.YtbjcdpmhmebjnaaGreat
open Go.RowKit

def isForm (F : Fm) (i : Ins) : Bool := (F.op == i.op) && (F.sub == i.sub || F.sub == -1)
theorem below_drewN {B : Nat} {a w : World} (h : Below B a w) : ∀ n, Below B a (w.drewN n) := fun _ => ⟨h.os, h.tape, h.output, h.size, h.block⟩
theorem ins_c0 {i : Ins} {b : Nat} {w : World} (h : w.heap[b]? = some (.cells i.cells 47)) : w.cell? ⟨b, 0, none⟩ = some (.int .i64 i.op) := by
  rw [cell_of_row _ _ _ _ _ _ h]; rfl
theorem ins_c1 {i : Ins} {b : Nat} {w : World} (h : w.heap[b]? = some (.cells i.cells 47)) : w.cell? ⟨b, 1, none⟩ = some (.int .i64 i.sub) := by
  rw [cell_of_row _ _ _ _ _ _ h]; rfl
end Go.Proofs.YtbjcdpmhmebjnaaGreat
