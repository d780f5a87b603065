/- What Decode answers, for every word: its contract. -/
import Derived.Test.YtbjcdpmhmebjnaaGreatD09
import Derived.BigQuiet
import Derived.Test.YtbjcdpmhmebjnaaGreatD01
namespace Go.Proofs.YtbjcdpmhmebjnaaGreat
open Go.RowKit
set_option linter.unusedVariables false

theorem Ins.oneC (i : Ins) : i.cells.all (·.oneCell') = true := i.one
theorem Ins.infoC (i : Ins) : (Tryz.prog.info? 47).map (·.size) = some i.cells.size := info25
/-- The result's box and the table. -/
structure Dc (g : Nat) (w0 w : World) : Prop where
  below : Below w0.heap.size w0 w
  res : ∃ Z, w.heap[w0.heap.size]? = some (.cells Z 47) ∧ Z.size = 16
  tab : w.heap[g]? = some (.cells formCells.toArray 76)
  up : w0.heap.size < g
theorem Dc.grow {g : Nat} {w0 w w' : World} (h : Dc g w0 w) (hb : Below w.heap.size w w') : Dc g w0 w' := by
  obtain ⟨Z, hz, hs⟩ := h.res
  exact ⟨h.below.trans (hb.mono h.below.size), ⟨Z, by rw [hb.block _ (Array.getElem?_eq_some_iff.1 hz).1]; exact hz, hs⟩, by rw [hb.block _ (Array.getElem?_eq_some_iff.1 h.tab).1]; exact h.tab, h.up⟩
theorem dc_start {w w1 : World} {Z : Array Value} (hZ : Z.size = 16) (h : Below (w.alloc (.cells Z 47)).heap.size (w.alloc (.cells Z 47)) w1) : Dc w1.heap.size w ((w1.alloc (.cells Tryz.zeroCells76 76)).setRow w1.heap.size formCells.toArray) := by
  have hs : w.heap.size < (w.alloc (.cells Z 47)).heap.size := (Array.getElem?_eq_some_iff.1 (heap_alloc_new w (.cells Z 47))).1
  have hs1 : w.heap.size < w1.heap.size := Nat.lt_of_lt_of_le hs h.size
  refine ⟨?_, ⟨Z, ?_, hZ⟩, setRow_heap _ _ _ _ _ _ (heap_alloc_new _ _), hs1⟩
  · exact Go.Proofs.YtbjcdpmhmebjnaaGreat.below_setRow (below_more ((Go.Proofs.YtbjcdpmhmebjnaaGreat.below_alloc w _).trans (h.mono (Nat.le_of_lt hs)))) (Nat.le_of_lt hs1)
  · rw [setRow_other _ _ _ _ (by omega), Below.heap_alloc _ _ _ hs1, h.block _ hs]
    exact heap_alloc_new _ _
set_option maxRecDepth 4000 in
set_option maxHeartbeats 4000000 in
theorem decode_c (word : Int) (hW : W32 word) (w : World) :
    Calls Tryz.prog 15 #[.int .u32 word] w fun e w' => e = .returned (decV word).val ∧ Below w.heap.size w w' := by
  go_enter Tryz.func15, Tryz.ntmps15
  go_upto_region 2 with (first | (go_at_call 35; refine (allForms_c _).mono ?_; rintro e w1 ⟨rfl, H1⟩; dsimp only) | ((with_reducible refine wpList_store_row rfl 76 _ _ rfl _ formCells.toArray rfl rfl 76 Tryz.zeroCells76 (heap_alloc_new _ _) info40 (by kernel_rfl) forms_one ?_)))
  have H := dc_start rfl H1
  clear H1
  generalize (w1.alloc (Obj.cells Tryz.zeroCells76 76)).setRow w1.heap.size formCells.toArray = w2 at H ⊢
  generalize w1.heap.size = g at H ⊢
  clear w1
  go_wp2
  go_loopw [8] (fun s8 wr => ∃ k : Nat, k ≤ 40 ∧ s8 = .int .i64 k ∧ Hid (Dc g w wr) ∧ Hid (decL word (forms.drop k) = decV word)) (fun s8 _ => 40 - (intOf s8).toNat)
  case atStart => exact ⟨0, by omega, rfl, H, rfl⟩
  case round =>
    clear H
    obtain ⟨k, hk, rfl, H, hD⟩ := hrel
    by_cases hlt : k < 40
    · have hl2 : (k : Int) < 40 := by omega
      obtain ⟨F, hF, G, hd⟩ := drop_at hlt
      have hD : Hid (decL word (F :: forms.drop (k + 1)) = decV word) := by rw [← hd]; exact hD.out
      have hd : True := trivial
      have hat := fm_at H.out.tab hF
      go_upto_region 6 with fail
      have c2 := hat.c2
      have c3 := hat.c3
      by_cases e1 : bits .and .u32 word F.mask = F.base
      · have d1 : (bits .and .u32 word F.mask != F.base) = false := by simpa using e1
        go_quiet (fail)
        replace H := H.out.grow (below_drewN (Below.refl _ _) nq)
        replace hat := fm_at H.tab hF
        clear c2 c3
        generalize wr.drewN nq = w3 at H hat ⊢
        have hI : Hid (decL word (F :: forms.drop (k + 1)) = if rightB (F.t false (word, startI F)).2 = true then (F.t false (word, startI F)).2 else decL word (forms.drop (k + 1))) := by
          show _ = _
          rw [decL]
          simp only [e1, true_and]
        have hA := apart_c F G.fc G.enters g (k * 5) word hW G.sub w3 hat
        generalize (F.t false (word, startI F)).2 = I at hI hA
        go_upto_region 8 with (first | (go_at_call 36; refine hA.mono ?_; rintro e w4 ⟨rfl, hb⟩; have H4 := H.grow hb; replace H := H4; clear hb; dsimp only) | (((with_reducible refine wpList_store_row rfl 47 _ _ rfl _ I.cells rfl ?_ 47 _ (heap_alloc_new _ _) I.infoC ?_ I.oneC ?_); (focus rfl); (focus rfl); (simp only [Act.put]))))
        have BX := setRow_heap (w4.alloc _) w4.heap.size _ I.cells 47 (0, 0) (heap_alloc_new w4 (.cells #[.int .i64 0, .int .i64 0, .int .i64 0, .int .i64 0, .int .i64 0, .int .i64 0, .int .i64 0, .int .i64 0, .int .i64 0, .int .i64 0, .int .i64 0, .int .i64 0, .bool false, .bool false, .bool false, .bool false] 47))
        replace H := H.grow (Go.Proofs.YtbjcdpmhmebjnaaGreat.below_setRow (cs := I.cells) (Go.Proofs.YtbjcdpmhmebjnaaGreat.below_alloc w4 (.cells #[.int .i64 0, .int .i64 0, .int .i64 0, .int .i64 0, .int .i64 0, .int .i64 0, .int .i64 0, .int .i64 0, .int .i64 0, .int .i64 0, .int .i64 0, .int .i64 0, .bool false, .bool false, .bool false, .bool false] 47)) (Nat.le_refl _))
        have hb : w.heap.size < w4.heap.size := Nat.lt_of_lt_of_le H4.up (Nat.le_of_lt (Array.getElem?_eq_some_iff.1 H4.tab).1)
        generalize World.setRow _ _ _ = w5 at H BX ⊢
        generalize w4.heap.size = b at hb BX ⊢
        cases hR : rightB I with
        | true =>
          go_upto_region 9 with (first | (go_at_call 37; refine (right_c I _).mono ?_; rw [hR]; rintro e w6 ⟨rfl, hb⟩; replace H := H.grow hb; replace BX : w6.heap[b]? = some (.cells I.cells 47) := (hb.block b (Array.getElem?_eq_some_iff.1 BX).1).trans BX; clear hb; dsimp only) | ((with_reducible refine wpList_load_if rfl 47 _ rfl b rfl 47 _ (0, 0) _ BX Tryz.underlying47 rfl I.infoC ?_); simp only [Act.put, List.setIfInBounds_toArray, List.set_cons_succ, List.set_cons_zero]))
          obtain ⟨Z, hz, hZ⟩ := H.res
          have hV : decV word = I := by rw [← hD.out, hI.out, if_pos hR]
          go_wp2_with (first | ((with_reducible refine wpList_load_if rfl 47 _ rfl b rfl 47 _ (0, 0) _ BX Tryz.underlying47 rfl I.infoC ?_); simp only [Act.put, List.setIfInBounds_toArray, List.set_cons_succ, List.set_cons_zero]) | (((with_reducible refine wpList_store_row rfl 47 _ _ rfl w.heap.size I.cells rfl ?_ 47 _ hz I.infoC ?_ I.oneC ?_); (focus rfl); (focus (rw [hZ]; rfl)); (simp only [Act.put]))))
          refine bodyPost_ret (results_cell_row rfl _ _ _ 47 _ (0, 0) _ rfl (setRow_heap _ _ _ _ _ _ hz) Tryz.underlying47 rfl I.infoC) rfl ?_
          exact ⟨by rw [hV], Go.Proofs.YtbjcdpmhmebjnaaGreat.below_setRow H.below (Nat.le_refl _)⟩
        | false =>
          have hV : decL word (forms.drop (k + 1)) = decV word := by rw [← hD.out, hI.out, if_neg (by rw [hR]; decide)]
          go_wp2_with (first | (go_at_call 37; refine (right_c I _).mono ?_; rw [hR]; rintro e w6 ⟨rfl, hb⟩; replace H := H.grow hb; replace BX : w6.heap[b]? = some (.cells I.cells 47) := (hb.block b (Array.getElem?_eq_some_iff.1 BX).1).trans BX; clear hb; dsimp only) | ((with_reducible refine wpList_load_if rfl 47 _ rfl b rfl 47 _ (0, 0) _ BX Tryz.underlying47 rfl I.infoC ?_); simp only [Act.put, List.setIfInBounds_toArray, List.set_cons_succ, List.set_cons_zero]))
          go_roundw
          case rel => exact ⟨k + 1, by omega, by go_num, H, hV⟩
          case measure => simp [intOf]; omega
      · have d1 : (bits .and .u32 word F.mask != F.base) = true := by simpa using e1
        go_quiet (fail)
        go_wp2
        go_roundw
        case rel => exact ⟨k + 1, by omega, by go_num, H.out.grow (below_drewN (Below.refl _ _) _), by rw [← hD.out]; show _ = _; rw [decL, if_neg (fun h => e1 h.1)]⟩
        case measure => simp [intOf]; omega
    · obtain rfl : k = 40 := by omega
      have hD : decV word = nilI := hD.out.symm
      obtain ⟨Z, hz, hZ⟩ := H.out.res
      have HB := H.out.below
      go_upto_region 11 with fail
      refine wp_region_lit ?_
      with_reducible refine wpList_built rfl 47 _ rfl nilI.cells (by kernel_rfl) ?_
      simp only [Act.put, List.setIfInBounds_toArray, List.set_cons_succ, List.set_cons_zero]
      with_reducible refine wpList_store_row rfl 47 _ _ rfl w.heap.size nilI.cells rfl rfl 47 Z hz nilI.infoC ?_ nilI.oneC ?_
      focus (rw [hZ]; rfl)
      go_wp2
      refine bodyPost_ret (results_cell_row rfl _ _ _ 47 _ (0, 0) _ rfl (setRow_heap _ _ _ _ _ _ hz) Tryz.underlying47 rfl nilI.infoC) rfl ?_
      exact ⟨by rw [hD], Go.Proofs.YtbjcdpmhmebjnaaGreat.below_setRow HB (Nat.le_refl _)⟩
end Go.Proofs.YtbjcdpmhmebjnaaGreat
/- Words that are laid together of fields, bit by bit: plain. -/
namespace Go.Proofs.YtbjcdpmhmebjnaaGreat
open Go.RowKit

def fld (W a m : Nat) : Nat := W / 2 ^ a % 2 ^ m
theorem testBit_fld (W a m k : Nat) : (fld W a m).testBit k = (decide (k < m) && W.testBit (k + a)) := by
  unfold fld
  rw [Nat.testBit_mod_two_pow, Nat.testBit_div_two_pow]
theorem fld_lt (W a m : Nat) : fld W a m < 2 ^ m := Nat.mod_lt _ (Nat.two_pow_pos m)
def inR (a m i : Nat) : Bool := decide (a ≤ i) && decide (i < a + m)
def putN (W a m v : Nat) : Nat := orBits (fun i => if a ≤ i ∧ i < a + m then v.testBit (i - a) else W.testBit i) 32
theorem putN_in {W a m v i : Nat} (h : i < 32) (h1 : a ≤ i) (h2 : i < a + m) : (putN W a m v).testBit i = v.testBit (i - a) := by
  unfold putN; rw [testBit_orBits]; simp [h, h1, h2]
theorem putN_out {W a m v i : Nat} (h : i < 32) (h1 : ¬ (a ≤ i ∧ i < a + m)) : (putN W a m v).testBit i = W.testBit i := by
  unfold putN; rw [testBit_orBits]; simp only [h, decide_true, Bool.true_and]; rw [if_neg h1]
theorem putN_lt (W a m v : Nat) : putN W a m v < 4294967296 := orBits_lt _ 32

/-- A number laid at a place: the place, how many bits, the number. -/
structure Cr where
  a : Nat
  m : Nat
  v : Nat
def lays (W : Nat) : List Cr → Nat
  | [] => W
  | c :: l => lays (putN W c.a c.m c.v) l
theorem lays_append (W : Nat) (l l' : List Cr) : lays W (l ++ l') = lays (lays W l) l' := by
  induction l generalizing W with
  | nil => rfl
  | cons c l ih => exact ih _
theorem lays_out {i : Nat} (h : i < 32) : ∀ (l : List Cr) (W : Nat), (∀ c ∈ l, ¬ (c.a ≤ i ∧ i < c.a + c.m)) → (lays W l).testBit i = W.testBit i
  | [], _, _ => rfl
  | c :: l, W, hl => by
    show (lays (putN W c.a c.m c.v) l).testBit i = _
    rw [lays_out h l _ (fun d hd => hl d (by simp [hd])), putN_out h (hl c (by simp))]
theorem lays_lt {W : Nat} (hW : W < 4294967296) : ∀ l : List Cr, ∀ {W : Nat}, W < 4294967296 → lays W l < 4294967296
  | [], _, h => h
  | _ :: l, _, _ => lays_lt hW l (putN_lt _ _ _ _)
/-- The places of a list part, and lie within a word. -/
def apartL : List (Nat × Nat) → Bool
  | [] => true
  | (a, m) :: l => decide (a + m ≤ 32) && (l.all fun x => decide (a + m ≤ x.1) || decide (x.1 + x.2 ≤ a)) && apartL l
theorem apart_cons {a m : Nat} {l : List (Nat × Nat)} (h : apartL ((a, m) :: l) = true) : a + m ≤ 32 ∧ (∀ x ∈ l, a + m ≤ x.1 ∨ x.1 + x.2 ≤ a) ∧ apartL l = true := by
  simp only [apartL, Bool.and_eq_true, decide_eq_true_eq, List.all_eq_true, Bool.or_eq_true] at h
  exact ⟨h.1.1, h.1.2, h.2⟩
def placesL (l : List Cr) : List (Nat × Nat) := l.map fun c => (c.a, c.m)
theorem lays_in : ∀ (l : List Cr) (W : Nat), apartL (placesL l) = true → ∀ c ∈ l, ∀ i, c.a ≤ i → i < c.a + c.m → (lays W l).testBit i = c.v.testBit (i - c.a)
  | [], _, _, c, hc, _, _, _ => by cases hc
  | d :: l, W, hp, c, hc, i, h1, h2 => by
    obtain ⟨p1, p2, p3⟩ := apart_cons (show apartL ((d.a, d.m) :: placesL l) = true from hp)
    show (lays (putN W d.a d.m d.v) l).testBit i = _
    rcases List.mem_cons.1 hc with rfl | hc
    · have h32 : i < 32 := by omega
      rw [lays_out h32 l _ (fun e he hh => by
        have := p2 (e.a, e.m) (List.mem_map.2 ⟨e, he, rfl⟩)
        simp only at this
        omega), putN_in h32 h1 h2]
    · exact lays_in l _ p3 c hc i h1 h2
theorem fld_lays {l : List Cr} {W : Nat} (hp : apartL (placesL l) = true) {c : Cr} (hc : c ∈ l) (hv : c.v < 2 ^ c.m) : fld (lays W l) c.a c.m = c.v := by
  apply Nat.eq_of_testBit_eq
  intro k
  rw [testBit_fld]
  by_cases hk : k < c.m
  · rw [lays_in l W hp c hc (k + c.a) (by omega) (by omega)]
    simp [hk]
  · have : c.v.testBit k = false := Nat.testBit_lt_two_pow (Nat.lt_of_lt_of_le hv (Nat.pow_le_pow_right Nat.zero_lt_two (by omega)))
    simp [hk, this]
/-- The mask has just the bits that no place has. -/
def coversB (mask : Nat) (l : List (Nat × Nat)) : Bool := (List.range 32).all fun i => mask.testBit i == !(l.any fun x => decide (x.1 ≤ i) && decide (i < x.1 + x.2))
theorem covers_at {mask : Nat} {l : List (Nat × Nat)} (h : coversB mask l = true) {i : Nat} (hi : i < 32) : mask.testBit i = !(l.any fun x => decide (x.1 ≤ i) && decide (i < x.1 + x.2)) := by
  have := List.all_eq_true.1 h i (List.mem_range.2 hi)
  simpa using this
theorem out_of {mask : Nat} {l : List Cr} (h : coversB mask (placesL l) = true) {i : Nat} (hi : i < 32) (hm : mask.testBit i = true) : ∀ c ∈ l, ¬ (c.a ≤ i ∧ i < c.a + c.m) := by
  intro c hc hh
  rw [covers_at h hi] at hm
  have : (placesL l).any (fun x => decide (x.1 ≤ i) && decide (i < x.1 + x.2)) = true := List.any_eq_true.2 ⟨(c.a, c.m), List.mem_map.2 ⟨c, hc, rfl⟩, by simp [hh.1, hh.2]⟩
  rw [this] at hm; cases hm
theorem in_of {mask : Nat} {l : List Cr} (h : coversB mask (placesL l) = true) {i : Nat} (hi : i < 32) (hm : mask.testBit i = false) : ∃ c ∈ l, c.a ≤ i ∧ i < c.a + c.m := by
  rw [covers_at h hi] at hm
  have : (placesL l).any (fun x => decide (x.1 ≤ i) && decide (i < x.1 + x.2)) = true := by simpa using hm
  obtain ⟨x, hx, h1⟩ := List.any_eq_true.1 this
  obtain ⟨c, hc, rfl⟩ := List.mem_map.1 hx
  simp only [Bool.and_eq_true, decide_eq_true_eq] at h1
  exact ⟨c, hc, h1.1, h1.2⟩
theorem bit_high {x i : Nat} (h : x < 4294967296) (hi : ¬ i < 32) : x.testBit i = false :=
  Nat.testBit_lt_two_pow (Nat.lt_of_lt_of_le (show x < 2 ^ 32 from h) (Nat.pow_le_pow_right Nat.zero_lt_two (by omega)))
/-- What is laid matches the mask. -/
theorem lays_mask {mask base : Nat} {l : List Cr} (h : coversB mask (placesL l) = true) (hb : base &&& mask = base) (hm : mask < 4294967296) : lays base l &&& mask = base := by
  apply Nat.eq_of_testBit_eq
  intro i
  rw [Nat.testBit_and]
  by_cases hi : i < 32
  · cases e : mask.testBit i
    · have := congrArg (fun x => x.testBit i) hb
      simp only [Nat.testBit_and, e, Bool.and_false] at this
      simp [← this]
    · rw [lays_out hi l base (out_of h hi e)]; simp
  · have := congrArg (fun x => x.testBit i) hb
    simp only [Nat.testBit_and, bit_high hm hi, Bool.and_false] at this
    simp [bit_high hm hi, ← this]
/-- A word that matches the mask, and has the numbers at their places, is what is laid together of them. -/
theorem lays_back {mask base w : Nat} {l : List Cr} (h : coversB mask (placesL l) = true) (hp : apartL (placesL l) = true) (hw : w < 4294967296) (hbs : base < 4294967296) (hm : w &&& mask = base) (hf : ∀ c ∈ l, fld w c.a c.m = c.v) : lays base l = w := by
  apply Nat.eq_of_testBit_eq
  intro i
  by_cases hi : i < 32
  · cases e : mask.testBit i
    · obtain ⟨c, hc, h1, h2⟩ := in_of h hi e
      rw [lays_in l base hp c hc i h1 h2, ← hf c hc, testBit_fld]
      simp [show i - c.a < c.m by omega, show i - c.a + c.a = i by omega]
    · rw [lays_out hi l base (out_of h hi e), ← hm, Nat.testBit_and, e, Bool.and_true]
  · rw [bit_high hw hi, bit_high (lays_lt hbs l hbs) hi]
end Go.Proofs.YtbjcdpmhmebjnaaGreat
/- Fields as numbers laid into a word and taken from it: plain. -/
namespace Go.Proofs.YtbjcdpmhmebjnaaGreat
open Go.RowKit

def lowN (n : Int) (m : Nat) : Nat := (n % 4294967296).toNat % 2 ^ m
theorem lowN_lt (n : Int) (m : Nat) : lowN n m < 2 ^ m := Nat.mod_lt _ (Nat.two_pow_pos m)
theorem lowN_nat {x m : Nat} (hm : m ≤ 32) (h : x < 2 ^ m) : lowN (x : Int) m = x := by
  have : x < 4294967296 := Nat.lt_of_lt_of_le h (show 2 ^ m ≤ 2 ^ 32 from Nat.pow_le_pow_right (by decide) hm)
  unfold lowN
  rw [show ((x : Int) % 4294967296).toNat = x by omega, Nat.mod_eq_of_lt h]
theorem inWord_yes {a m : Nat} (h1 : 1 ≤ m) (h2 : a + m ≤ 32) : inWordB (a : Int) (m : Int) = true := by
  unfold inWordB; simp only [decide_eq_true_eq]; omega
theorem low_eq (n : Int) {m : Nat} (h1 : 1 ≤ m) (h2 : m ≤ 32) : lowV n m = ((lowN n m : Nat) : Int) := by
  unfold lowV fieldV lowN
  rw [if_pos (show inWordB 0 (m : Int) = true from inWord_yes (a := 0) h1 (by omega))]
  simp
theorem put_eq (W n : Int) {a m : Nat} (h1 : 1 ≤ m) (h2 : a + m ≤ 32) : crossW true W n a m = ((putN W.toNat a m (lowN n m) : Nat) : Int) := by
  show putV W a m (lowV n m) = _
  rw [low_eq n h1 (by omega)]
  have hf : fitsB ((lowN n m : Nat) : Int) m = true := by
    unfold fitsB; simp only [decide_eq_true_eq, Int.toNat_natCast]; exact lowN_lt n m
  unfold putV
  rw [if_pos (by rw [inWord_yes h1 h2, hf]; rfl)]
  rfl
theorem fld_put {W a m v : Nat} (h2 : a + m ≤ 32) (hv : v < 2 ^ m) : fld (putN W a m v) a m = v :=
  fld_lays (l := [⟨a, m, v⟩]) (by simp [placesL, apartL, h2]) (c := ⟨a, m, v⟩) (by simp) hv
theorem field_eq (W : Int) {a m : Nat} (h1 : 1 ≤ m) (h2 : a + m ≤ 32) : fieldV W a m = ((fld W.toNat a m : Nat) : Int) := by
  unfold fieldV; rw [if_pos (inWord_yes h1 h2)]; rfl
theorem got_eq (W n : Int) {a m : Nat} (h1 : 1 ≤ m) (h2 : a + m ≤ 32) : crossG true W n a m = ((lowN n m : Nat) : Int) := by
  unfold crossG
  rw [put_eq W n h1 h2, field_eq _ h1 h2, Int.toNat_natCast, fld_put h2 (lowN_lt n m)]
theorem take_eq (W n : Int) {a m : Nat} (h1 : 1 ≤ m) (h2 : a + m ≤ 32) : crossG false W n a m = ((fld W.toNat a m : Nat) : Int) := field_eq W h1 h2

/-- How a step lays an instruction's fields into a word, and takes them out of it. -/
structure Cd (t : Tr) (cr : Ins → List Cr) (fits : Ins → Prop) (ag : Nat → Ins → Prop) (got : Nat → Ins → Ins) : Prop where
  lay : ∀ W i, W32 W → fits i → t true (W, i) = (((lays W.toNat (cr i) : Nat) : Int), i)
  take : ∀ W i, W32 W → t false (W, i) = (W, got W.toNat i)
  into : ∀ W i, ag W i → fits i ∧ ∀ c ∈ cr i, fld W c.a c.m = c.v
  fro : ∀ W i, fits i → (∀ c ∈ cr i, fld W c.a c.m = c.v) → ag W i
  small : ∀ i, ∀ c ∈ cr i, c.v < 2 ^ c.m
theorem w32_nat {n : Nat} (h : n < 4294967296) : W32 (n : Int) := ⟨by omega, by omega⟩
theorem w32_of {W : Int} (h : W32 W) : W.toNat < 4294967296 ∧ ((W.toNat : Nat) : Int) = W := ⟨by have := h.1; have := h.2; omega, Int.toNat_of_nonneg h.1⟩
theorem cd_then {f g : Tr} {cf cg : Ins → List Cr} {pf pg : Ins → Prop} {af ag : Nat → Ins → Prop} {gf gg : Nat → Ins → Ins} (hf : Cd f cf pf af gf) (hg : Cd g cg pg ag gg) :
    Cd (thenT f g) (fun i => cf i ++ cg i) (fun i => pf i ∧ pg i) (fun W i => af W i ∧ ag W i) (fun W i => gg W (gf W i)) where
  lay W i hW h := by
    show g true (f true (W, i)) = _
    rw [hf.lay W i hW h.1, hg.lay _ i (w32_nat (lays_lt (w32_of hW).1 _ (w32_of hW).1)) h.2, Int.toNat_natCast, lays_append]
  take W i hW := by
    show g false (f false (W, i)) = _
    rw [hf.take W i hW, hg.take W _ hW]
  into W i h := by
    obtain ⟨p1, q1⟩ := hf.into W i h.1
    obtain ⟨p2, q2⟩ := hg.into W i h.2
    exact ⟨⟨p1, p2⟩, fun c hc => (List.mem_append.1 hc).elim (q1 c) (q2 c)⟩
  fro W i h hc := ⟨hf.fro W i h.1 fun c hm => hc c (List.mem_append.2 (.inl hm)), hg.fro W i h.2 fun c hm => hc c (List.mem_append.2 (.inr hm))⟩
  small i c hc := (List.mem_append.1 hc).elim (hf.small i c) (hg.small i c)

theorem Fl.set_get (k : Fl) (i : Ins) : k.set (k.get i) i = i := by cases k <;> rfl
theorem Bl.set_get (k : Bl) (i : Ins) : k.set (k.get i) i = i := by cases k <;> rfl
theorem tdiv_nat (x : Nat) {u : Int} (hu : 1 ≤ u) : ((x : Int) * u).tdiv u = x := Int.mul_tdiv_cancel _ (by omega)
theorem cd_num (k : Fl) (u : Int) (a m : Nat) (hu : 1 ≤ u) (h1 : 1 ≤ m) (h2 : a + m ≤ 32) :
    Cd (numT k u a m) (fun i => [⟨a, m, lowN ((k.get i).tdiv u) m⟩]) (fun i => ∃ x : Nat, x < 2 ^ m ∧ k.get i = x * u) (fun W i => k.get i = (fld W a m : Nat) * u) (fun W i => k.set ((fld W a m : Nat) * u) i) where
  lay W i _ h := by
    obtain ⟨x, hx, e⟩ := h
    show (crossW true W ((k.get i).tdiv u) a m, k.set (crossG true W ((k.get i).tdiv u) a m * u) i) = _
    rw [put_eq _ _ h1 h2, got_eq _ _ h1 h2]
    have : ((lowN ((k.get i).tdiv u) m : Nat) : Int) * u = k.get i := by rw [e, tdiv_nat x hu, lowN_nat (by omega) hx]
    rw [this, Fl.set_get]; rfl
  take W i _ := by
    show (W, k.set (crossG false W ((k.get i).tdiv u) a m * u) i) = _
    rw [take_eq _ _ h1 h2]
  into W i h := by
    refine ⟨⟨fld W a m, fld_lt _ _ _, h⟩, ?_⟩
    intro c hc
    obtain rfl : c = ⟨a, m, lowN ((k.get i).tdiv u) m⟩ := by simpa using hc
    show fld W a m = lowN ((k.get i).tdiv u) m
    rw [h, tdiv_nat _ hu, lowN_nat (by omega) (fld_lt _ _ _)]
  fro W i h hc := by
    obtain ⟨x, hx, e⟩ := h
    have := hc _ (List.mem_singleton.2 rfl)
    have this : fld W a m = lowN ((k.get i).tdiv u) m := this
    rw [e, tdiv_nat x hu, lowN_nat (by omega) hx] at this
    rw [this]; exact e
  small i c hc := by
    obtain rfl : c = ⟨a, m, lowN ((k.get i).tdiv u) m⟩ := by simpa using hc
    exact lowN_lt _ _
theorem bool_low (x : Bool) : (((lowN (boolI x) 1 : Nat) : Int) == 1) = x := by cases x <;> decide
theorem fld_one (W a : Nat) : fld W a 1 = lowN (boolI (((fld W a 1 : Nat) : Int) == 1)) 1 := by
  have : fld W a 1 < 2 := fld_lt W a 1
  rcases (by omega : fld W a 1 = 0 ∨ fld W a 1 = 1) with h | h <;> rw [h] <;> rfl
theorem cd_sgn (k : Bl) (a : Nat) (h2 : a + 1 ≤ 32) :
    Cd (sgnT k a) (fun i => [⟨a, 1, lowN (boolI (k.get i)) 1⟩]) (fun _ => True) (fun W i => k.get i = (((fld W a 1 : Nat) : Int) == 1)) (fun W i => k.set (((fld W a 1 : Nat) : Int) == 1) i) where
  lay W i _ _ := by
    show (crossW true W (boolI (k.get i)) a ((1 : Nat) : Int), k.set (crossG true W (boolI (k.get i)) a ((1 : Nat) : Int) == 1) i) = _
    rw [put_eq _ _ (by decide) h2, got_eq _ _ (by decide) h2, bool_low, Bl.set_get]; rfl
  take W i _ := by
    show (W, k.set (crossG false W (boolI (k.get i)) a ((1 : Nat) : Int) == 1) i) = _
    rw [take_eq _ _ (by decide) h2]
  into W i h := by
    refine ⟨trivial, ?_⟩
    intro c hc
    obtain rfl : c = ⟨a, 1, lowN (boolI (k.get i)) 1⟩ := by simpa using hc
    show fld W a 1 = lowN (boolI (k.get i)) 1
    rw [h]; exact fld_one W a
  fro W i _ hc := by
    have this : fld W a 1 = lowN (boolI (k.get i)) 1 := hc _ (List.mem_singleton.2 rfl)
    rw [this, bool_low]
  small i c hc := by
    obtain rfl : c = ⟨a, 1, lowN (boolI (k.get i)) 1⟩ := by simpa using hc
    exact lowN_lt _ _
theorem cd_nothing : Cd nothingT (fun _ => []) (fun _ => True) (fun _ _ => True) (fun _ i => i) where
  lay W i hW _ := by show (W, i) = (((W.toNat : Nat) : Int), i); rw [(w32_of hW).2]
  take _ _ _ := rfl
  into _ _ _ := ⟨trivial, fun _ h => by cases h⟩
  fro _ _ _ _ := trivial
  small _ _ h := by cases h
end Go.Proofs.YtbjcdpmhmebjnaaGreat
/- Fields that are read with a sign, and those in two pieces: plain. -/
namespace Go.Proofs.YtbjcdpmhmebjnaaGreat
open Go.RowKit
set_option linter.unusedVariables false

def sgI (n m : Nat) : Int := if n < 2 ^ (m - 1) then (n : Int) else (n : Int) - 2 ^ m
theorem sg_bits {n m : Nat} (h1 : 1 ≤ m) (h2 : m ≤ 32) (hn : n < 2 ^ m) (hs : ¬ n < 2 ^ (m - 1)) : orBits (signBit (n : Int) (m : Int)) 64 = (2 ^ (64 - m) - 1) * 2 ^ m + n := by
  have top : n.testBit (m - 1) = true := by
    have : n / 2 ^ (m - 1) = 1 := by
      have e : 2 ^ m = 2 ^ (m - 1) * 2 := by rw [← Nat.pow_succ]; congr 1; omega
      apply Nat.div_eq_of_lt_le <;> omega
    rw [Nat.testBit_eq_decide_div_mod_eq, this]; rfl
  apply Nat.eq_of_testBit_eq
  intro i
  rw [testBit_orBits, ← Nat.shiftLeft_eq, Nat.shiftLeft_add_eq_or_of_lt hn, Nat.testBit_or, Nat.testBit_shiftLeft, Nat.testBit_two_pow_sub_one]
  unfold signBit
  rw [Int.toNat_natCast, Int.toNat_natCast]
  by_cases hi : i < m
  · rw [show min i (m - 1) = i by omega]
    simp [show i < 64 by omega, show ¬ m ≤ i by omega]
  · rw [show min i (m - 1) = m - 1 by omega, top, Nat.testBit_lt_two_pow (Nat.lt_of_lt_of_le hn (Nat.pow_le_pow_right (by decide) (by omega)))]
    by_cases h6 : i < 64
    · simp [h6, show m ≤ i by omega, show i - m < 64 - m by omega]
    · simp [h6, show ¬ i - m < 64 - m by omega]
theorem sg_low {n m : Nat} (h1 : 1 ≤ m) (h2 : m ≤ 32) (hs : n < 2 ^ (m - 1)) : orBits (signBit (n : Int) (m : Int)) 64 = n := by
  apply Nat.eq_of_testBit_eq
  intro i
  rw [testBit_orBits]
  unfold signBit
  rw [Int.toNat_natCast, Int.toNat_natCast]
  by_cases hi : i < m
  · rw [show min i (m - 1) = i by omega]; simp [show i < 64 by omega]
  · rw [show min i (m - 1) = m - 1 by omega, Nat.testBit_lt_two_pow hs, Nat.testBit_lt_two_pow (Nat.lt_of_lt_of_le hs (Nat.pow_le_pow_right (by decide) (by omega)))]
    simp
theorem sgV_eq {n m : Nat} (h1 : 1 ≤ m) (h2 : m ≤ 32) (hn : n < 2 ^ m) : sgV (n : Int) (m : Int) = sgI n m := by
  have hm : inNumB (m : Int) = true := by unfold inNumB; simp only [decide_eq_true_eq]; omega
  have hp : (2 : Nat) ^ m ≤ 4294967296 := show 2 ^ m ≤ 2 ^ 32 from Nat.pow_le_pow_right (by decide) h2
  unfold sgV signedV sgI
  rw [if_pos hm]
  by_cases hs : n < 2 ^ (m - 1)
  · rw [if_pos hs, sg_low h1 h2 hs]
    unfold wrap64; omega
  · rw [if_neg hs, sg_bits h1 h2 hn hs]
    have e : (2 ^ (64 - m) - 1) * 2 ^ m + n = 18446744073709551616 - 2 ^ m + n := by
      rw [Nat.sub_mul, Nat.one_mul, ← Nat.pow_add, show 64 - m + m = 64 by omega]
    have hc : ((2 ^ m : Nat) : Int) = (2 : Int) ^ m := by simp
    have hlo : 2 ^ m ≤ 2 * n := by
      have : (2 : Nat) ^ m = 2 ^ (m - 1) * 2 := by rw [← Nat.pow_succ]; congr 1; omega
      omega
    rw [e, ← hc]
    unfold wrap64
    generalize 2 ^ m = q at *
    omega
theorem sgI_in {n m : Nat} (h1 : 1 ≤ m) (hn : n < 2 ^ m) : -(((2 : Nat) ^ (m - 1) : Nat) : Int) ≤ sgI n m ∧ sgI n m < ((2 : Nat) ^ (m - 1) : Nat) := by
  have e : (2 : Nat) ^ m = 2 ^ (m - 1) * 2 := by rw [← Nat.pow_succ]; congr 1; omega
  have hc : ((2 ^ m : Nat) : Int) = (2 : Int) ^ m := by simp
  unfold sgI
  rw [← hc]
  generalize 2 ^ m = q at *
  generalize 2 ^ (m - 1) = r at *
  split <;> omega
theorem dvd_int {q : Nat} (h : q ∣ 4294967296) : (q : Int) ∣ 4294967296 := Int.natCast_dvd_natCast.2 h
/-- A number with a sign, laid and read again. -/
theorem sg_back {y : Int} {m : Nat} (h1 : 1 ≤ m) (h2 : m ≤ 32) (hl : -(((2 : Nat) ^ (m - 1) : Nat) : Int) ≤ y) (hu : y < ((2 : Nat) ^ (m - 1) : Nat)) : sgI (lowN y m) m = y := by
  have e : (2 : Nat) ^ m = 2 ^ (m - 1) * 2 := by rw [← Nat.pow_succ]; congr 1; omega
  have hc : ((2 ^ m : Nat) : Int) = (2 : Int) ^ m := by simp
  have hp : (2 : Nat) ^ m ∣ 4294967296 := show 2 ^ m ∣ 2 ^ 32 from Nat.pow_dvd_pow 2 h2
  have hle : (2 : Nat) ^ m ≤ 4294967296 := Nat.le_of_dvd (by decide) hp
  have hlow : ((lowN y m : Nat) : Int) = y % ((2 ^ m : Nat) : Int) := by
    unfold lowN
    rw [Int.natCast_emod, Int.toNat_of_nonneg (Int.emod_nonneg _ (by decide)), Int.emod_emod_of_dvd _ (dvd_int hp)]
  unfold sgI
  rw [← hc]
  by_cases hy : 0 ≤ y
  · have e1 : y % ((2 ^ m : Nat) : Int) = y := Int.emod_eq_of_lt hy (by generalize 2 ^ m = q at *; generalize 2 ^ (m - 1) = r at *; omega)
    rw [e1] at hlow
    generalize 2 ^ m = q at *
    generalize 2 ^ (m - 1) = r at *
    split <;> omega
  · have e1 : y % ((2 ^ m : Nat) : Int) = y + ((2 ^ m : Nat) : Int) := by
      rw [← Int.add_emod_right]
      exact Int.emod_eq_of_lt (by generalize 2 ^ m = q at *; generalize 2 ^ (m - 1) = r at *; omega) (by generalize 2 ^ m = q at *; omega)
    rw [e1] at hlow
    generalize 2 ^ m = q at *
    generalize 2 ^ (m - 1) = r at *
    split <;> omega
/-- A number with a sign, read and laid again. -/
theorem sg_forth {n m : Nat} (h1 : 1 ≤ m) (h2 : m ≤ 32) (hn : n < 2 ^ m) : lowN (sgI n m) m = n := by
  have hc : ((2 ^ m : Nat) : Int) = (2 : Int) ^ m := by simp
  have hp : (2 : Nat) ^ m ∣ 4294967296 := show 2 ^ m ∣ 2 ^ 32 from Nat.pow_dvd_pow 2 h2
  have hlow : ∀ y : Int, ((lowN y m : Nat) : Int) = y % ((2 ^ m : Nat) : Int) := fun y => by
    unfold lowN
    rw [Int.natCast_emod, Int.toNat_of_nonneg (Int.emod_nonneg _ (by decide)), Int.emod_emod_of_dvd _ (dvd_int hp)]
  have : ((lowN (sgI n m) m : Nat) : Int) = (n : Int) := by
    rw [hlow]
    unfold sgI
    rw [← hc]
    split
    · exact Int.emod_eq_of_lt (by omega) (by generalize 2 ^ m = q at *; omega)
    · rw [Int.sub_emod_right]; exact Int.emod_eq_of_lt (by omega) (by generalize 2 ^ m = q at *; omega)
  omega
theorem wrap_four {y : Int} (h : -4294967296 ≤ y ∧ y < 4294967296) {u : Int} (h1 : 1 ≤ u) (h2 : u ≤ 4096) : wrap64 (y * u) = y * u := by
  have a := Int.mul_le_mul (show y ≤ 4294967296 by omega) h2 (by omega) (by omega)
  have b := Int.mul_le_mul (show -y ≤ 4294967296 by omega) h2 (by omega) (by omega)
  rw [Int.neg_mul] at b
  unfold wrap64
  omega
theorem sgI_small {n m : Nat} (h1 : 1 ≤ m) (h2 : m ≤ 32) (hn : n < 2 ^ m) : -4294967296 ≤ sgI n m ∧ sgI n m < 4294967296 := by
  have := sgI_in h1 hn
  have hp : (2 : Nat) ^ (m - 1) ≤ 4294967296 := show 2 ^ (m - 1) ≤ 2 ^ 32 from Nat.pow_le_pow_right (by decide) (by omega)
  omega
theorem setI_same (i : Ins) {n : Int} (h : n = i.imm) : ({ i with imm := n } : Ins) = i := by subst h; rfl
theorem cd_words (a m : Nat) (h1 : 1 ≤ m) (h2 : a + m ≤ 32) :
    Cd (wordsT a m) (fun i => [⟨a, m, lowN (i.imm.tdiv 4) m⟩]) (fun i => ∃ y : Int, -(((2 : Nat) ^ (m - 1) : Nat) : Int) ≤ y ∧ y < ((2 : Nat) ^ (m - 1) : Nat) ∧ i.imm = y * 4) (fun W i => i.imm = sgI (fld W a m) m * 4) (fun W i => { i with imm := sgI (fld W a m) m * 4 }) where
  lay W i _ h := by
    obtain ⟨y, hl, hu, e⟩ := h
    have ht : i.imm.tdiv 4 = y := by rw [e]; exact Int.mul_tdiv_cancel _ (by decide)
    show (crossW true W (i.imm.tdiv 4) a m, ({ i with imm := wrap64 (sgV (crossG true W (i.imm.tdiv 4) a m) m * 4) } : Ins)) = _
    rw [put_eq _ _ h1 h2, got_eq _ _ h1 h2, ht, sgV_eq h1 (by omega) (lowN_lt _ _), sg_back h1 (by omega) hl hu, setI_same i]
    · rfl
    · rw [e]
      have hp : (2 : Nat) ^ (m - 1) ≤ 4294967296 := show 2 ^ (m - 1) ≤ 2 ^ 32 from Nat.pow_le_pow_right (by decide) (by omega)
      exact wrap_four ⟨by omega, by omega⟩ (by decide) (by decide)
  take W i _ := by
    show (W, ({ i with imm := wrap64 (sgV (crossG false W (i.imm.tdiv 4) a m) m * 4) } : Ins)) = _
    rw [take_eq _ _ h1 h2, sgV_eq h1 (by omega) (fld_lt _ _ _), wrap_four (sgI_small h1 (by omega) (fld_lt _ _ _)) (by decide) (by decide)]
  into W i h := by
    obtain ⟨hl, hu⟩ := sgI_in h1 (fld_lt W a m)
    refine ⟨⟨_, hl, hu, h⟩, ?_⟩
    intro c hc
    obtain rfl : c = ⟨a, m, lowN (i.imm.tdiv 4) m⟩ := by simpa using hc
    show fld W a m = lowN (i.imm.tdiv 4) m
    rw [h, Int.mul_tdiv_cancel _ (by decide), sg_forth h1 (by omega) (fld_lt _ _ _)]
  fro W i h hc := by
    obtain ⟨y, hl, hu, e⟩ := h
    have this : fld W a m = lowN (i.imm.tdiv 4) m := hc _ (List.mem_singleton.2 rfl)
    rw [e, Int.mul_tdiv_cancel _ (by decide)] at this
    rw [this, sg_back h1 (by omega) hl hu]; exact e
  small i c hc := by
    obtain rfl : c = ⟨a, m, lowN (i.imm.tdiv 4) m⟩ := by simpa using hc
    exact lowN_lt _ _
theorem setSF (i : Ins) {n : Int} {f : Bool} (h : n = i.sub) (hf : f = i.flags) : ({ i with sub := n, flags := f } : Ins) = i := by subst h; subst hf; rfl
/-- The kinds of logic: the Sub, or 3 for the Sub 0 with flags. -/
theorem cd_logic : Cd logicT (fun i => [⟨29, 2, lowN (logN i) 2⟩]) (fun i => 0 ≤ i.sub ∧ i.sub ≤ 2 ∧ (i.flags = true → i.sub = 0)) (fun W i => i.sub = (fld W 29 2 : Nat).cast % 3 ∧ i.flags = (((fld W 29 2 : Nat) : Int) == 3)) (fun W i => { i with sub := (fld W 29 2 : Nat).cast % 3, flags := ((fld W 29 2 : Nat) : Int) == 3 }) where
  lay W i _ h := by
    obtain ⟨h0, h1, h2⟩ := h
    show (crossW true W (logN i) ((29 : Nat) : Int) ((2 : Nat) : Int), ({ i with sub := (crossG true W (logN i) ((29 : Nat) : Int) ((2 : Nat) : Int)).tmod 3, flags := crossG true W (logN i) ((29 : Nat) : Int) ((2 : Nat) : Int) == 3 } : Ins)) = _
    rw [put_eq _ _ (by decide) (by decide), got_eq _ _ (by decide) (by decide)]
    rcases (by omega : i.sub = 0 ∨ i.sub = 1 ∨ i.sub = 2) with h | h | h <;> cases hf : i.flags
    · have hg : lowN (logN i) 2 = 0 := by unfold logN; rw [hf, h]; rfl
      rw [setSF i (by rw [hg, h]; rfl) (by rw [hg, hf]; rfl)]; rfl
    · have hg : lowN (logN i) 2 = 3 := by unfold logN; rw [hf]; rfl
      rw [setSF i (by rw [hg, h]; rfl) (by rw [hg, hf]; rfl)]; rfl
    · have hg : lowN (logN i) 2 = 1 := by unfold logN; rw [hf, h]; rfl
      rw [setSF i (by rw [hg, h]; rfl) (by rw [hg, hf]; rfl)]; rfl
    · have := h2 hf; omega
    · have hg : lowN (logN i) 2 = 2 := by unfold logN; rw [hf, h]; rfl
      rw [setSF i (by rw [hg, h]; rfl) (by rw [hg, hf]; rfl)]; rfl
    · have := h2 hf; omega
  take W i _ := by
    show (W, ({ i with sub := (crossG false W (logN i) ((29 : Nat) : Int) ((2 : Nat) : Int)).tmod 3, flags := crossG false W (logN i) ((29 : Nat) : Int) ((2 : Nat) : Int) == 3 } : Ins)) = _
    rw [take_eq _ _ (by decide) (by decide), Int.tmod_eq_emod_of_nonneg (by omega)]
  into W i h := by
    obtain ⟨h0, h1⟩ := h
    have hl : fld W 29 2 < 4 := fld_lt W 29 2
    refine ⟨⟨by omega, by omega, fun h => by rw [h1] at h; have := beq_iff_eq.1 h; omega⟩, ?_⟩
    intro c hc
    obtain rfl : c = ⟨29, 2, lowN (logN i) 2⟩ := by simpa using hc
    show fld W 29 2 = lowN (logN i) 2
    unfold logN
    rw [h1, h0]
    rcases (by omega : fld W 29 2 = 0 ∨ fld W 29 2 = 1 ∨ fld W 29 2 = 2 ∨ fld W 29 2 = 3) with h | h | h | h <;> rw [h] <;> rfl
  fro W i h hc := by
    obtain ⟨h0, h1, h2⟩ := h
    have this : fld W 29 2 = lowN (logN i) 2 := hc _ (List.mem_singleton.2 rfl)
    rw [this]
    unfold logN
    rcases (by omega : i.sub = 0 ∨ i.sub = 1 ∨ i.sub = 2) with h | h | h <;> rw [h] at h2 ⊢ <;> cases hf : i.flags <;> first | exact ⟨rfl, rfl⟩ | exact absurd (h2 hf) (by decide)
  small i c hc := by
    obtain rfl : c = ⟨29, 2, lowN (logN i) 2⟩ := by simpa using hc
    exact lowN_lt _ _
end Go.Proofs.YtbjcdpmhmebjnaaGreat
/- Fields in two pieces: plain. -/
namespace Go.Proofs.YtbjcdpmhmebjnaaGreat
open Go.RowKit
set_option linter.unusedVariables false

def twoT (k : Fl) (u a1 a2 m2 : Int) : Tr := fun lay s => (crossW lay (crossW lay s.1 ((k.get s.2).tdiv u) a1 1) ((k.get s.2).tmod u) a2 m2, k.set (IntKind.i64.wrap (IntKind.i64.wrap (crossG lay s.1 ((k.get s.2).tdiv u) a1 1 * u) + crossG lay (crossW lay s.1 ((k.get s.2).tdiv u) a1 1) ((k.get s.2).tmod u) a2 m2)) s.2)
theorem sel0_two : sel0T = twoT .sub 2 30 10 1 := rfl
theorem tbz0_two : tbz0T = twoT .amount 32 31 19 5 := rfl
def twoC (k : Fl) (a1 a2 m2 : Nat) (i : Ins) : List Cr := [⟨a1, 1, lowN ((k.get i).tdiv ((2 ^ m2 : Nat) : Int)) 1⟩, ⟨a2, m2, lowN ((k.get i).tmod ((2 ^ m2 : Nat) : Int)) m2⟩]
def twoG (W a1 a2 m2 : Nat) : Nat := fld W a1 1 * 2 ^ m2 + fld W a2 m2
theorem two_low {x m2 : Nat} (hm : m2 ≤ 5) (h : x < 2 * 2 ^ m2) : lowN ((x : Int).tdiv ((2 ^ m2 : Nat) : Int)) 1 = x / 2 ^ m2 ∧ lowN ((x : Int).tmod ((2 ^ m2 : Nat) : Int)) m2 = x % 2 ^ m2 := by
  rw [← Int.ofNat_tdiv, ← Int.ofNat_tmod]
  exact ⟨lowN_nat (by decide) (Nat.div_lt_of_lt_mul (by omega)), lowN_nat (by omega) (Nat.mod_lt _ (Nat.two_pow_pos m2))⟩
theorem two_wrap {x : Nat} (h : x < 4294967296) {y : Nat} (hy : y ≤ x) : IntKind.i64.wrap (IntKind.i64.wrap (y : Int) + ((x - y : Nat) : Int)) = (x : Int) := by
  rw [wrapK_i64 (n := (y : Int)) ⟨by omega, by omega⟩, wrapK_i64 ⟨by omega, by omega⟩]; omega
theorem cd_two (k : Fl) (a1 a2 m2 : Nat) (ha : a1 + 1 ≤ 32) (h1 : 1 ≤ m2) (hm : m2 ≤ 5) (h2 : a2 + m2 ≤ 32) :
    Cd (twoT k ((2 ^ m2 : Nat) : Int) a1 a2 m2) (twoC k a1 a2 m2) (fun i => ∃ x : Nat, x < 2 * 2 ^ m2 ∧ k.get i = x) (fun W i => k.get i = (twoG W a1 a2 m2 : Nat)) (fun W i => k.set (twoG W a1 a2 m2 : Nat) i) where
  lay W i hW h := by
    obtain ⟨x, hx, e⟩ := h
    have hp : 2 ^ m2 ≤ 32 := show 2 ^ m2 ≤ 2 ^ 5 from Nat.pow_le_pow_right (by decide) hm
    obtain ⟨l1, l2⟩ := two_low hm hx
    show (crossW true (crossW true W ((k.get i).tdiv ((2 ^ m2 : Nat) : Int)) a1 ((1 : Nat) : Int)) ((k.get i).tmod ((2 ^ m2 : Nat) : Int)) a2 m2, k.set (IntKind.i64.wrap (IntKind.i64.wrap (crossG true W ((k.get i).tdiv ((2 ^ m2 : Nat) : Int)) a1 ((1 : Nat) : Int) * ((2 ^ m2 : Nat) : Int)) + crossG true (crossW true W ((k.get i).tdiv ((2 ^ m2 : Nat) : Int)) a1 ((1 : Nat) : Int)) ((k.get i).tmod ((2 ^ m2 : Nat) : Int)) a2 m2)) i) = _
    rw [put_eq _ _ h1 h2, got_eq _ _ h1 h2, put_eq _ _ (by decide) ha, got_eq _ _ (by decide) ha]
    have hd : x / 2 ^ m2 * 2 ^ m2 + x % 2 ^ m2 = x := by rw [Nat.mul_comm]; exact Nat.div_add_mod x _
    have hv : IntKind.i64.wrap (IntKind.i64.wrap (((lowN ((k.get i).tdiv ((2 ^ m2 : Nat) : Int)) 1 : Nat) : Int) * ((2 ^ m2 : Nat) : Int)) + ((lowN ((k.get i).tmod ((2 ^ m2 : Nat) : Int)) m2 : Nat) : Int)) = k.get i := by
      rw [e, l1, l2, ← Int.natCast_mul]
      have := two_wrap (x := x) (by omega) (y := x / 2 ^ m2 * 2 ^ m2) (by omega)
      rwa [show x - x / 2 ^ m2 * 2 ^ m2 = x % 2 ^ m2 by omega] at this
    rw [hv, Fl.set_get]; rfl
  take W i _ := by
    have hp : 2 ^ m2 ≤ 32 := show 2 ^ m2 ≤ 2 ^ 5 from Nat.pow_le_pow_right (by decide) hm
    show (W, k.set (IntKind.i64.wrap (IntKind.i64.wrap (crossG false W ((k.get i).tdiv ((2 ^ m2 : Nat) : Int)) a1 ((1 : Nat) : Int) * ((2 ^ m2 : Nat) : Int)) + crossG false W ((k.get i).tmod ((2 ^ m2 : Nat) : Int)) a2 m2)) i) = _
    rw [take_eq _ _ (by decide) ha, take_eq _ _ h1 h2, ← Int.natCast_mul]
    have l1 : fld W.toNat a1 1 < 2 := fld_lt _ _ _
    have l2 := fld_lt W.toNat a2 m2
    have l3 : fld W.toNat a1 1 * 2 ^ m2 ≤ 1 * 32 := Nat.mul_le_mul (by omega) hp
    have := two_wrap (x := twoG W.toNat a1 a2 m2) (by unfold twoG; omega) (y := fld W.toNat a1 1 * 2 ^ m2) (by unfold twoG; omega)
    rw [show twoG W.toNat a1 a2 m2 - fld W.toNat a1 1 * 2 ^ m2 = fld W.toNat a2 m2 by unfold twoG; omega] at this
    rw [this]
  into W i h := by
    have l1 : fld W a1 1 < 2 := fld_lt _ _ _
    have l2 := fld_lt W a2 m2
    have hx : twoG W a1 a2 m2 < 2 * 2 ^ m2 := by
      have l3 : fld W a1 1 * 2 ^ m2 ≤ 1 * 2 ^ m2 := Nat.mul_le_mul_right _ (by omega)
      unfold twoG; omega
    refine ⟨⟨_, hx, h⟩, ?_⟩
    obtain ⟨e1, e2⟩ := two_low hm hx
    intro c hc
    have hc : c = ⟨a1, 1, lowN ((k.get i).tdiv ((2 ^ m2 : Nat) : Int)) 1⟩ ∨ c = ⟨a2, m2, lowN ((k.get i).tmod ((2 ^ m2 : Nat) : Int)) m2⟩ := by simpa [twoC] using hc
    have p := Nat.two_pow_pos m2
    rcases hc with rfl | rfl
    · show fld W a1 1 = lowN ((k.get i).tdiv ((2 ^ m2 : Nat) : Int)) 1
      rw [h, e1]
      unfold twoG
      rw [Nat.mul_comm, Nat.mul_add_div p, Nat.div_eq_of_lt l2, Nat.add_zero]
    · show fld W a2 m2 = lowN ((k.get i).tmod ((2 ^ m2 : Nat) : Int)) m2
      rw [h, e2]
      unfold twoG
      rw [Nat.mul_comm, Nat.mul_add_mod, Nat.mod_eq_of_lt l2]
  fro W i h hc := by
    obtain ⟨x, hx, e⟩ := h
    obtain ⟨e1, e2⟩ := two_low hm hx
    have q1 : fld W a1 1 = lowN ((k.get i).tdiv ((2 ^ m2 : Nat) : Int)) 1 := hc ⟨a1, 1, lowN ((k.get i).tdiv ((2 ^ m2 : Nat) : Int)) 1⟩ (by simp [twoC])
    have q2 : fld W a2 m2 = lowN ((k.get i).tmod ((2 ^ m2 : Nat) : Int)) m2 := hc ⟨a2, m2, lowN ((k.get i).tmod ((2 ^ m2 : Nat) : Int)) m2⟩ (by simp [twoC])
    rw [e, e1] at q1
    rw [e, e2] at q2
    rw [e]
    unfold twoG
    rw [q1, q2]
    congr 1
    rw [Nat.mul_comm]; exact (Nat.div_add_mod x _).symm
  small i c hc := by
    have hc : c = ⟨a1, 1, lowN ((k.get i).tdiv ((2 ^ m2 : Nat) : Int)) 1⟩ ∨ c = ⟨a2, m2, lowN ((k.get i).tmod ((2 ^ m2 : Nat) : Int)) m2⟩ := by simpa [twoC] using hc
    rcases hc with rfl | rfl <;> exact lowN_lt _ _
theorem cd_sel0 : Cd sel0T (twoC .sub 30 10 1) (fun i => ∃ x : Nat, x < 2 * 2 ^ 1 ∧ i.sub = x) (fun W i => i.sub = (twoG W 30 10 1 : Nat)) (fun W i => { i with sub := (twoG W 30 10 1 : Nat) }) := cd_two .sub 30 10 1 (by decide) (by decide) (by decide) (by decide)
theorem cd_tbz0 : Cd tbz0T (twoC .amount 31 19 5) (fun i => ∃ x : Nat, x < 2 * 2 ^ 5 ∧ i.amount = x) (fun W i => i.amount = (twoG W 31 19 5 : Nat)) (fun W i => { i with amount := (twoG W 31 19 5 : Nat) }) := cd_two .amount 31 19 5 (by decide) (by decide) (by decide) (by decide)
theorem low_mod (y : Int) {m : Nat} (h2 : m ≤ 32) : ((lowN y m : Nat) : Int) = y % ((2 ^ m : Nat) : Int) := by
  unfold lowN
  rw [Int.natCast_emod, Int.toNat_of_nonneg (Int.emod_nonneg _ (by decide)), Int.emod_emod_of_dvd _ (dvd_int (show 2 ^ m ∣ 2 ^ 32 from Nat.pow_dvd_pow 2 h2))]
def adrF (W : Nat) : Nat := fld W 29 2 + fld W 5 19 * 4
theorem adrF_lt (W : Nat) : adrF W < 2 ^ 21 := by
  have l1 : fld W 29 2 < 4 := fld_lt W 29 2
  have l2 : fld W 5 19 < 524288 := fld_lt W 5 19
  show _ < 2097152
  unfold adrF; omega
def adrC (i : Ins) : List Cr := [⟨29, 2, lowN (adrN i) 2⟩, ⟨5, 19, lowN (adrN i / 4) 19⟩]
theorem adr_num {i : Ins} {y : Int} (h : i.imm = y * adrU i) : adrN i = y := by
  unfold adrN adrU at *
  cases e : (i.sub == 1)
  · rw [e] at h; simpa using h
  · rw [e] at h
    have h : i.imm = y * 4096 := h
    show i.imm.tdiv 4096 = y
    rw [h]; exact Int.mul_tdiv_cancel _ (by decide)
theorem adrU_in (i : Ins) : 1 ≤ adrU i ∧ adrU i ≤ 4096 := by unfold adrU; cases (i.sub == 1) <;> decide
theorem adr_low (y : Int) : lowN y 2 + lowN (y / 4) 19 * 4 = lowN y 21 := by
  have a : ((lowN y 2 : Nat) : Int) = y % 4 := low_mod y (by decide)
  have b : ((lowN (y / 4) 19 : Nat) : Int) = (y / 4) % 524288 := low_mod (y / 4) (by decide)
  have c : ((lowN y 21 : Nat) : Int) = y % 2097152 := low_mod y (by decide)
  omega
theorem cd_adr0 : Cd adr0T adrC (fun i => ∃ y : Int, -1048576 ≤ y ∧ y < 1048576 ∧ i.imm = y * adrU i) (fun W i => i.imm = sgI (adrF W) 21 * adrU i) (fun W i => { i with imm := sgI (adrF W) 21 * adrU i }) where
  lay W i _ h := by
    obtain ⟨y, hl, hu, e⟩ := h
    have hn := adr_num e
    obtain ⟨u1, u2⟩ := adrU_in i
    show (crossW true (crossW true W (adrN i) ((29 : Nat) : Int) ((2 : Nat) : Int)) (adrN i / 4) ((5 : Nat) : Int) ((19 : Nat) : Int), ({ i with imm := wrap64 (sgV (crossG true W (adrN i) ((29 : Nat) : Int) ((2 : Nat) : Int) + crossG true (crossW true W (adrN i) ((29 : Nat) : Int) ((2 : Nat) : Int)) (adrN i / 4) ((5 : Nat) : Int) ((19 : Nat) : Int) * 4) ((21 : Nat) : Int) * adrU i) } : Ins)) = _
    rw [put_eq _ _ (by decide) (by decide), got_eq _ _ (by decide) (by decide), put_eq _ _ (by decide) (by decide), got_eq _ _ (by decide) (by decide)]
    have hv : (((lowN (adrN i) 2 : Nat) : Int) + ((lowN (adrN i / 4) 19 : Nat) : Int) * 4) = ((lowN y 21 : Nat) : Int) := by rw [hn]; have := adr_low y; omega
    rw [hv, sgV_eq (by decide) (by decide) (lowN_lt _ _), sg_back (by decide) (by decide) hl hu, wrap_four ⟨by omega, by omega⟩ u1 u2, setI_same i e.symm]
    rfl
  take W i _ := by
    obtain ⟨u1, u2⟩ := adrU_in i
    show (W, ({ i with imm := wrap64 (sgV (crossG false W (adrN i) ((29 : Nat) : Int) ((2 : Nat) : Int) + crossG false W (adrN i / 4) ((5 : Nat) : Int) ((19 : Nat) : Int) * 4) ((21 : Nat) : Int) * adrU i) } : Ins)) = _
    rw [take_eq _ _ (by decide) (by decide), take_eq _ _ (by decide) (by decide)]
    have hv : (((fld W.toNat 29 2 : Nat) : Int) + ((fld W.toNat 5 19 : Nat) : Int) * 4) = ((adrF W.toNat : Nat) : Int) := by unfold adrF; omega
    rw [hv, sgV_eq (by decide) (by decide) (adrF_lt _), wrap_four (sgI_small (by decide) (by decide) (adrF_lt _)) u1 u2]
  into W i h := by
    obtain ⟨hl, hu⟩ := sgI_in (m := 21) (by decide) (adrF_lt W)
    refine ⟨⟨_, hl, hu, h⟩, ?_⟩
    have hn := adr_num h
    have hb := sg_forth (m := 21) (by decide) (by decide) (adrF_lt W)
    have l1 : fld W 29 2 < 4 := fld_lt W 29 2
    have l2 : fld W 5 19 < 524288 := fld_lt W 5 19
    have hs := adr_low (adrN i)
    rw [hn] at hs
    rw [hb] at hs
    have m1 : lowN (sgI (adrF W) 21) 2 < 4 := lowN_lt _ 2
    have m2 : adrF W = fld W 29 2 + fld W 5 19 * 4 := rfl
    intro c hc
    have hc : c = ⟨29, 2, lowN (adrN i) 2⟩ ∨ c = ⟨5, 19, lowN (adrN i / 4) 19⟩ := by simpa [adrC] using hc
    rcases hc with rfl | rfl
    · show fld W 29 2 = lowN (adrN i) 2
      rw [hn]; omega
    · show fld W 5 19 = lowN (adrN i / 4) 19
      rw [hn]; omega
  fro W i h hc := by
    obtain ⟨y, hl, hu, e⟩ := h
    have hn := adr_num e
    have q1 : fld W 29 2 = lowN (adrN i) 2 := hc ⟨29, 2, lowN (adrN i) 2⟩ (by simp [adrC])
    have q2 : fld W 5 19 = lowN (adrN i / 4) 19 := hc ⟨5, 19, lowN (adrN i / 4) 19⟩ (by simp [adrC])
    have : adrF W = lowN y 21 := by unfold adrF; rw [q1, q2, hn]; exact adr_low y
    rw [this, sg_back (by decide) (by decide) hl hu]; exact e
  small i c hc := by
    have hc : c = ⟨29, 2, lowN (adrN i) 2⟩ ∨ c = ⟨5, 19, lowN (adrN i / 4) 19⟩ := by simpa [adrC] using hc
    rcases hc with rfl | rfl <;> exact lowN_lt _ _
end Go.Proofs.YtbjcdpmhmebjnaaGreat
