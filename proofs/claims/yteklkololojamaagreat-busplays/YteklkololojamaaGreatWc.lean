/- The program's timer: look, the methods that ask and set, Read, Write, High. -/
import Derived.Test.YteklkololojamaaGreatWb
import Derived.Test.YteklkololojamaaGreatChx
import Derived.Handy
import Derived.OwnWalk
namespace Go.Proofs.YteklkololojamaaGreat.Tmr
open Go.RowKit
open Tim
set_option linter.unusedVariables false
set_option linter.unusedSimpArgs false
set_option maxRecDepth 8000

theorem chn_store {o : Oper} {a : Act} {w w2 : World} {C : World → Prop} (ty : TypeId) (x y : Operand) (ho : o.op = .store ty x y) (b k : Nat) (hx : a.eval x = .pointer (some ⟨b, k, none⟩)) (v : Value) (hy : a.eval y = v) (hrun : (storeVar ty ⟨b, k, none⟩ v).run Tryz.prog w = .ok () w2) (hC : C w2) :
    Chn.upon Tryz.prog (fun v w' => v = undef ∧ C w') w ((execOp a.eval o).run Tryz.prog w) := by
  unfold execOp
  simp only [ho, hx, hy, Instr.storeAt, Instr.sureAddr, Sem.run_bind, Sem.run_pure, Result.andThen_ok, hrun]
  exact ⟨rfl, hC⟩
theorem eqIn_func (d : Nat) {t : TypeId} {a b : Array TypeId} {c : Bool} (hu : Tryz.prog.underlying t = some (.func a b c)) (fn : Fn) (first cap : Array Value) (w : World) : (Op.equalIn (d + 1) t (.func fn first cap) .nilFunc).run Tryz.prog w = .ok false w := by
  rw [Op.equalIn]
  simp [Sem.run_bind, run_underlying hu]
theorem eqIn_nil (d : Nat) {t : TypeId} {a b : Array TypeId} {c : Bool} (hu : Tryz.prog.underlying t = some (.func a b c)) (w : World) : (Op.equalIn (d + 1) t .nilFunc .nilFunc).run Tryz.prog w = .ok true w := by
  rw [Op.equalIn]
  simp [Sem.run_bind, run_underlying hu]
theorem eql_func {t : TypeId} {a b : Array TypeId} {c : Bool} (hu : Tryz.prog.underlying t = some (.func a b c)) (fn : Fn) (first cap : Array Value) (w : World) : (binOp .eql t (.func fn first cap) .nilFunc).run Tryz.prog w = .ok (.bool false) w := by
  have e := eqIn_func 9999 hu fn first cap w
  simp only [binOp]
  simp [Op.equal, Op.maxDepth, e]
theorem eql_nil {t : TypeId} {a b : Array TypeId} {c : Bool} (hu : Tryz.prog.underlying t = some (.func a b c)) (w : World) : (binOp .eql t .nilFunc .nilFunc).run Tryz.prog w = .ok (.bool true) w := by
  have e := eqIn_nil 9999 hu w
  simp only [binOp]
  simp [Op.equal, Op.maxDepth, e]
@[go_sem] theorem eql_func47 (fn : Fn) (first cap : Array Value) (w : World) : (binOp .eql 54 (.func fn first cap) .nilFunc).run Tryz.prog w = .ok (.bool false) w := eql_func Tryz.underlying54 fn first cap w
@[go_sem] theorem eql_nil47 (w : World) : (binOp .eql 54 .nilFunc .nilFunc).run Tryz.prog w = .ok (.bool true) w := eql_nil Tryz.underlying54 w
@[go_sem] theorem eql_func43 (fn : Fn) (first cap : Array Value) (w : World) : (binOp .eql 40 (.func fn first cap) .nilFunc).run Tryz.prog w = .ok (.bool false) w := eql_func Tryz.underlying40 fn first cap w
@[go_sem] theorem eql_nil43 (w : World) : (binOp .eql 40 .nilFunc .nilFunc).run Tryz.prog w = .ok (.bool true) w := eql_nil Tryz.underlying40 w
def askF (s : Sg) (sys : Int) : Value := if sys = 24322 then .func (.func 141) #[s.val] #[] else if sys = 24346 then .func (.func 142) #[s.val] #[] else if sys = 24345 then .func (.func 143) #[s.val] #[] else .nilFunc
def setF (b k : Nat) (sys : Int) : Value := if sys = 24346 then .func (.func 144) #[ptr b k] #[] else if sys = 24345 then .func (.func 145) #[ptr b k] #[] else .nilFunc
section
variable {g cb n : Nat} {T : Tm} {w : World}
theorem asks_c (s : Sg) (sys : Int) (w : World) : Calls Tryz.prog 139 #[s.val, vI sys] w fun e w' => e = .returned (askF s sys) ∧ Below w.heap.size w w' := by
  unfold askF
  by_cases h1 : sys = 24322
  · subst h1
    rw [if_pos rfl]
    go_enter Tryz.func139, Tryz.ntmps139
    go_wp2_with (first | (refine wpList_ldS rfl _ rfl w.heap.size 0 rfl s (cells_of (heap_alloc_new _ _)) ?_; simp only [Act.put]))
    go_ret
    exact ⟨rfl, below_alloc _ _⟩
  · rw [if_neg h1]
    by_cases h2 : sys = 24346
    · subst h2
      rw [if_pos rfl]
      clear h1
      go_enter Tryz.func139, Tryz.ntmps139
      go_wp2_with (first | (refine wpList_ldS rfl _ rfl w.heap.size 0 rfl s (cells_of (heap_alloc_new _ _)) ?_; simp only [Act.put]))
      go_ret
      exact ⟨rfl, below_alloc _ _⟩
    · rw [if_neg h2]
      by_cases h3 : sys = 24345
      · subst h3
        rw [if_pos rfl]
        clear h1 h2
        go_enter Tryz.func139, Tryz.ntmps139
        go_wp2_with (first | (refine wpList_ldS rfl _ rfl w.heap.size 0 rfl s (cells_of (heap_alloc_new _ _)) ?_; simp only [Act.put]))
        go_ret
        exact ⟨rfl, below_alloc _ _⟩
      · rw [if_neg h3]
        go_enter Tryz.func139, Tryz.ntmps139
        go_wp2
        go_ret
        exact ⟨rfl, below_alloc _ _⟩
theorem sets_c (b k : Nat) (sys : Int) (w : World) : Calls Tryz.prog 140 #[ptr b k, vI sys] w fun e w' => e = .returned (setF b k sys) ∧ w' = w := by
  unfold setF
  by_cases h2 : sys = 24346
  · subst h2
    rw [if_pos rfl]
    go_enter Tryz.func140, Tryz.ntmps140
    go_wp2
    go_ret
    exact ⟨rfl, rfl⟩
  · rw [if_neg h2]
    by_cases h3 : sys = 24345
    · subst h3
      rw [if_pos rfl]
      clear h2
      go_enter Tryz.func140, Tryz.ntmps140
      go_wp2
      go_ret
      exact ⟨rfl, rfl⟩
    · rw [if_neg h3]
      go_enter Tryz.func140, Tryz.ntmps140
      go_wp2
      go_ret
      exact ⟨rfl, rfl⟩
theorem setV_c (H : TimAt g cb n T w) {c : Nat} (hc : c < n) {v : Int} (hv : U64 v) : Calls Tryz.prog 144 #[ptr cb (c * 2), vU v] w fun e w' => e = .returned (.tuple #[]) ∧ TT g cb n (T.setV c v) w w' := by
  have c0 := H.cv hc
  have f0 := H.fc (c * 2)
  have hT := H.putV hc hv
  go_enter Tryz.func144, Tryz.ntmps144
  go_wp2
  exact bodyPost_end (results_none rfl _ _ _) rfl ⟨rfl, hT⟩
theorem setC_c (H : TimAt g cb n T w) {c : Nat} (hc : c < n) {v : Int} (hv : U64 v) : Calls Tryz.prog 145 #[ptr cb (c * 2), vU v] w fun e w' => e = .returned (.tuple #[]) ∧ TT g cb n (T.setC c v) w w' := by
  have c0 := H.cc hc
  have f0 := H.fc (c * 2 + 1)
  have hT := H.putC hc v
  rw [← and3 v hv.1 hv.2] at hT
  go_enter Tryz.func145, Tryz.ntmps145
  go_wp2
  exact bodyPost_end (results_none rfl _ _ _) rfl ⟨rfl, hT⟩
theorem chn_ldA {o : Oper} {a : Act} {w : World} {C : World → Prop} (x : Operand) (ho : o.op = .load 110 x) (b k : Nat) (hx : a.eval x = ptr b k) (s : Al) (h0 : w.cell? ⟨b, k, none⟩ = some (vU s.cval)) (h1 : w.cell? ⟨b, k + 1, none⟩ = some (vU s.ctl)) (hC : C w) : Chn.upon Tryz.prog (fun v w' => v = s.val ∧ C w') w ((execOp a.eval o).run Tryz.prog w) := by
  have hr : w.rangeAt b k s.row := fun j y hy => by
    match j, hy with
    | 0, hy => cases hy; exact h0
    | 1, hy => cases hy; exact h1
  unfold execOp
  simp only [ho, hx, Instr.loadAt, Instr.sureAddr, Sem.run_bind, Sem.run_pure, Result.andThen_ok, run_loadVar_mid w b k 110 _ _ hr Tryz.underlying110 rfl inf57]
  exact ⟨rfl, hC⟩
theorem chn_build59 {o : Oper} {a : Act} {w : World} {C : World → Prop} (x y : Operand) (ho : o.op = .build 112 #[(0, x), (1, y)]) (s : Sg) (hx : a.eval x = (Al.mk s.cval s.ctl).val) (hy : a.eval y = vU s.cnt) (hC : C w) : Chn.upon Tryz.prog (fun v w' => v = s.val ∧ C w') w ((execOp a.eval o).run Tryz.prog w) := by
  have hr := run_build (P := Tryz.prog) w 112 #[(0, (Al.mk s.cval s.ctl).val), (1, vU s.cnt)] s.row.toArray (by kernel_rfl)
  unfold execOp
  simp only [ho, Sem.run_bind, List.map_toArray, List.map_cons, List.map_nil, hx, hy, hr, Result.andThen_ok]
  exact ⟨rfl, hC⟩
def LkC (g cb n : Nat) (T : Tm) (c b : Nat) (w0 : World) : Nat → World → Prop
  | 0, w' => TimAt g cb n T w' ∧ Below w0.heap.size w0 w' ∧ w'.heap[b]? = some (.cells nilG.row.toArray 112)
  | 1, w' => Below w0.heap.size w0 w' ∧ w'.heap[b]? = some (.cells (lookV T c).row.toArray 112)
  | _, _ => False
theorem look_c (H : TimAt g cb n T w) {c : Nat} (hc : c < n) : Calls Tryz.prog 65 #[ptr g 0, vI c] w fun e w' => e = .returned (lookV T c).val ∧ Below w.heap.size w w' := by
  have hc' : (c : Int) < n := by omega
  go_enter Tryz.func65, Tryz.ntmps65
  go_upto_region 1 with fail
  generalize hw1 : World.alloc _ _ = w1
  have B : Below w.heap.size w w1 := by rw [← hw1]; exact below_alloc _ _
  have hd : w1.heap[w.heap.size]? = some (.cells nilG.row.toArray 112) := by rw [← hw1]; exact heap_alloc_new _ _
  have H1 := H.grow B
  clear hw1
  have hst : LkC g cb n T c w.heap.size w 0 { w1 with drawn := w1.drawn + 1 } := ⟨H1.grow (Rel.below_draws (n := 1) (Below.refl _ _)), below_then B (Nat.le_refl _) (Rel.below_draws (n := 1) (Below.refl _ _)), hd⟩
  refine Chn.wp_region_chainL (LkC g cb n T c w.heap.size w) [12] [1, 1, 1, 0, 1, 1, 0, 1, 1, 1, 0, 1, 1] [ptr g 0, ptr g 0, ptr g 1, .slice (some ⟨cb, 0, none⟩) n n, vI c, ptr cb (c * 2), (Al.mk (T.cval c) (T.ctl c)).val, ptr g 0, ptr g 0, ptr g 0, vU T.cnt, (lookV T c).val, undef] (by kernel_rfl) (by kernel_rfl) (by kernel_rfl) (by kernel_rfl) (by kernel_rfl) hst ?_
  clear hst
  iterate 3 (refine ⟨fun j w1 hj hC => by exact Chn.upon_pure hC (fun F hF => by (go_simp <;> exact hF)), ?_⟩; simp only [Act.put, List.setIfInBounds_toArray, List.set_cons_succ, List.set_cons_zero])
  refine ⟨fun j w1 hj hC => by
    obtain rfl : j = 0 := Nat.le_zero.1 hj
    have z := hC.1.c1
    exact Chn.upon_pure hC (fun F hF => by (go_simp <;> exact hF)), ?_⟩
  simp only [Act.put, List.setIfInBounds_toArray, List.set_cons_succ, List.set_cons_zero]
  iterate 2 (refine ⟨fun j w1 hj hC => by exact Chn.upon_pure hC (fun F hF => by (go_simp <;> exact hF)), ?_⟩; simp only [Act.put, List.setIfInBounds_toArray, List.set_cons_succ, List.set_cons_zero])
  refine ⟨fun q w1 hq hC => by
    obtain rfl : q = 0 := Nat.le_zero.1 hq
    exact chn_ldA (C := LkC g cb n T c w.heap.size w 0) _ rfl cb (c * 2) rfl ⟨T.cval c, T.ctl c⟩ (hC.1.cv hc) (hC.1.cc hc) hC, ?_⟩
  simp only [Act.put, List.setIfInBounds_toArray, List.set_cons_succ, List.set_cons_zero]
  iterate 3 (refine ⟨fun j w1 hj hC => by exact Chn.upon_pure hC (fun F hF => by (go_simp <;> exact hF)), ?_⟩; simp only [Act.put, List.setIfInBounds_toArray, List.set_cons_succ, List.set_cons_zero])
  refine ⟨fun j w1 hj hC => by
    obtain rfl : j = 0 := Nat.le_zero.1 hj
    have z := hC.1.c0
    exact Chn.upon_pure hC (fun F hF => by (go_simp <;> exact hF)), ?_⟩
  simp only [Act.put, List.setIfInBounds_toArray, List.set_cons_succ, List.set_cons_zero]
  refine ⟨fun j w1 hj hC => by exact chn_build59 (C := LkC g cb n T c w.heap.size w j) _ _ rfl (lookV T c) rfl rfl hC, ?_⟩
  simp only [Act.put, List.setIfInBounds_toArray, List.set_cons_succ, List.set_cons_zero]
  refine ⟨fun w2 hC => by
    refine chn_store 112 _ _ rfl w.heap.size 0 rfl _ rfl (run_storeVar_row w2 w.heap.size 112 112 _ (lookV T c).row.toArray hC.2.2 inf59 rfl (by simp [Value.oneCell', Sg.row])) ?_
    exact ⟨below_setRow hC.2.1 (Nat.le_refl _), setRow_heap _ _ _ _ _ _ hC.2.2⟩, ?_⟩
  simp only [Act.put]
  intro w5 hC
  go_wp2
  exact bodyPost_ret (back_s rfl _ _ w.heap.size _ rfl hC.2) rfl ⟨rfl, hC.1⟩
/-- What is read of a register; is there one of that number? -/
def regB (sys : Int) : Bool := decide (sys = 24322) || decide (sys = 24346) || decide (sys = 24345)
def regV (T : Tm) (c : Nat) (sys : Int) : Int := if sys = 24322 then T.cnt else if sys = 24346 then T.cval c else T.bits c
def readV (n : Nat) (T : Tm) (core sys : Int) : Int := if hasB n core && regB sys then regV T core.toNat sys else 0
def readE (n : Nat) (core sys : Int) : Int := if hasB n core && regB sys then 0 else 1
def wregB (sys : Int) : Bool := decide (sys = 24346) || decide (sys = 24345)
def writeE (n : Nat) (core sys : Int) : Int := if hasB n core && wregB sys then 0 else 1
def writeT (n : Nat) (T : Tm) (core sys v : Int) : Tm := if hasB n core && wregB sys then (if sys = 24346 then T.setV core.toNat v else T.setC core.toNat v) else T
theorem bits_eq (T : Tm) (c : Nat) : (lookV T c).bits = T.bits c := rfl
theorem core_of {n : Nat} {core : Int} (h : hasB n core = true) : ∃ c : Nat, core = c ∧ c < n := by
  obtain ⟨h4, h5⟩ := has_of h
  exact ⟨core.toNat, by omega, by omega⟩
theorem read_c (H : TimAt g cb n T w) (core sys : Int) : Calls Tryz.prog 132 #[ptr g 0, vI core, vI sys] w fun e w' => e = .returned (.tuple #[vU (readV n T core sys), vI (readE n core sys)]) ∧ Below w.heap.size w w' := by
  unfold readV readE
  cases h1 : hasB n core with
  | false =>
    rw [Bool.false_and, if_neg (by decide), if_neg (by decide)]
    go_enter Tryz.func132, Tryz.ntmps132
    go_wp2_with (first | (go_at_call 64; refine (has_c H core).mono ?_; rintro e w' ⟨rfl, rfl⟩; dsimp only; rw [h1]))
    go_ret2
    exact ⟨rfl, Below.refl _ _⟩
  | true =>
    obtain ⟨c, rfl, hc⟩ := core_of h1
    have hl := look_c H hc
    have ha := asks_c (lookV T c) sys
    rw [Bool.true_and, Int.toNat_natCast]
    cases hs : regB sys with
    | false =>
      rw [if_neg (by decide), if_neg (by decide)]
      have e : askF (lookV T c) sys = .nilFunc := by
        simp only [regB, Bool.or_eq_false_iff, decide_eq_false_iff_not] at hs
        rw [askF, if_neg hs.1.1, if_neg hs.1.2, if_neg hs.2]
      rw [e] at ha
      clear e
      go_enter Tryz.func132, Tryz.ntmps132
      go_wp2_with (first | (go_at_call 64; refine (has_c H c).mono ?_; rintro e w' ⟨rfl, rfl⟩; dsimp only; rw [h1]) | (go_at_call 65; refine hl.mono ?_; rintro e w1 ⟨rfl, hB⟩; dsimp only) | (go_at_call 139; refine (ha _).mono ?_; rintro e w2 ⟨rfl, hB2⟩; dsimp only))
      go_ret2
      exact ⟨rfl, below_then hB (Nat.le_refl _) hB2⟩
    | true =>
      rw [if_pos rfl, if_pos rfl]
      unfold regV
      have hc1 := ctl_c (lookV T c) (H.ok.b0 c) (H.ok.b1 c)
      rw [bits_eq] at hc1
      have hc2 := cnt_c (lookV T c)
      have hc3 := cval_c (lookV T c)
      by_cases g1 : sys = 24322
      · rw [askF, if_pos g1] at ha
        rw [if_pos g1]
        clear g1 hs
        go_enter Tryz.func132, Tryz.ntmps132
        go_wp2_with (first | (go_at_call 64; refine (has_c H c).mono ?_; rintro e w' ⟨rfl, rfl⟩; dsimp only; rw [h1]) | (go_at_call 65; refine hl.mono ?_; rintro e w1 ⟨rfl, hB⟩; dsimp only) | (go_at_call 139; refine (ha _).mono ?_; rintro e w2 ⟨rfl, hB2⟩; dsimp only) | (go_at_call 141; refine (hc2 _).mono ?_; rintro e w3 ⟨rfl, hB3⟩; dsimp only))
        go_ret2
        exact ⟨rfl, below_then (below_then hB (Nat.le_refl _) hB2) (Nat.le_refl _) hB3⟩
      · rw [askF, if_neg g1] at ha
        rw [if_neg g1]
        by_cases g2 : sys = 24346
        · rw [if_pos g2] at ha ⊢
          clear g1 g2 hs
          go_enter Tryz.func132, Tryz.ntmps132
          go_wp2_with (first | (go_at_call 64; refine (has_c H c).mono ?_; rintro e w' ⟨rfl, rfl⟩; dsimp only; rw [h1]) | (go_at_call 65; refine hl.mono ?_; rintro e w1 ⟨rfl, hB⟩; dsimp only) | (go_at_call 139; refine (ha _).mono ?_; rintro e w2 ⟨rfl, hB2⟩; dsimp only) | (go_at_call 142; refine (hc3 _).mono ?_; rintro e w3 ⟨rfl, hB3⟩; dsimp only))
          go_ret2
          exact ⟨rfl, below_then (below_then hB (Nat.le_refl _) hB2) (Nat.le_refl _) hB3⟩
        · have g3 : sys = 24345 := by
            simp only [regB, Bool.or_eq_true, decide_eq_true_eq] at hs
            omega
          rw [if_neg g2] at ha ⊢
          rw [if_pos g3] at ha
          clear g1 g2 g3 hs
          go_enter Tryz.func132, Tryz.ntmps132
          go_wp2_with (first | (go_at_call 64; refine (has_c H c).mono ?_; rintro e w' ⟨rfl, rfl⟩; dsimp only; rw [h1]) | (go_at_call 65; refine hl.mono ?_; rintro e w1 ⟨rfl, hB⟩; dsimp only) | (go_at_call 139; refine (ha _).mono ?_; rintro e w2 ⟨rfl, hB2⟩; dsimp only) | (go_at_call 143; refine (hc1 _).mono ?_; rintro e w3 ⟨rfl, hB3⟩; dsimp only))
          go_ret2
          exact ⟨rfl, below_then (below_then hB (Nat.le_refl _) hB2) (Nat.le_refl _) hB3⟩
theorem TT.refl (H : TimAt g cb n T w) : TT g cb n T w w := ⟨H, Goes.refl _ _⟩
theorem write_c (H : TimAt g cb n T w) (core sys : Int) {v : Int} (hv : U64 v) : Calls Tryz.prog 133 #[ptr g 0, vI core, vI sys, vU v] w fun e w' => e = .returned (vI (writeE n core sys)) ∧ TT g cb n (writeT n T core sys v) w w' := by
  unfold writeE writeT
  have c1 := H.c1
  cases h1 : hasB n core with
  | false =>
    rw [Bool.false_and, if_neg (by decide), if_neg (by decide)]
    go_enter Tryz.func133, Tryz.ntmps133
    go_wp2_with (first | (go_at_call 64; refine (has_c H core).mono ?_; rintro e w' ⟨rfl, rfl⟩; dsimp only; rw [h1]))
    go_ret
    exact ⟨rfl, TT.refl H⟩
  | true =>
    obtain ⟨c, rfl, hc⟩ := core_of h1
    have hc' : (c : Int) < n := by omega
    have ha := sets_c cb (c * 2) sys
    rw [Bool.true_and, Int.toNat_natCast]
    cases hs : wregB sys with
    | false =>
      rw [if_neg (by decide), if_neg (by decide)]
      have e : setF cb (c * 2) sys = .nilFunc := by
        simp only [wregB, Bool.or_eq_false_iff, decide_eq_false_iff_not] at hs
        rw [setF, if_neg hs.1, if_neg hs.2]
      rw [e] at ha
      clear e
      go_enter Tryz.func133, Tryz.ntmps133
      go_wp2_with (first | (go_at_call 64; refine (has_c H c).mono ?_; rintro e w' ⟨rfl, rfl⟩; dsimp only; rw [h1]) | (go_at_call 140; refine (ha _).mono ?_; rintro e w2 ⟨rfl, rfl⟩; dsimp only))
      go_ret
      exact ⟨rfl, TT.refl H⟩
    | true =>
      rw [if_pos rfl, if_pos rfl]
      have q1 := setV_c H hc hv
      have q2 := setC_c H hc hv
      by_cases g1 : sys = 24346
      · rw [setF, if_pos g1] at ha
        rw [if_pos g1]
        clear g1 hs
        go_enter Tryz.func133, Tryz.ntmps133
        go_wp2_with (first | (go_at_call 64; refine (has_c H c).mono ?_; rintro e w' ⟨rfl, rfl⟩; dsimp only; rw [h1]) | (go_at_call 140; refine (ha _).mono ?_; rintro e w2 ⟨rfl, rfl⟩; dsimp only) | (go_at_call 144; refine q1.mono ?_; rintro e w3 ⟨rfl, hT⟩; dsimp only))
        go_ret
        exact ⟨rfl, hT⟩
      · have g3 : sys = 24345 := by
          simp only [wregB, Bool.or_eq_true, decide_eq_true_eq] at hs
          omega
        rw [setF, if_neg g1, if_pos g3] at ha
        rw [if_neg g1]
        clear g1 g3 hs
        go_enter Tryz.func133, Tryz.ntmps133
        go_wp2_with (first | (go_at_call 64; refine (has_c H c).mono ?_; rintro e w' ⟨rfl, rfl⟩; dsimp only; rw [h1]) | (go_at_call 140; refine (ha _).mono ?_; rintro e w2 ⟨rfl, rfl⟩; dsimp only) | (go_at_call 145; refine q2.mono ?_; rintro e w3 ⟨rfl, hT⟩; dsimp only))
        go_ret
        exact ⟨rfl, hT⟩
def highV (n : Nat) (T : Tm) (core : Int) : Bool := hasB n core && T.high core.toNat
theorem thigh_c (H : TimAt g cb n T w) (core : Int) : Calls Tryz.prog 30 #[ptr g 0, vI core] w fun e w' => e = .returned (.bool (highV n T core)) ∧ Below w.heap.size w w' := by
  unfold highV
  cases h1 : hasB n core with
  | false =>
    rw [Bool.false_and]
    go_enter Tryz.func30, Tryz.ntmps30
    go_wp2_with (first | (go_at_call 64; refine (has_c H core).mono ?_; rintro e w' ⟨rfl, rfl⟩; dsimp only; rw [h1]))
    go_ret
    exact ⟨rfl, Below.refl _ _⟩
  | true =>
    obtain ⟨c, rfl, hc⟩ := core_of h1
    have hl := look_c H hc
    have hh := high_c (lookV T c)
    rw [Bool.true_and, Int.toNat_natCast]
    have e : (lookV T c).high = T.high c := rfl
    rw [e] at hh
    clear e
    generalize T.high c = b at hh ⊢
    go_enter Tryz.func30, Tryz.ntmps30
    go_wp2_with (first | (go_at_call 64; refine (has_c H c).mono ?_; rintro e w' ⟨rfl, rfl⟩; dsimp only; rw [h1]) | (go_at_call 65; refine hl.mono ?_; rintro e w1 ⟨rfl, hB⟩; dsimp only) | (go_at_call 66; refine (hh _).mono ?_; rintro e w2 ⟨rfl, hB2⟩; dsimp only))
    go_ret
    exact ⟨rfl, below_then hB (Nat.le_refl _) hB2⟩
end
end Go.Proofs.YteklkololojamaaGreat.Tmr
