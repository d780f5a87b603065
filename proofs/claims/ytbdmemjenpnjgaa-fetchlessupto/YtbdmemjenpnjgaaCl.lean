/- refused, search, Check. -/
import Derived.Test.YtbdmemjenpnjgaaCk
import Derived.Defers
import Derived.Recover
import Derived.Laws.Pointers
namespace Go.Proofs.Ytbdmemjenpnjgaa
open Go.RowKit
set_option linter.unusedVariables false
set_option linter.unusedSimpArgs false
set_option maxRecDepth 8000

open Go.Shelf Go.Maps
theorem refused_c (ff : Nat) (ffr : Array Value) (w : World) : Calls Try.prog 41 #[clo ff ffr] w fun e w' => ∃ pb fb G, e = .returned (clo 43 #[ptr pb 0, ptr fb 0]) ∧ PastAt G Pst.init 0 w' ∧ Boxed w' pb 54 (ptr G.p 0) ∧ Boxed w' fb 36 (clo ff ffr) ∧ Below w.heap.size w w' ∧ ∀ i, Foot G i → w.heap.size ≤ i := by
  have B1 := below_alloc w (.cells #[clo ff ffr] 36)
  have y1 := Boxed.new w 36 (clo ff ffr)
  go_enter Try.func41, Try.ntmps41
  go_upto_region 1 with fail
  obtain ⟨fb, hfb⟩ : ∃ fb, fb = w.heap.size := ⟨_, rfl⟩
  rw [← hfb] at y1
  rw [← hfb]
  generalize w.alloc (.cells #[clo ff ffr] 36) = w1 at *
  have kn := newPast_c w1
  replace hfb : Hid (fb = w.heap.size) := hfb
  go_wp2_with (first | (go_at_call 26; (with_reducible refine kn.mono ?_); clear kn; rintro e w2 ⟨G, rfl, P, B2, hF⟩; dsimp only))
  go_ret
  refine ⟨_, fb, G, rfl, P.grow (below_alloc _ _), Boxed.new w2 54 (ptr G.p 0), boxed_grow (boxed_grow y1 B2) (below_alloc _ _), below_then (below_then B1 (Nat.le_refl _) B2) (Nat.le_refl _) (below_alloc _ _), fun i hi => Nat.le_trans B1.size (hF i hi)⟩
theorem idle_c (p q : Addr) (w : World) : CallsD Try.prog 40 #[.pointer (some p), .pointer (some q)] .returning w fun e u' w' => e = .returned (.tuple #[]) ∧ u' = .returning ∧ w' = w := by
  refine callsD_of_wpS Try.func40 rfl fun c₀ cs hu => ?_
  apply wpS_seq
  apply wpS_region
  simp [wpOpsS, go_sem, recoverD, hu, Try.ntmps40, Exit.thenS]
  refine wpS_cond (t := false) (by simp [Act.eval, Array.replicate]) ?_
  simp only [Bool.false_eq_true, if_false]
  refine wpS_of_wp (wp_skip ?_)
  cases c₀
  simp_all [bodyPostS, results, Try.results40]
theorem asks_check {tr : List Nt} {v : Value} {w0 w : World} {pb fb ff : Nat} {ffr : Array Value} {g : Nat → Nat} {G : Gh} (FI : First w0 ff ffr g) (N : Nts w0 v tr) (ok : TrOk tr) (hr : rightL tr = true) (P : PastAt G Pst.init 0 w) (x : Boxed w pb 54 (ptr G.p 0)) (y : Boxed w fb 36 (clo ff ffr)) (B : Below w0.heap.size w0 w) (hF : ∀ i, Foot G i → w0.heap.size ≤ i) :
    Asks tr v 43 #[ptr pb 0, ptr fb 0] (badAt tr g) w0 w (fun Pb k W => CkJ tr w0 w pb fb ff ffr Pb k W) :=
  ⟨enters_of Try.func43 (by kernel_rfl) rfl, N, B, fun Pb W hW hP => ⟨⟨G, (P.grow hW : PastAt G (pst (tr.take 0)) (2 * 0) W), boxed_grow x hW, P.lt (.inr (.inl rfl)), P.lt (.inr (.inr (.inl rfl))), P.lt (.inr (.inr (.inr (.inl rfl)))), fun i hi hp => by
      have h1 := P.lt hi
      have h2 := hF i hi
      rcases (hP i hp).2 with h3 | h3 <;> omega, hF⟩, boxed_grow y hW, B.trans (hW.mono B.size), fun i hi => (hP i hi).1⟩,
    fun Pb k W W' h t => h.grow t, fun Pb k W W' C hC h t => h.turn hC B.size t,
    fun Pb k n t W hn h L => refused1_c FI B.size hn (ok n (List.mem_of_getElem? hn)) (by
      have := List.all_eq_true.1 hr n (List.mem_of_getElem? hn)
      simpa using this) N.max h L⟩
theorem First.grow {w w' : World} {ff : Nat} {ffr : Array Value} {g : Nat → Nat} (h : First w ff ffr g) (t : Below w.heap.size w w') : First w' ff ffr g := ⟨h.eh, fun W hW => h.call W (t.trans (hW.mono t.size)), h.lt⟩
def CheckR (w : World) (n er : Int) (e : Ending) (w' : World) : Prop := e = .returned (.tuple #[vI n, vI er]) ∧ Below w.heap.size w w'
theorem search_c {tr : List Nt} {v : Value} {w : World} {ff : Nat} {ffr : Array Value} {g : Nat → Nat} (FI : First w ff ffr g) (N : Nts w v tr) (ok : TrOk tr) (hr : rightL tr = true) : Calls Try.prog 32 #[v, clo ff ffr] w fun e w' => CheckR w (checkL tr g) 0 e w' := by
  have hmf : ∀ (fn : Fn) (first cap : Array Value) (w : World), (Instr.makeFunc fn first cap).run Try.prog w = .ok (.func fn first cap) w := fun _ _ _ _ => rfl
  obtain ⟨ao, cap, ev⟩ := N.len
  subst ev
  have B1 := below_alloc w (.cells #[vI 0] 3)
  have p1 := Boxed.new w 3 (vI 0)
  have B2 := below_then B1 (Nat.le_refl _) (below_alloc (w.alloc (.cells #[vI 0] 3)) (.cells #[vI 0] 29))
  have p2 := p1.alloc (.cells #[vI 0] 29)
  have q2 := Boxed.new (w.alloc (.cells #[vI 0] 3)) 29 (vI 0)
  rw [World.size_alloc] at q2
  go_enter_defers Try.func32, Try.ntmps32
  go_upto_region 2 with fail
  have FI2 := FI.grow B2
  have N2 := N.grow B2
  generalize (w.alloc (Obj.cells #[Value.int IntKind.i64 0] 3)).alloc (Obj.cells #[Value.int IntKind.i64 0] 29) = w2 at *
  clear p1 B1 N FI
  have kr := refused_c ff ffr w2
  go_wp2_with (first | (go_at_call 41; (with_reducible refine kr.mono ?_); clear kr; rintro e w3 ⟨pb, fb, G, rfl, P, x, y, B3, hF⟩; dsimp only; have kf := find_c (asks_check FI2 N2 ok hr P x y B3 hF)) | (go_at_call 33; (with_reducible refine kf.mono ?_); clear kf; rintro e w4 ⟨rfl, B4⟩; dsimp only; have p4 : Boxed w4 w.heap.size 3 (vI 0) := boxed_keep p2 (B4.block _ p2.lt); have q4 : Boxed w4 (w.heap.size + 1) 29 (vI 0) := boxed_keep q2 (B4.block _ q2.lt); have c1 := p4.cell; have c2 := p4.frozen; have c3 := q4.cell; have c4 := q4.frozen))
  obtain ⟨z, hz⟩ : ∃ z, z = firstB (badAt tr g) tr.length 0 := ⟨_, rfl⟩
  have hck : checkL tr g = z := hz.symm
  rw [hck]
  rw [← hz]
  clear hz hck
  have p5 : Boxed (w4.setCell ⟨w.heap.size, 0, none⟩ (vI z)) w.heap.size 3 (vI z) := Boxed.set _ p4
  have q5 : Boxed (w4.setCell ⟨w.heap.size, 0, none⟩ (vI z)) (w.heap.size + 1) 29 (vI 0) := q4.other (by omega) _
  have B5 : Below w.heap.size w (w4.setCell ⟨w.heap.size, 0, none⟩ (vI z)) := (B2.trans (B4.mono B2.size)).setCell (p := ⟨w.heap.size, 0, none⟩) (Nat.le_refl _) _
  clear c1 c2 c3 c4 p4 q4
  generalize w4.setCell { block := w.heap.size, off := 0 } (Value.int IntKind.i64 z) = w5 at *
  have p6 : Boxed (w5.setCell ⟨w.heap.size + 1, 0, none⟩ (vI 0)) w.heap.size 3 (vI z) := p5.other (by omega) _
  have q6 : Boxed (w5.setCell ⟨w.heap.size + 1, 0, none⟩ (vI 0)) (w.heap.size + 1) 29 (vI 0) := Boxed.set _ q5
  have B6 : Below w.heap.size w (w5.setCell ⟨w.heap.size + 1, 0, none⟩ (vI 0)) := B5.setCell (p := ⟨w.heap.size + 1, 0, none⟩) (Nat.le_succ _) _
  clear p5 q5 B5
  generalize w5.setCell { block := w.heap.size + 1, off := 0 } (Value.int IntKind.i64 0) = w6 at *
  have c1 := p6.cell
  have c2 := q6.cell
  refine leaves_cons (f := 40) (args := #[.pointer (some ⟨w.heap.size, 0, none⟩), .pointer (some ⟨w.heap.size + 1, 0, none⟩)]) (by simp) (by simp [go_sem]) ?_
  refine (idle_c ⟨w.heap.size, 0, none⟩ ⟨w.heap.size + 1, 0, none⟩ _).mono ?_
  rintro e u' w'' ⟨rfl, rfl, rfl⟩
  simp [Leaves, settle, results, Try.results32, go_sem, c1, c2]
  exact ⟨rfl, B6⟩
theorem check_c {tr : List Nt} {v : Value} {w : World} {ff : Nat} {ffr : Array Value} {g : Nat → Nat} (FI : First w ff ffr g) (N : Nts w v tr) (ok : TrOk tr) : Calls Try.prog 13 #[v, clo ff ffr] w fun e w' => CheckR w (if rightL tr then checkL tr g else 0) (if rightL tr then 0 else 1) e w' := by
  have k1 := right_c N ok
  cases hr : rightL tr with
  | false =>
    rw [hr] at k1
    obtain ⟨ao, cap, rfl⟩ := N.len
    clear FI N
    go_enter Try.func13, Try.ntmps13
    go_wp2_with (first | (go_at_call 23; (with_reducible refine k1.mono ?_); clear k1; rintro e w2 ⟨rfl, hB⟩; dsimp only))
    go_ret2
    exact ⟨rfl, hB⟩
  | true =>
    rw [hr] at k1
    have ks : ∀ w2, Below w.heap.size w w2 → Calls Try.prog 32 #[v, clo ff ffr] w2 fun e w' => CheckR w2 (checkL tr g) 0 e w' := fun w2 hB => search_c (FI.grow hB) (N.grow hB) ok hr
    obtain ⟨ao, cap, rfl⟩ := N.len
    simp only [if_true]
    generalize checkL tr g = z at *
    clear FI N
    go_enter Try.func13, Try.ntmps13
    go_wp2_with (first | (go_at_call 23; (with_reducible refine k1.mono ?_); clear k1; rintro e w2 ⟨rfl, hB⟩; dsimp only; replace ks := ks w2 hB) | (go_at_call 32; (with_reducible refine ks.mono ?_); clear ks; rintro e w3 ⟨rfl, hB3⟩; dsimp only))
    go_ret2
    exact ⟨rfl, below_then hB (Nat.le_refl _) hB3⟩
end Go.Proofs.Ytbdmemjenpnjgaa
