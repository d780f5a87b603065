/- The program's controller: running, and the getters. -/
import Derived.Test.YteklkololojamaaGreatQc
namespace Go.Proofs.YteklkololojamaaGreat
open Go.RowKit
set_option linter.unusedVariables false
set_option linter.unusedSimpArgs false
set_option maxRecDepth 8000

def runV (l : List Trn) : Int := match l.getLast? with | none => 256 | some t => t.rank
theorem fld61_0 (s : Src) (w : World) : Sem.run Tryz.prog (Instr.field 115 s.val 0) w = .ok (.bool s.e) w := by kernel_rfl
theorem fld61_1 (s : Src) (w : World) : Sem.run Tryz.prog (Instr.field 115 s.val 1) w = .ok (.bool s.l) w := by kernel_rfl
theorem fld61_2 (s : Src) (w : World) : Sem.run Tryz.prog (Instr.field 115 s.val 2) w = .ok (.bool s.h) w := by kernel_rfl
theorem fld61_3 (s : Src) (w : World) : Sem.run Tryz.prog (Instr.field 115 s.val 3) w = .ok (.bool s.a) w := by kernel_rfl
theorem fld61_4 (s : Src) (w : World) : Sem.run Tryz.prog (Instr.field 115 s.val 4) w = .ok (vI s.rank) w := by kernel_rfl
theorem fld61_5 (s : Src) (w : World) : Sem.run Tryz.prog (Instr.field 115 s.val 5) w = .ok (vI s.goes) w := by kernel_rfl
theorem runV_nil : runV [] = 256 := rfl
theorem runV_app (l : List Trn) (t : Trn) : runV (l ++ [t]) = t.rank := by simp [runV]
section
variable {g n : Nat} {P : Pg} {L : GLay} {w : World}
set_option maxRecDepth 4000 in
theorem running_c (H : GicAt g n P L w) {c : Nat} (hc : c < n) : Calls Tryz.prog 68 #[ptr L.cb (c * 194)] w fun e w' => e = .returned (vI (runV (P.wk c))) ∧ Below w.heap.size w w' := by
  have cw := H.cWv hc
  have R := H.wks c hc
  have hl := H.lenk c hc
  clear H
  rcases List.eq_nil_or_concat (P.wk c) with e | ⟨l, t, e⟩
  · rw [e] at R ⊢
    rw [runV_nil]
    obtain ⟨ao, cap, ev, _, _⟩ := own_len R
    rw [ev] at cw
    clear R e ev
    go_enter Tryz.func68, Tryz.ntmps68
    go_wp2
    go_ret
    exact ⟨rfl, Below.refl _ _⟩
  · rw [List.concat_eq_append] at e
    rw [e] at R hl ⊢
    rw [runV_app]
    have hlen : (l ++ [t]).length = l.length + 1 := by simp
    obtain ⟨b, cap, ev, h1, h2, _, hcell, _⟩ := own_addr R (by omega)
    have z := hcell (l.length * 2 + 0) (by omega)
    rw [flatT_get (s := t) (by simp) 0 (by decide)] at z
    replace z : w.cell? ⟨b, l.length * 2, none⟩ = some (vI t.rank) := z
    rw [ev, hlen] at cw
    rw [hlen] at hl
    clear R e ev hcell h1 h2 hlen
    generalize l.length = m at *
    have w1 : IntKind.i64.wrap (((m + 1 : Nat) : Int) - 1) = m := by rw [IntKind.wrap_i64]; omega
    have k1 : (0 : Int) ≤ m := by omega
    have k2 : ((m + 1 : Nat) : Int) ≠ 0 := by omega
    go_enter Tryz.func68, Tryz.ntmps68
    go_wp2
    go_quiet (fail)
    go_wp2
    go_ret
    exact ⟨rfl, Rel.below_draws (Below.refl _ _)⟩

def limV (n : Nat) (P : Pg) (core : Int) : Int := if hasB n core then P.lim core.toNat else 0
def runC (n : Nat) (P : Pg) (core : Int) : Int := if hasB n core then runV (P.wk core.toNat) else 0
set_option maxRecDepth 4000 in
theorem limit_c (H : GicAt g n P L w) (core : Int) : Calls Tryz.prog 122 #[ptr g 0, vI core] w fun e w' => e = .returned (vI (limV n P core)) ∧ Below w.heap.size w w' := by
  unfold limV
  cases h1 : hasB n core with
  | false =>
    rw [if_neg (by decide)]
    go_enter Tryz.func122, Tryz.ntmps122
    go_wp2_with (go_at_call 67; refine (has_c H core).mono ?_; rintro e w' ⟨rfl, rfl⟩; dsimp only; rw [h1])
    go_ret
    exact ⟨rfl, Below.refl _ _⟩
  | true =>
    rw [if_pos rfl]
    obtain ⟨h4, h5⟩ := has_of h1
    obtain ⟨c, rfl⟩ : ∃ c : Nat, core = (c : Int) := ⟨core.toNat, by omega⟩
    rw [Int.toNat_natCast]
    have c0 := H.c0
    have cl := H.cLim (c := c) (by omega)
    go_enter Tryz.func122, Tryz.ntmps122
    go_wp2_with (go_at_call 67; refine (has_c H c).mono ?_; rintro e w' ⟨rfl, rfl⟩; dsimp only; rw [h1])
    go_ret
    exact ⟨rfl, Below.refl _ _⟩
set_option maxRecDepth 4000 in
theorem grun_c (H : GicAt g n P L w) (core : Int) : Calls Tryz.prog 31 #[ptr g 0, vI core] w fun e w' => e = .returned (vI (runC n P core)) ∧ Below w.heap.size w w' := by
  unfold runC
  cases h1 : hasB n core with
  | false =>
    rw [if_neg (by decide)]
    go_enter Tryz.func31, Tryz.ntmps31
    go_wp2_with (go_at_call 67; refine (has_c H core).mono ?_; rintro e w' ⟨rfl, rfl⟩; dsimp only; rw [h1])
    go_ret
    exact ⟨rfl, Below.refl _ _⟩
  | true =>
    rw [if_pos rfl]
    obtain ⟨h4, h5⟩ := has_of h1
    obtain ⟨c, rfl⟩ : ∃ c : Nat, core = (c : Int) := ⟨core.toNat, by omega⟩
    rw [Int.toNat_natCast]
    have c0 := H.c0
    have hc : c < n := by omega
    go_enter Tryz.func31, Tryz.ntmps31
    go_wp2_with (first | (go_at_call 67; refine (has_c H c).mono ?_; rintro e w' ⟨rfl, rfl⟩; dsimp only; rw [h1]) | (go_at_call 68; refine (running_c H hc).mono ?_; rintro e w' ⟨rfl, hB⟩; dsimp only))
    go_ret
    exact ⟨rfl, hB⟩
theorem rate_c (H : GicAt g n P L w) (core id : Int) : Calls Tryz.prog 36 #[ptr g 0, vI core, vI id] w fun e w' => e = .returned (vI (lookV n P core id).rank) ∧ Below w.heap.size w w' := by
  have hs : ∀ s : Src, lookV n P core id = s → Calls Tryz.prog 36 #[ptr g 0, vI core, vI id] w fun e w' => e = .returned (vI s.rank) ∧ Below w.heap.size w w' := by
    intro s hs
    have fl := fld61_4 s
    go_enter Tryz.func36, Tryz.ntmps36
    go_wp2_with (first | (go_at_call 69; refine (look_c H core id).mono ?_; rintro e w' ⟨rfl, hB⟩; dsimp only; rw [hs]))
    go_ret
    exact ⟨rfl, hB⟩
  exact hs _ rfl
theorem enabled_c (H : GicAt g n P L w) (core id : Int) : Calls Tryz.prog 111 #[ptr g 0, vI core, vI id] w fun e w' => e = .returned (.bool (lookV n P core id).e) ∧ Below w.heap.size w w' := by
  have hs : ∀ s : Src, lookV n P core id = s → Calls Tryz.prog 111 #[ptr g 0, vI core, vI id] w fun e w' => e = .returned (.bool s.e) ∧ Below w.heap.size w w' := by
    intro s hs
    have fl := fld61_0 s
    go_enter Tryz.func111, Tryz.ntmps111
    go_wp2_with (first | (go_at_call 69; refine (look_c H core id).mono ?_; rintro e w' ⟨rfl, hB⟩; dsimp only; rw [hs]))
    go_ret
    exact ⟨rfl, hB⟩
  exact hs _ rfl
theorem pending_c (H : GicAt g n P L w) (core id : Int) : Calls Tryz.prog 37 #[ptr g 0, vI core, vI id] w fun e w' => e = .returned (.bool ((lookV n P core id).l || (lookV n P core id).h)) ∧ Below w.heap.size w w' := by
  have hs : ∀ s : Src, lookV n P core id = s → Calls Tryz.prog 37 #[ptr g 0, vI core, vI id] w fun e w' => e = .returned (.bool (s.l || s.h)) ∧ Below w.heap.size w w' := by
    intro s hs
    go_enter Tryz.func37, Tryz.ntmps37
    go_wp2_with (first | (go_at_call 69; refine (look_c H core id).mono ?_; rintro e w' ⟨rfl, hB⟩; dsimp only; rw [hs]) | (go_at_call 70; refine (spend_c s _).mono ?_; rintro e w' ⟨rfl, hB2⟩; dsimp only))
    go_ret
    exact ⟨rfl, below_then hB (Nat.le_refl _) hB2⟩
  exact hs _ rfl
theorem active_c (H : GicAt g n P L w) (core id : Int) : Calls Tryz.prog 115 #[ptr g 0, vI core, vI id] w fun e w' => e = .returned (.bool (lookV n P core id).a) ∧ Below w.heap.size w w' := by
  have hs : ∀ s : Src, lookV n P core id = s → Calls Tryz.prog 115 #[ptr g 0, vI core, vI id] w fun e w' => e = .returned (.bool s.a) ∧ Below w.heap.size w w' := by
    intro s hs
    have fl := fld61_3 s
    go_enter Tryz.func115, Tryz.ntmps115
    go_wp2_with (first | (go_at_call 69; refine (look_c H core id).mono ?_; rintro e w' ⟨rfl, hB⟩; dsimp only; rw [hs]))
    go_ret
    exact ⟨rfl, hB⟩
  exact hs _ rfl
theorem goes_c (H : GicAt g n P L w) (id : Int) : Calls Tryz.prog 117 #[ptr g 0, vI id] w fun e w' => e = .returned (vI (lookV n P 0 id).goes) ∧ Below w.heap.size w w' := by
  have hs : ∀ s : Src, lookV n P 0 id = s → Calls Tryz.prog 117 #[ptr g 0, vI id] w fun e w' => e = .returned (vI s.goes) ∧ Below w.heap.size w w' := by
    intro s hs
    have fl := fld61_5 s
    go_enter Tryz.func117, Tryz.ntmps117
    go_wp2_with (first | (go_at_call 69; refine (look_c H 0 id).mono ?_; rintro e w' ⟨rfl, hB⟩; dsimp only; rw [hs]))
    go_ret
    exact ⟨rfl, hB⟩
  exact hs _ rfl
end
end Go.Proofs.YteklkololojamaaGreat
