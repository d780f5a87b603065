/- The document's own Load. -/
import Derived.Test.YtjkjbcnafpljoaaUc
namespace Go.Proofs.Ytjkjbcnafpljoaa
open Go.RowKit
set_option linter.unusedVariables false
set_option linter.unusedSimpArgs false

/-- The newest of the first k that a core holds for a word. -/
def ldG (l : List R4) (c a : Int) (d : Int × Int) : Nat → Int × Int
  | 0 => d
  | k + 1 => match l[k]? with
    | some s => if (s.c = c ∧ s.s = 0) ∧ s.a = a then (s.v, (k : Int) + 1) else ldG l c a d k
    | none => ldG l c a d k
theorem ldG_step {l : List R4} {c a : Int} {d : Int × Int} {k : Nat} {s : R4} (h : l[k]? = some s) : ldG l c a d (k + 1) = if (s.c = c ∧ s.s = 0) ∧ s.a = a then (s.v, (k : Int) + 1) else ldG l c a d k := by
  rw [ldG, h]
def ldD (X : Doc) (c a : Int) : Int × Int := ldG X.all c a ((pkD X a).1, (pkD X a).2.1) X.all.length
set_option maxRecDepth 4000 in
theorem loadD_c (h : Nat) (X : Doc) (L : DocLay) (core addr : Int) (w : World) (H : DocAt h X L w) (hA : U64 addr) (hw : addr / 8 < X.first.length) (hn : X.all.length < 1000000) : Calls Try.prog 38 #[ptr h 0, vI core, vU addr] w fun e w' => e = .returned (.tuple #[vU (ldD X core addr).1, vI (ldD X core addr).2]) ∧ Below w.heap.size w w' := by
  obtain ⟨aa, ac, ea, _, _⟩ := own_len H.all
  have c3 := H.c3
  rw [ea] at c3
  have hw0 : IntKind.i64.wrap ((X.all.length : Int) - 1) = (X.all.length : Int) - 1 := by rw [IntKind.wrap_i64]; omega
  go_enter Try.func38, Try.ntmps38
  go_wp2
  clear c3
  go_loopw [8] (fun s8 wr => ∃ k : Nat, k ≤ X.all.length ∧ s8 = .int .i64 ((k : Int) - 1) ∧ Hid (ldD X core addr = ldG X.all core addr ((pkD X addr).1, (pkD X addr).2.1) k ∧ Below w.heap.size w wr)) (fun s8 _ => (intOf s8 + 1).toNat)
  case atStart => exact ⟨X.all.length, Nat.le_refl _, rfl, rfl, Below.refl _ _⟩
  case round =>
    obtain ⟨k, hk, rfl, hH⟩ := hrel
    obtain ⟨hd, B⟩ := hH.out
    clear hH
    have H2 := H.grow B
    have c3 := H2.c3
    rw [ea] at c3
    cases k with
    | zero =>
      have e0 : ((0 : Nat) : Int) - 1 = -1 := rfl
      rw [e0]
      clear c3
      go_wp2_with (go_at_call 46; refine (peekD_c h X L addr _ H2 hA hw hn).mono ?_; rintro e w2 ⟨rfl, B2⟩; dsimp only)
      go_ret2
      exact ⟨by rw [hd]; rfl, below_then B (Nat.le_refl _) B2⟩
    | succ k =>
      have hx : X.all[k]? = some X.all[k] := List.getElem?_eq_getElem (by omega)
      generalize X.all[k] = s at hx
      obtain ⟨b, cap, e2, hrow⟩ := H2.row hx
      rw [ldG_step hx] at hd
      rw [ea] at e2
      simp only [Value.slice.injEq] at e2
      obtain ⟨rfl, -, rfl⟩ := e2
      have ek : ((k + 1 : Nat) : Int) - 1 = (k : Int) := by omega
      rw [ek]
      have hk0 : (0 : Int) ≤ k := by omega
      have hk1 : (k : Int) < X.all.length := by omega
      have hr : ∀ (j : Nat) x, s.row[j]? = some x → wr.cell? ((⟨b, k * 4, none⟩ : Addr).add j) = some x := fun j x hx => by rw [add_zero_addr]; exact hrow j x hx
      clear hrow H2 ek
      go_upto_region 5 with ((with_reducible refine wpList_load102 rfl _ rfl _ rfl s hr ?_); simp only [Act.put, List.setIfInBounds_toArray, List.set_cons_succ, List.set_cons_zero])
      have hbx : (wr.alloc (.cells #[vI s.c, vU s.a, vU s.v, vI s.s] 102)).heap[wr.heap.size]? = some (.cells #[vI s.c, vU s.a, vU s.v, vI s.s] 102) := heap_alloc_new _ _
      have hB2 := below_then B (Nat.le_refl _) (below_alloc wr (.cells #[vI s.c, vU s.a, vU s.v, vI s.s] 102))
      have q0 : (wr.alloc (.cells #[vI s.c, vU s.a, vU s.v, vI s.s] 102)).cell? ⟨wr.heap.size, 0, none⟩ = some (vI s.c) := by rw [cell_of_row _ _ _ _ _ _ hbx]; rfl
      have q1 : (wr.alloc (.cells #[vI s.c, vU s.a, vU s.v, vI s.s] 102)).cell? ⟨wr.heap.size, 1, none⟩ = some (vU s.a) := by rw [cell_of_row _ _ _ _ _ _ hbx]; rfl
      have q2 : (wr.alloc (.cells #[vI s.c, vU s.a, vU s.v, vI s.s] 102)).cell? ⟨wr.heap.size, 2, none⟩ = some (vU s.v) := by rw [cell_of_row _ _ _ _ _ _ hbx]; rfl
      have q3 : (wr.alloc (.cells #[vI s.c, vU s.a, vU s.v, vI s.s] 102)).cell? ⟨wr.heap.size, 3, none⟩ = some (vI s.s) := by rw [cell_of_row _ _ _ _ _ _ hbx]; rfl
      clear hbx hr c3
      generalize wr.heap.size = ob at q0 q1 q2 q3 ⊢
      generalize h4 : World.alloc wr _ = y1
      have h5 : wr.alloc (.cells #[vI s.c, vU s.a, vU s.v, vI s.s] 102) = y1 := h4
      rw [h5] at q0 q1 q2 q3 hB2
      clear h4 h5
      have hw1 : IntKind.i64.wrap ((k : Int) + 1) = (k : Int) + 1 := by rw [IntKind.wrap_i64]; omega
      have hw2 : IntKind.i64.wrap ((k : Int) - 1) = (k : Int) - 1 := by rw [IntKind.wrap_i64]; omega
      by_cases e1 : s.c = core
      · rw [e1] at q0
        by_cases e3 : s.s = 0
        · rw [e3] at q3
          by_cases e5 : s.a = addr
          · rw [e5] at q1
            rw [if_pos ⟨⟨e1, e3⟩, e5⟩] at hd
            go_wp2
            go_ret2
            exact ⟨by rw [hd]; rfl, hB2⟩
          · rw [if_neg (fun h => e5 h.2)] at hd
            have e5' : (s.a == addr) = false := by simpa using e5
            go_wp2
            go_roundw
            case rel => exact ⟨k, by omega, rfl, hd, hB2⟩
            case measure => simp [intOf]
        · rw [if_neg (fun h => e3 h.1.2)] at hd
          have e3' : (s.s == 0) = false := by simpa using e3
          go_wp2
          go_roundw
          case rel => exact ⟨k, by omega, rfl, hd, hB2⟩
          case measure => simp [intOf]
      · rw [if_neg (fun h => e1 h.1.1)] at hd
        have e1' : (s.c == core) = false := by simpa using e1
        go_wp2
        go_roundw
        case rel => exact ⟨k, by omega, rfl, hd, hB2⟩
        case measure => simp [intOf]
end Go.Proofs.Ytjkjbcnafpljoaa
