/- Load. -/
import Derived.Test.YtjkjbcnafpljoaaRi
namespace Go.Proofs.Ytjkjbcnafpljoaa
open Go.RowKit
set_option linter.unusedVariables false
set_option linter.unusedSimpArgs false

/-- What holds of every memory. -/
structure Sta.Ok (S : Sta) : Prop where
  w1 : 1 ≤ S.words.length
  w2 : S.words.length ≤ 8192
  c1 : 1 ≤ S.bufs.length
  c2 : S.bufs.length ≤ 8
  d1 : 1 ≤ S.depth
  d2 : S.depth ≤ 32
  held : ∀ l ∈ S.bufs, ∀ s ∈ l, (∃ k : Nat, s.a = 8 * k ∧ k < S.words.length) ∧ 1 ≤ s.t ∧ s.t ≤ S.stamps.length
  lens : ∀ l ∈ S.bufs, (l.length : Int) ≤ S.depth
  cnt : S.reached + ((S.bufs.map List.length).sum : Nat) = S.stamps.length
  pos : 0 ≤ S.reached
  st : ∀ x ∈ S.stamps, 0 ≤ x ∧ x ≤ S.reached
def bufOf (S : Sta) (core : Int) : List Lt := S.bufs.getD core.toNat []
def okB (S : Sta) (core addr : Int) : Bool := hasCoreB S core && hasWordB S addr
def loadP (S : Sta) (core addr : Int) : Int × Int := if okB S core addr then (match nw (bufOf S core) addr with | some s => (s.v, s.t) | none => (peekV S addr, peekT S addr)) else (0, 0)
theorem core_nat {S : Sta} {core : Int} (h : hasCoreB S core = true) : ∃ k : Nat, core = k ∧ k < S.bufs.length := by
  simp only [hasCoreB, Bool.and_eq_true, decide_eq_true_eq] at h
  exact ⟨core.toNat, by omega, by omega⟩
theorem buf_at {S : Sta} {k : Nat} {l : List Lt} (h : S.bufs[k]? = some l) : bufOf S k = l := by
  simp [bufOf, List.getD, h]
set_option maxRecDepth 4000 in
theorem load_c (g : Nat) (S : Sta) (L : Lay) (core addr : Int) (w : World) (H : MemAt g S L w) (O : S.Ok) (hA : U64 addr) : Calls Try.prog 12 #[ptr g 0, vI core, vU addr] w fun e w' => e = .returned (.tuple #[vU (loadP S core addr).1, vI (loadP S core addr).2, vI (argE (okB S core addr))]) ∧ Turn g L S w w' := by
  cases hC : hasCoreB S core
  · have e0 : okB S core addr = false := by rw [okB, hC]; rfl
    rw [loadP, e0]
    go_enter Try.func12, Try.ntmps12
    go_wp2_with (go_at_call 33; refine (hasCore_c g S L core _ H).mono ?_; rintro e w' ⟨rfl, rfl⟩; dsimp only; rw [hC])
    exact bodyPost_ret (results3 rfl _ _) rfl ⟨rfl, turn_refl H⟩
  · cases hW : hasWordB S addr
    · have e0 : okB S core addr = false := by rw [okB, hC, hW]; rfl
      rw [loadP, e0]
      go_enter Try.func12, Try.ntmps12
      go_wp2_with (first | (go_at_call 33; refine (hasCore_c g S L core _ H).mono ?_; rintro e w' ⟨rfl, rfl⟩; dsimp only; rw [hC]) | (go_at_call 34; refine (hasWord_c g S L addr _ H O.w2 hA).mono ?_; rintro e w' ⟨rfl, rfl⟩; dsimp only; rw [hW]))
      exact bodyPost_ret (results3 rfl _ _) rfl ⟨rfl, turn_refl H⟩
    · have e0 : okB S core addr = true := by rw [okB, hC, hW]; rfl
      obtain ⟨k, rfl, hk⟩ := core_nat hC
      obtain ⟨u, l, hu, hl⟩ := core_at H hk
      rw [loadP, e0, buf_at hl]
      have hlen : l.length < 1000000000 := by
        have := O.lens l (List.mem_of_getElem? hl)
        have := O.d2
        omega
      go_enter Try.func12, Try.ntmps12
      go_upto_region 3 with (first | (go_at_call 33; refine (hasCore_c g S L k _ H).mono ?_; rintro e w' ⟨rfl, rfl⟩; dsimp only; rw [hC]) | (go_at_call 34; refine (hasWord_c g S L addr _ H O.w2 hA).mono ?_; rintro e w' ⟨rfl, rfl⟩; dsimp only; rw [hW]))
      cases hN : nw l addr with
      | none =>
        go_upto_region 4 with (first | (go_at_call 35; refine (at_c36 g S S L k ⟨addr, 0, 0⟩ (nwL (nw l addr)) (nwE (nw l addr)) _ H hk (fun w1 h1 => newest_c g S L k u l ⟨addr, 0, 0⟩ w1 h1 hu hl hlen)).mono ?_; rintro e w1 ⟨rfl, T⟩; dsimp only; rw [hN, show nwE none = 31 from rfl]))
        obtain ⟨L1, M1, go1, ft1⟩ := id T
        go_wp2_with (go_at_call 26; refine (peek_c g S L1 addr _ (M1.grow (below_alloc _ _)) O.w2 hA).mono ?_; rintro e w2 ⟨rfl, hB⟩; dsimp only)
        exact bodyPost_ret (results3 rfl _ _) rfl ⟨rfl, (T.grow (below_alloc _ _)).grow hB⟩
      | some x =>
        go_upto_region 5 with (first | (go_at_call 35; refine (at_c36 g S S L k ⟨addr, 0, 0⟩ (nwL (nw l addr)) (nwE (nw l addr)) _ H hk (fun w1 h1 => newest_c g S L k u l ⟨addr, 0, 0⟩ w1 h1 hu hl hlen)).mono ?_; rintro e w1 ⟨rfl, T⟩; dsimp only; rw [hN, show nwE (some x) = 0 from rfl, show nwL (some x) = x from rfl]))
        have T2 := T.grow (below_alloc w1 (.cells #[vU x.a, vU x.v, vI x.t] 59))
        have z1 : (w1.alloc (.cells #[vU x.a, vU x.v, vI x.t] 59)).cell? ⟨w1.heap.size, 1, none⟩ = some (vU x.v) := by rw [World.cell?_alloc_new]; rfl
        have z2 : (w1.alloc (.cells #[vU x.a, vU x.v, vI x.t] 59)).cell? ⟨w1.heap.size, 2, none⟩ = some (vI x.t) := by rw [World.cell?_alloc_new]; rfl
        generalize w1.alloc (.cells #[vU x.a, vU x.v, vI x.t] 59) = w2 at T2 z1 z2 ⊢
        go_quiet (fail)
        go_wp2
        exact bodyPost_ret (results3 rfl _ _) rfl ⟨rfl, T2.grow (below_drewN (Below.refl _ _) _)⟩
end Go.Proofs.Ytjkjbcnafpljoaa
