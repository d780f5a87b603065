/- The same, of a memory all of whose blocks are a call's own, and of rows of stores beside it. -/
import Derived.Test.YtjkjbcnafpljoaaRo
namespace Go.Proofs.Ytjkjbcnafpljoaa
open Go.RowKit
set_option linter.unusedVariables false
set_option linter.unusedSimpArgs false

def LR (w0 : World) (g : Nat) (S : Sta) (R : List (Value × List Lt)) (w : World) : Prop := ∃ L, MemAt g S L w ∧ (∀ k, Foot g L k → w0.heap.size ≤ k) ∧ Below w0.heap.size w0 w ∧ ∀ p ∈ R, w.ownsRow w0.heap.size 59 3 p.1 p.2.length (flatL p.2) ∧ ∀ b, p.1.ownBlock = some b → ¬ Foot g L b
theorem lr_of {w0 w : World} {g : Nat} {S : Sta} (h : Lw w0 g S w) : LR w0 g S [] w := by
  obtain ⟨L, M, F, B⟩ := h
  exact ⟨L, M, F, B, fun _ h => by cases h⟩
theorem LR.below {w0 w : World} {g : Nat} {S : Sta} {R : List (Value × List Lt)} (h : LR w0 g S R w) : Below w0.heap.size w0 w := by obtain ⟨_, _, _, B, _⟩ := h; exact B
theorem LR.less {w0 w : World} {g : Nat} {S : Sta} {R R' : List (Value × List Lt)} (h : LR w0 g S R w) (hs : ∀ p ∈ R', p ∈ R) : LR w0 g S R' w := by
  obtain ⟨L, M, F, B, K⟩ := h
  exact ⟨L, M, F, B, fun p hp => K p (hs p hp)⟩
theorem LR.row {w0 w : World} {g : Nat} {S : Sta} {R : List (Value × List Lt)} (h : LR w0 g S R w) {v : Value} {l : List Lt} (hm : (v, l) ∈ R) : w.ownsRow w0.heap.size 59 3 v l.length (flatL l) := by
  obtain ⟨L, M, F, B, K⟩ := h
  exact (K _ hm).1
theorem goes_below {w0 w w' : World} {F : Nat → Prop} (B : Below w0.heap.size w0 w) (hF : ∀ k, F k → w0.heap.size ≤ k) (go : Goes F w w') : Below w0.heap.size w0 w' :=
  B.trans ((go.mono (G := fun k => w0.heap.size ≤ k) fun k _ hk => hF k hk).below B.size fun _ hk => hk)
theorem LR.turnL {w0 w w' : World} {g : Nat} {S S' : Sta} {R : List (Value × List Lt)} {L : Lay} (h : LR w0 g S R w) (M : MemAt g S L w) (F : ∀ k, Foot g L k → w0.heap.size ≤ k) (B : Below w0.heap.size w0 w) (K : ∀ p ∈ R, w.ownsRow w0.heap.size 59 3 p.1 p.2.length (flatL p.2) ∧ ∀ b, p.1.ownBlock = some b → ¬ Foot g L b) (t : Turn g L S' w w') : LR w0 g S' R w' := by
  obtain ⟨L', M', go, ft⟩ := t
  refine ⟨L', M', fun k hk => ?_, goes_below B F go, fun p hp => ⟨own_of_block (K p hp).1 fun b hb => go.block b ((K p hp).1.lt b hb).2 ((K p hp).2 b hb), fun b hb hf => ?_⟩⟩
  · rcases ft k hk with e | e
    · exact F k e
    · exact Nat.le_trans B.size e
  · rcases ft b hf with e | e
    · exact (K p hp).2 b hb e
    · have := ((K p hp).1.lt b hb).2; omega
theorem LR.turnR {w0 w w' : World} {g : Nat} {S S' : Sta} {R : List (Value × List Lt)} {L : Lay} {v : Value} {l : List Lt} (h : LR w0 g S R w) (M : MemAt g S L w) (F : ∀ k, Foot g L k → w0.heap.size ≤ k) (B : Below w0.heap.size w0 w) (K : ∀ p ∈ R, w.ownsRow w0.heap.size 59 3 p.1 p.2.length (flatL p.2) ∧ ∀ b, p.1.ownBlock = some b → ¬ Foot g L b) (t : TurnR g L S' v l w w') : LR w0 g S' ((v, l) :: R) w' := by
  obtain ⟨L', M', go, ft, ho, hn⟩ := t
  refine ⟨L', M', fun k hk => ?_, goes_below B F go, fun p hp => ?_⟩
  · rcases ft k hk with e | e
    · exact F k e
    · exact Nat.le_trans B.size e
  · rcases List.mem_cons.1 hp with rfl | hp
    · exact ⟨own_mono ho B.size, hn⟩
    · refine ⟨own_of_block (K p hp).1 fun b hb => go.block b ((K p hp).1.lt b hb).2 ((K p hp).2 b hb), fun b hb hf => ?_⟩
      rcases ft b hf with e | e
      · exact (K p hp).2 b hb e
      · have := ((K p hp).1.lt b hb).2; omega
theorem LR.grow {w0 w w' : World} {g : Nat} {S : Sta} {R : List (Value × List Lt)} (h : LR w0 g S R w) (hb : Below w.heap.size w w') : LR w0 g S R w' := by
  obtain ⟨L, M, F, B, K⟩ := id h
  exact h.turnL M F B K (turn_of_below M hb)
theorem LR.add {w0 w w' : World} {g : Nat} {S : Sta} {R : List (Value × List Lt)} {v : Value} {l : List Lt} (h : LR w0 g S R w) (hb : Below w.heap.size w w') (ho : w'.ownsRow w.heap.size 59 3 v l.length (flatL l)) : LR w0 g S ((v, l) :: R) w' := by
  obtain ⟨L, M, F, B, K⟩ := id h
  obtain ⟨L', M', F', B', K'⟩ : LR w0 g S R w' := h.grow hb
  refine ⟨L, M.grow hb, F, B', fun p hp => ?_⟩
  rcases List.mem_cons.1 hp with rfl | hp
  · exact ⟨own_mono ho B.size, fun b hv hf => by have := (ho.lt b hv).1; have := M.lt hf; omega⟩
  · exact ⟨(K' p hp).1, (K p hp).2⟩
theorem set_l {w0 w : World} {g : Nat} {S : Sta} {R : List (Value × List Lt)} (H : LR w0 g S R w) (O : S.Ok) (addr value : Int) (hA : U64 addr) : Calls Try.prog 31 #[ptr g 0, vU addr, vU value] w fun e w' => e = .returned (vI (setE S addr)) ∧ LR w0 g (setS S addr value) R w' := by
  obtain ⟨L, M, F, B, K⟩ := id H
  refine (set_c g S L addr value w M O.w2 hA).mono ?_
  rintro e w' ⟨rfl, T⟩
  exact ⟨rfl, H.turnL M F B K T⟩
theorem load_l {w0 w : World} {g : Nat} {S : Sta} {R : List (Value × List Lt)} (H : LR w0 g S R w) (O : S.Ok) (core addr : Int) (hA : U64 addr) : Calls Try.prog 12 #[ptr g 0, vI core, vU addr] w fun e w' => e = .returned (.tuple #[vU (loadP S core addr).1, vI (loadP S core addr).2, vI (argE (okB S core addr))]) ∧ LR w0 g S R w' := by
  obtain ⟨L, M, F, B, K⟩ := id H
  refine (load_c g S L core addr w M O hA).mono ?_
  rintro e w' ⟨rfl, T⟩
  exact ⟨rfl, H.turnL M F B K T⟩
theorem store_l {w0 w : World} {g : Nat} {S : Sta} {R : List (Value × List Lt)} (H : LR w0 g S R w) (O : S.Ok) (core addr value : Int) (hA : U64 addr) (ht : S.stamps.length < 1000000) : Calls Try.prog 27 #[ptr g 0, vI core, vU addr, vU value] w fun e w' => e = .returned (.tuple #[vI (storeT S core addr), vI (storeE S core addr)]) ∧ LR w0 g (storeS S core addr value) R w' := by
  obtain ⟨L, M, F, B, K⟩ := id H
  refine (store_c g S L core addr value w M O hA ht).mono ?_
  rintro e w' ⟨rfl, T⟩
  exact ⟨rfl, H.turnL M F B K T⟩
theorem drain_l {w0 w : World} {g : Nat} {S : Sta} {R : List (Value × List Lt)} (H : LR w0 g S R w) (O : S.Ok) (core : Int) (ht : S.stamps.length < 1000000) : Calls Try.prog 28 #[ptr g 0, vI core] w fun e w' => e = .returned (.tuple #[(drainL S core).val, vI (drainE S core)]) ∧ LR w0 g (drainS S core) R w' := by
  obtain ⟨L, M, F, B, K⟩ := id H
  refine (drain_c g S L core w M O ht).mono ?_
  rintro e w' ⟨rfl, T⟩
  exact ⟨rfl, H.turnL M F B K T⟩
theorem peek_l {w0 w : World} {g : Nat} {S : Sta} {R : List (Value × List Lt)} (H : LR w0 g S R w) (O : S.Ok) (addr : Int) (hA : U64 addr) : Calls Try.prog 26 #[ptr g 0, vU addr] w fun e w' => e = .returned (.tuple #[vU (peekV S addr), vI (peekT S addr), vI (argE (hasWordB S addr))]) ∧ LR w0 g S R w' := by
  obtain ⟨L, M, F, B, K⟩ := id H
  refine (peek_c g S L addr w M O.w2 hA).mono ?_
  rintro e w' ⟨rfl, hb⟩
  exact ⟨rfl, H.grow hb⟩
theorem stamp_l {w0 w : World} {g : Nat} {S : Sta} {R : List (Value × List Lt)} (H : LR w0 g S R w) (O : S.Ok) (t : Int) : Calls Try.prog 22 #[ptr g 0, vI t] w fun e w' => e = .returned (vI (stampV S t)) ∧ LR w0 g S R w' := by
  obtain ⟨L, M, F, B, K⟩ := id H
  refine (stamp_c g S L t w M).mono ?_
  rintro e w' ⟨rfl, rfl⟩
  exact ⟨rfl, H⟩
theorem tickets_l {w0 w : World} {g : Nat} {S : Sta} {R : List (Value × List Lt)} (H : LR w0 g S R w) (O : S.Ok) : Calls Try.prog 16 #[ptr g 0] w fun e w' => e = .returned (vI S.stamps.length) ∧ LR w0 g S R w' := by
  obtain ⟨L, M, F, B, K⟩ := id H
  refine (tickets_c g S L w M).mono ?_
  rintro e w' ⟨rfl, rfl⟩
  exact ⟨rfl, H⟩
theorem words_l {w0 w : World} {g : Nat} {S : Sta} {R : List (Value × List Lt)} (H : LR w0 g S R w) (O : S.Ok) : Calls Try.prog 13 #[ptr g 0] w fun e w' => e = .returned (vI S.words.length) ∧ LR w0 g S R w' := by
  obtain ⟨L, M, F, B, K⟩ := id H
  refine (words_c g S L w M).mono ?_
  rintro e w' ⟨rfl, rfl⟩
  exact ⟨rfl, H⟩
theorem cores_l {w0 w : World} {g : Nat} {S : Sta} {R : List (Value × List Lt)} (H : LR w0 g S R w) (O : S.Ok) : Calls Try.prog 14 #[ptr g 0] w fun e w' => e = .returned (vI S.bufs.length) ∧ LR w0 g S R w' := by
  obtain ⟨L, M, F, B, K⟩ := id H
  refine (cores_c g S L w M).mono ?_
  rintro e w' ⟨rfl, rfl⟩
  exact ⟨rfl, H⟩
theorem depth_l {w0 w : World} {g : Nat} {S : Sta} {R : List (Value × List Lt)} (H : LR w0 g S R w) (O : S.Ok) : Calls Try.prog 15 #[ptr g 0] w fun e w' => e = .returned (vI S.depth) ∧ LR w0 g S R w' := by
  obtain ⟨L, M, F, B, K⟩ := id H
  refine (depth_c g S L w M O.c1).mono ?_
  rintro e w' ⟨rfl, rfl⟩
  exact ⟨rfl, H⟩
theorem flush_l {w0 w : World} {g : Nat} {S : Sta} {R : List (Value × List Lt)} (H : LR w0 g S R w) (O : S.Ok) (core : Int) (ht : S.stamps.length < 1000000) (hC : hasCoreB S core = true) : Calls Try.prog 25 #[ptr g 0, vI core] w fun e w' => ∃ v, e = .returned (.tuple #[v, vI 0]) ∧ LR w0 g (flushS S core) ((v, bufOf S core) :: R) w' := by
  obtain ⟨L, M, F, B, K⟩ := id H
  refine (flush_c g S L core w M O ht hC).mono ?_
  rintro e w' ⟨v, rfl, T⟩
  exact ⟨v, rfl, H.turnR M F B K T⟩
theorem put_l {w0 w : World} {g : Nat} {S : Sta} {R : List (Value × List Lt)} (H : LR w0 g S R w) (O : S.Ok) (core addr value : Int) (hA : U64 addr) (ht : S.stamps.length < 1000000) : Calls Try.prog 30 #[ptr g 0, vI core, vU addr, vU value] w fun e w' => ∃ v, e = .returned (.tuple #[vI (putT S core addr), v, vI (argE (okB S core addr))]) ∧ LR w0 g (putS S core addr value) ((v, putL S core addr) :: R) w' := by
  obtain ⟨L, M, F, B, K⟩ := id H
  refine (put_c g S L core addr value w M O hA ht).mono ?_
  rintro e w' ⟨v, rfl, T⟩
  exact ⟨v, rfl, H.turnR M F B K T⟩
theorem held_l {w0 w : World} {g : Nat} {S : Sta} {R : List (Value × List Lt)} (H : LR w0 g S R w) (O : S.Ok) (core : Int) : Calls Try.prog 29 #[ptr g 0, vI core] w fun e w' => ∃ v, e = .returned v ∧ LR w0 g S ((v, heldL S core) :: R) w' := by
  obtain ⟨L, M, F, B, K⟩ := id H
  refine (held_c g S L core w M O).mono ?_
  rintro e w' ⟨v, rfl, ho, hb⟩
  exact ⟨v, rfl, H.add hb ho⟩
theorem order_l {w0 w : World} {g : Nat} {S : Sta} {R : List (Value × List Lt)} (H : LR w0 g S R w) (O : S.Ok) (ht : S.stamps.length < 1000000) : Calls Try.prog 17 #[ptr g 0] w fun e w' => ∃ v, e = .returned v ∧ w'.ownsRow w0.heap.size 3 1 v (orderL S).length ((orderL S).map vI) ∧ LR w0 g S R w' := by
  obtain ⟨L, M, F, B, K⟩ := id H
  refine (order_c g S L w M O ht).mono ?_
  rintro e w' ⟨v, rfl, ho, hb⟩
  exact ⟨v, rfl, own_mono ho B.size, H.grow hb⟩
theorem new_l (n c : Nat) (d : Int) (w : World) (h : newB n c d = true) : Calls Try.prog 10 #[vI n, vI c, vI d] w fun e w' => ∃ g, e = .returned (.tuple #[ptr g 0, vI 0]) ∧ LR w g (newS n c d) [] w' :=
  (new_c n c d w h).mono fun e w' ⟨g, he, h⟩ => ⟨g, he, lr_of h⟩
end Go.Proofs.Ytjkjbcnafpljoaa
