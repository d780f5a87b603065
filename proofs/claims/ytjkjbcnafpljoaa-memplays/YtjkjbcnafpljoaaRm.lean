/- Put, Held, Fetch. -/
import Derived.Test.YtjkjbcnafpljoaaRl
namespace Go.Proofs.Ytjkjbcnafpljoaa
open Go.RowKit
set_option linter.unusedVariables false
set_option linter.unusedSimpArgs false

theorem turnR_join {g : Nat} {L L1 : Lay} {S' : Sta} {v : Value} {l : List Lt} {w w1 w1' w2 : World} (hown : w1.ownsRow w.heap.size 59 3 v l.length (flatL l)) (hn : ∀ b, v.ownBlock = some b → ¬ Foot g L1 b) (go1 : Goes (Foot g L) w w1) (ft1 : ∀ k, Foot g L1 k → Foot g L k ∨ w.heap.size ≤ k) (hb : Below w1.heap.size w1 w1') (t : Turn g L1 S' w1' w2) : TurnR g L S' v l w w2 := by
  obtain ⟨L2, m, go, ft⟩ := t
  refine ⟨L2, m, (go1.grow hb).trans go fun k hk hf => ?_, fun k hk => ?_, own_of_block hown fun b hv => ?_, fun b hv hf => ?_⟩
  · rcases ft1 k hf with e | e
    · exact e
    · omega
  · rcases ft k hk with e | e
    · exact ft1 k e
    · exact .inr (Nat.le_trans (Nat.le_trans go1.size hb.size) e)
  · have := (hown.lt b hv).2
    rw [go.block b (Nat.lt_of_lt_of_le this hb.size) (hn b hv), hb.block b this]
  · have := (hown.lt b hv).2
    rcases ft b hf with e | e
    · exact hn b hv e
    · have := hb.size; omega
def putS (S : Sta) (core addr value : Int) : Sta := if okB S core addr then reachS { flushS S core with stamps := (flushS S core).stamps ++ [0] } ⟨addr, value, S.stamps.length + 1⟩ else S
def putT (S : Sta) (core addr : Int) : Int := if okB S core addr then S.stamps.length + 1 else 0
def putL (S : Sta) (core addr : Int) : List Lt := if okB S core addr then bufOf S core else []
theorem flush_len (S : Sta) (core : Int) : (flushS S core).bufs.length = S.bufs.length ∧ (flushS S core).stamps.length = S.stamps.length ∧ (flushS S core).words.length = S.words.length := dr_len S core _
set_option maxRecDepth 4000 in
theorem put_c (g : Nat) (S : Sta) (L : Lay) (core addr value : Int) (w : World) (H : MemAt g S L w) (O : S.Ok) (hA : U64 addr) (ht : S.stamps.length < 1000000) : Calls Try.prog 30 #[ptr g 0, vI core, vU addr, vU value] w fun e w' => ∃ v, e = .returned (.tuple #[vI (putT S core addr), v, vI (argE (okB S core addr))]) ∧ TurnR g L (putS S core addr value) v (putL S core addr) w w' := by
  cases hW : hasWordB S addr
  · have e0 : okB S core addr = false := by rw [okB, hW, Bool.and_false]
    rw [putT, putS, putL, e0]
    go_enter Try.func30, Try.ntmps30
    go_wp2_with (go_at_call 34; refine (hasWord_c g S L addr _ H O.w2 hA).mono ?_; rintro e w' ⟨rfl, rfl⟩; dsimp only; rw [hW])
    exact bodyPost_ret (results3 rfl _ _) rfl ⟨_, rfl, turnR_none (turn_refl H)⟩
  · cases hC : hasCoreB S core
    · have e0 : okB S core addr = false := by rw [okB, hC, Bool.false_and]
      rw [putT, putS, putL, e0]
      go_enter Try.func30, Try.ntmps30
      go_wp2_with (first | (go_at_call 34; refine (hasWord_c g S L addr _ H O.w2 hA).mono ?_; rintro e w' ⟨rfl, rfl⟩; dsimp only; rw [hW]) | (go_at_call 25; refine (flush_no g S L core _ H hC).mono ?_; rintro e w' ⟨rfl, rfl⟩; dsimp only))
      exact bodyPost_ret (results3 rfl _ _) rfl ⟨_, rfl, turnR_none (turn_refl H)⟩
    · have e0 : okB S core addr = true := by rw [okB, hC, hW]; rfl
      rw [putT, putS, putL, e0, if_pos rfl, if_pos rfl, if_pos rfl]
      obtain ⟨k', ha, hk'⟩ := word_nat hA.1 hW
      have hlen := flush_len S core
      have hOf := O.flush core
      have hdiv : Hid (addr.tdiv 8 = k') := by show addr.tdiv 8 = k'; rw [ha, Int.tdiv_eq_ediv_of_nonneg (by omega)]; omega
      replace ha := show Hid _ from ha
      have hr1 := hOf.pos
      have hr2 := hOf.reach
      have hr3 : (flushS S core).reached < 1000000000 := by omega
      have hx2 : (flushS S core).words.length ≤ 8192 := hOf.w2
      have hn1 : (flushS S core).stamps.length = S.stamps.length := hlen.2.1
      have hk2 : k' < (flushS S core).words.length := by omega
      clear hOf hlen hr2
      generalize hF : flushS S core = F at *
      generalize hN : S.stamps.length = N at *
      go_enter Try.func30, Try.ntmps30
      go_upto_region 7 with (first | (go_at_call 34; refine (hasWord_c g S L addr _ H O.w2 hA).mono ?_; rintro e w' ⟨rfl, rfl⟩; dsimp only; rw [hW]) | (go_at_call 25; refine (flush_c g S L core _ H O (by rw [hN]; exact ht) hC).mono ?_; rintro e w1 ⟨v, rfl, TR⟩; dsimp only; rw [hF] at TR; obtain ⟨L1, M1, go1, ft1, hown, hn⟩ := TR) | (go_at_call 50; refine (next_c g F L1 addr value _ M1 (by omega)).mono ?_; rintro e w2 ⟨rfl, hB2⟩; dsimp only; rw [hn1]))
      have hp : (w2.alloc (.cells #[vU addr, vU value, vI (N + 1)] 59)).heap[w2.heap.size]? = some (.cells #[vU addr, vU value, vI (N + 1)] 59) := heap_alloc_new _ _
      have hB3 := below_then hB2 (Nat.le_refl _) (below_alloc w2 (.cells #[vU addr, vU value, vI (N + 1)] 59))
      have hpF : ¬ Foot g L1 w2.heap.size := fun h => by have := M1.lt h; have := hB2.size; omega
      have hps := lt_of_some hp
      generalize h3 : World.alloc w2 _ = w3
      have h4 : w2.alloc (.cells #[vU addr, vU value, vI (N + 1)] 59) = w3 := h3
      rw [h4] at hp hB3 hps
      clear h3 h4
      generalize w2.heap.size = p at hp hpF hps ⊢
      go_upto_region 8 with (go_at_call 51; refine (give_c g F L1 _ (M1.grow hB3) (by omega)).mono ?_; rintro e w4 ⟨rfl, T4⟩; dsimp only)
      obtain ⟨L2, M4, go4, ft4⟩ := id T4
      have hp4 : w4.heap[p]? = some (.cells #[vU addr, vU value, vI (N + 1)] 59) := by rw [T4.other hps hpF]; exact hp
      have hpF2 : ¬ Foot g L2 p := fun h => by
        rcases ft4 p h with e | e
        · exact hpF e
        · omega
      have z0 : w4.cell? ⟨p, 0, none⟩ = some (vU addr) := by rw [cell_of_row _ _ _ _ _ _ hp4]; rfl
      have z1 : w4.cell? ⟨p, 1, none⟩ = some (vU value) := by rw [cell_of_row _ _ _ _ _ _ hp4]; rfl
      have z2 : w4.cell? ⟨p, 2, none⟩ = some (vI (N + 1)) := by rw [cell_of_row _ _ _ _ _ _ hp4]; rfl
      have hm : Hid (((N : Int) + 1) - 1 = (N : Nat)) := by show (N : Int) + 1 - 1 = N; omega
      have hlt : N < (F.stamps ++ [0]).length := by simp; omega
      have hlt2 : (F.stamps ++ [0]).length < 1000000000 := by simp; omega
      go_upto_region 9 with (go_at_call 53; refine (reach_c g { F with stamps := F.stamps ++ [0] } L2 addr k' N value (N + 1) _ M4 hdiv.out hx2 hk2 hm.out hlt hlt2 ⟨hr1, hr3⟩).mono ?_; rintro e w5 ⟨rfl, T5⟩; dsimp only)
      rw [reach_eq { F with stamps := F.stamps ++ [0] } ⟨addr, value, N + 1⟩ ha.out hm.out] at T5
      have hp5 : w5.heap[p]? = some (.cells #[vU addr, vU value, vI (N + 1)] 59) := by rw [T5.other (lt_of_some hp4) hpF2]; exact hp4
      have y2 : w5.cell? ⟨p, 2, none⟩ = some (vI (N + 1)) := by rw [cell_of_row _ _ _ _ _ _ hp5]; rfl
      have hfin := turnR_join hown hn go1 ft1 hB3 (T5.join go4 ft4)
      clear z0 z1 z2
      go_wp2
      exact bodyPost_ret (results3 rfl _ _) rfl ⟨_, rfl, hfin⟩
end Go.Proofs.Ytjkjbcnafpljoaa
