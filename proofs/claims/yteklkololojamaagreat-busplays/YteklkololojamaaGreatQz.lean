/- New, walked. -/
import Derived.Test.YteklkololojamaaGreatQy
namespace Go.Proofs.YteklkololojamaaGreat
open Go.RowKit
set_option linter.unusedVariables false
set_option linter.unusedSimpArgs false
set_option maxRecDepth 8000

def Pg.calmed (P : Pg) (r : Nat) : Pg := { P with src := fun i j => if i = r then { P.src i j with rank := 160 } else P.src i j }
theorem calm_row {s : Src} (j : Nat) (hj : j < 6) : ({ s with rank := 160 } : Src).row[j]? = if j = 4 then some (vI 160) else s.row[j]? := by
  match j, hj with
  | 0, _ => rfl
  | 1, _ => rfl
  | 2, _ => rfl
  | 3, _ => rfl
  | 4, _ => rfl
  | 5, _ => rfl
section
variable {g n : Nat} {P : Pg} {L : GLay} {w w' : World}
theorem GicAt.calmOwn (H : GicAt g n P L w) {c : Nat} (hc : c < n) {C : Array Value} (hC : w.heap[L.cb]? = some (.cells C 119)) (K : Calm L.cb (c * 194 + 1) 119 C 32 w w') : GicAt g n (P.calmed c) L w' := by
  obtain ⟨G, D, hD, hz, h1, h2⟩ := K
  obtain ⟨C', hC', t⟩ := H.cor
  rw [hC] at hC'
  cases hC'
  obtain ⟨T, hT, tt⟩ := H.top
  refine ⟨H.pos, H.le8, ⟨T, by rw [G.block g (lt_of_some hT) H.ne]; exact hT, tt.size, tt.c0, fun k j hk hj => ?_⟩, ⟨D, hD, by rw [hz, t.size], fun d hd => ?_, fun d hd => ?_, fun d k j hd hk hj => ?_⟩, fun d hd => own_of_block (H.wks d hd) fun i hi => G.block i ((H.wks d hd).lt i hi).2 (by rintro rfl; exact (H.neW hd).2 hi), H.inj, H.lenk⟩
  · have e : (P.calmed c).src n k = P.src n k := if_neg (by omega)
    rw [e]; exact tt.sh k j hk hj
  · rw [h2 _ fun k hk e => at_ne0 (c := d) (r := c) (k := k) (j := 4) hk (by decide) (by omega)]; exact t.lim d hd
  · rw [h2 _ fun k hk e => at_ne1 (c := d) (r := c) (k := k) (j := 4) hk (by decide) (by omega)]; exact t.wv d hd
  · by_cases e : d = c
    · subst e
      have e2 : (P.calmed d).src d k = { P.src d k with rank := 160 } := if_pos rfl
      rw [e2, calm_row j hj]
      by_cases e3 : j = 4
      · subst e3; rw [if_pos rfl, h1 k hk]
      · rw [if_neg e3, h2 _ fun q hq e4 => e3 (by omega)]
        exact t.own d k j hd hk hj
    · have e2 : (P.calmed c).src d k = P.src d k := if_neg e
      rw [e2, h2 _ fun q hq e4 => (at_neI (r := c) (c := d) (k := q) (q := k) (j := 4) (i := j) hq (by decide) hk hj fun h => e h.1) (by omega)]
      exact t.own d k j hd hk hj
theorem GicAt.calmTop (H : GicAt g n P L w) {C : Array Value} (hC : w.heap[g]? = some (.cells C 122)) (K : Calm g 1 122 C 32 w w') : GicAt g n (P.calmed n) L w' := by
  obtain ⟨G, D, hD, hz, h1, h2⟩ := K
  obtain ⟨C', hC', t⟩ := H.top
  rw [hC] at hC'
  cases hC'
  obtain ⟨T, hT, tt⟩ := H.cor
  refine ⟨H.pos, H.le8, ⟨D, hD, by rw [hz, t.size], ?_, fun k j hk hj => ?_⟩, ⟨T, by rw [G.block L.cb (lt_of_some hT) H.ne.symm]; exact hT, tt.size, tt.lim, tt.wv, fun d k j hd hk hj => ?_⟩, fun d hd => own_of_block (H.wks d hd) fun i hi => G.block i ((H.wks d hd).lt i hi).2 (by rintro rfl; exact (H.neW hd).1 hi), H.inj, H.lenk⟩
  · rw [h2 _ fun k hk e => by omega]; exact t.c0
  · have e2 : (P.calmed n).src n k = { P.src n k with rank := 160 } := if_pos rfl
    rw [e2, calm_row j hj]
    by_cases e3 : j = 4
    · subst e3; rw [if_pos rfl, h1 k hk]
    · rw [if_neg e3, h2 _ fun q hq e4 => e3 (by omega)]
      exact t.sh k j hk hj
  · have e : (P.calmed n).src d k = P.src d k := if_neg (by omega)
    rw [e]; exact tt.own d k j hd hk hj
theorem pn_next (i : Nat) : ((PN i).setLim i 255).calmed i = PN (i + 1) := by
  simp only [PN, Pg.setLim, Pg.calmed, Pg.mk.injEq, and_true]
  constructor
  · funext r k
    by_cases e : r = i
    · subst e; simp [s160, nilS]
    · simp only [if_neg e]
      by_cases e2 : r < i
      · rw [if_pos e2, if_pos (by omega)]
      · rw [if_neg e2, if_neg (by omega)]
  · funext c
    by_cases e : c = i
    · subst e; simp
    · simp only [if_neg e]
      by_cases e2 : c < i
      · rw [if_pos e2, if_pos (by omega)]
      · rw [if_neg e2, if_neg (by omega)]
/-- Two states that are the same where there is something. -/
theorem GicAt.congr {Q : Pg} (H : GicAt g n P L w) (h1 : ∀ r k, r ≤ n → Q.src r k = P.src r k) (h2 : ∀ c, c < n → Q.lim c = P.lim c) (h3 : ∀ c, c < n → Q.wk c = P.wk c) : GicAt g n Q L w := by
  obtain ⟨C, hC, t⟩ := H.cor
  obtain ⟨T, hT, tt⟩ := H.top
  exact ⟨H.pos, H.le8, ⟨T, hT, tt.size, tt.c0, fun k j hk hj => by rw [h1 n k (Nat.le_refl _)]; exact tt.sh k j hk hj⟩, ⟨C, hC, t.size, fun c hc => by rw [h2 c hc]; exact t.lim c hc, t.wv, fun c k j hc hk hj => by rw [h1 c k (by omega)]; exact t.own c k j hc hk hj⟩, fun c hc => by rw [h3 c hc]; exact H.wks c hc, H.inj, fun c hc => by rw [h3 c hc]; exact H.lenk c hc⟩
end
theorem new_no (cores : Int) (h : cores < 1 ∨ 8 < cores) (w : World) : Calls Tryz.prog 38 #[vI cores] w fun e w' => e = .returned (.tuple #[.pointer none, vI 1]) ∧ w' = w := by
  by_cases h1 : cores < 1
  · go_enter Tryz.func38, Tryz.ntmps38
    go_wp2
    go_ret2
    exact ⟨rfl, rfl⟩
  · have h2 : 8 < cores := by omega
    clear h
    go_enter Tryz.func38, Tryz.ntmps38
    go_wp2
    go_ret2
    exact ⟨rfl, rfl⟩
theorem new_c (n : Nat) (h1 : 1 ≤ n) (h8 : n ≤ 8) (w : World) : Calls Tryz.prog 38 #[vI n] w fun e w' => ∃ g, e = .returned (.tuple #[ptr g 0, vI 0]) ∧ Gi g n newP (fun k => w.heap.size ≤ k) w' ∧ Below w.heap.size w w' ∧ w.heap.size ≤ g := by
  have k1 : (1 : Int) ≤ n := by omega
  have k8 : (n : Int) ≤ 8 := by omega
  go_enter Tryz.func38, Tryz.ntmps38
  go_upto_region 4 with (first | (refine wpList_makeW rfl _ rfl n rfl h8 ?_; simp only [Act.put, List.setIfInBounds_toArray, List.set_cons_succ, List.set_cons_zero]) | (refine wpList_build64 rfl _ rfl w.heap.size n rfl ?_; simp only [Act.put, List.setIfInBounds_toArray, List.set_cons_succ, List.set_cons_zero]) | (refine wpList_box64 rfl _ rfl _ rfl ?_; simp only [Act.put, List.setIfInBounds_toArray, List.set_cons_succ, List.set_cons_zero]))
  have hg1 : (w.alloc (.cells (madeCells zW.toArray (n * 194)) 119)).heap[w.heap.size]? = some (.cells (madeCells zW.toArray (n * 194)) 119) := heap_alloc_new _ _
  have hgs : w.heap.size < (w.alloc (.cells (madeCells zW.toArray (n * 194)) 119)).heap.size := lt_of_some hg1
  have hg2 := heap_alloc_new (w.alloc (.cells (madeCells zW.toArray (n * 194)) 119)) (.cells (Value.slice (some ⟨w.heap.size, 0, none⟩) n n :: zsrc).toArray 122)
  have hg3 := (below_alloc (w.alloc (.cells (madeCells zW.toArray (n * 194)) 119)) (.cells (Value.slice (some ⟨w.heap.size, 0, none⟩) n n :: zsrc).toArray 122)).block _ hgs
  rw [hg1] at hg3
  have B2 : Below w.heap.size w ((w.alloc (.cells (madeCells zW.toArray (n * 194)) 119)).alloc (.cells (Value.slice (some ⟨w.heap.size, 0, none⟩) n n :: zsrc).toArray 122)) := Rel.below_alloc2 _ _ _
  generalize (w.alloc (.cells (madeCells zW.toArray (n * 194)) 119)).heap.size = g at hgs hg2 ⊢
  generalize (w.alloc (.cells (madeCells zW.toArray (n * 194)) 119)).alloc (.cells (Value.slice (some ⟨w.heap.size, 0, none⟩) n n :: zsrc).toArray 122) = w2 at hg2 hg3 B2 ⊢
  have H2 : GicAt g n (PN 0) ⟨w.heap.size, fun _ => .slice none 0 0⟩ w2 := ⟨h1, h8, ⟨_, hg2, top64 _ _ _ fun k hk => rfl⟩, ⟨_, hg3, made_cor n⟩, fun c hc => ⟨rfl, .inl ⟨rfl, rfl⟩⟩, fun c d b _ _ h => (by cases h), fun c hc => (show (0 : Nat) < 1000000 by decide)⟩
  clear hg1 hg2 hg3
  have hF : ∀ k, GFoot g n ⟨w.heap.size, fun _ => .slice none 0 0⟩ k → w.heap.size ≤ k := by
    rintro k (rfl | rfl | ⟨c, _, h⟩)
    · omega
    · exact Nat.le_refl _
    · cases h
  generalize hL : (⟨w.heap.size, fun _ => .slice none 0 0⟩ : GLay) = L at H2 hF
  have ecb : L.cb = w.heap.size := by rw [← hL]
  rw [← ecb]
  generalize (Value.slice (some ⟨L.cb, 0, none⟩) n n :: zsrc).toArray = junk
  replace ecb := show Hid _ from ecb
  clear hL
  have c0 := H2.c0
  go_wp2
  clear c0
  go_loopw [21] (fun s21 wr => ∃ i : Nat, i ≤ n ∧ s21 = .int .i64 i ∧ Hid (GicAt g n (PN i) L wr ∧ Below w.heap.size w wr)) (fun s21 _ => n - (intOf s21).toNat)
  case atStart => exact ⟨0, Nat.zero_le _, rfl, H2, B2⟩
  case round =>
    clear H2 B2
    obtain ⟨i, hi, rfl, hH⟩ := hrel
    obtain ⟨H1, B1⟩ := hH.out
    clear hH
    have c0 := H1.c0
    by_cases hlt : (i : Int) < n
    · have hin : i < n := by omega
      have z := H1.cLim hin
      have fz := H1.frz (.inr rfl) (i * 194)
      obtain ⟨H3, G3⟩ := H1.limSet hin 255
      go_upto_region 8 with fail
      generalize World.setCell _ _ _ = w3 at H3 G3 ⊢
      clear z fz c0
      have c0 := H3.c0
      obtain ⟨C, hC, tC⟩ := H3.cor
      have hcalm := calm_c (o := i * 194 + 1) hC (by rw [tC.size]; omega)
      go_upto_region 9 with (first | (go_at_call 71; refine hcalm.mono ?_; rintro e w4 ⟨rfl, hK⟩; dsimp only))
      have H4 := H3.calmOwn hin hC hK
      rw [pn_next] at H4
      have B4 : Below w.heap.size w w4 := (B1.trans (G3.below B1.size hF)).trans (hK.go.below (Nat.le_trans B1.size G3.size) fun k hk => by rw [hk, ecb.out]; exact Nat.le_refl _)
      clear hcalm hK c0 G3
      go_wp2
      go_roundw
      case rel => exact ⟨i + 1, by omega, by go_num, H4, B4⟩
      case measure => simp [intOf]; omega
    · obtain rfl : i = n := by omega
      obtain ⟨C, hC, tC⟩ := H1.top
      have hcalm := calm_c (o := 1) hC (by rw [tC.size]; decide)
      go_wp2_with (first | (go_at_call 71; refine hcalm.mono ?_; rintro e w4 ⟨rfl, hK⟩; dsimp only))
      go_ret2
      have H4 := H1.calmTop hC hK
      have hg : w.heap.size ≤ g := hF g (.inl rfl)
      refine ⟨g, rfl, ⟨L, H4.congr (fun r k hr => ?_) (fun c hc => ?_) (fun c hc => rfl), hF⟩, B1.trans (hK.go.below B1.size fun k hk => by rw [hk]; exact hg), hg⟩
      · simp only [newP, Pg.calmed, PN]
        by_cases e : r = i
        · rw [if_pos e]; subst e; simp [s160, nilS]
        · rw [if_neg e, if_pos (by omega)]
      · simp only [newP, Pg.calmed, PN, if_pos hc]
end Go.Proofs.YteklkololojamaaGreat
