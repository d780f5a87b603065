/- The law's looks: what both controllers tell. -/
import Derived.Test.YtpmlehfnlodmbaaVd
import Derived.Test.YtpmlehfnlodmbaaRelG

namespace Go.Proofs.Ytpmlehfnlodmbaa
open Go.RowKit
set_option linter.unusedVariables false
set_option linter.unusedSimpArgs false
set_option maxRecDepth 8000

theorem wpList_st75 {ops : Array Oper} {rest : List Oper} {o : Oper} {a : Act} {w : World} {Q : Exit → Act → World → Prop} (hgd : o.guard = none) (x y : Operand) (ho : o.op = .store 75 x y) (b : Nat) (hx : a.eval x = ptr b 0) (s s0 : Doc.In8) (hy : a.eval y = .agg s.row.toArray) (hg : w.heap[b]? = some (.cells s0.row.toArray 75))
    (h : wpList Try.prog ops Q rest (a.put o.dst undef) (w.setRow b s.row.toArray)) : wpList Try.prog ops Q (o :: rest) a w :=
  wpList_store_row hgd 75 x y ho b s.row.toArray hx hy 75 _ hg (by kernel_rfl) rfl (by simp [Value.oneCell', Doc.In8.row]) h
theorem wpList_ld75 {ops : Array Oper} {rest : List Oper} {o : Oper} {a : Act} {w : World} {Q : Exit → Act → World → Prop} (hgd : o.guard = none) (x : Operand) (ho : o.op = .load 75 x) (b k : Nat) (hx : a.eval x = ptr b (k * 8)) (s : Doc.In8) (hg : ∀ j, j < 8 → w.cell? ⟨b, k * 8 + j, none⟩ = s.row[j]?)
    (h : wpList Try.prog ops Q rest (a.put o.dst (.agg s.row.toArray)) w) : wpList Try.prog ops Q (o :: rest) a w :=
  wpList_load_mid hgd 75 x ho b (k * 8) hx s.row _ (fun j y hy => by
    have hj : j < 8 := (List.getElem?_eq_some_iff.1 hy).1
    rw [hg j hj]; exact hy) Try.underlying75 rfl (by kernel_rfl) h
abbrev In0 : Doc.In8 := ⟨false, false, false, false, 0, 0, 0, 0⟩
theorem row_75 {w : World} {d : Nat} {x : Doc.In8} (h : w.heap[d]? = some (.cells x.row.toArray 75)) : w.cell? ⟨d, 0, none⟩ = some (.bool x.e) ∧ w.cell? ⟨d, 1, none⟩ = some (.bool x.l) ∧ w.cell? ⟨d, 2, none⟩ = some (.bool x.h) ∧ w.cell? ⟨d, 3, none⟩ = some (.bool x.a) ∧ w.cell? ⟨d, 4, none⟩ = some (vI x.rank) := by
  refine ⟨?_, ?_, ?_, ?_, ?_⟩ <;> rw [cell_of_row _ _ _ _ _ _ h] <;> rfl
section
variable {B : Nat} {w0 : World} {g h n : Nat} {P Q : Pg} {X Y : Doc.Ref} {L : GLay} {M : Doc.RLay} {wb : Nat} {w w' : World}
theorem best_both (H : Lk n P X) (c : Int) : ∃ (bi : Int) (bs : Bool), (∀ w, Doc.RefAt h n X M w → Calls Try.prog 42 #[ptr h 0, vI c] w fun e w' => e = .returned (.tuple #[vI bi, .bool bs]) ∧ Below w.heap.size w w') ∧ (∀ w, GicAt g n P L w → Calls Try.prog 23 #[ptr g 0, vI c] w fun e w' => e = .returned (.tuple #[vI bi, .bool bs]) ∧ Below w.heap.size w w') := by
  refine ⟨(nextT n P c).id, (nextV n P c).isSome, fun w h1 => (Doc.best_c h1 c).mono ?_, fun w h1 => gbest_c h1 c⟩
  rintro e w' ⟨rfl, A⟩
  refine ⟨?_, A.below⟩
  have hb := H.bestV c
  cases hx : nextV n P c with
  | none =>
    rw [hx] at hb
    rw [hb, if_pos (by decide), nextT, hx]
    rfl
  | some t =>
    rw [hx] at hb
    have := next_id hx
    rw [hb, if_neg (by dsimp only; omega), nextT, hx]
    rfl
theorem look_off (c id : Int) (h : Doc.rbadB n c id = true) : lookV n P c id = nilS := by
  rw [bad_eq] at h
  rw [lookV, h, if_pos rfl]
theorem off_zero (H : Lk n P X) {c : Int} (h : Doc.rbadB n c 0 = true) : runC n P c = 0 ∧ limV n P c = 0 := by
  have : hasB n c = false := by
    rw [bad_eq] at h
    unfold badB at h
    cases hh : hasB n c with
    | false => rfl
    | true => rw [hh] at h; cases h
  rw [runC, limV, this]
  exact ⟨rfl, rfl⟩
theorem off_more {c id : Int} (h : Doc.rbadB n c 0 = true) : Doc.rbadB n c id = true := by
  simp only [Doc.rbadB, Bool.or_eq_true, decide_eq_true_eq] at h ⊢
  omega
/-- What is told of an interrupt. -/
structure Told (n : Nat) (P : Pg) (c id : Int) (x : Doc.In8) : Prop where
  e : (lookV n P c id).e = x.e
  p : ((lookV n P c id).l || (lookV n P c id).h) = (x.l || x.h)
  a : (lookV n P c id).a = x.a
  r : (lookV n P c id).rank = x.rank
theorem told_off {c id : Int} (h : Doc.rbadB n c id = true) : Told n P c id In0 := by
  constructor <;> rw [look_off c id h] <;> rfl
theorem told_on (H : Lk n P X) {c id : Int} (h : Doc.rbadB n c id = false) : Told n P c id (X.of n c id) := by
  obtain ⟨h1, h2, h3, h4⟩ := Doc.rbad_of h
  obtain ⟨k, rfl⟩ : ∃ k : Nat, c = (k : Int) := ⟨c.toNat, by omega⟩
  obtain ⟨i, rfl⟩ : ∃ i : Nat, id = (i : Int) := ⟨id.toNat, by omega⟩
  have S := H.of (c := k) (i := i) (by omega) (by omega)
  exact ⟨S.e, by rw [S.l, S.h], S.a, S.rank⟩
theorem goes_both (H : Lk n P X) (hn : 1 ≤ n) {id : Int} (h1 : 32 ≤ id) (h2 : id < 64) : (lookV n P 0 id).goes = (X.get n (id - 32).toNat).core := by
  obtain ⟨i, rfl⟩ : ∃ i : Nat, id = (i : Int) := ⟨id.toNat, by omega⟩
  have := H.goes (c := 0) (i := i) (by omega) h1 (by omega)
  rw [Doc.Ref.of, Doc.posR, Doc.posK, if_pos h1, if_pos h1] at this
  exact this
theorem goes_none (H : Lk n P X) (hn : 1 ≤ n) {id : Int} (h : ¬ (32 ≤ id ∧ id < 64)) : (lookV n P 0 id).goes = 0 := by
  cases hb : Doc.rbadB n 0 id with
  | true => rw [look_off 0 id hb]; rfl
  | false =>
    obtain ⟨h1, h2, h3, h4⟩ := Doc.rbad_of hb
    rw [bad_eq] at hb
    rw [lookV, hb, if_neg (by decide), pr, pk, if_neg (by omega), if_neg (by omega)]
    exact H.goO _ _ (by simp; omega) (by omega)
/-- Both controllers, and the law's own interrupt. -/
def PVn (B : Nat) (w0 : World) (g h n : Nat) (P : Pg) (X : Doc.Ref) (L : GLay) (M : Doc.RLay) (wb d : Nat) (x : Doc.In8) (w : World) : Prop := PW B w0 g h n P X L M wb w ∧ w.heap[d]? = some (.cells x.row.toArray 75)
theorem PVn.grow {d : Nat} {x : Doc.In8} (H : PVn B w0 g h n P X L M wb d x w) (hb : Below w.heap.size w w') : PVn B w0 g h n P X L M wb d x w' := ⟨H.1.grow hb, by rw [hb.block d (lt_of_some H.2)]; exact H.2⟩
set_option maxHeartbeats 8000000 in
theorem looks_c (H : PW B w0 g h n P X L M wb w) (hn1 : 1 ≤ n) (hn : n ≤ 8) (id : Int) (hid : I64 id) : Calls Try.prog 13 #[ptr wb 0, vI id] w fun e w' => e = .returned (.bool true) ∧ PW B w0 g h n P X L M wb w' := by
  have lk := H.lk
  go_enter Try.func13, Try.ntmps13
  go_wp2
  go_loopw [5] (fun s5 wr => ∃ c : Int, -1 ≤ c ∧ c ≤ n + 1 ∧ s5 = .int .i64 c ∧ Hid (PW B w0 g h n P X L M wb wr)) (fun s5 _ => ((n : Int) + 1 - intOf s5).toNat)
  case atStart => exact ⟨-1, by omega, by omega, rfl, H⟩
  case round =>
    clear H
    obtain ⟨c, hc0, hc1, rfl, hH⟩ := hrel
    have H := hH.out
    clear hH
    have z0 := H.c0
    have z1 := H.c1
    have zn := H.ref.c0
    by_cases hle : c ≤ (n : Int)
    · obtain ⟨bi, bs, q42, q23⟩ := best_both (h := h) (g := g) (M := M) (L := L) lk c
      have q41 := Doc.rbad_c H.ref c 0
      obtain ⟨R, hR⟩ : ∃ R, runC n P c = R := ⟨_, rfl⟩
      obtain ⟨Li, hLi⟩ : ∃ R, limV n P c = R := ⟨_, rfl⟩
      have q17 : ∀ w1, PW B w0 g h n P X L M wb w1 → Calls Try.prog 17 #[ptr g 0, vI c] w1 fun e w2 => e = .returned (vI R) ∧ Below w1.heap.size w1 w2 := fun w1 h1 => by rw [← hR]; exact grun_c h1.kw.at_ c
      have q16 : ∀ w1, PW B w0 g h n P X L M wb w1 → Calls Try.prog 16 #[ptr g 0, vI c] w1 fun e w2 => e = .returned (vI Li) ∧ Below w1.heap.size w1 w2 := fun w1 h1 => by rw [← hLi]; exact limit_c h1.kw.at_ c
      cases hb0 : Doc.rbadB n c 0 with
      | true =>
        obtain ⟨e1, e2⟩ := off_zero lk hb0
        rw [e1] at hR
        rw [e2] at hLi
        subst hR
        subst hLi
        have hoff := off_more (id := id) hb0
        rw [hb0] at q41
        go_upto_region 5 with (go_at_call 41; refine q41.mono ?_; rintro e w' ⟨rfl, rfl⟩; dsimp only)
        clear q41 zn
        go_upto_region 7 with (first | (go_at_call 42; refine (q42 _ H.ref).mono ?_; rintro e w1 ⟨rfl, hb⟩; dsimp only; replace H := H.grow hb; replace z0 := H.c0; replace z1 := H.c1; clear hb) | (go_at_call 23; refine (q23 _ H.kw.at_).mono ?_; rintro e w2 ⟨rfl, hb⟩; dsimp only; replace H := H.grow hb; replace z0 := H.c0; replace z1 := H.c1; clear hb))
        clear q42 q23
        go_upto_region 16 with (first | (go_at_call 17; refine (q17 _ H).mono ?_; rintro e wy ⟨rfl, hb⟩; dsimp only; replace H := H.grow hb; replace z0 := H.c0; replace z1 := H.c1; clear hb) | (go_at_call 16; refine (q16 _ H).mono ?_; rintro e wx ⟨rfl, hb⟩; dsimp only; replace H := H.grow hb; replace z0 := H.c0; replace z1 := H.c1; clear hb))
        clear q17 q16
        have q41 := Doc.rbad_c H.ref c id
        rw [hoff] at q41
        go_upto_region 17 with (go_at_call 41; refine q41.mono ?_; rintro e wx ⟨rfl, rfl⟩; dsimp only)
        clear q41
        go_upto_region 18 with (refine wpList_st75 rfl _ _ rfl wx.heap.size rfl In0 In0 rfl (heap_alloc_new _ _) ?_; simp only [Act.put])
        generalize hw6 : World.setRow _ _ _ = w6
        have B6 : Below wx.heap.size wx w6 := by rw [← hw6]; exact below_setRow (below_alloc _ _) (Nat.le_refl _)
        have hb6 : w6.heap[wx.heap.size]? = some (.cells In0.row.toArray 75) := by rw [← hw6]; exact setRow_heap _ _ _ _ _ _ (heap_alloc_new _ _)
        clear hw6 z0 z1
        have hN : PVn B w0 g h n P X L M wb wx.heap.size In0 w6 := ⟨H.grow B6, hb6⟩
        have T : Told n P c id In0 := told_off hoff
        clear B6 hb6 H
        generalize wx.heap.size = d at hN ⊢
        generalize In0 = x at hN T ⊢
        go_upto_region 20 with fail
        obtain ⟨y0, y1, y2, y3, y4⟩ := row_75 hN.2
        have q45 := Doc.pend_c (o := 0) y1 y2
        obtain ⟨xe, xe_⟩ : ∃ b, x.e = b := ⟨_, rfl⟩
        obtain ⟨xa, xa_⟩ : ∃ b, x.a = b := ⟨_, rfl⟩
        obtain ⟨xr, xr_⟩ : ∃ b, x.rank = b := ⟨_, rfl⟩
        obtain ⟨pb, pb_⟩ : ∃ b, (x.l || x.h) = b := ⟨_, rfl⟩
        rw [pb_] at q45
        have q19 : ∀ w1, PVn B w0 g h n P X L M wb d x w1 → Calls Try.prog 19 #[ptr g 0, vI c, vI id] w1 fun e w2 => e = .returned (.bool xe) ∧ Below w1.heap.size w1 w2 := fun w1 h1 => by rw [← xe_, ← T.e]; exact enabled_c h1.1.kw.at_ c id
        have q20 : ∀ w1, PVn B w0 g h n P X L M wb d x w1 → Calls Try.prog 20 #[ptr g 0, vI c, vI id] w1 fun e w2 => e = .returned (.bool pb) ∧ Below w1.heap.size w1 w2 := fun w1 h1 => by rw [← pb_, ← T.p]; exact pending_c h1.1.kw.at_ c id
        have q21 : ∀ w1, PVn B w0 g h n P X L M wb d x w1 → Calls Try.prog 21 #[ptr g 0, vI c, vI id] w1 fun e w2 => e = .returned (.bool xa) ∧ Below w1.heap.size w1 w2 := fun w1 h1 => by rw [← xa_, ← T.a]; exact active_c h1.1.kw.at_ c id
        have q18 : ∀ w1, PVn B w0 g h n P X L M wb d x w1 → Calls Try.prog 18 #[ptr g 0, vI c, vI id] w1 fun e w2 => e = .returned (vI xr) ∧ Below w1.heap.size w1 w2 := fun w1 h1 => by rw [← xr_, ← T.r]; exact rate_c h1.1.kw.at_ c id
        clear y0 y1 y2 y3 y4
        go_upto_region 21 with (go_at_call 45; refine q45.mono ?_; rintro e w' ⟨rfl, rfl⟩; dsimp only)
        clear q45
        refine RelG.wp_region_rel RelG.Grows (PVn B w0 g h n P X L M wb d x) [.inl (ptr wb 0), .inl (ptr wb 0), .inl (ptr wb 0), .inl (ptr g 0), .inl (vI c), .inl (vI id), .inl (.bool xe), .inl (ptr d 0), .inl (.bool xe), .inl (.bool false), .inl (.bool false), .inl (ptr wb 0), .inl (ptr wb 0), .inl (ptr wb 0), .inl (ptr g 0), .inl (vI c), .inl (vI id), .inl (.bool pb), .inl (.bool pb), .inl (.bool false), .inl (.bool false), .inl (.bool false), .inl (ptr wb 0), .inl (ptr wb 0), .inl (ptr wb 0), .inl (ptr g 0), .inl (vI c), .inl (vI id), .inl (.bool xa), .inl (ptr d 3), .inl (.bool xa), .inl (.bool false), .inl (.bool false), .inl (.bool false), .inl (ptr wb 0), .inl (ptr wb 0), .inl (ptr wb 0), .inl (ptr g 0), .inl (vI c), .inl (vI id), .inl (vI xr), .inl (ptr d 4), .inl (vI xr), .inl (.bool false), .inl (.bool false)] (by kernel_rfl) (by kernel_rfl) RelG.grows_refl (fun _ _ h hb => h.grow hb) (hN.grow ⟨rfl, rfl, rfl, Nat.le_refl _, fun _ _ => rfl⟩) (by simp [RelG.upK]) ?_
        (refine ⟨fun w3 hC _ => RelG.uponG_yes rfl ((by go_simp; first | exact RelG.grows_refl _ | exact ⟨RelG.grows_refl _, rfl⟩)), ?_⟩; simp only [Act.put, List.setIfInBounds_toArray, List.set_cons_succ, List.set_cons_zero])
        (refine ⟨fun w3 hC _ => RelG.uponG_yes rfl ((by go_simp; first | exact RelG.grows_refl _ | exact ⟨RelG.grows_refl _, rfl⟩)), ?_⟩; simp only [Act.put, List.setIfInBounds_toArray, List.set_cons_succ, List.set_cons_zero])
        (refine ⟨fun w3 hC _ => RelG.uponG_yes rfl ((by go_simp; first | exact RelG.grows_refl _ | exact ⟨RelG.grows_refl _, rfl⟩)), ?_⟩; simp only [Act.put, List.setIfInBounds_toArray, List.set_cons_succ, List.set_cons_zero])
        (refine ⟨fun w3 hC _ => RelG.uponG_yes rfl ((by have z := hC.1.c0; go_simp; first | exact RelG.grows_refl _ | exact ⟨RelG.grows_refl _, rfl⟩)), ?_⟩; simp only [Act.put, List.setIfInBounds_toArray, List.set_cons_succ, List.set_cons_zero])
        (refine ⟨fun w3 hC _ => RelG.uponG_yes rfl ((by go_simp; first | exact RelG.grows_refl _ | exact ⟨RelG.grows_refl _, rfl⟩)), ?_⟩; simp only [Act.put, List.setIfInBounds_toArray, List.set_cons_succ, List.set_cons_zero])
        (refine ⟨fun w3 hC _ => RelG.uponG_yes rfl ((by go_simp; first | exact RelG.grows_refl _ | exact ⟨RelG.grows_refl _, rfl⟩)), ?_⟩; simp only [Act.put, List.setIfInBounds_toArray, List.set_cons_succ, List.set_cons_zero])
        (refine ⟨fun w3 hC _ => RelG.uponG_yes rfl ((by go_simp; refine (q19 w3 hC).mono ?_; rintro e w4 ⟨rfl, hb⟩; exact ⟨rfl, hb⟩)), ?_⟩; simp only [Act.put, List.setIfInBounds_toArray, List.set_cons_succ, List.set_cons_zero])
        (refine ⟨fun w3 hC _ => RelG.uponG_yes rfl ((by go_simp; first | exact RelG.grows_refl _ | exact ⟨RelG.grows_refl _, rfl⟩)), ?_⟩; simp only [Act.put, List.setIfInBounds_toArray, List.set_cons_succ, List.set_cons_zero])
        (refine ⟨fun w3 hC _ => RelG.uponG_yes rfl ((by obtain ⟨y0, y1, y2, y3, y4⟩ := row_75 hC.2; rw [xe_] at y0; rw [xa_] at y3; rw [xr_] at y4; go_simp; first | exact RelG.grows_refl _ | exact ⟨RelG.grows_refl _, rfl⟩)), ?_⟩; simp only [Act.put, List.setIfInBounds_toArray, List.set_cons_succ, List.set_cons_zero])
        (refine ⟨fun w3 hC _ => RelG.uponG_yes rfl ((by go_simp; first | exact RelG.grows_refl _ | exact ⟨RelG.grows_refl _, rfl⟩)), ?_⟩; simp only [Act.put, List.setIfInBounds_toArray, List.set_cons_succ, List.set_cons_zero])
        (refine ⟨fun w3 hC _ => RelG.uponG_yes rfl ((by go_simp; first | exact RelG.grows_refl _ | exact ⟨RelG.grows_refl _, rfl⟩)), ?_⟩; simp only [Act.put, List.setIfInBounds_toArray, List.set_cons_succ, List.set_cons_zero])
        (refine ⟨fun w3 hC _ => RelG.uponG_yes rfl ((by go_simp; first | exact RelG.grows_refl _ | exact ⟨RelG.grows_refl _, rfl⟩)), ?_⟩; simp only [Act.put, List.setIfInBounds_toArray, List.set_cons_succ, List.set_cons_zero])
        (refine ⟨fun w3 hC _ => RelG.uponG_yes rfl ((by go_simp; first | exact RelG.grows_refl _ | exact ⟨RelG.grows_refl _, rfl⟩)), ?_⟩; simp only [Act.put, List.setIfInBounds_toArray, List.set_cons_succ, List.set_cons_zero])
        (refine ⟨fun w3 hC _ => RelG.uponG_yes rfl ((by go_simp; first | exact RelG.grows_refl _ | exact ⟨RelG.grows_refl _, rfl⟩)), ?_⟩; simp only [Act.put, List.setIfInBounds_toArray, List.set_cons_succ, List.set_cons_zero])
        (refine ⟨fun w3 hC _ => RelG.uponG_yes rfl ((by have z := hC.1.c0; go_simp; first | exact RelG.grows_refl _ | exact ⟨RelG.grows_refl _, rfl⟩)), ?_⟩; simp only [Act.put, List.setIfInBounds_toArray, List.set_cons_succ, List.set_cons_zero])
        (refine ⟨fun w3 hC _ => RelG.uponG_yes rfl ((by go_simp; first | exact RelG.grows_refl _ | exact ⟨RelG.grows_refl _, rfl⟩)), ?_⟩; simp only [Act.put, List.setIfInBounds_toArray, List.set_cons_succ, List.set_cons_zero])
        (refine ⟨fun w3 hC _ => RelG.uponG_yes rfl ((by go_simp; first | exact RelG.grows_refl _ | exact ⟨RelG.grows_refl _, rfl⟩)), ?_⟩; simp only [Act.put, List.setIfInBounds_toArray, List.set_cons_succ, List.set_cons_zero])
        (refine ⟨fun w3 hC _ => RelG.uponG_yes rfl ((by go_simp; refine (q20 w3 hC).mono ?_; rintro e w4 ⟨rfl, hb⟩; exact ⟨rfl, hb⟩)), ?_⟩; simp only [Act.put, List.setIfInBounds_toArray, List.set_cons_succ, List.set_cons_zero])
        (refine ⟨fun w3 hC _ => RelG.uponG_yes rfl ((by go_simp; first | exact RelG.grows_refl _ | exact ⟨RelG.grows_refl _, rfl⟩)), ?_⟩; simp only [Act.put, List.setIfInBounds_toArray, List.set_cons_succ, List.set_cons_zero])
        (refine ⟨fun w3 hC _ => RelG.uponG_yes rfl ((by go_simp; first | exact RelG.grows_refl _ | exact ⟨RelG.grows_refl _, rfl⟩)), ?_⟩; simp only [Act.put, List.setIfInBounds_toArray, List.set_cons_succ, List.set_cons_zero])
        (refine ⟨fun w3 hC _ => RelG.uponG_yes rfl ((by go_simp; first | exact RelG.grows_refl _ | exact ⟨RelG.grows_refl _, rfl⟩)), ?_⟩; simp only [Act.put, List.setIfInBounds_toArray, List.set_cons_succ, List.set_cons_zero])
        (refine ⟨fun w3 hC _ => RelG.uponG_yes rfl ((by go_simp; first | exact RelG.grows_refl _ | exact ⟨RelG.grows_refl _, rfl⟩)), ?_⟩; simp only [Act.put, List.setIfInBounds_toArray, List.set_cons_succ, List.set_cons_zero])
        (refine ⟨fun w3 hC _ => RelG.uponG_yes rfl ((by go_simp; first | exact RelG.grows_refl _ | exact ⟨RelG.grows_refl _, rfl⟩)), ?_⟩; simp only [Act.put, List.setIfInBounds_toArray, List.set_cons_succ, List.set_cons_zero])
        (refine ⟨fun w3 hC _ => RelG.uponG_yes rfl ((by go_simp; first | exact RelG.grows_refl _ | exact ⟨RelG.grows_refl _, rfl⟩)), ?_⟩; simp only [Act.put, List.setIfInBounds_toArray, List.set_cons_succ, List.set_cons_zero])
        (refine ⟨fun w3 hC _ => RelG.uponG_yes rfl ((by go_simp; first | exact RelG.grows_refl _ | exact ⟨RelG.grows_refl _, rfl⟩)), ?_⟩; simp only [Act.put, List.setIfInBounds_toArray, List.set_cons_succ, List.set_cons_zero])
        (refine ⟨fun w3 hC _ => RelG.uponG_yes rfl ((by have z := hC.1.c0; go_simp; first | exact RelG.grows_refl _ | exact ⟨RelG.grows_refl _, rfl⟩)), ?_⟩; simp only [Act.put, List.setIfInBounds_toArray, List.set_cons_succ, List.set_cons_zero])
        (refine ⟨fun w3 hC _ => RelG.uponG_yes rfl ((by go_simp; first | exact RelG.grows_refl _ | exact ⟨RelG.grows_refl _, rfl⟩)), ?_⟩; simp only [Act.put, List.setIfInBounds_toArray, List.set_cons_succ, List.set_cons_zero])
        (refine ⟨fun w3 hC _ => RelG.uponG_yes rfl ((by go_simp; first | exact RelG.grows_refl _ | exact ⟨RelG.grows_refl _, rfl⟩)), ?_⟩; simp only [Act.put, List.setIfInBounds_toArray, List.set_cons_succ, List.set_cons_zero])
        (refine ⟨fun w3 hC _ => RelG.uponG_yes rfl ((by go_simp; refine (q21 w3 hC).mono ?_; rintro e w4 ⟨rfl, hb⟩; exact ⟨rfl, hb⟩)), ?_⟩; simp only [Act.put, List.setIfInBounds_toArray, List.set_cons_succ, List.set_cons_zero])
        (refine ⟨fun w3 hC _ => RelG.uponG_yes rfl ((by go_simp; first | exact RelG.grows_refl _ | exact ⟨RelG.grows_refl _, rfl⟩)), ?_⟩; simp only [Act.put, List.setIfInBounds_toArray, List.set_cons_succ, List.set_cons_zero])
        (refine ⟨fun w3 hC _ => RelG.uponG_yes rfl ((by obtain ⟨y0, y1, y2, y3, y4⟩ := row_75 hC.2; rw [xe_] at y0; rw [xa_] at y3; rw [xr_] at y4; go_simp; first | exact RelG.grows_refl _ | exact ⟨RelG.grows_refl _, rfl⟩)), ?_⟩; simp only [Act.put, List.setIfInBounds_toArray, List.set_cons_succ, List.set_cons_zero])
        (refine ⟨fun w3 hC _ => RelG.uponG_yes rfl ((by go_simp; first | exact RelG.grows_refl _ | exact ⟨RelG.grows_refl _, rfl⟩)), ?_⟩; simp only [Act.put, List.setIfInBounds_toArray, List.set_cons_succ, List.set_cons_zero])
        (refine ⟨fun w3 hC _ => RelG.uponG_yes rfl ((by go_simp; first | exact RelG.grows_refl _ | exact ⟨RelG.grows_refl _, rfl⟩)), ?_⟩; simp only [Act.put, List.setIfInBounds_toArray, List.set_cons_succ, List.set_cons_zero])
        (refine ⟨fun w3 hC _ => RelG.uponG_yes rfl ((by go_simp; first | exact RelG.grows_refl _ | exact ⟨RelG.grows_refl _, rfl⟩)), ?_⟩; simp only [Act.put, List.setIfInBounds_toArray, List.set_cons_succ, List.set_cons_zero])
        (refine ⟨fun w3 hC _ => RelG.uponG_yes rfl ((by go_simp; first | exact RelG.grows_refl _ | exact ⟨RelG.grows_refl _, rfl⟩)), ?_⟩; simp only [Act.put, List.setIfInBounds_toArray, List.set_cons_succ, List.set_cons_zero])
        (refine ⟨fun w3 hC _ => RelG.uponG_yes rfl ((by go_simp; first | exact RelG.grows_refl _ | exact ⟨RelG.grows_refl _, rfl⟩)), ?_⟩; simp only [Act.put, List.setIfInBounds_toArray, List.set_cons_succ, List.set_cons_zero])
        (refine ⟨fun w3 hC _ => RelG.uponG_yes rfl ((by go_simp; first | exact RelG.grows_refl _ | exact ⟨RelG.grows_refl _, rfl⟩)), ?_⟩; simp only [Act.put, List.setIfInBounds_toArray, List.set_cons_succ, List.set_cons_zero])
        (refine ⟨fun w3 hC _ => RelG.uponG_yes rfl ((by have z := hC.1.c0; go_simp; first | exact RelG.grows_refl _ | exact ⟨RelG.grows_refl _, rfl⟩)), ?_⟩; simp only [Act.put, List.setIfInBounds_toArray, List.set_cons_succ, List.set_cons_zero])
        (refine ⟨fun w3 hC _ => RelG.uponG_yes rfl ((by go_simp; first | exact RelG.grows_refl _ | exact ⟨RelG.grows_refl _, rfl⟩)), ?_⟩; simp only [Act.put, List.setIfInBounds_toArray, List.set_cons_succ, List.set_cons_zero])
        (refine ⟨fun w3 hC _ => RelG.uponG_yes rfl ((by go_simp; first | exact RelG.grows_refl _ | exact ⟨RelG.grows_refl _, rfl⟩)), ?_⟩; simp only [Act.put, List.setIfInBounds_toArray, List.set_cons_succ, List.set_cons_zero])
        (refine ⟨fun w3 hC _ => RelG.uponG_yes rfl ((by go_simp; refine (q18 w3 hC).mono ?_; rintro e w4 ⟨rfl, hb⟩; exact ⟨rfl, hb⟩)), ?_⟩; simp only [Act.put, List.setIfInBounds_toArray, List.set_cons_succ, List.set_cons_zero])
        (refine ⟨fun w3 hC _ => RelG.uponG_yes rfl ((by go_simp; first | exact RelG.grows_refl _ | exact ⟨RelG.grows_refl _, rfl⟩)), ?_⟩; simp only [Act.put, List.setIfInBounds_toArray, List.set_cons_succ, List.set_cons_zero])
        (refine ⟨fun w3 hC _ => RelG.uponG_yes rfl ((by obtain ⟨y0, y1, y2, y3, y4⟩ := row_75 hC.2; rw [xe_] at y0; rw [xa_] at y3; rw [xr_] at y4; go_simp; first | exact RelG.grows_refl _ | exact ⟨RelG.grows_refl _, rfl⟩)), ?_⟩; simp only [Act.put, List.setIfInBounds_toArray, List.set_cons_succ, List.set_cons_zero])
        (refine ⟨fun w3 hC _ => RelG.uponG_yes rfl ((by go_simp; first | exact RelG.grows_refl _ | exact ⟨RelG.grows_refl _, rfl⟩)), ?_⟩; simp only [Act.put, List.setIfInBounds_toArray, List.set_cons_succ, List.set_cons_zero])
        (refine ⟨fun w3 hC _ => RelG.uponG_yes rfl ((by go_simp; first | exact RelG.grows_refl _ | exact ⟨RelG.grows_refl _, rfl⟩)), ?_⟩; simp only [Act.put, List.setIfInBounds_toArray, List.set_cons_succ, List.set_cons_zero])
        clear hN
        intro w9 hN _
        go_wp2
        go_roundw
        case rel => exact ⟨c + 1, by omega, by omega, by go_num, hN.1⟩
        case measure => simp [intOf]; omega
      | false =>
        obtain ⟨g1, g2, _, _⟩ := Doc.rbad_of hb0
        rw [hb0] at q41
        go_upto_region 5 with (go_at_call 41; refine q41.mono ?_; rintro e w' ⟨rfl, rfl⟩; dsimp only)
        clear q41 zn
        go_upto_region 7 with (first | (go_at_call 42; refine (q42 _ H.ref).mono ?_; rintro e w1 ⟨rfl, hb⟩; dsimp only; replace H := H.grow hb; replace z0 := H.c0; replace z1 := H.c1; clear hb) | (go_at_call 23; refine (q23 _ H.kw.at_).mono ?_; rintro e w2 ⟨rfl, hb⟩; dsimp only; replace H := H.grow hb; replace z0 := H.c0; replace z1 := H.c1; clear hb))
        clear q42 q23
        obtain ⟨k, rfl⟩ : ∃ k : Nat, c = (k : Int) := ⟨c.toNat, by omega⟩
        obtain ⟨lb, lcap, v0, el, hv0, zl, _, _⟩ := H.ref.limAt (c := k) (by omega)
        have zc := H.ref.c3
        rw [el] at zc
        have ev : v0 = Li := by
          rw [← hLi, lim_nat (by omega), ← lk.lim k (by omega), Doc.limOf, Int.toNat_natCast, hv0]
          rfl
        subst ev
        have q43 := Doc.run_c H.ref k g1 g2
        have eR : Doc.runF X n k 64 = R := by rw [← hR, run_nat (by omega)]; exact lk.run (by omega)
        rw [eR] at q43
        clear hR hLi eR hv0 el
        go_upto_region 14 with (go_at_call 43; refine q43.mono ?_; rintro e w' ⟨rfl, rfl⟩; dsimp only)
        clear q43 zl zc
        cases hoff : Doc.rbadB n (k : Int) id with
        | true =>
          go_upto_region 16 with (first | (go_at_call 17; refine (q17 _ H).mono ?_; rintro e wy ⟨rfl, hb⟩; dsimp only; replace H := H.grow hb; replace z0 := H.c0; replace z1 := H.c1; clear hb) | (go_at_call 16; refine (q16 _ H).mono ?_; rintro e wx ⟨rfl, hb⟩; dsimp only; replace H := H.grow hb; replace z0 := H.c0; replace z1 := H.c1; clear hb))
          clear q17 q16
          have q41 := Doc.rbad_c H.ref (k : Int) id
          rw [hoff] at q41
          go_upto_region 17 with (go_at_call 41; refine q41.mono ?_; rintro e wx ⟨rfl, rfl⟩; dsimp only)
          clear q41
          go_upto_region 18 with (refine wpList_st75 rfl _ _ rfl wx.heap.size rfl In0 In0 rfl (heap_alloc_new _ _) ?_; simp only [Act.put])
          generalize hw6 : World.setRow _ _ _ = w6
          have B6 : Below wx.heap.size wx w6 := by rw [← hw6]; exact below_setRow (below_alloc _ _) (Nat.le_refl _)
          have hb6 : w6.heap[wx.heap.size]? = some (.cells In0.row.toArray 75) := by rw [← hw6]; exact setRow_heap _ _ _ _ _ _ (heap_alloc_new _ _)
          clear hw6 z0 z1
          have hN : PVn B w0 g h n P X L M wb wx.heap.size In0 w6 := ⟨H.grow B6, hb6⟩
          have T : Told n P (k : Int) id In0 := told_off hoff
          clear B6 hb6 H
          generalize wx.heap.size = d at hN ⊢
          generalize In0 = x at hN T ⊢
          go_upto_region 20 with fail
          obtain ⟨y0, y1, y2, y3, y4⟩ := row_75 hN.2
          have q45 := Doc.pend_c (o := 0) y1 y2
          obtain ⟨xe, xe_⟩ : ∃ b, x.e = b := ⟨_, rfl⟩
          obtain ⟨xa, xa_⟩ : ∃ b, x.a = b := ⟨_, rfl⟩
          obtain ⟨xr, xr_⟩ : ∃ b, x.rank = b := ⟨_, rfl⟩
          obtain ⟨pb, pb_⟩ : ∃ b, (x.l || x.h) = b := ⟨_, rfl⟩
          rw [pb_] at q45
          have q19 : ∀ w1, PVn B w0 g h n P X L M wb d x w1 → Calls Try.prog 19 #[ptr g 0, vI (k : Int), vI id] w1 fun e w2 => e = .returned (.bool xe) ∧ Below w1.heap.size w1 w2 := fun w1 h1 => by rw [← xe_, ← T.e]; exact enabled_c h1.1.kw.at_ (k : Int) id
          have q20 : ∀ w1, PVn B w0 g h n P X L M wb d x w1 → Calls Try.prog 20 #[ptr g 0, vI (k : Int), vI id] w1 fun e w2 => e = .returned (.bool pb) ∧ Below w1.heap.size w1 w2 := fun w1 h1 => by rw [← pb_, ← T.p]; exact pending_c h1.1.kw.at_ (k : Int) id
          have q21 : ∀ w1, PVn B w0 g h n P X L M wb d x w1 → Calls Try.prog 21 #[ptr g 0, vI (k : Int), vI id] w1 fun e w2 => e = .returned (.bool xa) ∧ Below w1.heap.size w1 w2 := fun w1 h1 => by rw [← xa_, ← T.a]; exact active_c h1.1.kw.at_ (k : Int) id
          have q18 : ∀ w1, PVn B w0 g h n P X L M wb d x w1 → Calls Try.prog 18 #[ptr g 0, vI (k : Int), vI id] w1 fun e w2 => e = .returned (vI xr) ∧ Below w1.heap.size w1 w2 := fun w1 h1 => by rw [← xr_, ← T.r]; exact rate_c h1.1.kw.at_ (k : Int) id
          clear y0 y1 y2 y3 y4
          go_upto_region 21 with (go_at_call 45; refine q45.mono ?_; rintro e w' ⟨rfl, rfl⟩; dsimp only)
          clear q45
          refine RelG.wp_region_rel RelG.Grows (PVn B w0 g h n P X L M wb d x) [.inl (ptr wb 0), .inl (ptr wb 0), .inl (ptr wb 0), .inl (ptr g 0), .inl (vI (k : Int)), .inl (vI id), .inl (.bool xe), .inl (ptr d 0), .inl (.bool xe), .inl (.bool false), .inl (.bool false), .inl (ptr wb 0), .inl (ptr wb 0), .inl (ptr wb 0), .inl (ptr g 0), .inl (vI (k : Int)), .inl (vI id), .inl (.bool pb), .inl (.bool pb), .inl (.bool false), .inl (.bool false), .inl (.bool false), .inl (ptr wb 0), .inl (ptr wb 0), .inl (ptr wb 0), .inl (ptr g 0), .inl (vI (k : Int)), .inl (vI id), .inl (.bool xa), .inl (ptr d 3), .inl (.bool xa), .inl (.bool false), .inl (.bool false), .inl (.bool false), .inl (ptr wb 0), .inl (ptr wb 0), .inl (ptr wb 0), .inl (ptr g 0), .inl (vI (k : Int)), .inl (vI id), .inl (vI xr), .inl (ptr d 4), .inl (vI xr), .inl (.bool false), .inl (.bool false)] (by kernel_rfl) (by kernel_rfl) RelG.grows_refl (fun _ _ h hb => h.grow hb) (hN.grow ⟨rfl, rfl, rfl, Nat.le_refl _, fun _ _ => rfl⟩) (by simp [RelG.upK]) ?_
          (refine ⟨fun w3 hC _ => RelG.uponG_yes rfl ((by go_simp; first | exact RelG.grows_refl _ | exact ⟨RelG.grows_refl _, rfl⟩)), ?_⟩; simp only [Act.put, List.setIfInBounds_toArray, List.set_cons_succ, List.set_cons_zero])
          (refine ⟨fun w3 hC _ => RelG.uponG_yes rfl ((by go_simp; first | exact RelG.grows_refl _ | exact ⟨RelG.grows_refl _, rfl⟩)), ?_⟩; simp only [Act.put, List.setIfInBounds_toArray, List.set_cons_succ, List.set_cons_zero])
          (refine ⟨fun w3 hC _ => RelG.uponG_yes rfl ((by go_simp; first | exact RelG.grows_refl _ | exact ⟨RelG.grows_refl _, rfl⟩)), ?_⟩; simp only [Act.put, List.setIfInBounds_toArray, List.set_cons_succ, List.set_cons_zero])
          (refine ⟨fun w3 hC _ => RelG.uponG_yes rfl ((by have z := hC.1.c0; go_simp; first | exact RelG.grows_refl _ | exact ⟨RelG.grows_refl _, rfl⟩)), ?_⟩; simp only [Act.put, List.setIfInBounds_toArray, List.set_cons_succ, List.set_cons_zero])
          (refine ⟨fun w3 hC _ => RelG.uponG_yes rfl ((by go_simp; first | exact RelG.grows_refl _ | exact ⟨RelG.grows_refl _, rfl⟩)), ?_⟩; simp only [Act.put, List.setIfInBounds_toArray, List.set_cons_succ, List.set_cons_zero])
          (refine ⟨fun w3 hC _ => RelG.uponG_yes rfl ((by go_simp; first | exact RelG.grows_refl _ | exact ⟨RelG.grows_refl _, rfl⟩)), ?_⟩; simp only [Act.put, List.setIfInBounds_toArray, List.set_cons_succ, List.set_cons_zero])
          (refine ⟨fun w3 hC _ => RelG.uponG_yes rfl ((by go_simp; refine (q19 w3 hC).mono ?_; rintro e w4 ⟨rfl, hb⟩; exact ⟨rfl, hb⟩)), ?_⟩; simp only [Act.put, List.setIfInBounds_toArray, List.set_cons_succ, List.set_cons_zero])
          (refine ⟨fun w3 hC _ => RelG.uponG_yes rfl ((by go_simp; first | exact RelG.grows_refl _ | exact ⟨RelG.grows_refl _, rfl⟩)), ?_⟩; simp only [Act.put, List.setIfInBounds_toArray, List.set_cons_succ, List.set_cons_zero])
          (refine ⟨fun w3 hC _ => RelG.uponG_yes rfl ((by obtain ⟨y0, y1, y2, y3, y4⟩ := row_75 hC.2; rw [xe_] at y0; rw [xa_] at y3; rw [xr_] at y4; go_simp; first | exact RelG.grows_refl _ | exact ⟨RelG.grows_refl _, rfl⟩)), ?_⟩; simp only [Act.put, List.setIfInBounds_toArray, List.set_cons_succ, List.set_cons_zero])
          (refine ⟨fun w3 hC _ => RelG.uponG_yes rfl ((by go_simp; first | exact RelG.grows_refl _ | exact ⟨RelG.grows_refl _, rfl⟩)), ?_⟩; simp only [Act.put, List.setIfInBounds_toArray, List.set_cons_succ, List.set_cons_zero])
          (refine ⟨fun w3 hC _ => RelG.uponG_yes rfl ((by go_simp; first | exact RelG.grows_refl _ | exact ⟨RelG.grows_refl _, rfl⟩)), ?_⟩; simp only [Act.put, List.setIfInBounds_toArray, List.set_cons_succ, List.set_cons_zero])
          (refine ⟨fun w3 hC _ => RelG.uponG_yes rfl ((by go_simp; first | exact RelG.grows_refl _ | exact ⟨RelG.grows_refl _, rfl⟩)), ?_⟩; simp only [Act.put, List.setIfInBounds_toArray, List.set_cons_succ, List.set_cons_zero])
          (refine ⟨fun w3 hC _ => RelG.uponG_yes rfl ((by go_simp; first | exact RelG.grows_refl _ | exact ⟨RelG.grows_refl _, rfl⟩)), ?_⟩; simp only [Act.put, List.setIfInBounds_toArray, List.set_cons_succ, List.set_cons_zero])
          (refine ⟨fun w3 hC _ => RelG.uponG_yes rfl ((by go_simp; first | exact RelG.grows_refl _ | exact ⟨RelG.grows_refl _, rfl⟩)), ?_⟩; simp only [Act.put, List.setIfInBounds_toArray, List.set_cons_succ, List.set_cons_zero])
          (refine ⟨fun w3 hC _ => RelG.uponG_yes rfl ((by have z := hC.1.c0; go_simp; first | exact RelG.grows_refl _ | exact ⟨RelG.grows_refl _, rfl⟩)), ?_⟩; simp only [Act.put, List.setIfInBounds_toArray, List.set_cons_succ, List.set_cons_zero])
          (refine ⟨fun w3 hC _ => RelG.uponG_yes rfl ((by go_simp; first | exact RelG.grows_refl _ | exact ⟨RelG.grows_refl _, rfl⟩)), ?_⟩; simp only [Act.put, List.setIfInBounds_toArray, List.set_cons_succ, List.set_cons_zero])
          (refine ⟨fun w3 hC _ => RelG.uponG_yes rfl ((by go_simp; first | exact RelG.grows_refl _ | exact ⟨RelG.grows_refl _, rfl⟩)), ?_⟩; simp only [Act.put, List.setIfInBounds_toArray, List.set_cons_succ, List.set_cons_zero])
          (refine ⟨fun w3 hC _ => RelG.uponG_yes rfl ((by go_simp; refine (q20 w3 hC).mono ?_; rintro e w4 ⟨rfl, hb⟩; exact ⟨rfl, hb⟩)), ?_⟩; simp only [Act.put, List.setIfInBounds_toArray, List.set_cons_succ, List.set_cons_zero])
          (refine ⟨fun w3 hC _ => RelG.uponG_yes rfl ((by go_simp; first | exact RelG.grows_refl _ | exact ⟨RelG.grows_refl _, rfl⟩)), ?_⟩; simp only [Act.put, List.setIfInBounds_toArray, List.set_cons_succ, List.set_cons_zero])
          (refine ⟨fun w3 hC _ => RelG.uponG_yes rfl ((by go_simp; first | exact RelG.grows_refl _ | exact ⟨RelG.grows_refl _, rfl⟩)), ?_⟩; simp only [Act.put, List.setIfInBounds_toArray, List.set_cons_succ, List.set_cons_zero])
          (refine ⟨fun w3 hC _ => RelG.uponG_yes rfl ((by go_simp; first | exact RelG.grows_refl _ | exact ⟨RelG.grows_refl _, rfl⟩)), ?_⟩; simp only [Act.put, List.setIfInBounds_toArray, List.set_cons_succ, List.set_cons_zero])
          (refine ⟨fun w3 hC _ => RelG.uponG_yes rfl ((by go_simp; first | exact RelG.grows_refl _ | exact ⟨RelG.grows_refl _, rfl⟩)), ?_⟩; simp only [Act.put, List.setIfInBounds_toArray, List.set_cons_succ, List.set_cons_zero])
          (refine ⟨fun w3 hC _ => RelG.uponG_yes rfl ((by go_simp; first | exact RelG.grows_refl _ | exact ⟨RelG.grows_refl _, rfl⟩)), ?_⟩; simp only [Act.put, List.setIfInBounds_toArray, List.set_cons_succ, List.set_cons_zero])
          (refine ⟨fun w3 hC _ => RelG.uponG_yes rfl ((by go_simp; first | exact RelG.grows_refl _ | exact ⟨RelG.grows_refl _, rfl⟩)), ?_⟩; simp only [Act.put, List.setIfInBounds_toArray, List.set_cons_succ, List.set_cons_zero])
          (refine ⟨fun w3 hC _ => RelG.uponG_yes rfl ((by go_simp; first | exact RelG.grows_refl _ | exact ⟨RelG.grows_refl _, rfl⟩)), ?_⟩; simp only [Act.put, List.setIfInBounds_toArray, List.set_cons_succ, List.set_cons_zero])
          (refine ⟨fun w3 hC _ => RelG.uponG_yes rfl ((by have z := hC.1.c0; go_simp; first | exact RelG.grows_refl _ | exact ⟨RelG.grows_refl _, rfl⟩)), ?_⟩; simp only [Act.put, List.setIfInBounds_toArray, List.set_cons_succ, List.set_cons_zero])
          (refine ⟨fun w3 hC _ => RelG.uponG_yes rfl ((by go_simp; first | exact RelG.grows_refl _ | exact ⟨RelG.grows_refl _, rfl⟩)), ?_⟩; simp only [Act.put, List.setIfInBounds_toArray, List.set_cons_succ, List.set_cons_zero])
          (refine ⟨fun w3 hC _ => RelG.uponG_yes rfl ((by go_simp; first | exact RelG.grows_refl _ | exact ⟨RelG.grows_refl _, rfl⟩)), ?_⟩; simp only [Act.put, List.setIfInBounds_toArray, List.set_cons_succ, List.set_cons_zero])
          (refine ⟨fun w3 hC _ => RelG.uponG_yes rfl ((by go_simp; refine (q21 w3 hC).mono ?_; rintro e w4 ⟨rfl, hb⟩; exact ⟨rfl, hb⟩)), ?_⟩; simp only [Act.put, List.setIfInBounds_toArray, List.set_cons_succ, List.set_cons_zero])
          (refine ⟨fun w3 hC _ => RelG.uponG_yes rfl ((by go_simp; first | exact RelG.grows_refl _ | exact ⟨RelG.grows_refl _, rfl⟩)), ?_⟩; simp only [Act.put, List.setIfInBounds_toArray, List.set_cons_succ, List.set_cons_zero])
          (refine ⟨fun w3 hC _ => RelG.uponG_yes rfl ((by obtain ⟨y0, y1, y2, y3, y4⟩ := row_75 hC.2; rw [xe_] at y0; rw [xa_] at y3; rw [xr_] at y4; go_simp; first | exact RelG.grows_refl _ | exact ⟨RelG.grows_refl _, rfl⟩)), ?_⟩; simp only [Act.put, List.setIfInBounds_toArray, List.set_cons_succ, List.set_cons_zero])
          (refine ⟨fun w3 hC _ => RelG.uponG_yes rfl ((by go_simp; first | exact RelG.grows_refl _ | exact ⟨RelG.grows_refl _, rfl⟩)), ?_⟩; simp only [Act.put, List.setIfInBounds_toArray, List.set_cons_succ, List.set_cons_zero])
          (refine ⟨fun w3 hC _ => RelG.uponG_yes rfl ((by go_simp; first | exact RelG.grows_refl _ | exact ⟨RelG.grows_refl _, rfl⟩)), ?_⟩; simp only [Act.put, List.setIfInBounds_toArray, List.set_cons_succ, List.set_cons_zero])
          (refine ⟨fun w3 hC _ => RelG.uponG_yes rfl ((by go_simp; first | exact RelG.grows_refl _ | exact ⟨RelG.grows_refl _, rfl⟩)), ?_⟩; simp only [Act.put, List.setIfInBounds_toArray, List.set_cons_succ, List.set_cons_zero])
          (refine ⟨fun w3 hC _ => RelG.uponG_yes rfl ((by go_simp; first | exact RelG.grows_refl _ | exact ⟨RelG.grows_refl _, rfl⟩)), ?_⟩; simp only [Act.put, List.setIfInBounds_toArray, List.set_cons_succ, List.set_cons_zero])
          (refine ⟨fun w3 hC _ => RelG.uponG_yes rfl ((by go_simp; first | exact RelG.grows_refl _ | exact ⟨RelG.grows_refl _, rfl⟩)), ?_⟩; simp only [Act.put, List.setIfInBounds_toArray, List.set_cons_succ, List.set_cons_zero])
          (refine ⟨fun w3 hC _ => RelG.uponG_yes rfl ((by go_simp; first | exact RelG.grows_refl _ | exact ⟨RelG.grows_refl _, rfl⟩)), ?_⟩; simp only [Act.put, List.setIfInBounds_toArray, List.set_cons_succ, List.set_cons_zero])
          (refine ⟨fun w3 hC _ => RelG.uponG_yes rfl ((by have z := hC.1.c0; go_simp; first | exact RelG.grows_refl _ | exact ⟨RelG.grows_refl _, rfl⟩)), ?_⟩; simp only [Act.put, List.setIfInBounds_toArray, List.set_cons_succ, List.set_cons_zero])
          (refine ⟨fun w3 hC _ => RelG.uponG_yes rfl ((by go_simp; first | exact RelG.grows_refl _ | exact ⟨RelG.grows_refl _, rfl⟩)), ?_⟩; simp only [Act.put, List.setIfInBounds_toArray, List.set_cons_succ, List.set_cons_zero])
          (refine ⟨fun w3 hC _ => RelG.uponG_yes rfl ((by go_simp; first | exact RelG.grows_refl _ | exact ⟨RelG.grows_refl _, rfl⟩)), ?_⟩; simp only [Act.put, List.setIfInBounds_toArray, List.set_cons_succ, List.set_cons_zero])
          (refine ⟨fun w3 hC _ => RelG.uponG_yes rfl ((by go_simp; refine (q18 w3 hC).mono ?_; rintro e w4 ⟨rfl, hb⟩; exact ⟨rfl, hb⟩)), ?_⟩; simp only [Act.put, List.setIfInBounds_toArray, List.set_cons_succ, List.set_cons_zero])
          (refine ⟨fun w3 hC _ => RelG.uponG_yes rfl ((by go_simp; first | exact RelG.grows_refl _ | exact ⟨RelG.grows_refl _, rfl⟩)), ?_⟩; simp only [Act.put, List.setIfInBounds_toArray, List.set_cons_succ, List.set_cons_zero])
          (refine ⟨fun w3 hC _ => RelG.uponG_yes rfl ((by obtain ⟨y0, y1, y2, y3, y4⟩ := row_75 hC.2; rw [xe_] at y0; rw [xa_] at y3; rw [xr_] at y4; go_simp; first | exact RelG.grows_refl _ | exact ⟨RelG.grows_refl _, rfl⟩)), ?_⟩; simp only [Act.put, List.setIfInBounds_toArray, List.set_cons_succ, List.set_cons_zero])
          (refine ⟨fun w3 hC _ => RelG.uponG_yes rfl ((by go_simp; first | exact RelG.grows_refl _ | exact ⟨RelG.grows_refl _, rfl⟩)), ?_⟩; simp only [Act.put, List.setIfInBounds_toArray, List.set_cons_succ, List.set_cons_zero])
          (refine ⟨fun w3 hC _ => RelG.uponG_yes rfl ((by go_simp; first | exact RelG.grows_refl _ | exact ⟨RelG.grows_refl _, rfl⟩)), ?_⟩; simp only [Act.put, List.setIfInBounds_toArray, List.set_cons_succ, List.set_cons_zero])
          clear hN
          intro w9 hN _
          go_wp2
          go_roundw
          case rel => exact ⟨(k : Int) + 1, by omega, by omega, by go_num, hN.1⟩
          case measure => simp [intOf]; omega
        | false =>
          go_upto_region 16 with (first | (go_at_call 17; refine (q17 _ H).mono ?_; rintro e wy ⟨rfl, hb⟩; dsimp only; replace H := H.grow hb; replace z0 := H.c0; replace z1 := H.c1; clear hb) | (go_at_call 16; refine (q16 _ H).mono ?_; rintro e wx ⟨rfl, hb⟩; dsimp only; replace H := H.grow hb; replace z0 := H.c0; replace z1 := H.c1; clear hb))
          clear q17 q16
          have q41 := Doc.rbad_c H.ref (k : Int) id
          rw [hoff] at q41
          go_upto_region 17 with (go_at_call 41; refine q41.mono ?_; rintro e wx ⟨rfl, rfl⟩; dsimp only)
          clear q41
          go_upto_region 18 with (refine wpList_st75 rfl _ _ rfl wx.heap.size rfl In0 In0 rfl (heap_alloc_new _ _) ?_; simp only [Act.put])
          generalize hw6 : World.setRow _ _ _ = w6
          have B6 : Below wx.heap.size wx w6 := by rw [← hw6]; exact below_setRow (below_alloc _ _) (Nat.le_refl _)
          have hb6 : w6.heap[wx.heap.size]? = some (.cells In0.row.toArray 75) := by rw [← hw6]; exact setRow_heap _ _ _ _ _ _ (heap_alloc_new _ _)
          clear hw6 z0 z1
          have H6 := H.grow B6
          have q44 := Doc.of_c H6.ref (k : Int) id hoff
          obtain ⟨hr, hk⟩ := Doc.pos_in hoff
          have hs : (X.rows (Doc.posR n (k : Int) id))[Doc.posK id]? = some (X.of n (k : Int) id) := by
            unfold Doc.Ref.of Doc.Ref.get
            rw [List.getElem?_eq_getElem (by rw [H6.ref.len _ hr]; exact hk)]
            rfl
          have hat := H6.ref.at hr hs
          have T : Told n P (k : Int) id (X.of n (k : Int) id) := told_on H.lk hoff
          have z1 := H6.c1
          generalize X.of n (k : Int) id = x at hat T
          go_upto_region 20 with (first | (go_at_call 44; refine q44.mono ?_; rintro e w6 ⟨rfl, rfl⟩; dsimp only) | (refine wpList_ld75 rfl _ rfl (M.rb (Doc.posR n (k : Int) id)) (Doc.posK id) rfl x hat ?_; simp only [Act.put]) | (refine wpList_st75 rfl _ _ rfl wx.heap.size rfl x In0 rfl hb6 ?_; simp only [Act.put]))
          generalize hw7 : World.setRow _ _ _ = w7
          have B7 : Below wx.heap.size wx w7 := by rw [← hw7]; exact below_setRow B6 (Nat.le_refl _)
          have hb7 : w7.heap[wx.heap.size]? = some (.cells x.row.toArray 75) := by rw [← hw7]; exact setRow_heap _ _ _ _ _ _ hb6
          have hN : PVn B w0 g h n P X L M wb wx.heap.size x w7 := ⟨H.grow B7, hb7⟩
          clear hw7 B7 hb7 B6 hb6 H H6 q44 hat hs hr hk z1
          generalize wx.heap.size = d at hN ⊢
          obtain ⟨y0, y1, y2, y3, y4⟩ := row_75 hN.2
          have q45 := Doc.pend_c (o := 0) y1 y2
          obtain ⟨xe, xe_⟩ : ∃ b, x.e = b := ⟨_, rfl⟩
          obtain ⟨xa, xa_⟩ : ∃ b, x.a = b := ⟨_, rfl⟩
          obtain ⟨xr, xr_⟩ : ∃ b, x.rank = b := ⟨_, rfl⟩
          obtain ⟨pb, pb_⟩ : ∃ b, (x.l || x.h) = b := ⟨_, rfl⟩
          rw [pb_] at q45
          have q19 : ∀ w1, PVn B w0 g h n P X L M wb d x w1 → Calls Try.prog 19 #[ptr g 0, vI (k : Int), vI id] w1 fun e w2 => e = .returned (.bool xe) ∧ Below w1.heap.size w1 w2 := fun w1 h1 => by rw [← xe_, ← T.e]; exact enabled_c h1.1.kw.at_ (k : Int) id
          have q20 : ∀ w1, PVn B w0 g h n P X L M wb d x w1 → Calls Try.prog 20 #[ptr g 0, vI (k : Int), vI id] w1 fun e w2 => e = .returned (.bool pb) ∧ Below w1.heap.size w1 w2 := fun w1 h1 => by rw [← pb_, ← T.p]; exact pending_c h1.1.kw.at_ (k : Int) id
          have q21 : ∀ w1, PVn B w0 g h n P X L M wb d x w1 → Calls Try.prog 21 #[ptr g 0, vI (k : Int), vI id] w1 fun e w2 => e = .returned (.bool xa) ∧ Below w1.heap.size w1 w2 := fun w1 h1 => by rw [← xa_, ← T.a]; exact active_c h1.1.kw.at_ (k : Int) id
          have q18 : ∀ w1, PVn B w0 g h n P X L M wb d x w1 → Calls Try.prog 18 #[ptr g 0, vI (k : Int), vI id] w1 fun e w2 => e = .returned (vI xr) ∧ Below w1.heap.size w1 w2 := fun w1 h1 => by rw [← xr_, ← T.r]; exact rate_c h1.1.kw.at_ (k : Int) id
          clear y0 y1 y2 y3 y4
          go_upto_region 21 with (go_at_call 45; refine q45.mono ?_; rintro e w' ⟨rfl, rfl⟩; dsimp only)
          clear q45
          refine RelG.wp_region_rel RelG.Grows (PVn B w0 g h n P X L M wb d x) [.inl (ptr wb 0), .inl (ptr wb 0), .inl (ptr wb 0), .inl (ptr g 0), .inl (vI (k : Int)), .inl (vI id), .inl (.bool xe), .inl (ptr d 0), .inl (.bool xe), .inl (.bool false), .inl (.bool false), .inl (ptr wb 0), .inl (ptr wb 0), .inl (ptr wb 0), .inl (ptr g 0), .inl (vI (k : Int)), .inl (vI id), .inl (.bool pb), .inl (.bool pb), .inl (.bool false), .inl (.bool false), .inl (.bool false), .inl (ptr wb 0), .inl (ptr wb 0), .inl (ptr wb 0), .inl (ptr g 0), .inl (vI (k : Int)), .inl (vI id), .inl (.bool xa), .inl (ptr d 3), .inl (.bool xa), .inl (.bool false), .inl (.bool false), .inl (.bool false), .inl (ptr wb 0), .inl (ptr wb 0), .inl (ptr wb 0), .inl (ptr g 0), .inl (vI (k : Int)), .inl (vI id), .inl (vI xr), .inl (ptr d 4), .inl (vI xr), .inl (.bool false), .inl (.bool false)] (by kernel_rfl) (by kernel_rfl) RelG.grows_refl (fun _ _ h hb => h.grow hb) (hN.grow ⟨rfl, rfl, rfl, Nat.le_refl _, fun _ _ => rfl⟩) (by simp [RelG.upK]) ?_
          (refine ⟨fun w3 hC _ => RelG.uponG_yes rfl ((by go_simp; first | exact RelG.grows_refl _ | exact ⟨RelG.grows_refl _, rfl⟩)), ?_⟩; simp only [Act.put, List.setIfInBounds_toArray, List.set_cons_succ, List.set_cons_zero])
          (refine ⟨fun w3 hC _ => RelG.uponG_yes rfl ((by go_simp; first | exact RelG.grows_refl _ | exact ⟨RelG.grows_refl _, rfl⟩)), ?_⟩; simp only [Act.put, List.setIfInBounds_toArray, List.set_cons_succ, List.set_cons_zero])
          (refine ⟨fun w3 hC _ => RelG.uponG_yes rfl ((by go_simp; first | exact RelG.grows_refl _ | exact ⟨RelG.grows_refl _, rfl⟩)), ?_⟩; simp only [Act.put, List.setIfInBounds_toArray, List.set_cons_succ, List.set_cons_zero])
          (refine ⟨fun w3 hC _ => RelG.uponG_yes rfl ((by have z := hC.1.c0; go_simp; first | exact RelG.grows_refl _ | exact ⟨RelG.grows_refl _, rfl⟩)), ?_⟩; simp only [Act.put, List.setIfInBounds_toArray, List.set_cons_succ, List.set_cons_zero])
          (refine ⟨fun w3 hC _ => RelG.uponG_yes rfl ((by go_simp; first | exact RelG.grows_refl _ | exact ⟨RelG.grows_refl _, rfl⟩)), ?_⟩; simp only [Act.put, List.setIfInBounds_toArray, List.set_cons_succ, List.set_cons_zero])
          (refine ⟨fun w3 hC _ => RelG.uponG_yes rfl ((by go_simp; first | exact RelG.grows_refl _ | exact ⟨RelG.grows_refl _, rfl⟩)), ?_⟩; simp only [Act.put, List.setIfInBounds_toArray, List.set_cons_succ, List.set_cons_zero])
          (refine ⟨fun w3 hC _ => RelG.uponG_yes rfl ((by go_simp; refine (q19 w3 hC).mono ?_; rintro e w4 ⟨rfl, hb⟩; exact ⟨rfl, hb⟩)), ?_⟩; simp only [Act.put, List.setIfInBounds_toArray, List.set_cons_succ, List.set_cons_zero])
          (refine ⟨fun w3 hC _ => RelG.uponG_yes rfl ((by go_simp; first | exact RelG.grows_refl _ | exact ⟨RelG.grows_refl _, rfl⟩)), ?_⟩; simp only [Act.put, List.setIfInBounds_toArray, List.set_cons_succ, List.set_cons_zero])
          (refine ⟨fun w3 hC _ => RelG.uponG_yes rfl ((by obtain ⟨y0, y1, y2, y3, y4⟩ := row_75 hC.2; rw [xe_] at y0; rw [xa_] at y3; rw [xr_] at y4; go_simp; first | exact RelG.grows_refl _ | exact ⟨RelG.grows_refl _, rfl⟩)), ?_⟩; simp only [Act.put, List.setIfInBounds_toArray, List.set_cons_succ, List.set_cons_zero])
          (refine ⟨fun w3 hC _ => RelG.uponG_yes rfl ((by go_simp; first | exact RelG.grows_refl _ | exact ⟨RelG.grows_refl _, rfl⟩)), ?_⟩; simp only [Act.put, List.setIfInBounds_toArray, List.set_cons_succ, List.set_cons_zero])
          (refine ⟨fun w3 hC _ => RelG.uponG_yes rfl ((by go_simp; first | exact RelG.grows_refl _ | exact ⟨RelG.grows_refl _, rfl⟩)), ?_⟩; simp only [Act.put, List.setIfInBounds_toArray, List.set_cons_succ, List.set_cons_zero])
          (refine ⟨fun w3 hC _ => RelG.uponG_yes rfl ((by go_simp; first | exact RelG.grows_refl _ | exact ⟨RelG.grows_refl _, rfl⟩)), ?_⟩; simp only [Act.put, List.setIfInBounds_toArray, List.set_cons_succ, List.set_cons_zero])
          (refine ⟨fun w3 hC _ => RelG.uponG_yes rfl ((by go_simp; first | exact RelG.grows_refl _ | exact ⟨RelG.grows_refl _, rfl⟩)), ?_⟩; simp only [Act.put, List.setIfInBounds_toArray, List.set_cons_succ, List.set_cons_zero])
          (refine ⟨fun w3 hC _ => RelG.uponG_yes rfl ((by go_simp; first | exact RelG.grows_refl _ | exact ⟨RelG.grows_refl _, rfl⟩)), ?_⟩; simp only [Act.put, List.setIfInBounds_toArray, List.set_cons_succ, List.set_cons_zero])
          (refine ⟨fun w3 hC _ => RelG.uponG_yes rfl ((by have z := hC.1.c0; go_simp; first | exact RelG.grows_refl _ | exact ⟨RelG.grows_refl _, rfl⟩)), ?_⟩; simp only [Act.put, List.setIfInBounds_toArray, List.set_cons_succ, List.set_cons_zero])
          (refine ⟨fun w3 hC _ => RelG.uponG_yes rfl ((by go_simp; first | exact RelG.grows_refl _ | exact ⟨RelG.grows_refl _, rfl⟩)), ?_⟩; simp only [Act.put, List.setIfInBounds_toArray, List.set_cons_succ, List.set_cons_zero])
          (refine ⟨fun w3 hC _ => RelG.uponG_yes rfl ((by go_simp; first | exact RelG.grows_refl _ | exact ⟨RelG.grows_refl _, rfl⟩)), ?_⟩; simp only [Act.put, List.setIfInBounds_toArray, List.set_cons_succ, List.set_cons_zero])
          (refine ⟨fun w3 hC _ => RelG.uponG_yes rfl ((by go_simp; refine (q20 w3 hC).mono ?_; rintro e w4 ⟨rfl, hb⟩; exact ⟨rfl, hb⟩)), ?_⟩; simp only [Act.put, List.setIfInBounds_toArray, List.set_cons_succ, List.set_cons_zero])
          (refine ⟨fun w3 hC _ => RelG.uponG_yes rfl ((by go_simp; first | exact RelG.grows_refl _ | exact ⟨RelG.grows_refl _, rfl⟩)), ?_⟩; simp only [Act.put, List.setIfInBounds_toArray, List.set_cons_succ, List.set_cons_zero])
          (refine ⟨fun w3 hC _ => RelG.uponG_yes rfl ((by go_simp; first | exact RelG.grows_refl _ | exact ⟨RelG.grows_refl _, rfl⟩)), ?_⟩; simp only [Act.put, List.setIfInBounds_toArray, List.set_cons_succ, List.set_cons_zero])
          (refine ⟨fun w3 hC _ => RelG.uponG_yes rfl ((by go_simp; first | exact RelG.grows_refl _ | exact ⟨RelG.grows_refl _, rfl⟩)), ?_⟩; simp only [Act.put, List.setIfInBounds_toArray, List.set_cons_succ, List.set_cons_zero])
          (refine ⟨fun w3 hC _ => RelG.uponG_yes rfl ((by go_simp; first | exact RelG.grows_refl _ | exact ⟨RelG.grows_refl _, rfl⟩)), ?_⟩; simp only [Act.put, List.setIfInBounds_toArray, List.set_cons_succ, List.set_cons_zero])
          (refine ⟨fun w3 hC _ => RelG.uponG_yes rfl ((by go_simp; first | exact RelG.grows_refl _ | exact ⟨RelG.grows_refl _, rfl⟩)), ?_⟩; simp only [Act.put, List.setIfInBounds_toArray, List.set_cons_succ, List.set_cons_zero])
          (refine ⟨fun w3 hC _ => RelG.uponG_yes rfl ((by go_simp; first | exact RelG.grows_refl _ | exact ⟨RelG.grows_refl _, rfl⟩)), ?_⟩; simp only [Act.put, List.setIfInBounds_toArray, List.set_cons_succ, List.set_cons_zero])
          (refine ⟨fun w3 hC _ => RelG.uponG_yes rfl ((by go_simp; first | exact RelG.grows_refl _ | exact ⟨RelG.grows_refl _, rfl⟩)), ?_⟩; simp only [Act.put, List.setIfInBounds_toArray, List.set_cons_succ, List.set_cons_zero])
          (refine ⟨fun w3 hC _ => RelG.uponG_yes rfl ((by have z := hC.1.c0; go_simp; first | exact RelG.grows_refl _ | exact ⟨RelG.grows_refl _, rfl⟩)), ?_⟩; simp only [Act.put, List.setIfInBounds_toArray, List.set_cons_succ, List.set_cons_zero])
          (refine ⟨fun w3 hC _ => RelG.uponG_yes rfl ((by go_simp; first | exact RelG.grows_refl _ | exact ⟨RelG.grows_refl _, rfl⟩)), ?_⟩; simp only [Act.put, List.setIfInBounds_toArray, List.set_cons_succ, List.set_cons_zero])
          (refine ⟨fun w3 hC _ => RelG.uponG_yes rfl ((by go_simp; first | exact RelG.grows_refl _ | exact ⟨RelG.grows_refl _, rfl⟩)), ?_⟩; simp only [Act.put, List.setIfInBounds_toArray, List.set_cons_succ, List.set_cons_zero])
          (refine ⟨fun w3 hC _ => RelG.uponG_yes rfl ((by go_simp; refine (q21 w3 hC).mono ?_; rintro e w4 ⟨rfl, hb⟩; exact ⟨rfl, hb⟩)), ?_⟩; simp only [Act.put, List.setIfInBounds_toArray, List.set_cons_succ, List.set_cons_zero])
          (refine ⟨fun w3 hC _ => RelG.uponG_yes rfl ((by go_simp; first | exact RelG.grows_refl _ | exact ⟨RelG.grows_refl _, rfl⟩)), ?_⟩; simp only [Act.put, List.setIfInBounds_toArray, List.set_cons_succ, List.set_cons_zero])
          (refine ⟨fun w3 hC _ => RelG.uponG_yes rfl ((by obtain ⟨y0, y1, y2, y3, y4⟩ := row_75 hC.2; rw [xe_] at y0; rw [xa_] at y3; rw [xr_] at y4; go_simp; first | exact RelG.grows_refl _ | exact ⟨RelG.grows_refl _, rfl⟩)), ?_⟩; simp only [Act.put, List.setIfInBounds_toArray, List.set_cons_succ, List.set_cons_zero])
          (refine ⟨fun w3 hC _ => RelG.uponG_yes rfl ((by go_simp; first | exact RelG.grows_refl _ | exact ⟨RelG.grows_refl _, rfl⟩)), ?_⟩; simp only [Act.put, List.setIfInBounds_toArray, List.set_cons_succ, List.set_cons_zero])
          (refine ⟨fun w3 hC _ => RelG.uponG_yes rfl ((by go_simp; first | exact RelG.grows_refl _ | exact ⟨RelG.grows_refl _, rfl⟩)), ?_⟩; simp only [Act.put, List.setIfInBounds_toArray, List.set_cons_succ, List.set_cons_zero])
          (refine ⟨fun w3 hC _ => RelG.uponG_yes rfl ((by go_simp; first | exact RelG.grows_refl _ | exact ⟨RelG.grows_refl _, rfl⟩)), ?_⟩; simp only [Act.put, List.setIfInBounds_toArray, List.set_cons_succ, List.set_cons_zero])
          (refine ⟨fun w3 hC _ => RelG.uponG_yes rfl ((by go_simp; first | exact RelG.grows_refl _ | exact ⟨RelG.grows_refl _, rfl⟩)), ?_⟩; simp only [Act.put, List.setIfInBounds_toArray, List.set_cons_succ, List.set_cons_zero])
          (refine ⟨fun w3 hC _ => RelG.uponG_yes rfl ((by go_simp; first | exact RelG.grows_refl _ | exact ⟨RelG.grows_refl _, rfl⟩)), ?_⟩; simp only [Act.put, List.setIfInBounds_toArray, List.set_cons_succ, List.set_cons_zero])
          (refine ⟨fun w3 hC _ => RelG.uponG_yes rfl ((by go_simp; first | exact RelG.grows_refl _ | exact ⟨RelG.grows_refl _, rfl⟩)), ?_⟩; simp only [Act.put, List.setIfInBounds_toArray, List.set_cons_succ, List.set_cons_zero])
          (refine ⟨fun w3 hC _ => RelG.uponG_yes rfl ((by have z := hC.1.c0; go_simp; first | exact RelG.grows_refl _ | exact ⟨RelG.grows_refl _, rfl⟩)), ?_⟩; simp only [Act.put, List.setIfInBounds_toArray, List.set_cons_succ, List.set_cons_zero])
          (refine ⟨fun w3 hC _ => RelG.uponG_yes rfl ((by go_simp; first | exact RelG.grows_refl _ | exact ⟨RelG.grows_refl _, rfl⟩)), ?_⟩; simp only [Act.put, List.setIfInBounds_toArray, List.set_cons_succ, List.set_cons_zero])
          (refine ⟨fun w3 hC _ => RelG.uponG_yes rfl ((by go_simp; first | exact RelG.grows_refl _ | exact ⟨RelG.grows_refl _, rfl⟩)), ?_⟩; simp only [Act.put, List.setIfInBounds_toArray, List.set_cons_succ, List.set_cons_zero])
          (refine ⟨fun w3 hC _ => RelG.uponG_yes rfl ((by go_simp; refine (q18 w3 hC).mono ?_; rintro e w4 ⟨rfl, hb⟩; exact ⟨rfl, hb⟩)), ?_⟩; simp only [Act.put, List.setIfInBounds_toArray, List.set_cons_succ, List.set_cons_zero])
          (refine ⟨fun w3 hC _ => RelG.uponG_yes rfl ((by go_simp; first | exact RelG.grows_refl _ | exact ⟨RelG.grows_refl _, rfl⟩)), ?_⟩; simp only [Act.put, List.setIfInBounds_toArray, List.set_cons_succ, List.set_cons_zero])
          (refine ⟨fun w3 hC _ => RelG.uponG_yes rfl ((by obtain ⟨y0, y1, y2, y3, y4⟩ := row_75 hC.2; rw [xe_] at y0; rw [xa_] at y3; rw [xr_] at y4; go_simp; first | exact RelG.grows_refl _ | exact ⟨RelG.grows_refl _, rfl⟩)), ?_⟩; simp only [Act.put, List.setIfInBounds_toArray, List.set_cons_succ, List.set_cons_zero])
          (refine ⟨fun w3 hC _ => RelG.uponG_yes rfl ((by go_simp; first | exact RelG.grows_refl _ | exact ⟨RelG.grows_refl _, rfl⟩)), ?_⟩; simp only [Act.put, List.setIfInBounds_toArray, List.set_cons_succ, List.set_cons_zero])
          (refine ⟨fun w3 hC _ => RelG.uponG_yes rfl ((by go_simp; first | exact RelG.grows_refl _ | exact ⟨RelG.grows_refl _, rfl⟩)), ?_⟩; simp only [Act.put, List.setIfInBounds_toArray, List.set_cons_succ, List.set_cons_zero])
          clear hN
          intro w9 hN _
          go_wp2
          go_roundw
          case rel => exact ⟨(k : Int) + 1, by omega, by omega, by go_num, hN.1⟩
          case measure => simp [intOf]; omega
    · obtain rfl : c = n + 1 := by omega
      have q22 := goes_c H.kw.at_ id
      by_cases hin : 32 ≤ id ∧ id < 64
      · obtain ⟨h5, h6⟩ := hin
        rw [goes_both lk hn1 h5 h6] at q22
        obtain ⟨k, rfl⟩ : ∃ k : Nat, id = 32 + (k : Int) := ⟨(id - 32).toNat, by omega⟩
        have e1 : (32 + (k : Int) - 32).toNat = k := by omega
        have w1 : IntKind.i64.wrap (32 + (k : Int) - 32) = k := by rw [IntKind.wrap_i64]; omega
        have k1 : (0 : Int) ≤ k := by omega
        have k2 : (k : Int) < 32 := by omega
        have c2 := H.ref.c2
        rw [e1] at q22
        have hs : (X.rows n)[k]? = some (X.get n k) := by
          unfold Doc.Ref.get
          rw [List.getElem?_eq_getElem (by rw [H.ref.len _ (Nat.le_refl n)]; omega)]
          rfl
        have z5 := H.ref.at (Nat.le_refl n) hs 5 (by decide)
        replace z5 : wr.cell? ⟨M.rb n, k * 8 + 5, none⟩ = some (vI (X.get n k).core) := z5
        go_wp2_with (go_at_call 22; refine q22.mono ?_; rintro e w' ⟨rfl, hb⟩; dsimp only)
        go_ret
        exact ⟨rfl, H.grow hb⟩
      · rw [goes_none lk hn1 hin] at q22
        by_cases h5 : 32 ≤ id
        · have h6 : ¬ id < 64 := fun h => hin ⟨h5, h⟩
          go_wp2_with (go_at_call 22; refine q22.mono ?_; rintro e w' ⟨rfl, hb⟩; dsimp only)
          go_ret
          exact ⟨rfl, H.grow hb⟩
        · go_wp2_with (go_at_call 22; refine q22.mono ?_; rintro e w' ⟨rfl, hb⟩; dsimp only)
          go_ret
          exact ⟨rfl, H.grow hb⟩
end
end Go.Proofs.Ytpmlehfnlodmbaa
