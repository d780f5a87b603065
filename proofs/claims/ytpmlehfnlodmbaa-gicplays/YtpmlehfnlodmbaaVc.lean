/- The likeness is kept: Eoi, Send, and what is set; the errors are the same. -/
import Derived.Test.YtpmlehfnlodmbaaVb
namespace Go.Proofs.Ytpmlehfnlodmbaa
open Go.RowKit
set_option linter.unusedVariables false
set_option linter.unusedSimpArgs false

theorem idx_iff {l : List Trn} {id : Int} : (idxF l id).isSome = true ↔ ∃ t ∈ l, t.id = id := by
  cases h : idxF l id with
  | none =>
    constructor
    · intro h; cases h
    · rintro ⟨t, h1, h2⟩; exact absurd h2 (idx_out h t h1)
  | some k =>
    obtain ⟨t, h1, h2⟩ := idx_in h
    exact ⟨fun _ => ⟨t, List.mem_of_getElem? h1, h2⟩, fun _ => rfl⟩
section
variable {n : Nat} {P : Pg} {X : Doc.Ref}
theorem Lk.eoiB (H : Lk n P X) (core id : Int) : Doc.eoiB X n core id = eoiB n P core id := by
  unfold Doc.eoiB Go.Proofs.Ytpmlehfnlodmbaa.eoiB
  rw [bad_eq]
  cases hb : badB n core id with
  | true => rfl
  | false =>
    obtain ⟨h1, h2, h3⟩ := bad_of hb
    obtain ⟨h4, h5⟩ := has_of h1
    obtain ⟨c, rfl⟩ : ∃ c : Nat, core = (c : Int) := ⟨core.toNat, by omega⟩
    obtain ⟨i, rfl⟩ : ∃ i : Nat, id = (i : Int) := ⟨id.toNat, by omega⟩
    have hc : c < n := by omega
    rw [Int.toNat_natCast, (pos_eq n c i).1, (pos_eq n c i).2]
    show (true && (X.of n c i).a && decide ((X.of n c i).own = c)) = (true && (idxF (P.wk c) i).isSome)
    rw [Bool.true_and, Bool.true_and, Bool.eq_iff_iff, idx_iff]
    simp only [Bool.and_eq_true, decide_eq_true_eq]
    constructor
    · rintro ⟨g1, g2⟩
      exact ⟨⟨(X.of n c i).was, i⟩, (H.wk c hc _).2 ⟨i, by omega, rfl, g1, g2, rfl⟩, rfl⟩
    · rintro ⟨t, g1, g2⟩
      obtain ⟨j, k1, k2, k3, k4, _⟩ := (H.wk c hc t).1 g1
      obtain rfl : j = i := by omega
      exact ⟨k3, k4⟩
theorem Lk.eoiE (core id : Int) : Doc.eoiE n core id = geoiE n core id := by
  unfold Doc.eoiE geoiE
  rw [bad_eq]
theorem Lk.eoi (H : Lk n P X) (core id : Int) : Lk n (geoiP n P core id) (Doc.eoiR X n core id) := by
  have hB := H.eoiB core id
  unfold Doc.eoiR geoiP
  rw [hB]
  unfold Go.Proofs.Ytpmlehfnlodmbaa.eoiB
  cases hb : badB n core id with
  | true => exact H
  | false =>
    obtain ⟨h1, h2, h3⟩ := bad_of hb
    obtain ⟨h4, h5⟩ := has_of h1
    obtain ⟨c, rfl⟩ : ∃ c : Nat, core = (c : Int) := ⟨core.toNat, by omega⟩
    obtain ⟨m, rfl⟩ : ∃ i : Nat, id = (i : Int) := ⟨id.toNat, by omega⟩
    have hc : c < n := by omega
    have hm : m < 64 := by omega
    rw [Int.toNat_natCast, if_neg (by decide)]
    cases hx : idxF (P.wk c) m with
    | none => exact H
    | some q =>
      obtain ⟨t, hq, htid⟩ := idx_in hx
      dsimp only
      rw [if_pos (by rfl), (pos_eq n c m).1, (pos_eq n c m).2]
      obtain ⟨hr, hk32⟩ := pos_le hc hm
      have hsrc := H.src _ _ hr hk32
      have hgp := get_put (X := X) (r := pr n c m) (k := pk m) (by rw [H.len _ hr]; exact hk32) { X.get (pr n c m) (pk m) with a := false, own := -1 }
      have hofp : ∀ (d i : Nat), (X.put (pr n c m) (pk m) { X.get (pr n c m) (pk m) with a := false, own := -1 }).of n d i = if pr n d i = pr n c m ∧ pk i = pk m then { X.get (pr n c m) (pk m) with a := false, own := -1 } else X.of n d i := fun d i => hgp (pr n d i) (pk i)
      have hmem : ∀ u, u ∈ (P.wk c).eraseIdx q ↔ u ∈ P.wk c ∧ u.id ≠ m := fun u => by
        rw [List.mem_eraseIdx_iff_getElem?]
        constructor
        · rintro ⟨j, hj, hju⟩
          exact ⟨List.mem_of_getElem? hju, fun e => hj (H.one hc hju hq (by omega))⟩
        · rintro ⟨hu, hne⟩
          obtain ⟨j, hj⟩ := List.mem_iff_getElem?.1 hu
          refine ⟨j, fun e => ?_, hj⟩
          subst e
          rw [hq] at hj
          cases hj
          exact hne htid
      have hown : (X.of n c m).own = c ∧ (X.of n c m).a = true := by
        obtain ⟨j, k1, k2, k3, k4, _⟩ := (H.wk c hc t).1 (List.mem_of_getElem? hq)
        obtain rfl : j = m := by omega
        exact ⟨k4, k3⟩
      refine ⟨fun i hi => ?_, H.limn, fun i j hi hj => ?_, fun j hj => ?_, fun i j hi hj => ?_, H.lim, fun d hd u => ?_, fun d hd => ?_, fun d hd u hu => ?_⟩
      · unfold Doc.Ref.put
        dsimp only
        split
        · rename_i e; subst e; rw [List.length_set]; exact H.len _ hi
        · exact H.len i hi
      · show SameS (if i = pr n c m ∧ j = pk m then _ else P.src i j) _
        rw [hgp]
        split
        · exact ⟨hsrc.e, hsrc.l, hsrc.h, rfl, hsrc.rank⟩
        · exact H.src i j hi hj
      · show (if n = pr n c m ∧ j = pk m then _ else P.src n j).goes = _
        rw [hgp]
        split
        · rename_i e
          have := H.goN j hj
          rw [e.1, e.2] at this
          exact this
        · exact H.goN j hj
      · show (if i = pr n c m ∧ j = pk m then _ else P.src i j).goes = 0
        split
        · rename_i e
          have := H.goO i j hi hj
          rw [e.1, e.2] at this
          exact this
        · exact H.goO i j hi hj
      · show u ∈ (if d = c then (P.wk c).eraseIdx q else P.wk d) ↔ _
        have key : ∀ i : Nat, ((X.put (pr n c m) (pk m) { X.get (pr n c m) (pk m) with a := false, own := -1 }).of n d i).a = true → ¬ (pr n d i = pr n c m ∧ pk i = pk m) := fun i h hne => by
          rw [hofp d i, if_pos hne] at h; cases h
        by_cases e : d = c
        · subst e
          rw [if_pos rfl, hmem u, H.wk d hd u]
          constructor
          · rintro ⟨⟨i, g1, g2, g3, g4, g5⟩, hne⟩
            have hne' : ¬ (pr n d i = pr n d m ∧ pk i = pk m) := fun h => hne (by rw [g2, pos_inj hd g1 hm h])
            exact ⟨i, g1, g2, by rw [hofp d i, if_neg hne']; exact g3, by rw [hofp d i, if_neg hne']; exact g4, by rw [hofp d i, if_neg hne']; exact g5⟩
          · rintro ⟨i, g1, g2, g3, g4, g5⟩
            have hne' := key i g3
            rw [hofp d i, if_neg hne'] at g3 g4 g5
            exact ⟨⟨i, g1, g2, g3, g4, g5⟩, fun h => hne' (by have e : i = m := (by omega); rw [e]; exact ⟨rfl, rfl⟩)⟩
        · rw [if_neg e, H.wk d hd u]
          constructor
          · rintro ⟨i, g1, g2, g3, g4, g5⟩
            have hne' : ¬ (pr n d i = pr n c m ∧ pk i = pk m) := fun h => by
              have e3 : X.of n d i = X.of n c m := by
                show X.get (pr n d i) (pk i) = X.get (pr n c m) (pk m)
                rw [h.1, h.2]
              rw [e3, hown.1] at g4; omega
            exact ⟨i, g1, g2, by rw [hofp d i, if_neg hne']; exact g3, by rw [hofp d i, if_neg hne']; exact g4, by rw [hofp d i, if_neg hne']; exact g5⟩
          · rintro ⟨i, g1, g2, g3, g4, g5⟩
            have hne' := key i g3
            rw [hofp d i, if_neg hne'] at g3 g4 g5
            exact ⟨i, g1, g2, g3, g4, g5⟩
      · show (if d = c then (P.wk c).eraseIdx q else P.wk d).Pairwise _
        by_cases e : d = c
        · subst e
          rw [if_pos rfl]
          exact (H.srt d hd).sublist (List.eraseIdx_sublist _ _)
        · rw [if_neg e]; exact H.srt d hd
      · have hu' : u ∈ (if d = c then (P.wk c).eraseIdx q else P.wk d) := hu
        by_cases e : d = c
        · subst e
          rw [if_pos rfl, hmem u] at hu'
          exact H.top d hd u hu'.1
        · rw [if_neg e] at hu'
          exact H.top d hd u hu'
theorem sendE_eq (t id : Int) : Doc.sendE n t id = if gsendE n t id then 1 else 0 := by
  unfold Doc.sendE gsendE
  by_cases h : id < 0 ∨ 15 < id ∨ t < 0 ∨ 2 ^ n ≤ t
  · rw [if_pos h, if_pos (by simp only [Bool.or_eq_true, decide_eq_true_eq]; omega)]
  · rw [if_neg h, if_neg (by simp only [Bool.or_eq_true, decide_eq_true_eq]; omega)]
theorem Lk.sendF (H : Lk n P X) (t : Int) {id : Nat} (hid : id < 16) : ∀ c, c ≤ n → Lk n (gsendF P t id c) (Doc.sendF X t id c)
  | 0, _ => H
  | c + 1, hc => by
    have ih := H.sendF t hid c (by omega)
    unfold gsendF Doc.sendF
    split
    · have hs := ih.src c id (by omega) (by omega)
      exact ih.set (by omega) (by omega) ⟨hs.e, rfl, hs.h, hs.a, hs.rank⟩ (fun h => by omega) (fun h => ih.goO c id h (by omega)) rfl rfl rfl
    · exact ih
theorem Lk.send (H : Lk n P X) (t id : Int) : Lk n (gsendP n P t id) (Doc.sendR X n t id) := by
  unfold gsendP Doc.sendR
  rw [sendE_eq]
  cases hE : gsendE n t id with
  | true => exact H
  | false =>
    have h16 : 0 ≤ id ∧ id < 16 := by
      simp only [gsendE, Bool.or_eq_false_iff, decide_eq_false_iff_not] at hE
      omega
    exact H.sendF t (by omega) n (Nat.le_refl _)
theorem setE0 (core id v : Int) (on : Bool) : Doc.setE n 0 core id v = if genableE n core id on then 1 else 0 := by
  unfold Doc.setE genableE
  rw [bad_eq]
  cases badB n core id <;> simp
theorem setE1 (core id v : Int) (on : Bool) : Doc.setE n 1 core id v = if gpendE n core id on then 1 else 0 := by
  unfold Doc.setE gpendE
  rw [bad_eq]
  cases badB n core id <;> simp
theorem setE2 (core id v : Int) (on : Bool) : Doc.setE n 2 core id v = if glineE n core id on then 1 else 0 := by
  unfold Doc.setE glineE
  rw [bad_eq]
  cases badB n core id <;> by_cases h : id < 16 <;> simp [h]
theorem setE3 (core id v : Int) : Doc.setE n 3 core id v = if grankE n core id v then 1 else 0 := by
  unfold Doc.setE grankE
  rw [bad_eq]
  cases badB n core id <;> by_cases h : v < 0 <;> by_cases h2 : 255 < v <;> simp [h, h2] <;> omega
theorem routeE_eq (id v : Int) : Doc.routeE n id v = if grouteE n id v then 1 else 0 := by
  unfold Doc.routeE grouteE
  rw [bad_eq]
  cases badB n v id <;> by_cases h : id < 32 <;> simp [h]
theorem maskE_eq (core v : Int) : Doc.maskE n core v = if gmaskE n core v then 1 else 0 := by
  unfold Doc.maskE gmaskE
  rw [bad_eq]
  have e0 : badB n core 0 = !hasB n core := by simp [badB]
  rw [e0]
  cases hasB n core <;> by_cases h : v < 0 <;> by_cases h2 : 255 < v <;> simp [h, h2] <;> omega
theorem Lk.mskP (H : Lk n P X) (core v : Int) : Lk n (gmaskP n P core v) (Doc.maskR X n core v) := by
  unfold gmaskP Doc.maskR
  rw [maskE_eq]
  cases hE : gmaskE n core v with
  | true => exact H
  | false =>
    have hh : hasB n core = true := by
      unfold gmaskE at hE
      cases h : hasB n core
      · rw [h] at hE; cases hE
      · rfl
    obtain ⟨h4, h5⟩ := has_of hh
    exact H.mask (by omega) v
theorem Lk.put (H : Lk n P X) {core id : Int} (hb : badB n core id = false) {s : Src} {x : Doc.In8} (hs : SameS s x) (hg : s.goes = (P.src (pr n core id) (pk id)).goes) (hg' : x.core = (X.get (pr n core id) (pk id)).core) (ha : x.a = (X.get (pr n core id) (pk id)).a) (ho : x.own = (X.get (pr n core id) (pk id)).own) (hw : x.was = (X.get (pr n core id) (pk id)).was) : Lk n (P.put (pr n core id) (pk id) s) (X.put (pr n core id) (pk id) x) := by
  refine H.set (pr_le hb) (pk_lt hb) hs (fun h => ?_) (fun h => ?_) ha ho hw
  · rw [hg, hg', h]; exact H.goN _ (pk_lt hb)
  · rw [hg]; exact H.goO _ _ h (pk_lt hb)
theorem Lk.en (H : Lk n P X) (core id v : Int) (on : Bool) : Lk n (genableP n P core id on) (Doc.setR X n 0 core id on v) := by
  unfold genableP Doc.setR
  rw [setE0 core id v on]
  cases hE : genableE n core id on with
  | true => exact H
  | false =>
    have hb : badB n core id = false := hE
    have hs := H.src _ _ (pr_le hb) (pk_lt hb)
    exact H.put hb (x := { X.get (pr n core id) (pk id) with e := on }) ⟨rfl, hs.l, hs.h, hs.a, hs.rank⟩ rfl rfl rfl rfl rfl
theorem Lk.pe (H : Lk n P X) (core id v : Int) (on : Bool) : Lk n (gpendP n P core id on) (Doc.setR X n 1 core id on v) := by
  unfold gpendP Doc.setR
  rw [setE1 core id v on]
  cases hE : gpendE n core id on with
  | true => exact H
  | false =>
    have hb : badB n core id = false := hE
    have hs := H.src _ _ (pr_le hb) (pk_lt hb)
    exact H.put hb (x := { X.get (pr n core id) (pk id) with l := on }) ⟨hs.e, rfl, hs.h, hs.a, hs.rank⟩ rfl rfl rfl rfl rfl
theorem Lk.li (H : Lk n P X) (core id v : Int) (on : Bool) : Lk n (glineP n P core id on) (Doc.setR X n 2 core id on v) := by
  unfold glineP Doc.setR
  rw [setE2 core id v on]
  cases hE : glineE n core id on with
  | true => exact H
  | false =>
    have hb : badB n core id = false := by
      unfold glineE at hE
      rw [Bool.or_eq_false_iff] at hE
      exact hE.2
    have hs := H.src _ _ (pr_le hb) (pk_lt hb)
    exact H.put hb (x := { X.get (pr n core id) (pk id) with h := on }) ⟨hs.e, hs.l, rfl, hs.a, hs.rank⟩ rfl rfl rfl rfl rfl
theorem Lk.ra (H : Lk n P X) (core id v : Int) (on : Bool) : Lk n (grankP n P core id v) (Doc.setR X n 3 core id on v) := by
  unfold grankP Doc.setR
  rw [setE3 core id v]
  cases hE : grankE n core id v with
  | true => exact H
  | false =>
    have hb : badB n core id = false := by
      unfold grankE at hE
      rw [Bool.or_eq_false_iff] at hE
      exact hE.2
    have hs := H.src _ _ (pr_le hb) (pk_lt hb)
    exact H.put hb (x := { X.get (pr n core id) (pk id) with rank := v }) ⟨hs.e, hs.l, hs.h, hs.a, rfl⟩ rfl rfl rfl rfl rfl
theorem Lk.ro (H : Lk n P X) (id v : Int) : Lk n (grouteP n P id v) (Doc.routeR X n id v) := by
  unfold grouteP Doc.routeR
  rw [routeE_eq]
  cases hE : grouteE n id v with
  | true => exact H
  | false =>
    unfold grouteE at hE
    rw [Bool.or_eq_false_iff, decide_eq_false_iff_not] at hE
    have hb : badB n v id = false := hE.2
    have e : pr n v id = n := by unfold pr; rw [if_pos (by omega)]
    have hs := H.src _ _ (pr_le hb) (pk_lt hb)
    rw [e] at hs ⊢
    exact H.set (Nat.le_refl _) (pk_lt hb) (x := { X.get n (pk id) with core := v }) ⟨hs.e, hs.l, hs.h, hs.a, hs.rank⟩ (fun _ => rfl) (fun h => by omega) rfl rfl rfl
end
theorem new_lk (n : Nat) : Lk n newP (Doc.newR n) := by
  have hget : ∀ r k, k < 32 → (Doc.newR n).get r k = Doc.z0 := fun r k hk => by
    show ((List.replicate 32 Doc.z0)[k]?).getD _ = _
    rw [List.getElem?_replicate, if_pos hk]; rfl
  refine ⟨fun r hr => by simp [Doc.newR], by simp [Doc.newR], fun r k hr hk => ?_, fun k hk => ?_, fun r k hr hk => rfl, fun c hc => ?_, fun c hc t => ?_, fun c hc => List.Pairwise.nil, fun c hc t ht => by cases ht⟩
  · rw [hget r k hk]; exact ⟨rfl, rfl, rfl, rfl, rfl⟩
  · rw [hget n k hk]; rfl
  · unfold Doc.limOf Doc.newR
    simp [List.getElem?_replicate, hc]
    rfl
  · constructor
    · intro h; cases h
    · rintro ⟨i, h1, h2, h3, _⟩
      unfold Doc.Ref.of at h3
      rw [(pos_eq n c i).1, (pos_eq n c i).2, hget _ _ (pos_le hc h1).2] at h3
      cases h3
end Go.Proofs.Ytpmlehfnlodmbaa
