/- Values that lead to no memory (numbers, bools, strings, and structs and arrays of such): they read the same in every world. -/
import Derived.Test.YtjkjbcnafpljoaaRows
import Derived.ProofKit
import Derived.OpenShut
namespace Go.Proofs.Ytjkjbcnafpljoaa
open Go.ChangeShapes Go.WideShapes Go.ChangeAt Go.RowKit

def flatT (P : Program) : Nat → TypeId → Bool
  | 0, _ => true
  | n + 1, t => match P.underlying t with
    | some .bool | some (.int _) | some .string => true
    | some (.struct fs) => fs.toList.all fun f => flatT P n f.type
    | some (.array _ e) => flatT P n e
    | _ => false

theorem mapM_congr' {α β : Type} {f g : α → Option β} : ∀ {l : List α}, (∀ x ∈ l, f x = g x) → l.mapM f = l.mapM g
  | [], _ => rfl
  | x :: l, h => by rw [List.mapM_cons, List.mapM_cons, h x (by simp), mapM_congr' (fun y hy => h y (by simp [hy]))]

section
variable {H : Type} {enc : TypeId × Value → H} {P : Program}
theorem trod_flat {w w' : World} {b b' : Nat} {s s' : Nat → Bool} {h h' : Bool} : ∀ (fuel : Nat) (t : TypeId) (cs : List Value), flatT P fuel t = true →
    DataW.trod enc P w b s h fuel t cs = DataW.trod enc P w' b' s' h' fuel t cs
  | 0, _, _, _ => rfl
  | n + 1, t, cs, hf => by
    unfold flatT at hf
    unfold DataW.trod
    cases hu : P.underlying t with
    | none => rfl
    | some d =>
      rw [hu] at hf
      cases d with
      | bool => rcases cs with _ | ⟨v, _ | ⟨v2, rest⟩⟩ <;> (try cases v) <;> rfl
      | int k => rcases cs with _ | ⟨v, _ | ⟨v2, rest⟩⟩ <;> (try cases v) <;> rfl
      | string => rcases cs with _ | ⟨v, _ | ⟨v2, rest⟩⟩ <;> (try cases v) <;> rfl
      | struct fs =>
        simp only [List.all_eq_true] at hf
        dsimp only
        rw [mapM_congr' (fun f hm => trod_flat n f.type _ (hf f hm))]
      | array m e =>
        dsimp only at hf ⊢
        rw [mapM_congr' (fun i _ => trod_flat n e _ hf)]
      | _ => simp at hf
theorem trod_flat_nil {w : World} {b : Nat} {s : Nat → Bool} {h : Bool} : ∀ (fuel : Nat) (t : TypeId) (cs : List Value) (x : DataW H × List MemPlace), flatT P fuel t = true → DataW.trod enc P w b s h fuel t cs = some x → x.2 = []
  | 0, _, _, _, _, hx => by simp [DataW.trod] at hx
  | n + 1, t, cs, x, hf, hx => by
    unfold flatT at hf
    cases hu : P.underlying t with
    | none => unfold DataW.trod at hx; rw [hu] at hx; simp at hx
    | some d =>
      rw [hu] at hf
      cases d with
      | bool => obtain ⟨_, _, rfl⟩ := DataW.trod_bool hu hx; rfl
      | int k => obtain ⟨_, _, rfl, _⟩ := DataW.trod_int hu hx; rfl
      | string =>
        unfold DataW.trod at hx
        rw [hu] at hx
        split at hx <;> simp_all
        obtain ⟨_, rfl⟩ := hx; rfl
      | struct fs =>
        simp only [List.all_eq_true] at hf
        obtain ⟨xs, m, hm, rfl, -, hl, hq⟩ := DataW.trod_struct hu hx
        obtain rfl : n = m := by omega
        dsimp only
        rw [List.flatMap_eq_nil_iff]
        intro y hy
        obtain ⟨i, hi, rfl⟩ := List.mem_iff_getElem.1 hy
        have hi' : i < fs.size := by omega
        refine trod_flat_nil n fs[i].type _ _ (hf _ (by simp)) ((hq i fs[i] (by simp [hi'])).trans (by simp [hi]))
      | array m e =>
        obtain ⟨xs, k, hm, rfl, -, hl, hq⟩ := DataW.trod_array hu hx
        obtain rfl : n = k := by omega
        dsimp only at hf ⊢
        rw [List.flatMap_eq_nil_iff]
        intro y hy
        obtain ⟨i, hi, rfl⟩ := List.mem_iff_getElem.1 hy
        exact trod_flat_nil n e _ _ hf ((hq i (by omega)).trans (by simp [hi]))
      | _ => simp at hf
/-- What was read is read again, wherever. -/
theorem Trod_flat {w w' : World} {b b' : Nat} {s s' : Nat → Bool} {h h' : Bool} {t : TypeId} {v : Value} {d : DataW H} {p : List MemPlace} (hf : ∀ n, flatT P n t = true) (hx : DataW.Trod enc P w b s h t v d p) :
    p = [] ∧ DataW.Trod enc P w' b' s' h' t v d [] := by
  obtain ⟨fuel, hx⟩ := hx
  have := trod_flat_nil fuel t _ _ (hf fuel) hx
  simp only at this
  subst this
  exact ⟨rfl, fuel, (trod_flat fuel t _ (hf fuel)).symm.trans hx⟩
end

/-- What is left to show where no argument leads to memory: whatever blocks the call has laid, frozen or not, nothing that came in is met in them. -/
theorem post_flat {H : Type} {enc : TypeId × Value → H} {P : Program} {f : Func} {s : ChangeSpec} {apart fresh handsOn again : Bool} {W W' : World} {args : Array Value} {v : Value} {ds gs : List (DataW H)}
    (hW : DataW.Whole enc P f.params.toList s.vars apart W args.toList ds gs [])
    (hres : ∀ (b : Nat) (sp : Nat → Bool) (hd : Bool), DataW.TrodAll enc P W' b sp hd f.resultTypes.toList (v.resultList f.resultTypes.size) (s.fn H (ds ++ gs)).results [])
    (hargs : ∀ sp : Nat → Bool, DataW.TrodAll enc P W' 0 sp true f.params.toList args.toList (s.fn H (ds ++ gs)).args [])
    (hvars : ∀ sp : Nat → Bool, DataW.TrodVars enc P W' sp s.vars (s.fn H (ds ++ gs)).vars []) (hk : ∀ may, W.keptBut W' may)
    (hok : ∀ (j : Nat) (t : TypeId) (r : Value), f.resultTypes[j]? = some t → (v.resultList f.resultTypes.size)[j]? = some r → Value.okWide P W' .any 0 t r) :
    s.post enc P f apart fresh handsOn again W args v W' := by
  refine ⟨ds, gs, [], [], [], [], hW, hres _ _ _, hargs _, hvars _, hk _, fun _ => ?_⟩
  refine ⟨hok, _, _, ([] ++ []) ++ [], ⟨[] ++ [], [], trodAll_append (hargs _) (hres _ _ _), hvars _, rfl, ?_, ?_⟩, ?_⟩
  · intro b off hp; simp at hp
  · intro _; simp
  · intro p hp; simp at hp
end Go.Proofs.Ytjkjbcnafpljoaa
