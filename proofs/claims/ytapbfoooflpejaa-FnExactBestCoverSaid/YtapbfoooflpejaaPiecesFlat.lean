/-
  Pieces as one flat list of ints.
-/
import Derived.Test.YtapbfoooflpejaaProg
import Derived.Test.YtapbfoooflpejaaPiecesSpec
import Derived.Test.YtapbfoooflpejaaCoverCost
import Derived.Test.YtapbfoooflpejaaCoverBy
namespace Go.Proofs.Ytapbfoooflpejaa.walks
open Go.RowKit Go.Proofs.Ytapbfoooflpejaa.math Go.Proofs.Ytapbfoooflpejaa.ints
set_option linter.unusedVariables false

/-- Pieces, flat. -/
def flZ : List (Nat × Nat) → List Int
  | [] => []
  | p :: ps => (p.1 : Int) :: (p.2 : Int) :: flZ ps
theorem flZ_len : ∀ ps, (flZ ps).length = ps.length * 2
  | [] => rfl
  | p :: ps => by simp only [flZ, List.length_cons, flZ_len ps]; omega
theorem flZ_map : ∀ ps, (flZ ps).map (Value.int .i64) = pcV ps
  | [] => rfl
  | p :: ps => by
    have := flZ_map ps
    unfold pcV at this ⊢
    simp only [flZ, List.map_cons, List.flatMap_cons, this]
    rfl
theorem flZ_at : ∀ (ps : List (Nat × Nat)) (i : Nat) (h : i < ps.length), (flZ ps).getD (i * 2 + 1) 0 = ((ps[i]).2 : Int)
  | [], i, h => by simp at h
  | p :: ps, 0, h => by simp [flZ, List.getD]
  | p :: ps, i + 1, h => by
    have := flZ_at ps i (by simpa using h)
    rw [show (i + 1) * 2 + 1 = (i * 2 + 1) + 1 + 1 by omega]
    simp only [flZ, List.getD_cons_succ, List.getElem_cons_succ]
    exact this
theorem costTo_take (f : Nat → Pv) (ps : List (Nat × Nat)) : ∀ i, i ≤ ps.length → costTo f (flZ ps) i = costP f (ps.take i)
  | 0, _ => by simp [costTo, costP]
  | i + 1, h => by
    have e := costTo_take f ps i (by omega)
    have e2 := flZ_at ps i (by omega)
    have e3 : ps.take (i + 1) = ps.take i ++ [((ps[i]).1, (ps[i]).2)] := by rw [List.take_succ_eq_append_getElem (by omega)]
    rw [e3, costP_snoc, ← e]
    show costTo f (flZ ps) i + _ = _
    rw [e2]
    rfl
theorem costTo_all (f : Nat → Pv) (ps : List (Nat × Nat)) : costTo f (flZ ps) ps.length = costP f ps := by
  rw [costTo_take f ps _ (Nat.le_refl _), List.take_length]
theorem goG_in {t : List Int} {f : Nat → Pv} {ch : Nat → Option Nat} {n : Nat} (hc : ChB ch n) : ∀ (fu : Nat) (os : List Nat) (ps : List (Nat × Nat)), goG t f ch fu os = some ps → ∀ p ∈ ps, p.2 < n
  | fu, [], ps, h => by rw [goG_nil] at h; cases h; simp
  | 0, a :: os, ps, h => by simp [goG] at h
  | fu + 1, a :: os, ps, h => by
    simp only [goG] at h
    cases hk : ch a with
    | none => rw [hk] at h; cases h
    | some k =>
      rw [hk] at h
      simp only [Option.bind_some] at h
      cases hf : fitL t (f k).zs a with
      | none => rw [hf] at h; cases h
      | some hs =>
        rw [hf] at h
        simp only [Option.bind_some] at h
        cases hq : goG t f ch fu (hs ++ os) with
        | none => rw [hq] at h; cases h
        | some qs =>
          rw [hq] at h
          simp at h
          subst h
          intro p hp
          simp at hp
          rcases hp with rfl | hp
          · exact hc a k hk
          · exact goG_in hc fu (hs ++ os) qs hq p hp
theorem pcs_in {t : List Int} {f : Nat → Pv} {ch : Nat → Option Nat} {n : Nat} (hc : ChB ch n) {os : List Nat} {ps : List (Nat × Nat)} (h : pcs t f ch os = some ps) : ∀ j, j < ps.length → 0 ≤ (flZ ps).getD (j * 2 + 1) 0 ∧ (flZ ps).getD (j * 2 + 1) 0 < (n : Int) := fun j hj => by
  rw [flZ_at ps j hj]
  have := goG_in hc _ _ _ h ps[j] (List.getElem_mem hj)
  exact ⟨by omega, by omega⟩
theorem OwnQ.mine {w : World} {B : Nat} {v : Value} {ps : List (Nat × Nat)} (h : OwnQ w B v ps) : ∃ a cap, v = .slice a ps.length cap ∧ ps.length ≤ cap ∧ Mine w B a (flZ ps) := by
  have h0 : World.ownsRow w B 67 2 v ps.length (pcV ps) := h
  rcases h0.2 with ⟨rfl, hn⟩ | ⟨g, cap, cur, rfl, hg, hw, hlc, _, _, hcur⟩
  · exact ⟨none, 0, by rw [hn], by omega, Or.inl (List.eq_nil_of_length_eq_zero (by rw [flZ_len]; omega))⟩
  · refine ⟨some ⟨g, 0, none⟩, cap, rfl, hlc, Or.inr ⟨g, 0, rfl, hg, (h0.lt g rfl).2, fun i hi => ⟨?_, ?_⟩⟩⟩
    · have := h0.cellAt i (by rw [← flZ_len]; exact hi)
      simp only [Nat.zero_add]
      rw [this, ← flZ_map]
      simp [List.getD, List.getElem?_eq_getElem hi]
    · have := h0.frozenAt i
      simpa using this
end Go.Proofs.Ytapbfoooflpejaa.walks
