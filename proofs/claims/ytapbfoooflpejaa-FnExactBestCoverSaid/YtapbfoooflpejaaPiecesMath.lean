/-
  Covers by a choice of a pattern for each place.
-/
import Derived.Test.YtapbfoooflpejaaCoverMath
namespace Go.Proofs.Ytapbfoooflpejaa.math
open Go.Proofs.Ytapbfoooflpejaa.walks

/-- The pieces of the open places, by the choice ch, in at most fu steps. -/
def goG (t : List Int) (f : Nat → Pv) (ch : Nat → Option Nat) : Nat → List Nat → Option (List (Nat × Nat))
  | _, [] => some []
  | 0, _ :: _ => none
  | fu + 1, a :: os => (ch a).bind fun k => (fitL t (f k).zs a).bind fun hs => (goG t f ch fu (hs ++ os)).map fun ps => (a, k) :: ps
theorem goG_nil (t : List Int) (f : Nat → Pv) (ch : Nat → Option Nat) (fu : Nat) : goG t f ch fu [] = some [] := by unfold goG; rfl
/-- The choice is of good patterns. -/
def ChB (ch : Nat → Option Nat) (n : Nat) : Prop := ∀ a k, ch a = some k → k < n
section
variable {t : List Int} {f : Nat → Pv} {ch : Nat → Option Nat} {n : Nat}
theorem open_app (hw : wholeB false t = true) (hg : GoodPs f n) (hc : ChB ch n) {a k : Nat} {os hs : List Nat} (ho : OpenB t (a :: os)) (hk : ch a = some k) (hf : fitL t (f k).zs a = some hs) : OpenB t (hs ++ os) ∧ szS t (hs ++ os) + 1 ≤ szS t (a :: os) := by
  have ha := ho a (by simp)
  obtain ⟨_, g1, g2, _⟩ := hg k (hc a k hk)
  have h1 := fit_less hw g2 ha g1 hf
  refine ⟨fun o h => ?_, by rw [szS_app, szS_cons]; omega⟩
  rcases List.mem_append.1 h with h | h
  · exact (fit_in hw g2 ha hf o h).2.2
  · exact ho o (by simp [h])
theorem goG_fuel (hw : wholeB false t = true) (hg : GoodPs f n) (hc : ChB ch n) : ∀ (fu fu' : Nat) (os : List Nat), OpenB t os → szS t os ≤ fu → szS t os ≤ fu' → goG t f ch fu os = goG t f ch fu' os
  | fu, fu', [], _, _, _ => by rw [goG_nil, goG_nil]
  | 0, fu', a :: os, ho, h, _ => by
    have := open_len hw _ ho
    simp at this
    omega
  | fu + 1, 0, a :: os, ho, _, h => by
    have := open_len hw _ ho
    simp at this
    omega
  | fu + 1, fu' + 1, a :: os, ho, h1, h2 => by
    simp only [goG]
    cases hk : ch a with
    | none => rfl
    | some k =>
      simp only [Option.bind_some]
      cases hf : fitL t (f k).zs a with
      | none => rfl
      | some hs =>
        simp only [Option.bind_some]
        obtain ⟨q1, q2⟩ := open_app hw hg hc ho hk hf
        rw [goG_fuel hw hg hc fu fu' (hs ++ os) q1 (by omega) (by omega)]
/-- The pieces of the open places, by the choice. -/
def pcs (t : List Int) (f : Nat → Pv) (ch : Nat → Option Nat) (os : List Nat) : Option (List (Nat × Nat)) := goG t f ch (szS t os) os
theorem pcs_nil : pcs t f ch [] = some [] := goG_nil _ _ _ _
theorem pcs_cons (hw : wholeB false t = true) (hg : GoodPs f n) (hc : ChB ch n) {a : Nat} {os : List Nat} (ho : OpenB t (a :: os)) : pcs t f ch (a :: os) = (ch a).bind fun k => (fitL t (f k).zs a).bind fun hs => (pcs t f ch (hs ++ os)).map fun ps => (a, k) :: ps := by
  have hl := open_len hw _ ho
  simp at hl
  unfold pcs
  rw [show szS t (a :: os) = szS t (a :: os) - 1 + 1 by omega]
  simp only [goG]
  cases hk : ch a with
  | none => rfl
  | some k =>
    simp only [Option.bind_some]
    cases hf : fitL t (f k).zs a with
    | none => rfl
    | some hs =>
      simp only [Option.bind_some]
      obtain ⟨q1, q2⟩ := open_app hw hg hc ho hk hf
      rw [goG_fuel hw hg hc (szS t (a :: os) - 1) (szS t (hs ++ os)) (hs ++ os) q1 (by omega) (Nat.le_refl _)]
theorem pcs_none (hw : wholeB false t = true) (hg : GoodPs f n) (hc : ChB ch n) {a : Nat} {os : List Nat} (ho : OpenB t (a :: os)) (h : ch a = none) : pcs t f ch (a :: os) = none := by rw [pcs_cons hw hg hc ho, h]; rfl
theorem pcs_some (hw : wholeB false t = true) (hg : GoodPs f n) (hc : ChB ch n) {a k : Nat} {os hs : List Nat} (ho : OpenB t (a :: os)) (h : ch a = some k) (hf : fitL t (f k).zs a = some hs) : pcs t f ch (a :: os) = (pcs t f ch (hs ++ os)).map fun ps => (a, k) :: ps := by rw [pcs_cons hw hg hc ho, h]; simp only [Option.bind_some]; rw [hf]; rfl
theorem pcs_nofit (hw : wholeB false t = true) (hg : GoodPs f n) (hc : ChB ch n) {a k : Nat} {os : List Nat} (ho : OpenB t (a :: os)) (h : ch a = some k) (hf : fitL t (f k).zs a = none) : pcs t f ch (a :: os) = none := by rw [pcs_cons hw hg hc ho, h]; simp only [Option.bind_some]; rw [hf]; rfl
/-- Some open places, and others behind them. -/
theorem pcs_app (hw : wholeB false t = true) (hg : GoodPs f n) (hc : ChB ch n) : ∀ (N : Nat) (hs os : List Nat), szS t hs ≤ N → OpenB t hs → OpenB t os → pcs t f ch (hs ++ os) = (pcs t f ch hs).bind fun ps => (pcs t f ch os).map (ps ++ ·)
  | N, [], os, _, _, _ => by rw [pcs_nil]; simp
  | 0, a :: hs, os, h, h1, _ => by
    have := open_len hw _ h1
    simp at this
    omega
  | N + 1, a :: hs, os, h, h1, h2 => by
    have ho : OpenB t (a :: (hs ++ os)) := fun o q => by
      simp at q
      rcases q with rfl | q | q
      · exact h1 _ (by simp)
      · exact h1 o (by simp [q])
      · exact h2 o q
    rw [List.cons_append, pcs_cons hw hg hc ho, pcs_cons hw hg hc h1]
    cases hk : ch a with
    | none => rfl
    | some k =>
      simp only [Option.bind_some]
      cases hf : fitL t (f k).zs a with
      | none => rfl
      | some h3 =>
        simp only [Option.bind_some]
        obtain ⟨q1, q2⟩ := open_app hw hg hc h1 hk hf
        rw [← List.append_assoc, pcs_app hw hg hc N (h3 ++ hs) os (by omega) q1 h2]
        cases pcs t f ch (h3 ++ hs) with
        | none => rfl
        | some ps =>
          simp only [Option.bind_some, Option.map_some]
          cases pcs t f ch os with
          | none => rfl
          | some qs => rfl
end
theorem goG_len (t : List Int) (f : Nat → Pv) (ch : Nat → Option Nat) : ∀ (fu : Nat) (os : List Nat) (ps : List (Nat × Nat)), goG t f ch fu os = some ps → ps.length ≤ fu
  | fu, [], ps, h => by rw [goG_nil] at h; cases h; simp
  | 0, a :: os, ps, h => by simp [goG] at h
  | fu + 1, a :: os, ps, h => by
    simp only [goG] at h
    cases hk : ch a with
    | none => rw [hk] at h; cases h
    | some k =>
      rw [hk] at h
      simp only [Option.bind_some] at h
      cases hf : fitL t (f k).zs a with
      | none => rw [hf] at h; cases h
      | some hs =>
        rw [hf] at h
        simp only [Option.bind_some] at h
        cases hq : goG t f ch fu (hs ++ os) with
        | none => rw [hq] at h; cases h
        | some qs =>
          rw [hq] at h
          simp at h
          subst h
          have := goG_len t f ch fu (hs ++ os) qs hq
          simp
          exact this
theorem pcs_len {t : List Int} {f : Nat → Pv} {ch : Nat → Option Nat} {os : List Nat} {ps : List (Nat × Nat)} (h : pcs t f ch os = some ps) : ps.length ≤ szS t os := goG_len _ _ _ _ _ _ h
/-- Pieces as cells. -/
def pcV (ps : List (Nat × Nat)) : List Go.Value := ps.flatMap fun p => [.int .i64 (p.1 : Int), .int .i64 (p.2 : Int)]
theorem pcV_app (a b : List (Nat × Nat)) : pcV (a ++ b) = pcV a ++ pcV b := by simp [pcV]
theorem pcV_one (a k : Nat) : pcV [(a, k)] = [.int .i64 (a : Int), .int .i64 (k : Int)] := by simp [pcV]
end Go.Proofs.Ytapbfoooflpejaa.math
