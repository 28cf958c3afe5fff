/-
  How many kinds the tree at each place has, told from the back: what one round makes of the sizes behind it, and that all rounds make the sizes that trees have.
-/
import Derived.Test.YtapbfoooflpejaaTreeMath
import Derived.Test.YtapbfoooflpejaaBackInts
namespace Go.Proofs.Ytapbfoooflpejaa.math
open Go.Proofs.Ytapbfoooflpejaa.walks

/-- m trees from a place on, by the sizes s. -/
def goZ (s : Nat → Nat) (len : Nat) : Nat → Nat → Option Nat
  | 0, e => some e
  | m + 1, e => if e = len then none else goZ s len m (e + s e)
def updZ (s : Nat → Nat) (x v : Nat) : Nat → Nat := fun i => if i = x then v else s i
theorem updZ_same (s : Nat → Nat) (x v : Nat) : updZ s x v x = v := if_pos rfl
theorem updZ_other (s : Nat → Nat) {x i : Nat} (v : Nat) (h : i ≠ x) : updZ s x v i = s i := if_neg h
/-- One round. -/
def stepZ (any : Bool) (zs : List Int) (s : Nat → Nat) (x : Nat) : Option (Nat → Nat) := (arK any (zs.getD x 0)).bind fun m => (goZ s zs.length m (x + 1)).map fun e => updZ s x (e - x)
def foldZ (any : Bool) (zs : List Int) {len : Nat} (pre : List (Fin len)) : Option (Nat → Nat) := pre.foldl (fun o x => o.bind fun s => stepZ any zs s x.val) (some fun _ => 0)
theorem fold_snoc (any : Bool) (zs : List Int) {len : Nat} (pre : List (Fin len)) (x : Fin len) : foldZ any zs (pre ++ [x]) = (foldZ any zs pre).bind fun s => stepZ any zs s x.val := by simp [foldZ]
theorem fold_snoc_some {any : Bool} {zs : List Int} {len : Nat} {pre : List (Fin len)} {s : Nat → Nat} (h : foldZ any zs pre = some s) (x : Fin len) : foldZ any zs (pre ++ [x]) = stepZ any zs s x.val := by rw [fold_snoc, h]; rfl
/-- No size leads beyond the end. -/
def InZ (len : Nat) (s : Nat → Nat) : Prop := ∀ i, i < len → i + s i ≤ len
theorem go_le {s : Nat → Nat} {len : Nat} (h : InZ len s) : ∀ (m e e' : Nat), e ≤ len → goZ s len m e = some e' → e ≤ e' ∧ e' ≤ len
  | 0, e, e', he, q => by simp [goZ] at q; omega
  | m + 1, e, e', he, q => by
    unfold goZ at q
    split at q
    · cases q
    · have := go_le h m (e + s e) e' (h e (by omega)) q
      omega
theorem go_eq {any : Bool} {zs : List Int} {s : Nat → Nat} {x : Nat} (hs : ∀ i, x ≤ i → i < zs.length → skipL any (zs.drop i) 1 = some (s i)) : ∀ (m e : Nat), x ≤ e → e ≤ zs.length → goZ s zs.length m e = (skipL any (zs.drop e) m).map (· + e)
  | 0, e, _, _ => by simp [goZ, skip_zero]
  | m + 1, e, hx, he => by
    unfold goZ
    by_cases q : e = zs.length
    · rw [if_pos q, q, List.drop_length, skip_nil]; rfl
    · rw [if_neg q]
      have h1 := hs e hx (by omega)
      have h2 := (skip_le _ _ _ _ h1).1
      simp at h2
      rw [go_eq hs m (e + s e) (by omega) (by omega), Nat.add_comm m 1, skip_add, h1]
      simp only [Option.bind_some, List.drop_drop]
      cases skipL any (zs.drop (e + s e)) m with
      | none => rfl
      | some y => simp; omega
theorem fold_all (any : Bool) (zs : List Int) : ∀ c, c ≤ zs.length → (∃ s, foldZ any zs (downTo zs.length c) = some s ∧ ∀ i, zs.length - c ≤ i → i < zs.length → skipL any (zs.drop i) 1 = some (s i)) ∨ (foldZ any zs (downTo zs.length c) = none ∧ ∃ i, i < zs.length ∧ skipL any (zs.drop i) 1 = none)
  | 0, _ => Or.inl ⟨_, rfl, fun i h1 h2 => by omega⟩
  | c + 1, hc => by
    have e := downTo_next (len := zs.length) (q := zs.length - (c + 1)) (by omega)
    rw [show zs.length - (zs.length - (c + 1)) = c + 1 by omega, show zs.length - (zs.length - (c + 1) + 1) = c by omega] at e
    rw [e]
    have hx : zs.length - (c + 1) < zs.length := by omega
    rcases fold_all any zs c (by omega) with ⟨s, hs, hi⟩ | ⟨hn, hi⟩
    · rw [fold_snoc_some hs]
      have hd := drop_at hx
      show _ ∨ _
      unfold stepZ
      cases hA : arK any (zs.getD (zs.length - (c + 1)) 0) with
      | none => exact Or.inr ⟨rfl, _, hx, by rw [hd, skip_cons_none hA]⟩
      | some m =>
        have hg := go_eq (x := zs.length - (c + 1) + 1) (fun i h1 h2 => hi i (by omega) h2) m (zs.length - (c + 1) + 1) (Nat.le_refl _) (by omega)
        have hk : skipL any (zs.drop (zs.length - (c + 1))) 1 = (skipL any (zs.drop (zs.length - (c + 1) + 1)) m).map (· + 1) := by rw [hd, skip_cons_some (n := 0) hA, Nat.zero_add]
        simp only [Option.bind_some]
        rw [hg]
        cases hm : skipL any (zs.drop (zs.length - (c + 1) + 1)) m with
        | none => rw [hm] at hk; exact Or.inr ⟨rfl, _, hx, hk⟩
        | some y =>
          rw [hm] at hk
          refine Or.inl ⟨updZ s (zs.length - (c + 1)) (y + (zs.length - (c + 1) + 1) - (zs.length - (c + 1))), rfl, fun i h1 h2 => ?_⟩
          by_cases q : i = zs.length - (c + 1)
          · subst q
            rw [hk, updZ_same]
            simp
            omega
          · rw [updZ_other _ _ q]
            exact hi i (by omega) h2
    · exact Or.inr ⟨by rw [fold_snoc, hn]; rfl, hi⟩
theorem fold_done {any : Bool} {zs : List Int} {s : Nat → Nat} (h : foldZ any zs (downTo zs.length zs.length) = some s) (i : Nat) (hi : i < zs.length) : skipL any (zs.drop i) 1 = some (s i) ∧ s i = szT any zs i := by
  rcases fold_all any zs zs.length (Nat.le_refl _) with ⟨s', hs', hh⟩ | ⟨hn, _⟩
  · rw [h] at hs'
    cases hs'
    have := hh i (by omega) hi
    exact ⟨this, by unfold szT; rw [this]; rfl⟩
  · rw [h] at hn; cases hn
theorem fold_stop {any : Bool} {zs : List Int} {c : Nat} (hc : c ≤ zs.length) (h : foldZ any zs (downTo zs.length c) = none) : wholeB any zs = false := by
  rcases fold_all any zs c hc with ⟨s', hs', _⟩ | ⟨_, i, hi, hn⟩
  · rw [h] at hs'; cases hs'
  · exact whole_no hi hn
end Go.Proofs.Ytapbfoooflpejaa.math
