/-
  What the program's tileOf, tilesOf and GoodPatterns answer; they make new memory alone.
-/
import Derived.Test.YtapbfoooflpejaaProg
import Derived.Test.YtapbfoooflpejaaMagMath
import Derived.Test.YtapbfoooflpejaaTreeMath
import Derived.Test.YtapbfoooflpejaaSizes
import Derived.Test.YtapbfoooflpejaaTreeSpec
import Derived.Test.YtapbfoooflpejaaPatSpec
import Derived.Test.YtapbfoooflpejaaInts
import Derived.Test.YtapbfoooflpejaaPats
import Derived.WalkKit
import Derived.WalkSpells
import Derived.Below
import Derived.Handy
import Derived.Deep.QuietTactic
import Derived.BigQuiet
import Derived.Deep.RegionHeld3
import Derived.Laws.EntriesVeiled
namespace Go.Proofs.Ytapbfoooflpejaa.walks
open Go.RowKit Go.Proofs.Ytapbfoooflpejaa.math Go.Proofs.Ytapbfoooflpejaa.ints
set_option linter.unusedVariables false
set_option maxRecDepth 100000

theorem impl_between (lo n hi : Int) (W : World) : Calls Try.prog 43 #[.int .i64 lo, .int .i64 n, .int .i64 hi] W fun e W' => e = .returned (.bool (inR n lo hi)) ∧ W' = W := by
  by_cases h0 : lo ≤ n
  rotate_left
  · have k0 : n < lo := by omega
    have d0 : decide (lo ≤ n) = false := decide_eq_false h0
    rw [inR_lt k0]
    clear h0
    go_enter Try.func43, Try.ntmps43
    go_wp2
    go_ret
    exact ⟨rfl, rfl⟩
  by_cases h1 : n ≤ hi
  rotate_left
  · have k1 : hi < n := by omega
    have d1 : decide (n ≤ hi) = false := decide_eq_false (by omega)
    rw [inR_gt k1]
    clear h1
    go_enter Try.func43, Try.ntmps43
    go_wp2
    go_ret
    exact ⟨rfl, rfl⟩
  rw [inR_mk h0 h1]
  have d1 : decide (n ≤ hi) = true := decide_eq_true (by omega)
  have d0 : decide (lo ≤ n) = true := decide_eq_true h0
  go_enter Try.func43, Try.ntmps43
  go_wp2
  go_ret
  exact ⟨rfl, rfl⟩
theorem between_quiet {n lo hi : Int} {b : Bool} (h : inR n lo hi = b) (W : World) : Calls Try.prog 43 #[.int .i64 lo, .int .i64 n, .int .i64 hi] W fun e W' => e = .returned (.bool b) ∧ W' = W := by
  have := impl_between lo n hi W
  rw [h] at this
  exact this
theorem impl_one (b : Bool) (W : World) : Calls Try.prog 52 #[.bool b] W fun e W' => e = .returned (.int .i64 (if b then 1 else 0)) ∧ W' = W := by
  cases b
  all_goals
    go_enter Try.func52, Try.ntmps52
    go_wp2
    go_ret
    exact ⟨rfl, rfl⟩
theorem impl_one0 (W : World) : Calls Try.prog 52 #[.bool false] W fun e W' => e = .returned (.int .i64 0) ∧ W' = W := impl_one false W
theorem impl_one1 (W : World) : Calls Try.prog 52 #[.bool true] W fun e W' => e = .returned (.int .i64 1) ∧ W' = W := impl_one true W
theorem impl_shape (a : Option Addr) (len cap : Nat) (W : World) : Calls Try.prog 53 #[.slice a len cap] W fun e W' => e = .returned (.func (.func 54) #[] #[.pointer (some ⟨W.heap.size, 0, none⟩)]) ∧ W' = W.alloc (.cells #[.slice a len cap] 22) := by
  go_enter Try.func53, Try.ntmps53
  go_wp2
  go_ret
  exact ⟨rfl, rfl⟩
/-- How many of the first k kinds are told. -/
def namedTo (zs : List Int) : Nat → Nat
  | 0 => 0
  | k + 1 => namedTo zs k + (if zs.getD k 0 = 0 then 0 else 1)
theorem named_le (zs : List Int) : ∀ k, namedTo zs k ≤ k
  | 0 => Nat.le_refl _
  | k + 1 => by have := named_le zs k; simp only [namedTo]; split <;> omega
/-- What a call of tileOf answers. -/
def TileAns (ca : Option Addr) (cc : Nat) (zs : List Int) (t : Int) (W : World) (e : Ending) (W' : World) : Prop := ∃ x y z, e = .returned (.tuple #[.agg #[x, .int .i64 y, .int .i64 z], .bool (patB zs t)]) ∧ (patB zs t = true → y = t ∧ z = (namedTo zs zs.length : Int) ∧ ∃ g, x = .func (.func 54) #[] #[.pointer (some ⟨g, 0, none⟩)] ∧ W.heap.size ≤ g ∧ W'.rowIs g 22 1 (fun _ => .slice ca zs.length cc)) ∧ (patB zs t = false → x = .nilFunc ∧ y = 0 ∧ z = 0) ∧ Below W.heap.size W W'
set_option maxHeartbeats 2000000 in
theorem impl_tile (ca : Option Addr) (len cc : Nat) (t : Int) (zs : List Int) (W : World) (hz : Hid (zs.length = len)) (hlen : len ≤ 1048576) (h : Hid (Ints W ca zs)) (hab : Hid (∀ b o, ca = some ⟨b, o, none⟩ → 0 < len → b < W.heap.size)) :
    Calls Try.prog 47 #[.agg #[.slice ca len cc, .int .i64 t]] W fun e W' => TileAns ca cc zs t W e W' := by
  by_cases h10 : 10 < len
  · have HE : Hid (patB zs t = false) := pat_false_len (by rw [hz.out]; exact Or.inr h10)
    have h10I : (10 : Int) < (len : Int) := by omega
    have d0 : decide ((len : Int) > 10) = true := decide_eq_true (by omega)
    go_enter Try.func47, Try.ntmps47
    go_wp2_with fail
    exact bodyPost_ret (v := .tuple #[.agg #[.nilFunc, .int .i64 0, .int .i64 0], .bool false]) (by simp only [results, Try.results47]; go_simp) rfl ⟨_, _, _, by rw [HE.out], fun q => (by rw [HE.out] at q; cases q), fun _ => ⟨rfl, rfl, rfl⟩, by repeat (first | exact Below.refl _ _ | refine Below.drew ?_ | refine Below.setCell ?_ (by simp; try omega) _ | refine Below.alloc ?_ (by simp; try omega) _)⟩
  have h10I : (len : Int) ≤ 10 := by omega
  have h10N : len ≤ 10 := by omega
  clear h10
  have d0 : decide ((len : Int) > 10) = false := decide_eq_false (by omega)
  cases hcst : inR t 1 100
  · have HE : Hid (patB zs t = false) := pat_false_cost hcst
    go_enter Try.func47, Try.ntmps47
    go_wp2_with (go_at_call 43; refine (between_quiet hcst _).mono ?_; rintro e w' ⟨rfl, hw⟩; rw [hw]; clear hw w')
    exact bodyPost_ret (v := .tuple #[.agg #[.nilFunc, .int .i64 0, .int .i64 0], .bool false]) (by simp only [results, Try.results47]; go_simp) rfl ⟨_, _, _, by rw [HE.out], fun q => (by rw [HE.out] at q; cases q), fun _ => ⟨rfl, rfl, rfl⟩, by repeat (first | exact Below.refl _ _ | refine Below.drew ?_ | refine Below.setCell ?_ (by simp; try omega) _ | refine Below.alloc ?_ (by simp; try omega) _)⟩
  go_enter Try.func47, Try.ntmps47
  go_wp2_with (first
    | (go_at_call 43; refine (between_quiet hcst _).mono ?_; rintro e w' ⟨rfl, hw⟩; rw [hw]; clear hw w')
    | fail)
  obtain ⟨X, hX⟩ : ∃ X, Hid ((W.alloc (.cells #[.slice ca len cc, .int .i64 t] 50)).alloc (.cells #[.nilFunc, .int .i64 0, .int .i64 0] 86) = X) := ⟨_, rfl⟩
  have HX : Hid (Below W.heap.size W X) := by show Below _ _ _; rw [← hX.out]; repeat (first | exact Below.refl _ _ | refine Below.drew ?_ | refine Below.setCell ?_ (by simp; try omega) _ | refine Below.alloc ?_ (by simp; try omega) _)
  have hXs : X.heap.size = W.heap.size + 1 + 1 := by rw [← hX.out]; simp
  have p0 : X.cell? ⟨W.heap.size, 0, none⟩ = some (.slice ca len cc) := by rw [← hX.out]; go_simp
  have p1 : X.cell? ⟨W.heap.size, 1, none⟩ = some (.int .i64 t) := by rw [← hX.out]; go_simp
  have r0 : X.rowIs (W.heap.size + 1) 86 3 (fun i => if i = 0 then .nilFunc else .int .i64 0) := by
    rw [← hX.out]
    have := World.rowIs_alloc (W.alloc (.cells #[.slice ca len cc, .int .i64 t] 50)) #[.nilFunc, .int .i64 0, .int .i64 0] 86 (fun i => if i = 0 then .nilFunc else .int .i64 0) (fun i hi => by
      simp at hi
      rcases (show i = 0 ∨ i = 1 ∨ i = 2 by omega) with rfl | rfl | rfl <;> rfl)
    simpa using this
  rw [hX.out]
  refine (impl_sizes1 _ _ _ zs _ hz hlen (h.out.kept HX.out) (fun b o e h0 => by have := hab.out b o e h0; omega)).mono ?_
  rintro e w1 ⟨v, rfl, ⟨va, vl, vc, rfl⟩, _, hB⟩
  have hs1 := hB.size
  have hl : W.heap.size + 1 < w1.heap.size := by omega
  have hl0 : W.heap.size < w1.heap.size := by omega
  have p0 := (hB.cell (p := ⟨W.heap.size, 0, none⟩) (by show W.heap.size < _; omega)).trans p0
  have p1 := (hB.cell (p := ⟨W.heap.size, 1, none⟩) (by show W.heap.size < _; omega)).trans p1
  have R0 : Hid (w1.rowIs (W.heap.size + 1) 86 3 (fun i => if i = 0 then .nilFunc else .int .i64 0)) := r0.of_block (hB.block _ (by omega))
  have HB : Hid (Below W.heap.size W w1) := HX.out.trans (hB.mono (by omega))
  have HI : Hid (Ints w1 ca zs) := h.out.kept HB.out
  have c0 : w1.cell? ⟨W.heap.size + 1, 0, none⟩ = some .nilFunc := by simpa using R0.out.cell (i := 0) (by omega)
  have c1 : w1.cell? ⟨W.heap.size + 1, 1, none⟩ = some (.int .i64 0) := by simpa using R0.out.cell (i := 1) (by omega)
  have c2 : w1.cell? ⟨W.heap.size + 1, 2, none⟩ = some (.int .i64 0) := by simpa using R0.out.cell (i := 2) (by omega)
  have z0 := R0.out.frozen 0
  have z1 := R0.out.frozen 1
  have z2 := R0.out.frozen 2
  clear r0 hB hX
  cases hw : wholeB true zs
  · have HE : Hid (patB zs t = false) := pat_false_whole hw
    go_wp2_with fail
    exact bodyPost_ret (v := .tuple #[.agg #[.nilFunc, .int .i64 0, .int .i64 0], .bool false]) (by simp only [results, Try.results47]; go_simp) rfl ⟨_, _, _, by rw [HE.out], fun q => (by rw [HE.out] at q; cases q), fun _ => ⟨rfl, rfl, rfl⟩, by first | exact HB.out | exact ((HB.out.setCell (by show W.heap.size ≤ W.heap.size + 1; omega) _).setCell (by show W.heap.size ≤ W.heap.size + 1; omega) _).setCell (by show W.heap.size ≤ W.heap.size + 1; omega) _⟩
  have hl0' : 0 < len := by have := (whole_iff.1 hw).1; have := hz.out; omega
  have hl0I : 0 < (len : Int) := by omega
  obtain ⟨b, off, ha, hc⟩ := HI.out.at (Below.refl _ _) (k := 0) (by rw [hz.out]; omega)
  subst ha
  obtain ⟨k, hk⟩ : ∃ k, Hid (zs.getD 0 0 = k) := ⟨_, rfl⟩
  rw [hk.out, Nat.add_zero] at hc
  by_cases k0 : k = 0
  · have HE : Hid (patB zs t = false) := pat_false_any (by rw [hk.out]; exact k0)
    subst k0
    go_wp2_with fail
    exact bodyPost_ret (v := .tuple #[.agg #[.nilFunc, .int .i64 0, .int .i64 0], .bool false]) (by simp only [results, Try.results47]; go_simp) rfl ⟨_, _, _, by rw [HE.out], fun q => (by rw [HE.out] at q; cases q), fun _ => ⟨rfl, rfl, rfl⟩, by first | exact HB.out | exact ((HB.out.setCell (by show W.heap.size ≤ W.heap.size + 1; omega) _).setCell (by show W.heap.size ≤ W.heap.size + 1; omega) _).setCell (by show W.heap.size ≤ W.heap.size + 1; omega) _⟩
  have e0 : (k == 0) = false := by simpa using k0
  have e0' : decide (k = 0) = false := decide_eq_false k0
  have HE : Hid (patB zs t = true) := pat_true (by rw [hz.out]; omega) (by rw [hk.out]; exact k0) hw hcst
  go_wp2_with fail
  go_loop [6, 39] (fun vn vi => ∃ j : Nat, j ≤ len ∧ vi = .int .i64 (j : Int) ∧ vn = .int .i64 (namedTo zs j : Int)) (fun _ vi => len - (intOf vi).toNat)
  case atStart => exact ⟨0, Nat.zero_le _, rfl, rfl⟩
  case round =>
    obtain ⟨j, hj, rfl, rfl⟩ := hrel
    have hnj := named_le zs j
    by_cases hlt : j < len
    · obtain ⟨b', off', ha, hcj⟩ := HI.out.at (Below.refl _ _) (k := j) (by rw [hz.out]; omega)
      obtain ⟨rfl, rfl⟩ : b = b' ∧ off = off' := by simpa using ha
      obtain ⟨kj, hkj⟩ : ∃ kj, Hid (zs.getD j 0 = kj) := ⟨_, rfl⟩
      rw [hkj.out] at hcj
      obtain ⟨nj, hnn⟩ : ∃ nj, Hid (namedTo zs j = nj) := ⟨_, rfl⟩
      rw [hnn.out] at hnj ⊢
      have hltI : (j : Int) < (len : Int) := by omega
      by_cases q0 : kj = 0
      · have HN : Hid (namedTo zs (j + 1) = nj) := by show _ = _; simp only [namedTo]; rw [hkj.out, if_pos q0, hnn.out, Nat.add_zero]
        subst q0
        go_wp2_with (go_at_call 52; refine (impl_one0 _).mono ?_; rintro e w' ⟨rfl, hw⟩; rw [hw]; clear hw w')
        go_round
        case rel => exact ⟨j + 1, by omega, by go_num, by rw [HN.out]⟩
        case measure => simp [intOf]; omega
      · have HN : Hid (namedTo zs (j + 1) = nj + 1) := by show _ = _; simp only [namedTo]; rw [hkj.out, if_neg q0, hnn.out]
        have q1 : (kj != 0) = true := by simpa using q0
        have q2 : (kj == 0) = false := by simpa using q0
        go_wp2_with (go_at_call 52; refine (impl_one1 _).mono ?_; rintro e w' ⟨rfl, hw⟩; rw [hw]; clear hw w')
        go_round
        case rel => exact ⟨j + 1, by omega, by go_num, by rw [HN.out]; go_num⟩
        case measure => simp [intOf]; omega
    · have HJ : Hid (j = zs.length) := by show _ = _; rw [hz.out]; omega
      obtain ⟨nj, hnn⟩ : ∃ nj, Hid (namedTo zs j = nj) := ⟨_, rfl⟩
      rw [hnn.out]
      go_wp2_with fail
      clear hc hnj hcst hw e0 e0' k0 hlt hl0I hl0' d0 h10I h10N hj hs1 hlen
      go_region_held3 (fun w' => w'.cell? ⟨W.heap.size, 0, none⟩ = some (.slice (some ⟨b, off, none⟩) len cc) ∧ w'.cell? ⟨W.heap.size, 1, none⟩ = some (.int .i64 t)) (first | assumption | go_keep | (refine ⟨?_, ?_⟩ <;> go_simp)) (first | (go_at_call 53; refine (impl_shape _ _ _ _).mono ?_; rintro e w' ⟨rfl, hw⟩; rw [hw]; clear hw w'))
      go_wp2
      refine bodyPost_ret (v := .tuple #[.agg #[.func (.func 54) #[] #[.pointer (some ⟨w1.heap.size, 0, none⟩)], .int .i64 t, .int .i64 (nj : Int)], .bool true]) (by simp only [results, Try.results47]; go_simp) rfl ⟨_, _, _, by rw [HE.out], fun _ => ⟨rfl, by rw [← HJ.out, hnn.out], w1.heap.size, rfl, by have := HB.out.size; omega, ?_⟩, fun q => (by rw [HE.out] at q; cases q), ?_⟩
      · have q := World.rowIs_alloc (((w1.setCell ⟨W.heap.size + 1, 0, none⟩ (.func (.func 54) #[] #[.pointer (some ⟨w1.heap.size, 0, none⟩)])).setCell ⟨W.heap.size + 1, 1, none⟩ (.int .i64 t)).setCell ⟨W.heap.size + 1, 2, none⟩ (.int .i64 (nj : Int))) #[.slice (some ⟨b, off, none⟩) len cc] 22 (fun _ => .slice (some ⟨b, off, none⟩) len cc) (fun i hi => by simp at hi; subst hi; rfl)
        rw [show (((w1.setCell ⟨W.heap.size + 1, 0, none⟩ (.func (.func 54) #[] #[.pointer (some ⟨w1.heap.size, 0, none⟩)])).setCell ⟨W.heap.size + 1, 1, none⟩ (.int .i64 t)).setCell ⟨W.heap.size + 1, 2, none⟩ (.int .i64 (nj : Int))).heap.size = w1.heap.size by simp [World.setCell]] at q
        rw [hz.out]
        exact q
      · have q := ((HB.out.setCell (by show W.heap.size ≤ W.heap.size + 1; omega) (.func (.func 54) #[] #[.pointer (some ⟨w1.heap.size, 0, none⟩)]) (p := ⟨W.heap.size + 1, 0, none⟩)).setCell (by show W.heap.size ≤ W.heap.size + 1; omega) (.int .i64 t) (p := ⟨W.heap.size + 1, 1, none⟩)).setCell (by show W.heap.size ≤ W.heap.size + 1; omega) (.int .i64 (nj : Int)) (p := ⟨W.heap.size + 1, 2, none⟩)
        exact (q.alloc q.size _).drew
end Go.Proofs.Ytapbfoooflpejaa.walks
