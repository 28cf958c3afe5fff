/-
  What the program's RunLined answers.
-/
import Derived.Test.YtlocdlgbjjbnoaaProg
import Derived.Test.YtlocdlgbjjbnoaaMagMath
import Derived.Test.YtlocdlgbjjbnoaaInts
import Derived.Test.YtlocdlgbjjbnoaaOwnInts
import Derived.Test.YtlocdlgbjjbnoaaDeep
import Derived.Test.YtlocdlgbjjbnoaaDeepRow
import Derived.Test.YtlocdlgbjjbnoaaOwnMath
import Derived.Test.YtlocdlgbjjbnoaaLineMath
import Derived.Test.YtlocdlgbjjbnoaaLineStep
import Derived.Test.YtlocdlgbjjbnoaaLineGd
import Derived.Test.YtlocdlgbjjbnoaaLineGood
import Derived.Test.YtlocdlgbjjbnoaaLineGuard
import Derived.Test.YtlocdlgbjjbnoaaRunLMath16
import Derived.Test.YtlocdlgbjjbnoaaRunLSpec16
import Derived.Test.YtlocdlgbjjbnoaaRunLImpl16
import Derived.Test.YtlocdlgbjjbnoaaRunLDo16
import Derived.Test.YtlocdlgbjjbnoaaRunLRun16
import Derived.Deep.RegionWith
import Derived.Deep.RegionHeld3
import Derived.Deep.OwnRows
import Derived.Deep.DeepFit
import Derived.Deep.DeepCutAuto
import Derived.WalkKit
import Derived.WalkSpells
import Derived.Below
import Derived.Handy
import Derived.OwnWalk
namespace Go.Proofs.Ytlocdlgbjjbnoaa.walks
open Go.RowKit Go.Proofs.Ytlocdlgbjjbnoaa.math Go.Proofs.Ytlocdlgbjjbnoaa.ints Go.Proofs.Ytlocdlgbjjbnoaa.deep
set_option linter.unusedVariables false
set_option maxRecDepth 100000

set_option linter.unusedSimpArgs false
theorem line_few {zs : Nat → Int} {n : Nat} {gs : Nat → Int} {g : Nat} {fuel : Int} {ts : List Int} {u : Int} {d : Nat} (h : lineAns zs n gs g fuel = some (ts, u, d)) : ts.length ≤ 200 := by
  unfold lineAns at h
  split at h
  · unfold ansR at h
    cases hr : runR zs n gs g fuel.toNat rs0 0 with
    | none => rw [hr] at h; cases h
    | some p =>
      obtain ⟨s, d'⟩ := p
      rw [hr] at h
      unfold endR at h
      simp only at h
      split at h
      · simp only [Option.some.injEq, Prod.mk.injEq] at h
        rw [← h.1]; assumption
      · cases h
  · cases h
/-- What the program's RunLined answers. -/
def RLIm (W : World) (R : Option (List Int × Int × Nat)) (e : Ending) (W' : World) : Prop := Below W.heap.size W W' ∧ (R = none → e = .returned (.tuple #[.slice none 0 0, .int .i64 0, .int .i64 0, .bool false])) ∧ ∀ ts u d, R = some (ts, u, d) → ∃ v, e = .returned (.tuple #[v, .int .i64 u, .int .i64 (d : Int), .bool true]) ∧ Own W' W.heap.size v ts
set_option maxHeartbeats 4000000 in
theorem row_start (W : World) (sl gl : Value) : (W.alloc (.cells #[sl, gl, .int .i64 0, .int .i64 0, .int .i64 0, .int .i64 0, .int .i64 0, .int .i64 0, .int .i64 0, .int .i64 0, .int .i64 0, .int .i64 0, .int .i64 0, .int .i64 0, .int .i64 0, .int .i64 0, .int .i64 0, .int .i64 0, .int .i64 0, .int .i64 0, .int .i64 0, .int .i64 0, .int .i64 0, .int .i64 0, .int .i64 0, .int .i64 0, .int .i64 0, .int .i64 0, .int .i64 0, .int .i64 0, .int .i64 0, .int .i64 0, .int .i64 0, .int .i64 0, .int .i64 0, .int .i64 0, .int .i64 0, .int .i64 0, .int .i64 0, .int .i64 0, .int .i64 0, .int .i64 0, .int .i64 0, .slice none 0 0, .int .i64 0] 99)).rowIs W.heap.size 99 45 (rowR sl gl (.slice none 0 0) rs0) :=
  World.rowIs_alloc W #[sl, gl, .int .i64 0, .int .i64 0, .int .i64 0, .int .i64 0, .int .i64 0, .int .i64 0, .int .i64 0, .int .i64 0, .int .i64 0, .int .i64 0, .int .i64 0, .int .i64 0, .int .i64 0, .int .i64 0, .int .i64 0, .int .i64 0, .int .i64 0, .int .i64 0, .int .i64 0, .int .i64 0, .int .i64 0, .int .i64 0, .int .i64 0, .int .i64 0, .int .i64 0, .int .i64 0, .int .i64 0, .int .i64 0, .int .i64 0, .int .i64 0, .int .i64 0, .int .i64 0, .int .i64 0, .int .i64 0, .int .i64 0, .int .i64 0, .int .i64 0, .int .i64 0, .int .i64 0, .int .i64 0, .int .i64 0, .slice none 0 0, .int .i64 0] 99 (rowR sl gl (.slice none 0 0) rs0) (fun i hi => by
    have hi : i < 45 := hi
    match i, hi with
    | 0, _ => rfl
    | 1, _ => rfl
    | 2, _ => rfl
    | 3, _ => rfl
    | 4, _ => rfl
    | 5, _ => rfl
    | 6, _ => rfl
    | 7, _ => rfl
    | 8, _ => rfl
    | 9, _ => rfl
    | 10, _ => rfl
    | 11, _ => rfl
    | 12, _ => rfl
    | 13, _ => rfl
    | 14, _ => rfl
    | 15, _ => rfl
    | 16, _ => rfl
    | 17, _ => rfl
    | 18, _ => rfl
    | 19, _ => rfl
    | 20, _ => rfl
    | 21, _ => rfl
    | 22, _ => rfl
    | 23, _ => rfl
    | 24, _ => rfl
    | 25, _ => rfl
    | 26, _ => rfl
    | 27, _ => rfl
    | 28, _ => rfl
    | 29, _ => rfl
    | 30, _ => rfl
    | 31, _ => rfl
    | 32, _ => rfl
    | 33, _ => rfl
    | 34, _ => rfl
    | 35, _ => rfl
    | 36, _ => rfl
    | 37, _ => rfl
    | 38, _ => rfl
    | 39, _ => rfl
    | 40, _ => rfl
    | 41, _ => rfl
    | 42, _ => rfl
    | 43, _ => rfl
    | 44, _ => rfl
    | i + 45, h => exact absurd h (by omega))
set_option maxHeartbeats 8000000 in
theorem impl_runlined (a : Option Addr) (n cap : Nat) (ga : Option Addr) (g gc : Nat) (zs gs : List Int) (fuel : Int) (W : World) (hz : Hid (zs.length = n * 3)) (hn : n ≤ 1048576) (h : Hid (Ints W a zs)) (hgz : Hid (gs.length = g * 4)) (hg : g ≤ 1048576) (hgs : Hid (Ints W ga gs)) (R : Option (List Int × Int × Nat)) (HRA : Hid (lineAns (zf zs) n (zf gs) g fuel = R)) :
    Calls Try.prog 23 #[.agg #[.slice a n cap, .slice ga g gc], .int .i64 fuel] W fun e W' => RLIm W R e W' := by
  obtain ⟨X, hX⟩ : ∃ X, Hid (W.alloc (.cells #[.slice a n cap, .slice ga g gc] 37) = X) := ⟨_, rfl⟩
  have HX : Hid (Below W.heap.size W X) := by show Below _ _ _; rw [← hX.out]; go_grown
  have R0 : Hid (X.rowIs W.heap.size 37 2 (rowF [.slice a n cap, .slice ga g gc])) := by rw [← hX.out]; exact row_of W #[.slice a n cap, .slice ga g gc] _
  obtain ⟨r0, r1, rl0⟩ := cellsL R0
  have hl := impl_lined a n cap ga g gc zs gs X hz hn (h.out.kept HX.out) hgz hg (hgs.out.kept HX.out)
  cases hline : linedB (zf zs) n (zf gs) g
  · have HE : Hid (R = none) := by show _ = _; rw [← HRA.out]; unfold lineAns okRL; rw [hline]; rfl
    rw [hline] at hl
    go_enter Try.func23, Try.ntmps23
    go_upto_region 1 with fail
    rw [hX.out]
    clear hX
    go_wp2_with (go_at_call 33; refine hl.mono ?_; rintro e w1 ⟨rfl, hB⟩; obtain ⟨K0, K1⟩ := keepL HX R0 hB; clear hB hl r0 r1 rl0 HX R0; have HX := K0; have R0 := K1; clear K0 K1; obtain ⟨r0, r1, rl0⟩ := cellsL R0)
    (try simp only [Exit.inBlock, Exit.then])
    refine bodyPost_ret (v := .tuple #[.slice none 0 0, .int .i64 0, .int .i64 0, .bool false]) (by simp only [results, Try.results23]; go_simp) rfl ?_
    exact ⟨HX.out, fun _ => rfl, fun ts u d q => by rw [HE.out] at q; cases q⟩
  rw [hline] at hl
  cases hfu : inR fuel 0 2000
  · have HE : Hid (R = none) := by show _ = _; rw [← HRA.out]; unfold lineAns okRL; rw [hline, hfu]; rfl
    go_enter Try.func23, Try.ntmps23
    go_upto_region 1 with fail
    rw [hX.out]
    clear hX
    go_wp2_with (first | (go_at_call 33; refine hl.mono ?_; rintro e w1 ⟨rfl, hB⟩; obtain ⟨K0, K1⟩ := keepL HX R0 hB; clear hB hl r0 r1 rl0 HX R0; have HX := K0; have R0 := K1; clear K0 K1; obtain ⟨r0, r1, rl0⟩ := cellsL R0) | (go_at_call 46; go_fit (btw16 hfu _); rintro e w' ⟨rfl, hw⟩; rw [hw]; clear hw w'))
    (try simp only [Exit.inBlock, Exit.then])
    refine bodyPost_ret (v := .tuple #[.slice none 0 0, .int .i64 0, .int .i64 0, .bool false]) (by simp only [results, Try.results23]; go_simp) rfl ?_
    exact ⟨HX.out, fun _ => rfl, fun ts u d q => by rw [HE.out] at q; cases q⟩
  obtain ⟨hf0, hf1⟩ := inR_out hfu
  obtain ⟨fN, rfl⟩ : ∃ k : Nat, fuel = (k : Int) := ⟨fuel.toNat, by omega⟩
  have HRE : Hid (endR (runR (zf zs) n (zf gs) g fN rs0 0) = R) := by show _ = _; rw [← HRA.out]; unfold lineAns okRL ansR; rw [hline, hfu]; simp
  have hok := lined_out hline
  clear HRA
  go_enter Try.func23, Try.ntmps23
  go_upto_region 1 with fail
  rw [hX.out]
  clear hX
  go_upto_region 3 with (first | (go_at_call 33; refine hl.mono ?_; rintro e w1 ⟨rfl, hB⟩; obtain ⟨K0, K1⟩ := keepL HX R0 hB; clear hB hl r0 r1 rl0 HX R0; have HX := K0; have R0 := K1; clear K0 K1; obtain ⟨r0, r1, rl0⟩ := cellsL R0) | (go_at_call 46; go_fit (btw16 hfu _); rintro e w' ⟨rfl, hw⟩; rw [hw]; clear hw w'))
  go_upto_region 4 with fail
  obtain ⟨Z, hZ⟩ : ∃ Z, Hid (w1.alloc (.cells #[.slice a n cap, .slice ga g gc, .int .i64 0, .int .i64 0, .int .i64 0, .int .i64 0, .int .i64 0, .int .i64 0, .int .i64 0, .int .i64 0, .int .i64 0, .int .i64 0, .int .i64 0, .int .i64 0, .int .i64 0, .int .i64 0, .int .i64 0, .int .i64 0, .int .i64 0, .int .i64 0, .int .i64 0, .int .i64 0, .int .i64 0, .int .i64 0, .int .i64 0, .int .i64 0, .int .i64 0, .int .i64 0, .int .i64 0, .int .i64 0, .int .i64 0, .int .i64 0, .int .i64 0, .int .i64 0, .int .i64 0, .int .i64 0, .int .i64 0, .int .i64 0, .int .i64 0, .int .i64 0, .int .i64 0, .int .i64 0, .int .i64 0, .slice none 0 0, .int .i64 0] 99) = Z) := ⟨_, rfl⟩
  have HZ : Hid (Below w1.heap.size w1 Z) := by show Below _ _ _; rw [← hZ.out]; exact (Below.refl _ _).alloc (Nat.le_refl _) _
  have RZ : Hid (Z.rowIs w1.heap.size 99 45 (rowR (.slice a n cap) (.slice ga g gc) (.slice none 0 0) rs0)) := by rw [← hZ.out]; exact row_start w1 _ _
  rw [hZ.out]
  clear hZ
  have P0 : Hid (ProgR W Z a n cap ga g gc w1.heap.size Z.heap.size (.slice none 0 0) rs0) := ⟨RZ.out, own_nil _ _, HX.out.trans (HZ.out.mono HX.out.size), HX.out.size, RZ.out.lt, Nat.le_refl _⟩
  obtain ⟨r, hr⟩ : ∃ r, Hid (runR (zf zs) n (zf gs) g fN rs0 0 = r) := ⟨_, rfl⟩
  rw [hr.out] at HRE
  have hrun := impl_lrun W a n cap ga g gc w1.heap.size Z.heap.size zs gs fN (by omega) Z hz hn h hgz hg hgs hok _ P0 r hr
  obtain ⟨gl, hgl⟩ : ∃ x, w1.heap.size = x := ⟨_, rfl⟩
  obtain ⟨B, hBe⟩ : ∃ x, Z.heap.size = x := ⟨_, rfl⟩
  rw [hgl, hBe] at hrun
  rw [hgl]
  cases hrc : r with
  | none =>
    have HE : Hid (R = none) := by show _ = _; rw [← HRE.out, hrc]; rfl
    go_wp2_with (go_at_call 47; refine hrun.mono ?_; rintro e w5 ⟨hB5, hno, hyes⟩; obtain rfl := hno hrc; have B5 : Hid (Below W.heap.size W w5) := hB5; clear hB5 hno hyes)
    (try simp only [Exit.inBlock, Exit.then])
    refine bodyPost_ret (v := .tuple #[.slice none 0 0, .int .i64 0, .int .i64 0, .bool false]) (by simp only [results, Try.results23]; go_simp) rfl ?_
    exact ⟨B5.out, fun _ => rfl, fun ts u d q => by rw [HE.out] at q; cases q⟩
  | some p =>
    obtain ⟨s, d⟩ := p
    by_cases h200 : s.told.length ≤ 200
    rotate_left
    · have HE : Hid (R = none) := by show _ = _; rw [← HRE.out, hrc]; show (if s.told.length ≤ 200 then some (s.told, s.unc, d) else none) = none; rw [if_neg h200]
      have d2 : decide (s.told.length ≤ 200) = false := decide_eq_false h200
      go_wp2_with (go_at_call 47; refine hrun.mono ?_; rintro e w5 ⟨hB5, hno, hyes⟩; obtain ⟨v5, hP5, rfl⟩ := hyes s d hrc; rw [d2]; have B5 : Hid (Below W.heap.size W w5) := hB5; clear hB5 hno hyes hP5)
      (try simp only [Exit.inBlock, Exit.then])
      refine bodyPost_ret (v := .tuple #[.slice none 0 0, .int .i64 0, .int .i64 0, .bool false]) (by simp only [results, Try.results23]; go_simp) rfl ?_
      exact ⟨B5.out, fun _ => rfl, fun ts u d q => by rw [HE.out] at q; cases q⟩
    · have HE : Hid (R = some (s.told, s.unc, d)) := by show _ = _; rw [← HRE.out, hrc]; show (if s.told.length ≤ 200 then some (s.told, s.unc, d) else none) = _; rw [if_pos h200]
      have d2 : decide (s.told.length ≤ 200) = true := decide_eq_true h200
      go_upto_region 7 with (go_at_call 47; refine hrun.mono ?_; rintro e w5 ⟨hB5, hno, hyes⟩; obtain ⟨v5, hP5, rfl⟩ := hyes s d hrc; rw [d2]; have P5 : Hid (ProgR W w5 a n cap ga g gc gl B v5 s) := hP5; clear hB5 hno hyes hP5)
      have c43 : w5.cell? ⟨gl, 43, none⟩ = some v5 := P5.out.box.cell (i := 43) (by decide)
      have c44 : w5.cell? ⟨gl, 44, none⟩ = some (.int .i64 s.unc) := P5.out.box.cell (i := 44) (by decide)
      have cl := P5.out.box.lt
      have q1 : w5.drew.cell? ⟨gl, 43, none⟩ = some v5 ∧ w5.drew.cell? ⟨gl, 44, none⟩ = some (.int .i64 s.unc) := ⟨c43, c44⟩
      go_region_held3 (fun w' => w'.cell? ⟨gl, 43, none⟩ = some v5 ∧ w'.cell? ⟨gl, 44, none⟩ = some (.int .i64 s.unc)) (first | with_reducible exact q1 | go_keep) (fail)
      go_wp2
      (try simp only [Exit.inBlock, Exit.then])
      refine bodyPost_ret (v := .tuple #[v5, .int .i64 s.unc, .int .i64 (d : Int), .bool true]) (by simp only [results, Try.results23]; go_simp) rfl ?_
      refine ⟨P5.out.bel.drew, fun q => (by rw [HE.out] at q; cases q), fun ts u d' q => ?_⟩
      rw [HE.out] at q
      simp only [Option.some.injEq, Prod.mk.injEq] at q
      obtain ⟨rfl, rfl, rfl⟩ := q
      have P6 := P5.out.kept (Below.refl w5.heap.size w5).drew
      exact ⟨v5, rfl, own_low_r P6.told (by have := P6.ord; omega)⟩

end Go.Proofs.Ytlocdlgbjjbnoaa.walks
