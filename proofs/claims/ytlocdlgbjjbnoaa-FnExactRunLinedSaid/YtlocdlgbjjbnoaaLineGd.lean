/-
  What the program's hasGoodGuard answers.
-/
import Derived.Test.YtlocdlgbjjbnoaaProg
import Derived.Test.YtlocdlgbjjbnoaaMagMath
import Derived.Test.YtlocdlgbjjbnoaaLineMath
import Derived.Test.YtlocdlgbjjbnoaaLineStep
import Derived.Test.YtlocdlgbjjbnoaaDeep
import Derived.Test.YtlocdlgbjjbnoaaDeepRow
import Derived.Deep.DeepFit
import Derived.Deep.DeepCutAuto
import Derived.WalkKit
import Derived.WalkSpells
import Derived.Below
import Derived.Handy
namespace Go.Proofs.Ytlocdlgbjjbnoaa.walks
open Go.RowKit Go.Proofs.Ytlocdlgbjjbnoaa.math Go.Proofs.Ytlocdlgbjjbnoaa.ints Go.Proofs.Ytlocdlgbjjbnoaa.deep
set_option linter.unusedVariables false
set_option maxRecDepth 100000

theorem keepG {W X w : World} {T T' : TypeId} {n m : Nat} {f g : Nat → Value} (HX : Hid (Below W.heap.size W X)) (R0 : Hid (X.rowIs W.heap.size T n f)) (R1 : Hid (X.rowIs (W.heap.size + 1) T' m g)) (hB : Below X.heap.size X w) : Hid (Below W.heap.size W w) ∧ Hid (w.rowIs W.heap.size T n f) ∧ Hid (w.rowIs (W.heap.size + 1) T' m g) := ⟨HX.out.trans (hB.mono HX.out.size), R0.out.of_block (hB.block _ R0.out.lt), R1.out.of_block (hB.block _ R1.out.lt)⟩
theorem cellsG {W w : World} {T T' : TypeId} {u v f t k x : Value} (R0 : Hid (w.rowIs W.heap.size T 2 (rowF [u, v]))) (R1 : Hid (w.rowIs (W.heap.size + 1) T' 4 (rowF [f, t, k, x]))) : w.cell? ⟨W.heap.size, 0, none⟩ = some u ∧ w.cell? ⟨W.heap.size, 1, none⟩ = some v ∧ w.cell? ⟨W.heap.size + 1, 0, none⟩ = some f ∧ w.cell? ⟨W.heap.size + 1, 1, none⟩ = some t ∧ w.cell? ⟨W.heap.size + 1, 2, none⟩ = some k ∧ w.cell? ⟨W.heap.size + 1, 3, none⟩ = some x ∧ W.heap.size < w.heap.size ∧ W.heap.size + 1 < w.heap.size := ⟨R0.out.cell (i := 0) (by decide), R0.out.cell (i := 1) (by decide), R1.out.cell (i := 0) (by decide), R1.out.cell (i := 1) (by decide), R1.out.cell (i := 2) (by decide), R1.out.cell (i := 3) (by decide), R0.out.lt, R1.out.lt⟩
set_option maxHeartbeats 1000000 in
theorem impl_lguard (a : Option Addr) (n cap : Nat) (ga : Option Addr) (g gc : Nat) (f t k x : Int) (hn : n ≤ 1048576) (W : World) : Calls Try.prog 60 #[.agg #[.slice a n cap, .slice ga g gc], .agg #[.int .i64 f, .int .i64 t, .int .i64 k, .int .i64 x]] W fun e W' => e = .returned (.bool (guardB n f t k x)) ∧ Below W.heap.size W W' := by
  obtain ⟨X, hX⟩ : ∃ X, Hid ((W.alloc (.cells #[.slice a n cap, .slice ga g gc] 37)).alloc (.cells #[.int .i64 f, .int .i64 t, .int .i64 k, .int .i64 x] 93) = X) := ⟨_, rfl⟩
  have HX : Hid (Below W.heap.size W X) := by show Below _ _ _; rw [← hX.out]; go_grown
  have R0 : Hid (X.rowIs W.heap.size 37 2 (rowF [.slice a n cap, .slice ga g gc])) := by rw [← hX.out]; exact (row_of W #[.slice a n cap, .slice ga g gc] _).alloc _
  have R1 : Hid (X.rowIs (W.heap.size + 1) 93 4 (rowF [.int .i64 f, .int .i64 t, .int .i64 k, .int .i64 x])) := by
    rw [← hX.out]
    have q := row_of (W.alloc (.cells #[.slice a n cap, .slice ga g gc] 37)) #[.int .i64 f, .int .i64 t, .int .i64 k, .int .i64 x] 93
    rw [show (W.alloc (.cells #[.slice a n cap, .slice ga g gc] 37)).heap.size = W.heap.size + 1 by simp] at q
    exact q
  have HE : Hid (guardB n f t k x = ((inR f 0 n && inR t 0 n && inR x 0 n && decide (f ≤ t)) && inR k 0 9)) := by
    show _ = _
    rw [Bool.eq_iff_iff]
    simp only [guardB, Bool.and_eq_true, inR, decide_eq_true_eq]
    omega
  rw [HE.out]
  clear HE
  cases h1 : inR f 0 n
  · skip
    have h2 : True := trivial
    have h3 : True := trivial
    have h5 : True := trivial
    rw [show (_ && _ : Bool) = false by simp]
    go_enter Try.func60, Try.ntmps60
    go_upto_region 1 with fail
    rw [hX.out]
    clear hX
    obtain ⟨r0, r1, s0, s1, s2, s3, l0, l1⟩ := cellsG R0 R1
    go_wp2_with (first | (go_at_call 80; (first | go_fit (impl_place16 _ _ _ _ _ _ h1 hn _) | go_fit (impl_place16 _ _ _ _ _ _ h2 hn _) | go_fit (impl_place16 _ _ _ _ _ _ h3 hn _)); rintro e w' ⟨rfl, hB⟩; obtain ⟨Q0, Q1, Q2⟩ := keepG HX R0 R1 hB; clear hB r0 r1 s0 s1 s2 s3 l0 l1 HX R0 R1; have HX := Q0; have R0 := Q1; have R1 := Q2; clear Q0 Q1 Q2; obtain ⟨r0, r1, s0, s1, s2, s3, l0, l1⟩ := cellsG R0 R1) | (go_at_call 81; refine (impl_any16 h5 _).mono ?_; rintro e w' ⟨rfl, hw⟩; rw [hw]; clear hw w'))
    go_ret
    exact ⟨rfl, HX.out⟩
  · skip
    cases h2 : inR t 0 n
    · skip
      have h3 : True := trivial
      have h5 : True := trivial
      rw [show (_ && _ : Bool) = false by simp]
      go_enter Try.func60, Try.ntmps60
      go_upto_region 1 with fail
      rw [hX.out]
      clear hX
      obtain ⟨r0, r1, s0, s1, s2, s3, l0, l1⟩ := cellsG R0 R1
      go_wp2_with (first | (go_at_call 80; (first | go_fit (impl_place16 _ _ _ _ _ _ h1 hn _) | go_fit (impl_place16 _ _ _ _ _ _ h2 hn _) | go_fit (impl_place16 _ _ _ _ _ _ h3 hn _)); rintro e w' ⟨rfl, hB⟩; obtain ⟨Q0, Q1, Q2⟩ := keepG HX R0 R1 hB; clear hB r0 r1 s0 s1 s2 s3 l0 l1 HX R0 R1; have HX := Q0; have R0 := Q1; have R1 := Q2; clear Q0 Q1 Q2; obtain ⟨r0, r1, s0, s1, s2, s3, l0, l1⟩ := cellsG R0 R1) | (go_at_call 81; refine (impl_any16 h5 _).mono ?_; rintro e w' ⟨rfl, hw⟩; rw [hw]; clear hw w'))
      go_ret
      exact ⟨rfl, HX.out⟩
    · skip
      cases h3 : inR x 0 n
      · skip
        have h5 : True := trivial
        rw [show (_ && _ : Bool) = false by simp]
        go_enter Try.func60, Try.ntmps60
        go_upto_region 1 with fail
        rw [hX.out]
        clear hX
        obtain ⟨r0, r1, s0, s1, s2, s3, l0, l1⟩ := cellsG R0 R1
        go_wp2_with (first | (go_at_call 80; (first | go_fit (impl_place16 _ _ _ _ _ _ h1 hn _) | go_fit (impl_place16 _ _ _ _ _ _ h2 hn _) | go_fit (impl_place16 _ _ _ _ _ _ h3 hn _)); rintro e w' ⟨rfl, hB⟩; obtain ⟨Q0, Q1, Q2⟩ := keepG HX R0 R1 hB; clear hB r0 r1 s0 s1 s2 s3 l0 l1 HX R0 R1; have HX := Q0; have R0 := Q1; have R1 := Q2; clear Q0 Q1 Q2; obtain ⟨r0, r1, s0, s1, s2, s3, l0, l1⟩ := cellsG R0 R1) | (go_at_call 81; refine (impl_any16 h5 _).mono ?_; rintro e w' ⟨rfl, hw⟩; rw [hw]; clear hw w'))
        go_ret
        exact ⟨rfl, HX.out⟩
      · skip
        by_cases h4' : f ≤ t
        rotate_left
        · have h4 : decide (f ≤ t) = false := decide_eq_false h4'
          have h5 : True := trivial
          rw [show (_ && _ : Bool) = false by simp [h4]]
          go_enter Try.func60, Try.ntmps60
          go_upto_region 1 with fail
          rw [hX.out]
          clear hX
          obtain ⟨r0, r1, s0, s1, s2, s3, l0, l1⟩ := cellsG R0 R1
          go_wp2_with (first | (go_at_call 80; (first | go_fit (impl_place16 _ _ _ _ _ _ h1 hn _) | go_fit (impl_place16 _ _ _ _ _ _ h2 hn _) | go_fit (impl_place16 _ _ _ _ _ _ h3 hn _)); rintro e w' ⟨rfl, hB⟩; obtain ⟨Q0, Q1, Q2⟩ := keepG HX R0 R1 hB; clear hB r0 r1 s0 s1 s2 s3 l0 l1 HX R0 R1; have HX := Q0; have R0 := Q1; have R1 := Q2; clear Q0 Q1 Q2; obtain ⟨r0, r1, s0, s1, s2, s3, l0, l1⟩ := cellsG R0 R1) | (go_at_call 81; refine (impl_any16 h5 _).mono ?_; rintro e w' ⟨rfl, hw⟩; rw [hw]; clear hw w'))
          go_ret
          exact ⟨rfl, HX.out⟩
        · have h4 : decide (f ≤ t) = true := decide_eq_true h4'
          cases h5 : inR k 0 9
          · skip
            rw [show (_ && _ : Bool) = false by simp]
            go_enter Try.func60, Try.ntmps60
            go_upto_region 1 with fail
            rw [hX.out]
            clear hX
            obtain ⟨r0, r1, s0, s1, s2, s3, l0, l1⟩ := cellsG R0 R1
            go_wp2_with (first | (go_at_call 80; (first | go_fit (impl_place16 _ _ _ _ _ _ h1 hn _) | go_fit (impl_place16 _ _ _ _ _ _ h2 hn _) | go_fit (impl_place16 _ _ _ _ _ _ h3 hn _)); rintro e w' ⟨rfl, hB⟩; obtain ⟨Q0, Q1, Q2⟩ := keepG HX R0 R1 hB; clear hB r0 r1 s0 s1 s2 s3 l0 l1 HX R0 R1; have HX := Q0; have R0 := Q1; have R1 := Q2; clear Q0 Q1 Q2; obtain ⟨r0, r1, s0, s1, s2, s3, l0, l1⟩ := cellsG R0 R1) | (go_at_call 81; refine (impl_any16 h5 _).mono ?_; rintro e w' ⟨rfl, hw⟩; rw [hw]; clear hw w'))
            go_ret
            exact ⟨rfl, HX.out⟩
          · skip
            rw [show (_ && _ : Bool) = true by simp [h4]]
            go_enter Try.func60, Try.ntmps60
            go_upto_region 1 with fail
            rw [hX.out]
            clear hX
            obtain ⟨r0, r1, s0, s1, s2, s3, l0, l1⟩ := cellsG R0 R1
            go_wp2_with (first | (go_at_call 80; (first | go_fit (impl_place16 _ _ _ _ _ _ h1 hn _) | go_fit (impl_place16 _ _ _ _ _ _ h2 hn _) | go_fit (impl_place16 _ _ _ _ _ _ h3 hn _)); rintro e w' ⟨rfl, hB⟩; obtain ⟨Q0, Q1, Q2⟩ := keepG HX R0 R1 hB; clear hB r0 r1 s0 s1 s2 s3 l0 l1 HX R0 R1; have HX := Q0; have R0 := Q1; have R1 := Q2; clear Q0 Q1 Q2; obtain ⟨r0, r1, s0, s1, s2, s3, l0, l1⟩ := cellsG R0 R1) | (go_at_call 81; refine (impl_any16 h5 _).mono ?_; rintro e w' ⟨rfl, hw⟩; rw [hw]; clear hw w'))
            go_ret
            exact ⟨rfl, HX.out⟩
end Go.Proofs.Ytlocdlgbjjbnoaa.walks
