/-
  What a step of two makes of two good ranges, of the program and of the specification; they make new memory alone.
-/
import Derived.Test.YtoeiijkomjlolabProg
import Derived.Test.YtoeiijkomjlolabRangeGood
import Derived.Test.YtoeiijkomjlolabRangeOps
import Derived.WalkKit
import Derived.WalkSpells
import Derived.Deep.RegionWith
import Derived.Deep.RegionHeld3
import Derived.Deep.DeepFit
import Derived.Deep.DeepCutAuto
import Derived.Below
namespace Go.Proofs.Ytoeiijkomjlolab.walks
open Go.RowKit Go.Proofs.Ytoeiijkomjlolab.math
set_option linter.unusedVariables false
set_option linter.unusedSimpArgs false
theorem field0R (a : Bool) (b c : Int) (w : World) : (Instr.field 24 (.agg #[.bool a, .int .i64 b, .int .i64 c]) 0).run Try.prog w = .ok (.bool a) w := by kernel_rfl

theorem spec_span (lo hi : Int) (W : World) : Calls Try.prog 73 #[.int .i64 lo, .int .i64 hi] W fun e W' => e = .returned (.agg #[.bool (spanR lo hi).e, .int .i64 (spanR lo hi).lo, .int .i64 (spanR lo hi).hi]) ∧ Below W.heap.size W W' := by
  by_cases h : lo < 0
  · rw [show spanR lo hi = allR from if_pos (Or.inl h)]
    go_enter Try.func73, Try.ntmps73
    go_wp2
    exact bodyPost_ret (v := .agg #[.bool false, .int .i64 0, .int .i64 65535]) (by simp only [results, Try.results73]; go_simp) rfl ⟨rfl, by repeat (first | exact Below.refl _ _ | refine Below.drew ?_ | refine Below.setCell ?_ (by simp; try omega) _ | refine Below.alloc ?_ (by simp; try omega) _)⟩
  · have h0 : 0 ≤ lo := by omega
    have h' : decide (lo < 0) = false := decide_eq_false h
    by_cases k : 65535 < hi
    · rw [show spanR lo hi = allR from if_pos (Or.inr k)]
      clear h
      go_enter Try.func73, Try.ntmps73
      go_wp2
      exact bodyPost_ret (v := .agg #[.bool false, .int .i64 0, .int .i64 65535]) (by simp only [results, Try.results73]; go_simp) rfl ⟨rfl, by repeat (first | exact Below.refl _ _ | refine Below.drew ?_ | refine Below.setCell ?_ (by simp; try omega) _ | refine Below.alloc ?_ (by simp; try omega) _)⟩
    · have k0 : hi ≤ 65535 := by omega
      have k' : decide (65535 < hi) = false := decide_eq_false k
      rw [show spanR lo hi = ⟨false, lo, hi⟩ from if_neg (by omega)]
      clear h k
      go_enter Try.func73, Try.ntmps73
      go_wp2
      exact bodyPost_ret (v := .agg #[.bool false, .int .i64 lo, .int .i64 hi]) (by simp only [results, Try.results73]; go_simp) rfl ⟨rfl, by repeat (first | exact Below.refl _ _ | refine Below.drew ?_ | refine Below.setCell ?_ (by simp; try omega) _ | refine Below.alloc ?_ (by simp; try omega) _)⟩

theorem impl_allR (W : World) : Calls Try.prog 76 #[] W fun e W' => e = .returned (.agg #[.bool false, .int .i64 0, .int .i64 65535]) ∧ Below W.heap.size W W' := by
  go_enter Try.func76, Try.ntmps76
  go_wp2
  exact bodyPost_ret (v := .agg #[.bool false, .int .i64 0, .int .i64 65535]) (by simp [results, Try.results76, go_sem]) rfl ⟨rfl, by
    repeat (first | exact Below.refl _ _ | refine Below.drew ?_ | refine Below.setCell ?_ (by simp; try omega) _ | refine Below.alloc ?_ (by simp; try omega) _)⟩
set_option maxRecDepth 100000 in
set_option maxHeartbeats 1000000 in
theorem impl_span (lo hi : Int) (W : World) (hle : lo ≤ hi) : Calls Try.prog 74 #[.int .i64 lo, .int .i64 hi] W fun e W' => e = .returned (.agg #[.bool (spanR lo hi).e, .int .i64 (spanR lo hi).lo, .int .i64 (spanR lo hi).hi]) ∧ Below W.heap.size W W' := by
  cases h1 : inR lo 0 65535
  · rw [show spanR lo hi = allR from if_pos (by have n1 : ¬ (0 ≤ lo ∧ lo ≤ 65535) := of_decide_eq_false h1; omega)]
    have P1 : ∀ W', Calls Try.prog 86 #[.int .i64 lo] W' fun e W'' => e = .returned (.bool false) ∧ W'' = W' := fun W' => by have q := impl_wordR lo W'; rw [h1] at q; exact q
    have P2 : ∀ W', Calls Try.prog 86 #[.int .i64 lo] W' fun e W'' => e = .returned (.bool false) ∧ W'' = W' := fun W' => by have q := impl_wordR lo W'; rw [h1] at q; exact q
    go_enter Try.func74, Try.ntmps74
    go_wp2_with (first | (go_at_call 86; go_fit (P1 _); rintro e w' ⟨rfl, rfl⟩) | (go_at_call 86; go_fit (P2 _); rintro e w' ⟨rfl, rfl⟩) | (go_at_call 76; refine (impl_allR _).mono ?_; rintro e w' ⟨rfl, B1⟩; obtain ⟨c1, y1⟩ := bcellR B1))
    exact bodyPost_ret (v := .agg #[.bool false, .int .i64 0, .int .i64 65535]) (by simp only [results, Try.results74]; go_simp) rfl ⟨rfl, by refine Below.trans (belR (by repeat (first | exact Below.refl _ _ | refine Below.drew ?_ | refine Below.setCell ?_ (by simp; try omega) _ | refine Below.alloc ?_ (by simp; try omega) _)) B1) ?_; repeat (first | exact Below.refl _ _ | refine Below.drew ?_ | refine Below.setCell ?_ (by simp; try omega) _ | refine Below.alloc ?_ (by simp; try omega) _)⟩
  cases h2 : inR hi 0 65535
  · rw [show spanR lo hi = allR from if_pos (by have n1 : ¬ (0 ≤ hi ∧ hi ≤ 65535) := of_decide_eq_false h2; have n2 := inR_out h1; omega)]
    have P1 : ∀ W', Calls Try.prog 86 #[.int .i64 lo] W' fun e W'' => e = .returned (.bool true) ∧ W'' = W' := fun W' => by have q := impl_wordR lo W'; rw [h1] at q; exact q
    have P2 : ∀ W', Calls Try.prog 86 #[.int .i64 hi] W' fun e W'' => e = .returned (.bool false) ∧ W'' = W' := fun W' => by have q := impl_wordR hi W'; rw [h2] at q; exact q
    go_enter Try.func74, Try.ntmps74
    go_wp2_with (first | (go_at_call 86; go_fit (P1 _); rintro e w' ⟨rfl, rfl⟩) | (go_at_call 86; go_fit (P2 _); rintro e w' ⟨rfl, rfl⟩) | (go_at_call 76; refine (impl_allR _).mono ?_; rintro e w' ⟨rfl, B1⟩; obtain ⟨c1, y1⟩ := bcellR B1))
    exact bodyPost_ret (v := .agg #[.bool false, .int .i64 0, .int .i64 65535]) (by simp only [results, Try.results74]; go_simp) rfl ⟨rfl, by refine Below.trans (belR (by repeat (first | exact Below.refl _ _ | refine Below.drew ?_ | refine Below.setCell ?_ (by simp; try omega) _ | refine Below.alloc ?_ (by simp; try omega) _)) B1) ?_; repeat (first | exact Below.refl _ _ | refine Below.drew ?_ | refine Below.setCell ?_ (by simp; try omega) _ | refine Below.alloc ?_ (by simp; try omega) _)⟩
  · rw [show spanR lo hi = ⟨false, lo, hi⟩ from if_neg (by have n1 := inR_out h2; have n2 := inR_out h1; omega)]
    have P1 : ∀ W', Calls Try.prog 86 #[.int .i64 lo] W' fun e W'' => e = .returned (.bool true) ∧ W'' = W' := fun W' => by have q := impl_wordR lo W'; rw [h1] at q; exact q
    have P2 : ∀ W', Calls Try.prog 86 #[.int .i64 hi] W' fun e W'' => e = .returned (.bool true) ∧ W'' = W' := fun W' => by have q := impl_wordR hi W'; rw [h2] at q; exact q
    go_enter Try.func74, Try.ntmps74
    go_wp2_with (first | (go_at_call 86; go_fit (P1 _); rintro e w' ⟨rfl, rfl⟩) | (go_at_call 86; go_fit (P2 _); rintro e w' ⟨rfl, rfl⟩) | (go_at_call 76; refine (impl_allR _).mono ?_; rintro e w' ⟨rfl, B1⟩; obtain ⟨c1, y1⟩ := bcellR B1))
    exact bodyPost_ret (v := .agg #[.bool false, .int .i64 lo, .int .i64 hi]) (by simp only [results, Try.results74]; go_simp) rfl ⟨rfl, by repeat (first | exact Below.refl _ _ | refine Below.drew ?_ | refine Below.setCell ?_ (by simp; try omega) _ | refine Below.alloc ?_ (by simp; try omega) _)⟩

theorem impl_oneR (p : Bool) (W : World) : Calls Try.prog 75 #[.bool p] W fun e W' => e = .returned (.int .i64 (if p then 1 else 0)) ∧ W' = W := by
  cases p
  · go_enter Try.func75, Try.ntmps75
    go_wp2
    go_ret
    exact ⟨rfl, rfl⟩
  · go_enter Try.func75, Try.ntmps75
    go_wp2
    go_ret
    exact ⟨rfl, rfl⟩

set_option maxRecDepth 100000 in
set_option maxHeartbeats 4000000 in
theorem spec_two6_3 (f g : Rv) (W : World) (hf : f.good = true) (hg : g.good = true) : Calls Try.prog 45 #[.int .i64 3, .agg #[.bool f.e, .int .i64 f.lo, .int .i64 f.hi], .agg #[.bool g.e, .int .i64 g.lo, .int .i64 g.hi]] W fun e W' => e = .returned (.agg #[.bool (twoR 3 f g).e, .int .i64 (twoR 3 f g).lo, .int .i64 (twoR 3 f g).hi]) ∧ Below W.heap.size W W' := by
  cases hfe : f.e
  rotate_left
  · rw [show twoR 3 f g = noneR from if_pos (Or.inl hfe)]
    obtain ⟨e, lo, hi⟩ := f
    obtain ⟨e', lo', hi'⟩ := g
    simp only at hfe
    subst hfe
    clear hf hg
    show Calls _ _ #[.int .i64 3, .agg #[.bool true, .int .i64 lo, .int .i64 hi], .agg #[.bool e', .int .i64 lo', .int .i64 hi']] W _
    go_enter Try.func45, Try.ntmps45
    go_wp2
    exact bodyPost_ret (v := .agg #[.bool true, .int .i64 0, .int .i64 0]) (by simp only [results, Try.results45]; go_simp) rfl ⟨rfl, by repeat (first | exact Below.refl _ _ | refine Below.drew ?_ | refine Below.setCell ?_ (by simp; try omega) _ | refine Below.alloc ?_ (by simp; try omega) _)⟩
  cases hge : g.e
  rotate_left
  · rw [show twoR 3 f g = noneR from if_pos (Or.inr hge)]
    obtain ⟨e, lo, hi⟩ := f
    obtain ⟨e', lo', hi'⟩ := g
    simp only at hfe hge
    subst hfe
    subst hge
    clear hf hg
    show Calls _ _ #[.int .i64 3, .agg #[.bool false, .int .i64 lo, .int .i64 hi], .agg #[.bool true, .int .i64 lo', .int .i64 hi']] W _
    go_enter Try.func45, Try.ntmps45
    go_wp2
    exact bodyPost_ret (v := .agg #[.bool true, .int .i64 0, .int .i64 0]) (by simp only [results, Try.results45]; go_simp) rfl ⟨rfl, by repeat (first | exact Below.refl _ _ | refine Below.drew ?_ | refine Below.setCell ?_ (by simp; try omega) _ | refine Below.alloc ?_ (by simp; try omega) _)⟩
  have g1 := good_full hf hfe
  have g2 := good_full hg hge
  clear hf hg
  obtain ⟨e, lo, hi⟩ := f
  obtain ⟨e', lo', hi'⟩ := g
  simp only at hfe hge g1 g2
  subst hfe
  subst hge
  obtain ⟨p0, p1, p2⟩ := g1
  obtain ⟨q0, q1, q2⟩ := g2
  show Calls _ _ #[.int .i64 3, .agg #[.bool false, .int .i64 lo, .int .i64 hi], .agg #[.bool false, .int .i64 lo', .int .i64 hi']] W _
  have hle : lo + lo' ≤ hi + hi' := by omega
  rw [show twoR 3 ⟨false, lo, hi⟩ ⟨false, lo', hi'⟩ = spanR (lo + lo') (hi + hi') by simp [twoR]]
  go_enter Try.func45, Try.ntmps45
  go_wp2_with (first | (go_at_call 73; refine (spec_span _ _ _).mono ?_; rintro e w' ⟨rfl, B1⟩; obtain ⟨c1, y1⟩ := bcellR B1))
  exact bodyPost_ret (v := .agg #[.bool (spanR (lo + lo') (hi + hi')).e, .int .i64 (spanR (lo + lo') (hi + hi')).lo, .int .i64 (spanR (lo + lo') (hi + hi')).hi]) (by simp only [results, Try.results45]; go_simp) rfl ⟨rfl, by refine Below.trans (belR (by repeat (first | exact Below.refl _ _ | refine Below.drew ?_ | refine Below.setCell ?_ (by simp; try omega) _ | refine Below.alloc ?_ (by simp; try omega) _)) B1) ?_; repeat (first | exact Below.refl _ _ | refine Below.drew ?_ | refine Below.setCell ?_ (by simp; try omega) _ | refine Below.alloc ?_ (by simp; try omega) _)⟩
set_option maxRecDepth 100000 in
set_option maxHeartbeats 4000000 in
theorem spec_two6_4 (f g : Rv) (W : World) (hf : f.good = true) (hg : g.good = true) : Calls Try.prog 45 #[.int .i64 4, .agg #[.bool f.e, .int .i64 f.lo, .int .i64 f.hi], .agg #[.bool g.e, .int .i64 g.lo, .int .i64 g.hi]] W fun e W' => e = .returned (.agg #[.bool (twoR 4 f g).e, .int .i64 (twoR 4 f g).lo, .int .i64 (twoR 4 f g).hi]) ∧ Below W.heap.size W W' := by
  cases hfe : f.e
  rotate_left
  · rw [show twoR 4 f g = noneR from if_pos (Or.inl hfe)]
    obtain ⟨e, lo, hi⟩ := f
    obtain ⟨e', lo', hi'⟩ := g
    simp only at hfe
    subst hfe
    clear hf hg
    show Calls _ _ #[.int .i64 4, .agg #[.bool true, .int .i64 lo, .int .i64 hi], .agg #[.bool e', .int .i64 lo', .int .i64 hi']] W _
    go_enter Try.func45, Try.ntmps45
    go_wp2
    exact bodyPost_ret (v := .agg #[.bool true, .int .i64 0, .int .i64 0]) (by simp only [results, Try.results45]; go_simp) rfl ⟨rfl, by repeat (first | exact Below.refl _ _ | refine Below.drew ?_ | refine Below.setCell ?_ (by simp; try omega) _ | refine Below.alloc ?_ (by simp; try omega) _)⟩
  cases hge : g.e
  rotate_left
  · rw [show twoR 4 f g = noneR from if_pos (Or.inr hge)]
    obtain ⟨e, lo, hi⟩ := f
    obtain ⟨e', lo', hi'⟩ := g
    simp only at hfe hge
    subst hfe
    subst hge
    clear hf hg
    show Calls _ _ #[.int .i64 4, .agg #[.bool false, .int .i64 lo, .int .i64 hi], .agg #[.bool true, .int .i64 lo', .int .i64 hi']] W _
    go_enter Try.func45, Try.ntmps45
    go_wp2
    exact bodyPost_ret (v := .agg #[.bool true, .int .i64 0, .int .i64 0]) (by simp only [results, Try.results45]; go_simp) rfl ⟨rfl, by repeat (first | exact Below.refl _ _ | refine Below.drew ?_ | refine Below.setCell ?_ (by simp; try omega) _ | refine Below.alloc ?_ (by simp; try omega) _)⟩
  have g1 := good_full hf hfe
  have g2 := good_full hg hge
  clear hf hg
  obtain ⟨e, lo, hi⟩ := f
  obtain ⟨e', lo', hi'⟩ := g
  simp only at hfe hge g1 g2
  subst hfe
  subst hge
  obtain ⟨p0, p1, p2⟩ := g1
  obtain ⟨q0, q1, q2⟩ := g2
  show Calls _ _ #[.int .i64 4, .agg #[.bool false, .int .i64 lo, .int .i64 hi], .agg #[.bool false, .int .i64 lo', .int .i64 hi']] W _
  have hle : lo - hi' ≤ hi - lo' := by omega
  rw [show twoR 4 ⟨false, lo, hi⟩ ⟨false, lo', hi'⟩ = spanR (lo - hi') (hi - lo') by simp [twoR]]
  go_enter Try.func45, Try.ntmps45
  go_wp2_with (first | (go_at_call 73; refine (spec_span _ _ _).mono ?_; rintro e w' ⟨rfl, B1⟩; obtain ⟨c1, y1⟩ := bcellR B1))
  exact bodyPost_ret (v := .agg #[.bool (spanR (lo - hi') (hi - lo')).e, .int .i64 (spanR (lo - hi') (hi - lo')).lo, .int .i64 (spanR (lo - hi') (hi - lo')).hi]) (by simp only [results, Try.results45]; go_simp) rfl ⟨rfl, by refine Below.trans (belR (by repeat (first | exact Below.refl _ _ | refine Below.drew ?_ | refine Below.setCell ?_ (by simp; try omega) _ | refine Below.alloc ?_ (by simp; try omega) _)) B1) ?_; repeat (first | exact Below.refl _ _ | refine Below.drew ?_ | refine Below.setCell ?_ (by simp; try omega) _ | refine Below.alloc ?_ (by simp; try omega) _)⟩
set_option maxRecDepth 100000 in
set_option maxHeartbeats 4000000 in
theorem spec_two6_5 (f g : Rv) (W : World) (hf : f.good = true) (hg : g.good = true) : Calls Try.prog 45 #[.int .i64 5, .agg #[.bool f.e, .int .i64 f.lo, .int .i64 f.hi], .agg #[.bool g.e, .int .i64 g.lo, .int .i64 g.hi]] W fun e W' => e = .returned (.agg #[.bool (twoR 5 f g).e, .int .i64 (twoR 5 f g).lo, .int .i64 (twoR 5 f g).hi]) ∧ Below W.heap.size W W' := by
  cases hfe : f.e
  rotate_left
  · rw [show twoR 5 f g = noneR from if_pos (Or.inl hfe)]
    obtain ⟨e, lo, hi⟩ := f
    obtain ⟨e', lo', hi'⟩ := g
    simp only at hfe
    subst hfe
    clear hf hg
    show Calls _ _ #[.int .i64 5, .agg #[.bool true, .int .i64 lo, .int .i64 hi], .agg #[.bool e', .int .i64 lo', .int .i64 hi']] W _
    go_enter Try.func45, Try.ntmps45
    go_wp2
    exact bodyPost_ret (v := .agg #[.bool true, .int .i64 0, .int .i64 0]) (by simp only [results, Try.results45]; go_simp) rfl ⟨rfl, by repeat (first | exact Below.refl _ _ | refine Below.drew ?_ | refine Below.setCell ?_ (by simp; try omega) _ | refine Below.alloc ?_ (by simp; try omega) _)⟩
  cases hge : g.e
  rotate_left
  · rw [show twoR 5 f g = noneR from if_pos (Or.inr hge)]
    obtain ⟨e, lo, hi⟩ := f
    obtain ⟨e', lo', hi'⟩ := g
    simp only at hfe hge
    subst hfe
    subst hge
    clear hf hg
    show Calls _ _ #[.int .i64 5, .agg #[.bool false, .int .i64 lo, .int .i64 hi], .agg #[.bool true, .int .i64 lo', .int .i64 hi']] W _
    go_enter Try.func45, Try.ntmps45
    go_wp2
    exact bodyPost_ret (v := .agg #[.bool true, .int .i64 0, .int .i64 0]) (by simp only [results, Try.results45]; go_simp) rfl ⟨rfl, by repeat (first | exact Below.refl _ _ | refine Below.drew ?_ | refine Below.setCell ?_ (by simp; try omega) _ | refine Below.alloc ?_ (by simp; try omega) _)⟩
  have g1 := good_full hf hfe
  have g2 := good_full hg hge
  clear hf hg
  obtain ⟨e, lo, hi⟩ := f
  obtain ⟨e', lo', hi'⟩ := g
  simp only at hfe hge g1 g2
  subst hfe
  subst hge
  obtain ⟨p0, p1, p2⟩ := g1
  obtain ⟨q0, q1, q2⟩ := g2
  show Calls _ _ #[.int .i64 5, .agg #[.bool false, .int .i64 lo, .int .i64 hi], .agg #[.bool false, .int .i64 lo', .int .i64 hi']] W _
  have hle : lo * lo' ≤ hi * hi' := Int.mul_le_mul p1 q1 q0 (by omega)
  rw [show twoR 5 ⟨false, lo, hi⟩ ⟨false, lo', hi'⟩ = spanR (lo * lo') (hi * hi') by simp [twoR]]
  have m1 := mul_word p0 (by omega : lo ≤ 65535) q0 (by omega : lo' ≤ 65535)
  have m2 := mul_word (by omega : 0 ≤ hi) p2 (by omega : 0 ≤ hi') q2
  obtain ⟨m10, m11⟩ := m1
  obtain ⟨m20, m21⟩ := m2
  go_enter Try.func45, Try.ntmps45
  go_wp2_with (first | (go_at_call 73; refine (spec_span _ _ _).mono ?_; rintro e w' ⟨rfl, B1⟩; obtain ⟨c1, y1⟩ := bcellR B1))
  exact bodyPost_ret (v := .agg #[.bool (spanR (lo * lo') (hi * hi')).e, .int .i64 (spanR (lo * lo') (hi * hi')).lo, .int .i64 (spanR (lo * lo') (hi * hi')).hi]) (by simp only [results, Try.results45]; go_simp) rfl ⟨rfl, by refine Below.trans (belR (by repeat (first | exact Below.refl _ _ | refine Below.drew ?_ | refine Below.setCell ?_ (by simp; try omega) _ | refine Below.alloc ?_ (by simp; try omega) _)) B1) ?_; repeat (first | exact Below.refl _ _ | refine Below.drew ?_ | refine Below.setCell ?_ (by simp; try omega) _ | refine Below.alloc ?_ (by simp; try omega) _)⟩
set_option maxRecDepth 100000 in
set_option maxHeartbeats 4000000 in
theorem spec_two6_6 (f g : Rv) (W : World) (hf : f.good = true) (hg : g.good = true) : Calls Try.prog 45 #[.int .i64 6, .agg #[.bool f.e, .int .i64 f.lo, .int .i64 f.hi], .agg #[.bool g.e, .int .i64 g.lo, .int .i64 g.hi]] W fun e W' => e = .returned (.agg #[.bool (twoR 6 f g).e, .int .i64 (twoR 6 f g).lo, .int .i64 (twoR 6 f g).hi]) ∧ Below W.heap.size W W' := by
  cases hfe : f.e
  rotate_left
  · rw [show twoR 6 f g = noneR from if_pos (Or.inl hfe)]
    obtain ⟨e, lo, hi⟩ := f
    obtain ⟨e', lo', hi'⟩ := g
    simp only at hfe
    subst hfe
    clear hf hg
    show Calls _ _ #[.int .i64 6, .agg #[.bool true, .int .i64 lo, .int .i64 hi], .agg #[.bool e', .int .i64 lo', .int .i64 hi']] W _
    go_enter Try.func45, Try.ntmps45
    go_wp2
    exact bodyPost_ret (v := .agg #[.bool true, .int .i64 0, .int .i64 0]) (by simp only [results, Try.results45]; go_simp) rfl ⟨rfl, by repeat (first | exact Below.refl _ _ | refine Below.drew ?_ | refine Below.setCell ?_ (by simp; try omega) _ | refine Below.alloc ?_ (by simp; try omega) _)⟩
  cases hge : g.e
  rotate_left
  · rw [show twoR 6 f g = noneR from if_pos (Or.inr hge)]
    obtain ⟨e, lo, hi⟩ := f
    obtain ⟨e', lo', hi'⟩ := g
    simp only at hfe hge
    subst hfe
    subst hge
    clear hf hg
    show Calls _ _ #[.int .i64 6, .agg #[.bool false, .int .i64 lo, .int .i64 hi], .agg #[.bool true, .int .i64 lo', .int .i64 hi']] W _
    go_enter Try.func45, Try.ntmps45
    go_wp2
    exact bodyPost_ret (v := .agg #[.bool true, .int .i64 0, .int .i64 0]) (by simp only [results, Try.results45]; go_simp) rfl ⟨rfl, by repeat (first | exact Below.refl _ _ | refine Below.drew ?_ | refine Below.setCell ?_ (by simp; try omega) _ | refine Below.alloc ?_ (by simp; try omega) _)⟩
  have g1 := good_full hf hfe
  have g2 := good_full hg hge
  clear hf hg
  obtain ⟨e, lo, hi⟩ := f
  obtain ⟨e', lo', hi'⟩ := g
  simp only at hfe hge g1 g2
  subst hfe
  subst hge
  obtain ⟨p0, p1, p2⟩ := g1
  obtain ⟨q0, q1, q2⟩ := g2
  show Calls _ _ #[.int .i64 6, .agg #[.bool false, .int .i64 lo, .int .i64 hi], .agg #[.bool false, .int .i64 lo', .int .i64 hi']] W _
  rcases Int.lt_or_le hi lo' with h | h
  · rw [show twoR 6 ⟨false, lo, hi⟩ ⟨false, lo', hi'⟩ = ⟨false, 1, 1⟩ by simp [twoR, lessR, h]]
    have d1 : decide (hi < lo') = true := decide_eq_true h
    have h2 : lo < hi' := by omega
    have d2 : decide (lo < hi') = true := decide_eq_true h2
    go_enter Try.func45, Try.ntmps45
    go_wp2
    exact bodyPost_ret (v := .agg #[.bool false, .int .i64 1, .int .i64 1]) (by simp only [results, Try.results45]; go_simp) rfl ⟨rfl, by repeat (first | exact Below.refl _ _ | refine Below.drew ?_ | refine Below.setCell ?_ (by simp; try omega) _ | refine Below.alloc ?_ (by simp; try omega) _)⟩
  have d1 : decide (hi < lo') = false := decide_eq_false (by omega)
  rcases Int.lt_or_le lo hi' with k | k
  · rw [show twoR 6 ⟨false, lo, hi⟩ ⟨false, lo', hi'⟩ = ⟨false, 0, 1⟩ by simp only [twoR, lessR]; simp; rw [if_neg (by omega), if_neg (by omega)]]
    have d2 : decide (lo < hi') = true := decide_eq_true k
    have d3 : decide (hi' ≤ lo) = false := decide_eq_false (by omega)
    go_enter Try.func45, Try.ntmps45
    go_wp2
    exact bodyPost_ret (v := .agg #[.bool false, .int .i64 0, .int .i64 1]) (by simp only [results, Try.results45]; go_simp) rfl ⟨rfl, by repeat (first | exact Below.refl _ _ | refine Below.drew ?_ | refine Below.setCell ?_ (by simp; try omega) _ | refine Below.alloc ?_ (by simp; try omega) _)⟩
  · rw [show twoR 6 ⟨false, lo, hi⟩ ⟨false, lo', hi'⟩ = ⟨false, 0, 0⟩ by simp only [twoR, lessR]; simp; rw [if_neg (by omega), if_pos (by omega)]]
    have d2 : decide (lo < hi') = false := decide_eq_false (by omega)
    have d3 : decide (hi' ≤ lo) = true := decide_eq_true k
    go_enter Try.func45, Try.ntmps45
    go_wp2
    exact bodyPost_ret (v := .agg #[.bool false, .int .i64 0, .int .i64 0]) (by simp only [results, Try.results45]; go_simp) rfl ⟨rfl, by repeat (first | exact Below.refl _ _ | refine Below.drew ?_ | refine Below.setCell ?_ (by simp; try omega) _ | refine Below.alloc ?_ (by simp; try omega) _)⟩
set_option maxRecDepth 100000 in
set_option maxHeartbeats 4000000 in
theorem spec_two6_7 (f g : Rv) (W : World) (hf : f.good = true) (hg : g.good = true) : Calls Try.prog 45 #[.int .i64 7, .agg #[.bool f.e, .int .i64 f.lo, .int .i64 f.hi], .agg #[.bool g.e, .int .i64 g.lo, .int .i64 g.hi]] W fun e W' => e = .returned (.agg #[.bool (twoR 7 f g).e, .int .i64 (twoR 7 f g).lo, .int .i64 (twoR 7 f g).hi]) ∧ Below W.heap.size W W' := by
  cases hfe : f.e
  rotate_left
  · rw [show twoR 7 f g = noneR from if_pos (Or.inl hfe)]
    obtain ⟨e, lo, hi⟩ := f
    obtain ⟨e', lo', hi'⟩ := g
    simp only at hfe
    subst hfe
    clear hf hg
    show Calls _ _ #[.int .i64 7, .agg #[.bool true, .int .i64 lo, .int .i64 hi], .agg #[.bool e', .int .i64 lo', .int .i64 hi']] W _
    go_enter Try.func45, Try.ntmps45
    go_wp2
    exact bodyPost_ret (v := .agg #[.bool true, .int .i64 0, .int .i64 0]) (by simp only [results, Try.results45]; go_simp) rfl ⟨rfl, by repeat (first | exact Below.refl _ _ | refine Below.drew ?_ | refine Below.setCell ?_ (by simp; try omega) _ | refine Below.alloc ?_ (by simp; try omega) _)⟩
  cases hge : g.e
  rotate_left
  · rw [show twoR 7 f g = noneR from if_pos (Or.inr hge)]
    obtain ⟨e, lo, hi⟩ := f
    obtain ⟨e', lo', hi'⟩ := g
    simp only at hfe hge
    subst hfe
    subst hge
    clear hf hg
    show Calls _ _ #[.int .i64 7, .agg #[.bool false, .int .i64 lo, .int .i64 hi], .agg #[.bool true, .int .i64 lo', .int .i64 hi']] W _
    go_enter Try.func45, Try.ntmps45
    go_wp2
    exact bodyPost_ret (v := .agg #[.bool true, .int .i64 0, .int .i64 0]) (by simp only [results, Try.results45]; go_simp) rfl ⟨rfl, by repeat (first | exact Below.refl _ _ | refine Below.drew ?_ | refine Below.setCell ?_ (by simp; try omega) _ | refine Below.alloc ?_ (by simp; try omega) _)⟩
  have g1 := good_full hf hfe
  have g2 := good_full hg hge
  clear hf hg
  obtain ⟨e, lo, hi⟩ := f
  obtain ⟨e', lo', hi'⟩ := g
  simp only at hfe hge g1 g2
  subst hfe
  subst hge
  obtain ⟨p0, p1, p2⟩ := g1
  obtain ⟨q0, q1, q2⟩ := g2
  show Calls _ _ #[.int .i64 7, .agg #[.bool false, .int .i64 lo, .int .i64 hi], .agg #[.bool false, .int .i64 lo', .int .i64 hi']] W _
  rcases hM : meetR ⟨false, lo, hi⟩ ⟨false, lo', hi'⟩ with ⟨me, mlo, mhi⟩
  cases me
  · rw [show twoR 7 ⟨false, lo, hi⟩ ⟨false, lo', hi'⟩ = ⟨false, 0, 1⟩ by simp [twoR, equalR, hM]]
    have hf0 := field0R
    have P : ∀ W', Calls Try.prog 40 #[.agg #[.bool false, .int .i64 lo, .int .i64 hi], .agg #[.bool false, .int .i64 lo', .int .i64 hi']] W' fun e W'' => e = .returned (.agg #[.bool false, .int .i64 mlo, .int .i64 mhi]) ∧ Below W'.heap.size W' W'' := fun W' => by have q := spec_meet6 ⟨false, lo, hi⟩ ⟨false, lo', hi'⟩ W'; rw [hM] at q; exact q
    go_enter Try.func45, Try.ntmps45
    go_wp2_with (go_at_call 40; refine (P _).mono ?_; rintro e w' ⟨rfl, B1⟩; obtain ⟨c1, y1⟩ := bcellR B1)
    all_goals exact bodyPost_ret (v := .agg #[.bool false, .int .i64 0, .int .i64 1]) (by simp only [results, Try.results45]; go_simp) rfl ⟨rfl, by refine Below.trans (belR (by repeat (first | exact Below.refl _ _ | refine Below.drew ?_ | refine Below.setCell ?_ (by simp; try omega) _ | refine Below.alloc ?_ (by simp; try omega) _)) B1) ?_; repeat (first | exact Below.refl _ _ | refine Below.drew ?_ | refine Below.setCell ?_ (by simp; try omega) _ | refine Below.alloc ?_ (by simp; try omega) _)⟩
  · rw [show twoR 7 ⟨false, lo, hi⟩ ⟨false, lo', hi'⟩ = ⟨false, 0, 0⟩ by simp [twoR, equalR, hM]]
    have hf0 := field0R
    have P : ∀ W', Calls Try.prog 40 #[.agg #[.bool false, .int .i64 lo, .int .i64 hi], .agg #[.bool false, .int .i64 lo', .int .i64 hi']] W' fun e W'' => e = .returned (.agg #[.bool true, .int .i64 mlo, .int .i64 mhi]) ∧ Below W'.heap.size W' W'' := fun W' => by have q := spec_meet6 ⟨false, lo, hi⟩ ⟨false, lo', hi'⟩ W'; rw [hM] at q; exact q
    go_enter Try.func45, Try.ntmps45
    go_wp2_with (go_at_call 40; refine (P _).mono ?_; rintro e w' ⟨rfl, B1⟩; obtain ⟨c1, y1⟩ := bcellR B1)
    all_goals exact bodyPost_ret (v := .agg #[.bool false, .int .i64 0, .int .i64 0]) (by simp only [results, Try.results45]; go_simp) rfl ⟨rfl, by refine Below.trans (belR (by repeat (first | exact Below.refl _ _ | refine Below.drew ?_ | refine Below.setCell ?_ (by simp; try omega) _ | refine Below.alloc ?_ (by simp; try omega) _)) B1) ?_; repeat (first | exact Below.refl _ _ | refine Below.drew ?_ | refine Below.setCell ?_ (by simp; try omega) _ | refine Below.alloc ?_ (by simp; try omega) _)⟩
theorem spec_two6 (o : Int) (f g : Rv) (W : World) (o3 : 3 ≤ o) (o7 : o ≤ 7) (hf : f.good = true) (hg : g.good = true) : Calls Try.prog 45 #[.int .i64 o, .agg #[.bool f.e, .int .i64 f.lo, .int .i64 f.hi], .agg #[.bool g.e, .int .i64 g.lo, .int .i64 g.hi]] W fun e W' => e = .returned (.agg #[.bool (twoR o f g).e, .int .i64 (twoR o f g).lo, .int .i64 (twoR o f g).hi]) ∧ Below W.heap.size W W' := by
  rcases (show o = 3 ∨ o = 4 ∨ o = 5 ∨ o = 6 ∨ o = 7 by omega) with rfl | rfl | rfl | rfl | rfl
  · exact spec_two6_3 f g W hf hg
  · exact spec_two6_4 f g W hf hg
  · exact spec_two6_5 f g W hf hg
  · exact spec_two6_6 f g W hf hg
  · exact spec_two6_7 f g W hf hg

set_option maxRecDepth 100000 in
set_option maxHeartbeats 4000000 in
theorem impl_two6_3 (f g : Rv) (W : World) (hf : f.good = true) (hg : g.good = true) : Calls Try.prog 46 #[.int .i64 3, .agg #[.bool f.e, .int .i64 f.lo, .int .i64 f.hi], .agg #[.bool g.e, .int .i64 g.lo, .int .i64 g.hi]] W fun e W' => e = .returned (.agg #[.bool (twoR 3 f g).e, .int .i64 (twoR 3 f g).lo, .int .i64 (twoR 3 f g).hi]) ∧ Below W.heap.size W W' := by
  cases hfe : f.e
  rotate_left
  · rw [show twoR 3 f g = noneR from if_pos (Or.inl hfe)]
    obtain ⟨e, lo, hi⟩ := f
    obtain ⟨e', lo', hi'⟩ := g
    simp only at hfe
    subst hfe
    clear hf hg
    show Calls _ _ #[.int .i64 3, .agg #[.bool true, .int .i64 lo, .int .i64 hi], .agg #[.bool e', .int .i64 lo', .int .i64 hi']] W _
    go_enter Try.func46, Try.ntmps46
    go_wp2_with (first | (go_at_call 71; refine (impl_none _).mono ?_; rintro e w' ⟨rfl, B1⟩; obtain ⟨c1, y1⟩ := bcellR B1))
    exact bodyPost_ret (v := .agg #[.bool true, .int .i64 0, .int .i64 0]) (by simp only [results, Try.results46]; go_simp) rfl ⟨rfl, by refine Below.trans (belR (by repeat (first | exact Below.refl _ _ | refine Below.drew ?_ | refine Below.setCell ?_ (by simp; try omega) _ | refine Below.alloc ?_ (by simp; try omega) _)) B1) ?_; repeat (first | exact Below.refl _ _ | refine Below.drew ?_ | refine Below.setCell ?_ (by simp; try omega) _ | refine Below.alloc ?_ (by simp; try omega) _)⟩
  cases hge : g.e
  rotate_left
  · rw [show twoR 3 f g = noneR from if_pos (Or.inr hge)]
    obtain ⟨e, lo, hi⟩ := f
    obtain ⟨e', lo', hi'⟩ := g
    simp only at hfe hge
    subst hfe
    subst hge
    clear hf hg
    show Calls _ _ #[.int .i64 3, .agg #[.bool false, .int .i64 lo, .int .i64 hi], .agg #[.bool true, .int .i64 lo', .int .i64 hi']] W _
    go_enter Try.func46, Try.ntmps46
    go_wp2_with (first | (go_at_call 71; refine (impl_none _).mono ?_; rintro e w' ⟨rfl, B1⟩; obtain ⟨c1, y1⟩ := bcellR B1))
    exact bodyPost_ret (v := .agg #[.bool true, .int .i64 0, .int .i64 0]) (by simp only [results, Try.results46]; go_simp) rfl ⟨rfl, by refine Below.trans (belR (by repeat (first | exact Below.refl _ _ | refine Below.drew ?_ | refine Below.setCell ?_ (by simp; try omega) _ | refine Below.alloc ?_ (by simp; try omega) _)) B1) ?_; repeat (first | exact Below.refl _ _ | refine Below.drew ?_ | refine Below.setCell ?_ (by simp; try omega) _ | refine Below.alloc ?_ (by simp; try omega) _)⟩
  have g1 := good_full hf hfe
  have g2 := good_full hg hge
  clear hf hg
  obtain ⟨e, lo, hi⟩ := f
  obtain ⟨e', lo', hi'⟩ := g
  simp only at hfe hge g1 g2
  subst hfe
  subst hge
  obtain ⟨p0, p1, p2⟩ := g1
  obtain ⟨q0, q1, q2⟩ := g2
  show Calls _ _ #[.int .i64 3, .agg #[.bool false, .int .i64 lo, .int .i64 hi], .agg #[.bool false, .int .i64 lo', .int .i64 hi']] W _
  have hle : lo + lo' ≤ hi + hi' := by omega
  rw [show twoR 3 ⟨false, lo, hi⟩ ⟨false, lo', hi'⟩ = spanR (lo + lo') (hi + hi') by simp [twoR]]
  go_enter Try.func46, Try.ntmps46
  go_wp2_with (first | (go_at_call 74; refine (impl_span _ _ _ hle).mono ?_; rintro e w' ⟨rfl, B1⟩; obtain ⟨c1, y1⟩ := bcellR B1))
  exact bodyPost_ret (v := .agg #[.bool (spanR (lo + lo') (hi + hi')).e, .int .i64 (spanR (lo + lo') (hi + hi')).lo, .int .i64 (spanR (lo + lo') (hi + hi')).hi]) (by simp only [results, Try.results46]; go_simp) rfl ⟨rfl, by refine Below.trans (belR (by repeat (first | exact Below.refl _ _ | refine Below.drew ?_ | refine Below.setCell ?_ (by simp; try omega) _ | refine Below.alloc ?_ (by simp; try omega) _)) B1) ?_; repeat (first | exact Below.refl _ _ | refine Below.drew ?_ | refine Below.setCell ?_ (by simp; try omega) _ | refine Below.alloc ?_ (by simp; try omega) _)⟩
set_option maxRecDepth 100000 in
set_option maxHeartbeats 4000000 in
theorem impl_two6_4 (f g : Rv) (W : World) (hf : f.good = true) (hg : g.good = true) : Calls Try.prog 46 #[.int .i64 4, .agg #[.bool f.e, .int .i64 f.lo, .int .i64 f.hi], .agg #[.bool g.e, .int .i64 g.lo, .int .i64 g.hi]] W fun e W' => e = .returned (.agg #[.bool (twoR 4 f g).e, .int .i64 (twoR 4 f g).lo, .int .i64 (twoR 4 f g).hi]) ∧ Below W.heap.size W W' := by
  cases hfe : f.e
  rotate_left
  · rw [show twoR 4 f g = noneR from if_pos (Or.inl hfe)]
    obtain ⟨e, lo, hi⟩ := f
    obtain ⟨e', lo', hi'⟩ := g
    simp only at hfe
    subst hfe
    clear hf hg
    show Calls _ _ #[.int .i64 4, .agg #[.bool true, .int .i64 lo, .int .i64 hi], .agg #[.bool e', .int .i64 lo', .int .i64 hi']] W _
    go_enter Try.func46, Try.ntmps46
    go_wp2_with (first | (go_at_call 71; refine (impl_none _).mono ?_; rintro e w' ⟨rfl, B1⟩; obtain ⟨c1, y1⟩ := bcellR B1))
    exact bodyPost_ret (v := .agg #[.bool true, .int .i64 0, .int .i64 0]) (by simp only [results, Try.results46]; go_simp) rfl ⟨rfl, by refine Below.trans (belR (by repeat (first | exact Below.refl _ _ | refine Below.drew ?_ | refine Below.setCell ?_ (by simp; try omega) _ | refine Below.alloc ?_ (by simp; try omega) _)) B1) ?_; repeat (first | exact Below.refl _ _ | refine Below.drew ?_ | refine Below.setCell ?_ (by simp; try omega) _ | refine Below.alloc ?_ (by simp; try omega) _)⟩
  cases hge : g.e
  rotate_left
  · rw [show twoR 4 f g = noneR from if_pos (Or.inr hge)]
    obtain ⟨e, lo, hi⟩ := f
    obtain ⟨e', lo', hi'⟩ := g
    simp only at hfe hge
    subst hfe
    subst hge
    clear hf hg
    show Calls _ _ #[.int .i64 4, .agg #[.bool false, .int .i64 lo, .int .i64 hi], .agg #[.bool true, .int .i64 lo', .int .i64 hi']] W _
    go_enter Try.func46, Try.ntmps46
    go_wp2_with (first | (go_at_call 71; refine (impl_none _).mono ?_; rintro e w' ⟨rfl, B1⟩; obtain ⟨c1, y1⟩ := bcellR B1))
    exact bodyPost_ret (v := .agg #[.bool true, .int .i64 0, .int .i64 0]) (by simp only [results, Try.results46]; go_simp) rfl ⟨rfl, by refine Below.trans (belR (by repeat (first | exact Below.refl _ _ | refine Below.drew ?_ | refine Below.setCell ?_ (by simp; try omega) _ | refine Below.alloc ?_ (by simp; try omega) _)) B1) ?_; repeat (first | exact Below.refl _ _ | refine Below.drew ?_ | refine Below.setCell ?_ (by simp; try omega) _ | refine Below.alloc ?_ (by simp; try omega) _)⟩
  have g1 := good_full hf hfe
  have g2 := good_full hg hge
  clear hf hg
  obtain ⟨e, lo, hi⟩ := f
  obtain ⟨e', lo', hi'⟩ := g
  simp only at hfe hge g1 g2
  subst hfe
  subst hge
  obtain ⟨p0, p1, p2⟩ := g1
  obtain ⟨q0, q1, q2⟩ := g2
  show Calls _ _ #[.int .i64 4, .agg #[.bool false, .int .i64 lo, .int .i64 hi], .agg #[.bool false, .int .i64 lo', .int .i64 hi']] W _
  have hle : lo - hi' ≤ hi - lo' := by omega
  rw [show twoR 4 ⟨false, lo, hi⟩ ⟨false, lo', hi'⟩ = spanR (lo - hi') (hi - lo') by simp [twoR]]
  go_enter Try.func46, Try.ntmps46
  go_wp2_with (first | (go_at_call 74; refine (impl_span _ _ _ hle).mono ?_; rintro e w' ⟨rfl, B1⟩; obtain ⟨c1, y1⟩ := bcellR B1))
  exact bodyPost_ret (v := .agg #[.bool (spanR (lo - hi') (hi - lo')).e, .int .i64 (spanR (lo - hi') (hi - lo')).lo, .int .i64 (spanR (lo - hi') (hi - lo')).hi]) (by simp only [results, Try.results46]; go_simp) rfl ⟨rfl, by refine Below.trans (belR (by repeat (first | exact Below.refl _ _ | refine Below.drew ?_ | refine Below.setCell ?_ (by simp; try omega) _ | refine Below.alloc ?_ (by simp; try omega) _)) B1) ?_; repeat (first | exact Below.refl _ _ | refine Below.drew ?_ | refine Below.setCell ?_ (by simp; try omega) _ | refine Below.alloc ?_ (by simp; try omega) _)⟩
set_option maxRecDepth 100000 in
set_option maxHeartbeats 4000000 in
theorem impl_two6_5 (f g : Rv) (W : World) (hf : f.good = true) (hg : g.good = true) : Calls Try.prog 46 #[.int .i64 5, .agg #[.bool f.e, .int .i64 f.lo, .int .i64 f.hi], .agg #[.bool g.e, .int .i64 g.lo, .int .i64 g.hi]] W fun e W' => e = .returned (.agg #[.bool (twoR 5 f g).e, .int .i64 (twoR 5 f g).lo, .int .i64 (twoR 5 f g).hi]) ∧ Below W.heap.size W W' := by
  cases hfe : f.e
  rotate_left
  · rw [show twoR 5 f g = noneR from if_pos (Or.inl hfe)]
    obtain ⟨e, lo, hi⟩ := f
    obtain ⟨e', lo', hi'⟩ := g
    simp only at hfe
    subst hfe
    clear hf hg
    show Calls _ _ #[.int .i64 5, .agg #[.bool true, .int .i64 lo, .int .i64 hi], .agg #[.bool e', .int .i64 lo', .int .i64 hi']] W _
    go_enter Try.func46, Try.ntmps46
    go_wp2_with (first | (go_at_call 71; refine (impl_none _).mono ?_; rintro e w' ⟨rfl, B1⟩; obtain ⟨c1, y1⟩ := bcellR B1))
    exact bodyPost_ret (v := .agg #[.bool true, .int .i64 0, .int .i64 0]) (by simp only [results, Try.results46]; go_simp) rfl ⟨rfl, by refine Below.trans (belR (by repeat (first | exact Below.refl _ _ | refine Below.drew ?_ | refine Below.setCell ?_ (by simp; try omega) _ | refine Below.alloc ?_ (by simp; try omega) _)) B1) ?_; repeat (first | exact Below.refl _ _ | refine Below.drew ?_ | refine Below.setCell ?_ (by simp; try omega) _ | refine Below.alloc ?_ (by simp; try omega) _)⟩
  cases hge : g.e
  rotate_left
  · rw [show twoR 5 f g = noneR from if_pos (Or.inr hge)]
    obtain ⟨e, lo, hi⟩ := f
    obtain ⟨e', lo', hi'⟩ := g
    simp only at hfe hge
    subst hfe
    subst hge
    clear hf hg
    show Calls _ _ #[.int .i64 5, .agg #[.bool false, .int .i64 lo, .int .i64 hi], .agg #[.bool true, .int .i64 lo', .int .i64 hi']] W _
    go_enter Try.func46, Try.ntmps46
    go_wp2_with (first | (go_at_call 71; refine (impl_none _).mono ?_; rintro e w' ⟨rfl, B1⟩; obtain ⟨c1, y1⟩ := bcellR B1))
    exact bodyPost_ret (v := .agg #[.bool true, .int .i64 0, .int .i64 0]) (by simp only [results, Try.results46]; go_simp) rfl ⟨rfl, by refine Below.trans (belR (by repeat (first | exact Below.refl _ _ | refine Below.drew ?_ | refine Below.setCell ?_ (by simp; try omega) _ | refine Below.alloc ?_ (by simp; try omega) _)) B1) ?_; repeat (first | exact Below.refl _ _ | refine Below.drew ?_ | refine Below.setCell ?_ (by simp; try omega) _ | refine Below.alloc ?_ (by simp; try omega) _)⟩
  have g1 := good_full hf hfe
  have g2 := good_full hg hge
  clear hf hg
  obtain ⟨e, lo, hi⟩ := f
  obtain ⟨e', lo', hi'⟩ := g
  simp only at hfe hge g1 g2
  subst hfe
  subst hge
  obtain ⟨p0, p1, p2⟩ := g1
  obtain ⟨q0, q1, q2⟩ := g2
  show Calls _ _ #[.int .i64 5, .agg #[.bool false, .int .i64 lo, .int .i64 hi], .agg #[.bool false, .int .i64 lo', .int .i64 hi']] W _
  have hle : lo * lo' ≤ hi * hi' := Int.mul_le_mul p1 q1 q0 (by omega)
  rw [show twoR 5 ⟨false, lo, hi⟩ ⟨false, lo', hi'⟩ = spanR (lo * lo') (hi * hi') by simp [twoR]]
  have m1 := mul_word p0 (by omega : lo ≤ 65535) q0 (by omega : lo' ≤ 65535)
  have m2 := mul_word (by omega : 0 ≤ hi) p2 (by omega : 0 ≤ hi') q2
  obtain ⟨m10, m11⟩ := m1
  obtain ⟨m20, m21⟩ := m2
  go_enter Try.func46, Try.ntmps46
  go_wp2_with (first | (go_at_call 74; refine (impl_span _ _ _ hle).mono ?_; rintro e w' ⟨rfl, B1⟩; obtain ⟨c1, y1⟩ := bcellR B1))
  exact bodyPost_ret (v := .agg #[.bool (spanR (lo * lo') (hi * hi')).e, .int .i64 (spanR (lo * lo') (hi * hi')).lo, .int .i64 (spanR (lo * lo') (hi * hi')).hi]) (by simp only [results, Try.results46]; go_simp) rfl ⟨rfl, by refine Below.trans (belR (by repeat (first | exact Below.refl _ _ | refine Below.drew ?_ | refine Below.setCell ?_ (by simp; try omega) _ | refine Below.alloc ?_ (by simp; try omega) _)) B1) ?_; repeat (first | exact Below.refl _ _ | refine Below.drew ?_ | refine Below.setCell ?_ (by simp; try omega) _ | refine Below.alloc ?_ (by simp; try omega) _)⟩
set_option maxRecDepth 100000 in
set_option maxHeartbeats 4000000 in
theorem impl_two6_6 (f g : Rv) (W : World) (hf : f.good = true) (hg : g.good = true) : Calls Try.prog 46 #[.int .i64 6, .agg #[.bool f.e, .int .i64 f.lo, .int .i64 f.hi], .agg #[.bool g.e, .int .i64 g.lo, .int .i64 g.hi]] W fun e W' => e = .returned (.agg #[.bool (twoR 6 f g).e, .int .i64 (twoR 6 f g).lo, .int .i64 (twoR 6 f g).hi]) ∧ Below W.heap.size W W' := by
  cases hfe : f.e
  rotate_left
  · rw [show twoR 6 f g = noneR from if_pos (Or.inl hfe)]
    obtain ⟨e, lo, hi⟩ := f
    obtain ⟨e', lo', hi'⟩ := g
    simp only at hfe
    subst hfe
    clear hf hg
    show Calls _ _ #[.int .i64 6, .agg #[.bool true, .int .i64 lo, .int .i64 hi], .agg #[.bool e', .int .i64 lo', .int .i64 hi']] W _
    go_enter Try.func46, Try.ntmps46
    go_wp2_with (first | (go_at_call 71; refine (impl_none _).mono ?_; rintro e w' ⟨rfl, B1⟩; obtain ⟨c1, y1⟩ := bcellR B1))
    exact bodyPost_ret (v := .agg #[.bool true, .int .i64 0, .int .i64 0]) (by simp only [results, Try.results46]; go_simp) rfl ⟨rfl, by refine Below.trans (belR (by repeat (first | exact Below.refl _ _ | refine Below.drew ?_ | refine Below.setCell ?_ (by simp; try omega) _ | refine Below.alloc ?_ (by simp; try omega) _)) B1) ?_; repeat (first | exact Below.refl _ _ | refine Below.drew ?_ | refine Below.setCell ?_ (by simp; try omega) _ | refine Below.alloc ?_ (by simp; try omega) _)⟩
  cases hge : g.e
  rotate_left
  · rw [show twoR 6 f g = noneR from if_pos (Or.inr hge)]
    obtain ⟨e, lo, hi⟩ := f
    obtain ⟨e', lo', hi'⟩ := g
    simp only at hfe hge
    subst hfe
    subst hge
    clear hf hg
    show Calls _ _ #[.int .i64 6, .agg #[.bool false, .int .i64 lo, .int .i64 hi], .agg #[.bool true, .int .i64 lo', .int .i64 hi']] W _
    go_enter Try.func46, Try.ntmps46
    go_wp2_with (first | (go_at_call 71; refine (impl_none _).mono ?_; rintro e w' ⟨rfl, B1⟩; obtain ⟨c1, y1⟩ := bcellR B1))
    exact bodyPost_ret (v := .agg #[.bool true, .int .i64 0, .int .i64 0]) (by simp only [results, Try.results46]; go_simp) rfl ⟨rfl, by refine Below.trans (belR (by repeat (first | exact Below.refl _ _ | refine Below.drew ?_ | refine Below.setCell ?_ (by simp; try omega) _ | refine Below.alloc ?_ (by simp; try omega) _)) B1) ?_; repeat (first | exact Below.refl _ _ | refine Below.drew ?_ | refine Below.setCell ?_ (by simp; try omega) _ | refine Below.alloc ?_ (by simp; try omega) _)⟩
  have g1 := good_full hf hfe
  have g2 := good_full hg hge
  clear hf hg
  obtain ⟨e, lo, hi⟩ := f
  obtain ⟨e', lo', hi'⟩ := g
  simp only at hfe hge g1 g2
  subst hfe
  subst hge
  obtain ⟨p0, p1, p2⟩ := g1
  obtain ⟨q0, q1, q2⟩ := g2
  show Calls _ _ #[.int .i64 6, .agg #[.bool false, .int .i64 lo, .int .i64 hi], .agg #[.bool false, .int .i64 lo', .int .i64 hi']] W _
  rcases Int.lt_or_le hi lo' with h | h
  · rw [show twoR 6 ⟨false, lo, hi⟩ ⟨false, lo', hi'⟩ = ⟨false, 1, 1⟩ by simp [twoR, lessR, h]]
    have d1 : decide (hi < lo') = true := decide_eq_true h
    have h2 : lo < hi' := by omega
    have d2 : decide (lo < hi') = true := decide_eq_true h2
    go_enter Try.func46, Try.ntmps46
    go_wp2_with fail
    go_region_held3 (fun w' => (w'.cell? ⟨W.heap.size, 0, none⟩ = some (.bool false) ∧ w'.cell? ⟨W.heap.size, 1, none⟩ = some (.int .i64 lo) ∧ w'.cell? ⟨W.heap.size, 2, none⟩ = some (.int .i64 hi)) ∧ w'.cell? ⟨W.heap.size + 1, 0, none⟩ = some (.bool false) ∧ w'.cell? ⟨W.heap.size + 1, 1, none⟩ = some (.int .i64 lo') ∧ w'.cell? ⟨W.heap.size + 1, 2, none⟩ = some (.int .i64 hi'))
      (first | assumption | go_keep | (refine ⟨⟨?_, ?_, ?_⟩, ?_, ?_, ?_⟩ <;> go_simp))
      (first | (go_at_call 75; refine (impl_oneR _ _).mono ?_; rintro e w' ⟨rfl, rfl⟩))
    go_wp2
    exact bodyPost_ret (v := .agg #[.bool false, .int .i64 1, .int .i64 1]) (by simp only [results, Try.results46]; go_simp) rfl ⟨rfl, by repeat (first | exact Below.refl _ _ | refine Below.drew ?_ | refine Below.setCell ?_ (by simp; try omega) _ | refine Below.alloc ?_ (by simp; try omega) _)⟩
  have d1 : decide (hi < lo') = false := decide_eq_false (by omega)
  rcases Int.lt_or_le lo hi' with k | k
  · rw [show twoR 6 ⟨false, lo, hi⟩ ⟨false, lo', hi'⟩ = ⟨false, 0, 1⟩ by simp only [twoR, lessR]; simp; rw [if_neg (by omega), if_neg (by omega)]]
    have d2 : decide (lo < hi') = true := decide_eq_true k
    have d3 : decide (hi' ≤ lo) = false := decide_eq_false (by omega)
    go_enter Try.func46, Try.ntmps46
    go_wp2_with fail
    go_region_held3 (fun w' => (w'.cell? ⟨W.heap.size, 0, none⟩ = some (.bool false) ∧ w'.cell? ⟨W.heap.size, 1, none⟩ = some (.int .i64 lo) ∧ w'.cell? ⟨W.heap.size, 2, none⟩ = some (.int .i64 hi)) ∧ w'.cell? ⟨W.heap.size + 1, 0, none⟩ = some (.bool false) ∧ w'.cell? ⟨W.heap.size + 1, 1, none⟩ = some (.int .i64 lo') ∧ w'.cell? ⟨W.heap.size + 1, 2, none⟩ = some (.int .i64 hi'))
      (first | assumption | go_keep | (refine ⟨⟨?_, ?_, ?_⟩, ?_, ?_, ?_⟩ <;> go_simp))
      (first | (go_at_call 75; refine (impl_oneR _ _).mono ?_; rintro e w' ⟨rfl, rfl⟩))
    go_wp2
    exact bodyPost_ret (v := .agg #[.bool false, .int .i64 0, .int .i64 1]) (by simp only [results, Try.results46]; go_simp) rfl ⟨rfl, by repeat (first | exact Below.refl _ _ | refine Below.drew ?_ | refine Below.setCell ?_ (by simp; try omega) _ | refine Below.alloc ?_ (by simp; try omega) _)⟩
  · rw [show twoR 6 ⟨false, lo, hi⟩ ⟨false, lo', hi'⟩ = ⟨false, 0, 0⟩ by simp only [twoR, lessR]; simp; rw [if_neg (by omega), if_pos (by omega)]]
    have d2 : decide (lo < hi') = false := decide_eq_false (by omega)
    have d3 : decide (hi' ≤ lo) = true := decide_eq_true k
    go_enter Try.func46, Try.ntmps46
    go_wp2_with fail
    go_region_held3 (fun w' => (w'.cell? ⟨W.heap.size, 0, none⟩ = some (.bool false) ∧ w'.cell? ⟨W.heap.size, 1, none⟩ = some (.int .i64 lo) ∧ w'.cell? ⟨W.heap.size, 2, none⟩ = some (.int .i64 hi)) ∧ w'.cell? ⟨W.heap.size + 1, 0, none⟩ = some (.bool false) ∧ w'.cell? ⟨W.heap.size + 1, 1, none⟩ = some (.int .i64 lo') ∧ w'.cell? ⟨W.heap.size + 1, 2, none⟩ = some (.int .i64 hi'))
      (first | assumption | go_keep | (refine ⟨⟨?_, ?_, ?_⟩, ?_, ?_, ?_⟩ <;> go_simp))
      (first | (go_at_call 75; refine (impl_oneR _ _).mono ?_; rintro e w' ⟨rfl, rfl⟩))
    go_wp2
    exact bodyPost_ret (v := .agg #[.bool false, .int .i64 0, .int .i64 0]) (by simp only [results, Try.results46]; go_simp) rfl ⟨rfl, by repeat (first | exact Below.refl _ _ | refine Below.drew ?_ | refine Below.setCell ?_ (by simp; try omega) _ | refine Below.alloc ?_ (by simp; try omega) _)⟩
set_option maxRecDepth 100000 in
set_option maxHeartbeats 4000000 in
theorem impl_two6_7 (f g : Rv) (W : World) (hf : f.good = true) (hg : g.good = true) : Calls Try.prog 46 #[.int .i64 7, .agg #[.bool f.e, .int .i64 f.lo, .int .i64 f.hi], .agg #[.bool g.e, .int .i64 g.lo, .int .i64 g.hi]] W fun e W' => e = .returned (.agg #[.bool (twoR 7 f g).e, .int .i64 (twoR 7 f g).lo, .int .i64 (twoR 7 f g).hi]) ∧ Below W.heap.size W W' := by
  cases hfe : f.e
  rotate_left
  · rw [show twoR 7 f g = noneR from if_pos (Or.inl hfe)]
    obtain ⟨e, lo, hi⟩ := f
    obtain ⟨e', lo', hi'⟩ := g
    simp only at hfe
    subst hfe
    clear hf hg
    show Calls _ _ #[.int .i64 7, .agg #[.bool true, .int .i64 lo, .int .i64 hi], .agg #[.bool e', .int .i64 lo', .int .i64 hi']] W _
    go_enter Try.func46, Try.ntmps46
    go_wp2_with (first | (go_at_call 71; refine (impl_none _).mono ?_; rintro e w' ⟨rfl, B1⟩; obtain ⟨c1, y1⟩ := bcellR B1))
    exact bodyPost_ret (v := .agg #[.bool true, .int .i64 0, .int .i64 0]) (by simp only [results, Try.results46]; go_simp) rfl ⟨rfl, by refine Below.trans (belR (by repeat (first | exact Below.refl _ _ | refine Below.drew ?_ | refine Below.setCell ?_ (by simp; try omega) _ | refine Below.alloc ?_ (by simp; try omega) _)) B1) ?_; repeat (first | exact Below.refl _ _ | refine Below.drew ?_ | refine Below.setCell ?_ (by simp; try omega) _ | refine Below.alloc ?_ (by simp; try omega) _)⟩
  cases hge : g.e
  rotate_left
  · rw [show twoR 7 f g = noneR from if_pos (Or.inr hge)]
    obtain ⟨e, lo, hi⟩ := f
    obtain ⟨e', lo', hi'⟩ := g
    simp only at hfe hge
    subst hfe
    subst hge
    clear hf hg
    show Calls _ _ #[.int .i64 7, .agg #[.bool false, .int .i64 lo, .int .i64 hi], .agg #[.bool true, .int .i64 lo', .int .i64 hi']] W _
    go_enter Try.func46, Try.ntmps46
    go_wp2_with (first | (go_at_call 71; refine (impl_none _).mono ?_; rintro e w' ⟨rfl, B1⟩; obtain ⟨c1, y1⟩ := bcellR B1))
    exact bodyPost_ret (v := .agg #[.bool true, .int .i64 0, .int .i64 0]) (by simp only [results, Try.results46]; go_simp) rfl ⟨rfl, by refine Below.trans (belR (by repeat (first | exact Below.refl _ _ | refine Below.drew ?_ | refine Below.setCell ?_ (by simp; try omega) _ | refine Below.alloc ?_ (by simp; try omega) _)) B1) ?_; repeat (first | exact Below.refl _ _ | refine Below.drew ?_ | refine Below.setCell ?_ (by simp; try omega) _ | refine Below.alloc ?_ (by simp; try omega) _)⟩
  have g1 := good_full hf hfe
  have g2 := good_full hg hge
  clear hf hg
  obtain ⟨e, lo, hi⟩ := f
  obtain ⟨e', lo', hi'⟩ := g
  simp only at hfe hge g1 g2
  subst hfe
  subst hge
  obtain ⟨p0, p1, p2⟩ := g1
  obtain ⟨q0, q1, q2⟩ := g2
  show Calls _ _ #[.int .i64 7, .agg #[.bool false, .int .i64 lo, .int .i64 hi], .agg #[.bool false, .int .i64 lo', .int .i64 hi']] W _
  rcases hM : meetR ⟨false, lo, hi⟩ ⟨false, lo', hi'⟩ with ⟨me, mlo, mhi⟩
  cases me
  · rw [show twoR 7 ⟨false, lo, hi⟩ ⟨false, lo', hi'⟩ = ⟨false, 0, 1⟩ by simp [twoR, equalR, hM]]
    have hf0 := field0R
    have P : ∀ W', Calls Try.prog 42 #[.agg #[.bool false, .int .i64 lo, .int .i64 hi], .agg #[.bool false, .int .i64 lo', .int .i64 hi']] W' fun e W'' => e = .returned (.agg #[.bool false, .int .i64 mlo, .int .i64 mhi]) ∧ Below W'.heap.size W' W'' := fun W' => by have q := impl_meet6 ⟨false, lo, hi⟩ ⟨false, lo', hi'⟩ W'; rw [hM] at q; exact q
    go_enter Try.func46, Try.ntmps46
    go_wp2_with (first | (go_at_call 42; refine (P _).mono ?_; rintro e w' ⟨rfl, B1⟩; obtain ⟨c1, y1⟩ := bcellR B1) | (go_at_call 75; refine (impl_oneR _ _).mono ?_; rintro e w' ⟨rfl, rfl⟩))
    all_goals exact bodyPost_ret (v := .agg #[.bool false, .int .i64 0, .int .i64 1]) (by simp only [results, Try.results46]; go_simp) rfl ⟨rfl, by refine Below.trans (belR (by repeat (first | exact Below.refl _ _ | refine Below.drew ?_ | refine Below.setCell ?_ (by simp; try omega) _ | refine Below.alloc ?_ (by simp; try omega) _)) B1) ?_; repeat (first | exact Below.refl _ _ | refine Below.drew ?_ | refine Below.setCell ?_ (by simp; try omega) _ | refine Below.alloc ?_ (by simp; try omega) _)⟩
  · rw [show twoR 7 ⟨false, lo, hi⟩ ⟨false, lo', hi'⟩ = ⟨false, 0, 0⟩ by simp [twoR, equalR, hM]]
    have hf0 := field0R
    have P : ∀ W', Calls Try.prog 42 #[.agg #[.bool false, .int .i64 lo, .int .i64 hi], .agg #[.bool false, .int .i64 lo', .int .i64 hi']] W' fun e W'' => e = .returned (.agg #[.bool true, .int .i64 mlo, .int .i64 mhi]) ∧ Below W'.heap.size W' W'' := fun W' => by have q := impl_meet6 ⟨false, lo, hi⟩ ⟨false, lo', hi'⟩ W'; rw [hM] at q; exact q
    go_enter Try.func46, Try.ntmps46
    go_wp2_with (first | (go_at_call 42; refine (P _).mono ?_; rintro e w' ⟨rfl, B1⟩; obtain ⟨c1, y1⟩ := bcellR B1) | (go_at_call 75; refine (impl_oneR _ _).mono ?_; rintro e w' ⟨rfl, rfl⟩))
    all_goals exact bodyPost_ret (v := .agg #[.bool false, .int .i64 0, .int .i64 0]) (by simp only [results, Try.results46]; go_simp) rfl ⟨rfl, by refine Below.trans (belR (by repeat (first | exact Below.refl _ _ | refine Below.drew ?_ | refine Below.setCell ?_ (by simp; try omega) _ | refine Below.alloc ?_ (by simp; try omega) _)) B1) ?_; repeat (first | exact Below.refl _ _ | refine Below.drew ?_ | refine Below.setCell ?_ (by simp; try omega) _ | refine Below.alloc ?_ (by simp; try omega) _)⟩
theorem impl_two6 (o : Int) (f g : Rv) (W : World) (o3 : 3 ≤ o) (o7 : o ≤ 7) (hf : f.good = true) (hg : g.good = true) : Calls Try.prog 46 #[.int .i64 o, .agg #[.bool f.e, .int .i64 f.lo, .int .i64 f.hi], .agg #[.bool g.e, .int .i64 g.lo, .int .i64 g.hi]] W fun e W' => e = .returned (.agg #[.bool (twoR o f g).e, .int .i64 (twoR o f g).lo, .int .i64 (twoR o f g).hi]) ∧ Below W.heap.size W W' := by
  rcases (show o = 3 ∨ o = 4 ∨ o = 5 ∨ o = 6 ∨ o = 7 by omega) with rfl | rfl | rfl | rfl | rfl
  · exact impl_two6_3 f g W hf hg
  · exact impl_two6_4 f g W hf hg
  · exact impl_two6_5 f g W hf hg
  · exact impl_two6_6 f g W hf hg
  · exact impl_two6_7 f g W hf hg

end Go.Proofs.Ytoeiijkomjlolab.walks
