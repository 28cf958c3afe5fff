/-
  The walks of the specification's 'two' for one operation.
-/
import Derived.Test.YtldmeffhbabanaaProg
import Derived.Test.YtldmeffhbabanaaNumIs
import Derived.WalkKit
import Derived.WalkSpells
import Derived.Below
import Derived.Handy
namespace Go.Proofs.Ytldmeffhbabanaa.nums
open Go.RowKit Go.Proofs.Ytldmeffhbabanaa.math Go.Proofs.Ytldmeffhbabanaa.ints Go.Proofs.Ytldmeffhbabanaa.walks
set_option linter.unusedVariables false
set_option linter.unusedSimpArgs false


set_option maxRecDepth 100000 in
set_option maxHeartbeats 600000 in
theorem two_3_k (i j : Nat) (x1 x2 x3 y1 y2 y3 : Int) (B sb : Nat) (vs : List V) (ks : List Int) (W : World) (hS : Hid (St W B sb vs ks)) (hBW : B ≤ W.heap.size) (hv : 0 < vs.length) (hks : 0 < ks.length) (hl : vs.length ≤ 1000) (hn : Hid vs.Nodup) (hi : (i : Int) < (vs.length : Int)) (hj : (j : Int) < (vs.length : Int)) (hx : Hid (vs.getD i zV = (1, x1, x2, x3))) (hy : Hid (vs.getD j zV = (1, y1, y2, y3))) (p0 : 0 ≤ x3) (p1 : x3 ≤ 65535) (r0 : 0 ≤ y3) (r1 : y3 ≤ 65535) (hp : Hid (pairV vs 3 (1, x1, x2, x3) (1, y1, y2, y3) = kon (doV 3 x3 y3))) :
    Calls Try.prog 55 #[.pointer (some ⟨sb, 0, none⟩), .int .i64 3, .int .i64 (i : Int), .int .i64 (j : Int)] W fun e W' => FindAns W B sb vs ks (pairV vs 3 (1, x1, x2, x3) (1, y1, y2, y3)) e W' := by
  rw [hp.out]
  obtain ⟨gv, gn, cv, cn, hE⟩ := hS.out.seen hv hks
  have e0 := hE.v
  have hsl := hE.lt.1
  have hgl := hE.lt.2.1
  have c0 := hE.val (k := i) (i := 0) (by omega) (by omega)
  have c1 := hE.val (k := i) (i := 1) (by omega) (by omega)
  have c2 := hE.val (k := i) (i := 2) (by omega) (by omega)
  have c3 := hE.val (k := i) (i := 3) (by omega) (by omega)
  rw [hx.out] at c0 c1 c2 c3
  simp only [Nat.add_zero, fldV] at c0 c1 c2 c3
  have d0 := hE.val (k := j) (i := 0) (by omega) (by omega)
  have d1 := hE.val (k := j) (i := 1) (by omega) (by omega)
  have d2 := hE.val (k := j) (i := 2) (by omega) (by omega)
  have d3 := hE.val (k := j) (i := 3) (by omega) (by omega)
  rw [hy.out] at d0 d1 d2 d3
  simp only [Nat.add_zero, fldV] at d0 d1 d2 d3
  clear hE
  obtain ⟨r, hr⟩ : ∃ r : Nat, Hid (idx (addV vs (kon (doV 3 x3 y3))) (kon (doV 3 x3 y3)) = r) := ⟨_, rfl⟩
  go_enter Try.func55, Try.ntmps55
  go_wp2_with fail
  refine (spec_do2 3 x3 y3 _ (by omega) (by omega) p0 p1 r0 r1).mono ?_
  rintro e w' ⟨rfl, hw⟩
  rw [hw]
  clear hw w'
  go_wp2_with fail
  refine (spec_const (doV 3 x3 y3) B sb vs ks _ ((hS.out.alloc _).alloc _) (by simp; omega) hv hks hl).mono ?_
  unfold FindAns
  rw [hr.out]
  rintro e w' ⟨rfl, h1, h2, h3⟩
  have H1 : Hid (St w' B sb (addV vs (kon (doV 3 x3 y3))) ks) := h1
  have H2 : Hid (Below B W w') := by show Below _ _ _; refine Below.trans ?_ h2; go_grown
  have H3 : Hid (Frame W w' B sb vs ks) := by show Frame _ _ _ _ _ _; refine h3.pre ?_; go_grown
  clear h1 h2 h3
  go_wp2
  go_ret
  exact ⟨by rw [hr.out]; rfl, H1.out, H2.out, H3.out⟩
set_option maxRecDepth 100000 in
set_option maxHeartbeats 600000 in
theorem two_3_ks (i : Nat) (x1 x2 x3 : Int) (B sb : Nat) (vs : List V) (ks : List Int) (W : World) (hS : Hid (St W B sb vs ks)) (hBW : B ≤ W.heap.size) (hv : 0 < vs.length) (hks : 0 < ks.length) (hl : vs.length ≤ 1000) (hn : Hid vs.Nodup) (hi : (i : Int) < (vs.length : Int)) (hx : Hid (vs.getD i zV = (1, x1, x2, x3))) (p0 : 0 ≤ x3) (p1 : x3 ≤ 65535) (r0 : 0 ≤ x3) (r1 : x3 ≤ 65535) (hp : Hid (pairV vs 3 (1, x1, x2, x3) (1, x1, x2, x3) = kon (doV 3 x3 x3))) :
    Calls Try.prog 55 #[.pointer (some ⟨sb, 0, none⟩), .int .i64 3, .int .i64 (i : Int), .int .i64 (i : Int)] W fun e W' => FindAns W B sb vs ks (pairV vs 3 (1, x1, x2, x3) (1, x1, x2, x3)) e W' := by
  rw [hp.out]
  obtain ⟨gv, gn, cv, cn, hE⟩ := hS.out.seen hv hks
  have e0 := hE.v
  have hsl := hE.lt.1
  have hgl := hE.lt.2.1
  have c0 := hE.val (k := i) (i := 0) (by omega) (by omega)
  have c1 := hE.val (k := i) (i := 1) (by omega) (by omega)
  have c2 := hE.val (k := i) (i := 2) (by omega) (by omega)
  have c3 := hE.val (k := i) (i := 3) (by omega) (by omega)
  rw [hx.out] at c0 c1 c2 c3
  simp only [Nat.add_zero, fldV] at c0 c1 c2 c3
  clear hE
  obtain ⟨r, hr⟩ : ∃ r : Nat, Hid (idx (addV vs (kon (doV 3 x3 x3))) (kon (doV 3 x3 x3)) = r) := ⟨_, rfl⟩
  go_enter Try.func55, Try.ntmps55
  go_wp2_with fail
  refine (spec_do2 3 x3 x3 _ (by omega) (by omega) p0 p1 r0 r1).mono ?_
  rintro e w' ⟨rfl, hw⟩
  rw [hw]
  clear hw w'
  go_wp2_with fail
  refine (spec_const (doV 3 x3 x3) B sb vs ks _ ((hS.out.alloc _).alloc _) (by simp; omega) hv hks hl).mono ?_
  unfold FindAns
  rw [hr.out]
  rintro e w' ⟨rfl, h1, h2, h3⟩
  have H1 : Hid (St w' B sb (addV vs (kon (doV 3 x3 x3))) ks) := h1
  have H2 : Hid (Below B W w') := by show Below _ _ _; refine Below.trans ?_ h2; go_grown
  have H3 : Hid (Frame W w' B sb vs ks) := by show Frame _ _ _ _ _ _; refine h3.pre ?_; go_grown
  clear h1 h2 h3
  go_wp2
  go_ret
  exact ⟨by rw [hr.out]; rfl, H1.out, H2.out, H3.out⟩
set_option maxRecDepth 100000 in
set_option maxHeartbeats 600000 in
theorem two_3_y0 (i j : Nat) (x0 x1 x2 x3 : Int) (B sb : Nat) (vs : List V) (ks : List Int) (W : World) (hS : Hid (St W B sb vs ks)) (hBW : B ≤ W.heap.size) (hv : 0 < vs.length) (hks : 0 < ks.length) (hl : vs.length ≤ 1000) (hn : Hid vs.Nodup) (hi : (i : Int) < (vs.length : Int)) (hj : (j : Int) < (vs.length : Int)) (hx : Hid (vs.getD i zV = (x0, x1, x2, x3))) (hy : Hid (vs.getD j zV = (1, 0, 0, 0))) (hk : (x0 == 1) = false) (hk2 : decide (x0 = 1) = false) (hk3 : ¬ x0 = 1) (hij : ((i : Int) == (j : Int)) = false) (hij2 : decide ((i : Int) = (j : Int)) = false) (hij3 : ¬ (i : Int) = (j : Int)) (hp : Hid (pairV vs 3 (x0, x1, x2, x3) (1, 0, 0, 0) = (x0, x1, x2, x3))) :
    Calls Try.prog 55 #[.pointer (some ⟨sb, 0, none⟩), .int .i64 3, .int .i64 (i : Int), .int .i64 (j : Int)] W fun e W' => FindAns W B sb vs ks (pairV vs 3 (x0, x1, x2, x3) (1, 0, 0, 0)) e W' := by
  rw [hp.out]
  obtain ⟨gv, gn, cv, cn, hE⟩ := hS.out.seen hv hks
  have e0 := hE.v
  have hsl := hE.lt.1
  have hgl := hE.lt.2.1
  have c0 := hE.val (k := i) (i := 0) (by omega) (by omega)
  have c1 := hE.val (k := i) (i := 1) (by omega) (by omega)
  have c2 := hE.val (k := i) (i := 2) (by omega) (by omega)
  have c3 := hE.val (k := i) (i := 3) (by omega) (by omega)
  rw [hx.out] at c0 c1 c2 c3
  simp only [Nat.add_zero, fldV] at c0 c1 c2 c3
  have d0 := hE.val (k := j) (i := 0) (by omega) (by omega)
  have d1 := hE.val (k := j) (i := 1) (by omega) (by omega)
  have d2 := hE.val (k := j) (i := 2) (by omega) (by omega)
  have d3 := hE.val (k := j) (i := 3) (by omega) (by omega)
  rw [hy.out] at d0 d1 d2 d3
  simp only [Nat.add_zero, fldV] at d0 d1 d2 d3
  clear hE
  have isy0 : Hid (decide (vs.getD j zV = kon 0) = true) := by show decide _ = _; rw [hy.out]; exact decide_eq_true rfl
  have isy1 : Hid (decide (vs.getD j zV = kon 1) = false) := by show decide _ = _; rw [hy.out]; exact decide_eq_false (by simp [kon])
  have isx0 : Hid (decide (vs.getD i zV = kon 0) = false) := by show decide _ = _; rw [hx.out]; exact decide_eq_false (fun e => hk3 (congrArg Prod.fst e))
  have isx1 : Hid (decide (vs.getD i zV = kon 1) = false) := by show decide _ = _; rw [hx.out]; exact decide_eq_false (fun e => hk3 (congrArg Prod.fst e))
  go_enter Try.func55, Try.ntmps55
  go_wp2_with fail
  refine (spec_is j 0 true B sb vs ks _ ((hS.out.alloc _).alloc _) hv hks hl (by omega) isy0.out).mono ?_
  rintro e w' ⟨rfl, hw⟩
  rw [hw]
  clear hw w'
  go_wp2
  go_ret
  obtain ⟨q0, q1⟩ := at_old hn.out (k := i) (by omega) hx.out
  refine ⟨by rw [q1]; rfl, by rw [q0]; exact (hS.out.alloc _).alloc _, ?_, frame_far ?_⟩
  all_goals go_grown
set_option maxRecDepth 100000 in
set_option maxHeartbeats 600000 in
theorem two_3_y1l (i j : Nat) (x0 x1 x2 x3 : Int) (B sb : Nat) (vs : List V) (ks : List Int) (W : World) (hS : Hid (St W B sb vs ks)) (hBW : B ≤ W.heap.size) (hv : 0 < vs.length) (hks : 0 < ks.length) (hl : vs.length ≤ 1000) (hn : Hid vs.Nodup) (hi : (i : Int) < (vs.length : Int)) (hj : (j : Int) < (vs.length : Int)) (hx : Hid (vs.getD i zV = (x0, x1, x2, x3))) (hy : Hid (vs.getD j zV = (1, 0, 0, 1))) (hk : (x0 == 1) = false) (hk2 : decide (x0 = 1) = false) (hk3 : ¬ x0 = 1) (hij : ((i : Int) == (j : Int)) = false) (hij2 : decide ((i : Int) = (j : Int)) = false) (hij3 : ¬ (i : Int) = (j : Int)) (hlt : (i : Int) < (j : Int)) (hp : Hid (pairV vs 3 (x0, x1, x2, x3) (1, 0, 0, 1) = (3, (i : Int), (j : Int), 0))) :
    Calls Try.prog 55 #[.pointer (some ⟨sb, 0, none⟩), .int .i64 3, .int .i64 (i : Int), .int .i64 (j : Int)] W fun e W' => FindAns W B sb vs ks (pairV vs 3 (x0, x1, x2, x3) (1, 0, 0, 1)) e W' := by
  rw [hp.out]
  obtain ⟨gv, gn, cv, cn, hE⟩ := hS.out.seen hv hks
  have e0 := hE.v
  have hsl := hE.lt.1
  have hgl := hE.lt.2.1
  have c0 := hE.val (k := i) (i := 0) (by omega) (by omega)
  have c1 := hE.val (k := i) (i := 1) (by omega) (by omega)
  have c2 := hE.val (k := i) (i := 2) (by omega) (by omega)
  have c3 := hE.val (k := i) (i := 3) (by omega) (by omega)
  rw [hx.out] at c0 c1 c2 c3
  simp only [Nat.add_zero, fldV] at c0 c1 c2 c3
  have d0 := hE.val (k := j) (i := 0) (by omega) (by omega)
  have d1 := hE.val (k := j) (i := 1) (by omega) (by omega)
  have d2 := hE.val (k := j) (i := 2) (by omega) (by omega)
  have d3 := hE.val (k := j) (i := 3) (by omega) (by omega)
  rw [hy.out] at d0 d1 d2 d3
  simp only [Nat.add_zero, fldV] at d0 d1 d2 d3
  clear hE
  have isy0 : Hid (decide (vs.getD j zV = kon 0) = false) := by show decide _ = _; rw [hy.out]; exact decide_eq_false (by simp [kon])
  have isy1 : Hid (decide (vs.getD j zV = kon 1) = true) := by show decide _ = _; rw [hy.out]; exact decide_eq_true rfl
  have isx0 : Hid (decide (vs.getD i zV = kon 0) = false) := by show decide _ = _; rw [hx.out]; exact decide_eq_false (fun e => hk3 (congrArg Prod.fst e))
  have isx1 : Hid (decide (vs.getD i zV = kon 1) = false) := by show decide _ = _; rw [hx.out]; exact decide_eq_false (fun e => hk3 (congrArg Prod.fst e))
  obtain ⟨r, hr⟩ : ∃ r : Nat, Hid (idx (addV vs (3, (i : Int), (j : Int), 0)) (3, (i : Int), (j : Int), 0) = r) := ⟨_, rfl⟩
  go_enter Try.func55, Try.ntmps55
  go_wp2_with fail
  refine (spec_is j 0 false B sb vs ks _ ((hS.out.alloc _).alloc _) hv hks hl (by omega) isy0.out).mono ?_
  rintro e w' ⟨rfl, hw⟩
  rw [hw]
  clear hw w'
  go_wp2_with fail
  refine (spec_is j 1 true B sb vs ks _ ((hS.out.alloc _).alloc _) hv hks hl (by omega) isy1.out).mono ?_
  rintro e w' ⟨rfl, hw⟩
  rw [hw]
  clear hw w'
  go_wp2_with fail
  refine (spec_is i 0 false B sb vs ks _ ((hS.out.alloc _).alloc _) hv hks hl (by omega) isx0.out).mono ?_
  rintro e w' ⟨rfl, hw⟩
  rw [hw]
  clear hw w'
  go_wp2_with fail
  refine (spec_is i 1 false B sb vs ks _ ((hS.out.alloc _).alloc _) hv hks hl (by omega) isx1.out).mono ?_
  rintro e w' ⟨rfl, hw⟩
  rw [hw]
  clear hw w'
  go_wp2_with fail
  refine (spec_find (3, (i : Int), (j : Int), 0) B sb vs ks _ ((hS.out.alloc _).alloc _) (by simp; omega) hv hks hl).mono ?_
  unfold FindAns
  rw [hr.out]
  rintro e w' ⟨rfl, h1, h2, h3⟩
  have H1 : Hid (St w' B sb (addV vs (3, (i : Int), (j : Int), 0)) ks) := h1
  have H2 : Hid (Below B W w') := by show Below _ _ _; refine Below.trans ?_ h2; go_grown
  have H3 : Hid (Frame W w' B sb vs ks) := by show Frame _ _ _ _ _ _; refine h3.pre ?_; go_grown
  clear h1 h2 h3
  go_wp2
  go_ret
  exact ⟨by rw [hr.out]; rfl, H1.out, H2.out, H3.out⟩
set_option maxRecDepth 100000 in
set_option maxHeartbeats 600000 in
theorem two_3_y1g (i j : Nat) (x0 x1 x2 x3 : Int) (B sb : Nat) (vs : List V) (ks : List Int) (W : World) (hS : Hid (St W B sb vs ks)) (hBW : B ≤ W.heap.size) (hv : 0 < vs.length) (hks : 0 < ks.length) (hl : vs.length ≤ 1000) (hn : Hid vs.Nodup) (hi : (i : Int) < (vs.length : Int)) (hj : (j : Int) < (vs.length : Int)) (hx : Hid (vs.getD i zV = (x0, x1, x2, x3))) (hy : Hid (vs.getD j zV = (1, 0, 0, 1))) (hk : (x0 == 1) = false) (hk2 : decide (x0 = 1) = false) (hk3 : ¬ x0 = 1) (hij : ((i : Int) == (j : Int)) = false) (hij2 : decide ((i : Int) = (j : Int)) = false) (hij3 : ¬ (i : Int) = (j : Int)) (hlt : (j : Int) < (i : Int)) (hp : Hid (pairV vs 3 (x0, x1, x2, x3) (1, 0, 0, 1) = (3, (j : Int), (i : Int), 0))) :
    Calls Try.prog 55 #[.pointer (some ⟨sb, 0, none⟩), .int .i64 3, .int .i64 (i : Int), .int .i64 (j : Int)] W fun e W' => FindAns W B sb vs ks (pairV vs 3 (x0, x1, x2, x3) (1, 0, 0, 1)) e W' := by
  rw [hp.out]
  obtain ⟨gv, gn, cv, cn, hE⟩ := hS.out.seen hv hks
  have e0 := hE.v
  have hsl := hE.lt.1
  have hgl := hE.lt.2.1
  have c0 := hE.val (k := i) (i := 0) (by omega) (by omega)
  have c1 := hE.val (k := i) (i := 1) (by omega) (by omega)
  have c2 := hE.val (k := i) (i := 2) (by omega) (by omega)
  have c3 := hE.val (k := i) (i := 3) (by omega) (by omega)
  rw [hx.out] at c0 c1 c2 c3
  simp only [Nat.add_zero, fldV] at c0 c1 c2 c3
  have d0 := hE.val (k := j) (i := 0) (by omega) (by omega)
  have d1 := hE.val (k := j) (i := 1) (by omega) (by omega)
  have d2 := hE.val (k := j) (i := 2) (by omega) (by omega)
  have d3 := hE.val (k := j) (i := 3) (by omega) (by omega)
  rw [hy.out] at d0 d1 d2 d3
  simp only [Nat.add_zero, fldV] at d0 d1 d2 d3
  clear hE
  have isy0 : Hid (decide (vs.getD j zV = kon 0) = false) := by show decide _ = _; rw [hy.out]; exact decide_eq_false (by simp [kon])
  have isy1 : Hid (decide (vs.getD j zV = kon 1) = true) := by show decide _ = _; rw [hy.out]; exact decide_eq_true rfl
  have isx0 : Hid (decide (vs.getD i zV = kon 0) = false) := by show decide _ = _; rw [hx.out]; exact decide_eq_false (fun e => hk3 (congrArg Prod.fst e))
  have isx1 : Hid (decide (vs.getD i zV = kon 1) = false) := by show decide _ = _; rw [hx.out]; exact decide_eq_false (fun e => hk3 (congrArg Prod.fst e))
  obtain ⟨r, hr⟩ : ∃ r : Nat, Hid (idx (addV vs (3, (j : Int), (i : Int), 0)) (3, (j : Int), (i : Int), 0) = r) := ⟨_, rfl⟩
  go_enter Try.func55, Try.ntmps55
  go_wp2_with fail
  refine (spec_is j 0 false B sb vs ks _ ((hS.out.alloc _).alloc _) hv hks hl (by omega) isy0.out).mono ?_
  rintro e w' ⟨rfl, hw⟩
  rw [hw]
  clear hw w'
  go_wp2_with fail
  refine (spec_is j 1 true B sb vs ks _ ((hS.out.alloc _).alloc _) hv hks hl (by omega) isy1.out).mono ?_
  rintro e w' ⟨rfl, hw⟩
  rw [hw]
  clear hw w'
  go_wp2_with fail
  refine (spec_is i 0 false B sb vs ks _ ((hS.out.alloc _).alloc _) hv hks hl (by omega) isx0.out).mono ?_
  rintro e w' ⟨rfl, hw⟩
  rw [hw]
  clear hw w'
  go_wp2_with fail
  refine (spec_is i 1 false B sb vs ks _ ((hS.out.alloc _).alloc _) hv hks hl (by omega) isx1.out).mono ?_
  rintro e w' ⟨rfl, hw⟩
  rw [hw]
  clear hw w'
  go_wp2_with fail
  refine (spec_find (3, (j : Int), (i : Int), 0) B sb vs ks _ ((hS.out.alloc _).alloc _) (by simp; omega) hv hks hl).mono ?_
  unfold FindAns
  rw [hr.out]
  rintro e w' ⟨rfl, h1, h2, h3⟩
  have H1 : Hid (St w' B sb (addV vs (3, (j : Int), (i : Int), 0)) ks) := h1
  have H2 : Hid (Below B W w') := by show Below _ _ _; refine Below.trans ?_ h2; go_grown
  have H3 : Hid (Frame W w' B sb vs ks) := by show Frame _ _ _ _ _ _; refine h3.pre ?_; go_grown
  clear h1 h2 h3
  go_wp2
  go_ret
  exact ⟨by rw [hr.out]; rfl, H1.out, H2.out, H3.out⟩
set_option maxRecDepth 100000 in
set_option maxHeartbeats 600000 in
theorem two_3_x0 (i j : Nat) (y0 y1 y2 y3 : Int) (B sb : Nat) (vs : List V) (ks : List Int) (W : World) (hS : Hid (St W B sb vs ks)) (hBW : B ≤ W.heap.size) (hv : 0 < vs.length) (hks : 0 < ks.length) (hl : vs.length ≤ 1000) (hn : Hid vs.Nodup) (hi : (i : Int) < (vs.length : Int)) (hj : (j : Int) < (vs.length : Int)) (hx : Hid (vs.getD i zV = (1, 0, 0, 0))) (hy : Hid (vs.getD j zV = (y0, y1, y2, y3))) (hk : (y0 == 1) = false) (hk2 : decide (y0 = 1) = false) (hk3 : ¬ y0 = 1) (hij : ((i : Int) == (j : Int)) = false) (hij2 : decide ((i : Int) = (j : Int)) = false) (hij3 : ¬ (i : Int) = (j : Int)) (hp : Hid (pairV vs 3 (1, 0, 0, 0) (y0, y1, y2, y3) = (y0, y1, y2, y3))) :
    Calls Try.prog 55 #[.pointer (some ⟨sb, 0, none⟩), .int .i64 3, .int .i64 (i : Int), .int .i64 (j : Int)] W fun e W' => FindAns W B sb vs ks (pairV vs 3 (1, 0, 0, 0) (y0, y1, y2, y3)) e W' := by
  rw [hp.out]
  obtain ⟨gv, gn, cv, cn, hE⟩ := hS.out.seen hv hks
  have e0 := hE.v
  have hsl := hE.lt.1
  have hgl := hE.lt.2.1
  have c0 := hE.val (k := i) (i := 0) (by omega) (by omega)
  have c1 := hE.val (k := i) (i := 1) (by omega) (by omega)
  have c2 := hE.val (k := i) (i := 2) (by omega) (by omega)
  have c3 := hE.val (k := i) (i := 3) (by omega) (by omega)
  rw [hx.out] at c0 c1 c2 c3
  simp only [Nat.add_zero, fldV] at c0 c1 c2 c3
  have d0 := hE.val (k := j) (i := 0) (by omega) (by omega)
  have d1 := hE.val (k := j) (i := 1) (by omega) (by omega)
  have d2 := hE.val (k := j) (i := 2) (by omega) (by omega)
  have d3 := hE.val (k := j) (i := 3) (by omega) (by omega)
  rw [hy.out] at d0 d1 d2 d3
  simp only [Nat.add_zero, fldV] at d0 d1 d2 d3
  clear hE
  have isy0 : Hid (decide (vs.getD j zV = kon 0) = false) := by show decide _ = _; rw [hy.out]; exact decide_eq_false (fun e => hk3 (congrArg Prod.fst e))
  have isy1 : Hid (decide (vs.getD j zV = kon 1) = false) := by show decide _ = _; rw [hy.out]; exact decide_eq_false (fun e => hk3 (congrArg Prod.fst e))
  have isx0 : Hid (decide (vs.getD i zV = kon 0) = true) := by show decide _ = _; rw [hx.out]; exact decide_eq_true rfl
  have isx1 : Hid (decide (vs.getD i zV = kon 1) = false) := by show decide _ = _; rw [hx.out]; exact decide_eq_false (by simp [kon])
  go_enter Try.func55, Try.ntmps55
  go_wp2_with fail
  refine (spec_is j 0 false B sb vs ks _ ((hS.out.alloc _).alloc _) hv hks hl (by omega) isy0.out).mono ?_
  rintro e w' ⟨rfl, hw⟩
  rw [hw]
  clear hw w'
  go_wp2_with fail
  refine (spec_is j 1 false B sb vs ks _ ((hS.out.alloc _).alloc _) hv hks hl (by omega) isy1.out).mono ?_
  rintro e w' ⟨rfl, hw⟩
  rw [hw]
  clear hw w'
  go_wp2_with fail
  refine (spec_is i 0 true B sb vs ks _ ((hS.out.alloc _).alloc _) hv hks hl (by omega) isx0.out).mono ?_
  rintro e w' ⟨rfl, hw⟩
  rw [hw]
  clear hw w'
  go_wp2
  go_ret
  obtain ⟨q0, q1⟩ := at_old hn.out (k := j) (by omega) hy.out
  refine ⟨by rw [q1]; rfl, by rw [q0]; exact (hS.out.alloc _).alloc _, ?_, frame_far ?_⟩
  all_goals go_grown
set_option maxRecDepth 100000 in
set_option maxHeartbeats 600000 in
theorem two_3_x1l (i j : Nat) (y0 y1 y2 y3 : Int) (B sb : Nat) (vs : List V) (ks : List Int) (W : World) (hS : Hid (St W B sb vs ks)) (hBW : B ≤ W.heap.size) (hv : 0 < vs.length) (hks : 0 < ks.length) (hl : vs.length ≤ 1000) (hn : Hid vs.Nodup) (hi : (i : Int) < (vs.length : Int)) (hj : (j : Int) < (vs.length : Int)) (hx : Hid (vs.getD i zV = (1, 0, 0, 1))) (hy : Hid (vs.getD j zV = (y0, y1, y2, y3))) (hk : (y0 == 1) = false) (hk2 : decide (y0 = 1) = false) (hk3 : ¬ y0 = 1) (hij : ((i : Int) == (j : Int)) = false) (hij2 : decide ((i : Int) = (j : Int)) = false) (hij3 : ¬ (i : Int) = (j : Int)) (hlt : (i : Int) < (j : Int)) (hp : Hid (pairV vs 3 (1, 0, 0, 1) (y0, y1, y2, y3) = (3, (i : Int), (j : Int), 0))) :
    Calls Try.prog 55 #[.pointer (some ⟨sb, 0, none⟩), .int .i64 3, .int .i64 (i : Int), .int .i64 (j : Int)] W fun e W' => FindAns W B sb vs ks (pairV vs 3 (1, 0, 0, 1) (y0, y1, y2, y3)) e W' := by
  rw [hp.out]
  obtain ⟨gv, gn, cv, cn, hE⟩ := hS.out.seen hv hks
  have e0 := hE.v
  have hsl := hE.lt.1
  have hgl := hE.lt.2.1
  have c0 := hE.val (k := i) (i := 0) (by omega) (by omega)
  have c1 := hE.val (k := i) (i := 1) (by omega) (by omega)
  have c2 := hE.val (k := i) (i := 2) (by omega) (by omega)
  have c3 := hE.val (k := i) (i := 3) (by omega) (by omega)
  rw [hx.out] at c0 c1 c2 c3
  simp only [Nat.add_zero, fldV] at c0 c1 c2 c3
  have d0 := hE.val (k := j) (i := 0) (by omega) (by omega)
  have d1 := hE.val (k := j) (i := 1) (by omega) (by omega)
  have d2 := hE.val (k := j) (i := 2) (by omega) (by omega)
  have d3 := hE.val (k := j) (i := 3) (by omega) (by omega)
  rw [hy.out] at d0 d1 d2 d3
  simp only [Nat.add_zero, fldV] at d0 d1 d2 d3
  clear hE
  have isy0 : Hid (decide (vs.getD j zV = kon 0) = false) := by show decide _ = _; rw [hy.out]; exact decide_eq_false (fun e => hk3 (congrArg Prod.fst e))
  have isy1 : Hid (decide (vs.getD j zV = kon 1) = false) := by show decide _ = _; rw [hy.out]; exact decide_eq_false (fun e => hk3 (congrArg Prod.fst e))
  have isx0 : Hid (decide (vs.getD i zV = kon 0) = false) := by show decide _ = _; rw [hx.out]; exact decide_eq_false (by simp [kon])
  have isx1 : Hid (decide (vs.getD i zV = kon 1) = true) := by show decide _ = _; rw [hx.out]; exact decide_eq_true rfl
  obtain ⟨r, hr⟩ : ∃ r : Nat, Hid (idx (addV vs (3, (i : Int), (j : Int), 0)) (3, (i : Int), (j : Int), 0) = r) := ⟨_, rfl⟩
  go_enter Try.func55, Try.ntmps55
  go_wp2_with fail
  refine (spec_is j 0 false B sb vs ks _ ((hS.out.alloc _).alloc _) hv hks hl (by omega) isy0.out).mono ?_
  rintro e w' ⟨rfl, hw⟩
  rw [hw]
  clear hw w'
  go_wp2_with fail
  refine (spec_is j 1 false B sb vs ks _ ((hS.out.alloc _).alloc _) hv hks hl (by omega) isy1.out).mono ?_
  rintro e w' ⟨rfl, hw⟩
  rw [hw]
  clear hw w'
  go_wp2_with fail
  refine (spec_is i 0 false B sb vs ks _ ((hS.out.alloc _).alloc _) hv hks hl (by omega) isx0.out).mono ?_
  rintro e w' ⟨rfl, hw⟩
  rw [hw]
  clear hw w'
  go_wp2_with fail
  refine (spec_is i 1 true B sb vs ks _ ((hS.out.alloc _).alloc _) hv hks hl (by omega) isx1.out).mono ?_
  rintro e w' ⟨rfl, hw⟩
  rw [hw]
  clear hw w'
  go_wp2_with fail
  refine (spec_find (3, (i : Int), (j : Int), 0) B sb vs ks _ ((hS.out.alloc _).alloc _) (by simp; omega) hv hks hl).mono ?_
  unfold FindAns
  rw [hr.out]
  rintro e w' ⟨rfl, h1, h2, h3⟩
  have H1 : Hid (St w' B sb (addV vs (3, (i : Int), (j : Int), 0)) ks) := h1
  have H2 : Hid (Below B W w') := by show Below _ _ _; refine Below.trans ?_ h2; go_grown
  have H3 : Hid (Frame W w' B sb vs ks) := by show Frame _ _ _ _ _ _; refine h3.pre ?_; go_grown
  clear h1 h2 h3
  go_wp2
  go_ret
  exact ⟨by rw [hr.out]; rfl, H1.out, H2.out, H3.out⟩
set_option maxRecDepth 100000 in
set_option maxHeartbeats 600000 in
theorem two_3_x1g (i j : Nat) (y0 y1 y2 y3 : Int) (B sb : Nat) (vs : List V) (ks : List Int) (W : World) (hS : Hid (St W B sb vs ks)) (hBW : B ≤ W.heap.size) (hv : 0 < vs.length) (hks : 0 < ks.length) (hl : vs.length ≤ 1000) (hn : Hid vs.Nodup) (hi : (i : Int) < (vs.length : Int)) (hj : (j : Int) < (vs.length : Int)) (hx : Hid (vs.getD i zV = (1, 0, 0, 1))) (hy : Hid (vs.getD j zV = (y0, y1, y2, y3))) (hk : (y0 == 1) = false) (hk2 : decide (y0 = 1) = false) (hk3 : ¬ y0 = 1) (hij : ((i : Int) == (j : Int)) = false) (hij2 : decide ((i : Int) = (j : Int)) = false) (hij3 : ¬ (i : Int) = (j : Int)) (hlt : (j : Int) < (i : Int)) (hp : Hid (pairV vs 3 (1, 0, 0, 1) (y0, y1, y2, y3) = (3, (j : Int), (i : Int), 0))) :
    Calls Try.prog 55 #[.pointer (some ⟨sb, 0, none⟩), .int .i64 3, .int .i64 (i : Int), .int .i64 (j : Int)] W fun e W' => FindAns W B sb vs ks (pairV vs 3 (1, 0, 0, 1) (y0, y1, y2, y3)) e W' := by
  rw [hp.out]
  obtain ⟨gv, gn, cv, cn, hE⟩ := hS.out.seen hv hks
  have e0 := hE.v
  have hsl := hE.lt.1
  have hgl := hE.lt.2.1
  have c0 := hE.val (k := i) (i := 0) (by omega) (by omega)
  have c1 := hE.val (k := i) (i := 1) (by omega) (by omega)
  have c2 := hE.val (k := i) (i := 2) (by omega) (by omega)
  have c3 := hE.val (k := i) (i := 3) (by omega) (by omega)
  rw [hx.out] at c0 c1 c2 c3
  simp only [Nat.add_zero, fldV] at c0 c1 c2 c3
  have d0 := hE.val (k := j) (i := 0) (by omega) (by omega)
  have d1 := hE.val (k := j) (i := 1) (by omega) (by omega)
  have d2 := hE.val (k := j) (i := 2) (by omega) (by omega)
  have d3 := hE.val (k := j) (i := 3) (by omega) (by omega)
  rw [hy.out] at d0 d1 d2 d3
  simp only [Nat.add_zero, fldV] at d0 d1 d2 d3
  clear hE
  have isy0 : Hid (decide (vs.getD j zV = kon 0) = false) := by show decide _ = _; rw [hy.out]; exact decide_eq_false (fun e => hk3 (congrArg Prod.fst e))
  have isy1 : Hid (decide (vs.getD j zV = kon 1) = false) := by show decide _ = _; rw [hy.out]; exact decide_eq_false (fun e => hk3 (congrArg Prod.fst e))
  have isx0 : Hid (decide (vs.getD i zV = kon 0) = false) := by show decide _ = _; rw [hx.out]; exact decide_eq_false (by simp [kon])
  have isx1 : Hid (decide (vs.getD i zV = kon 1) = true) := by show decide _ = _; rw [hx.out]; exact decide_eq_true rfl
  obtain ⟨r, hr⟩ : ∃ r : Nat, Hid (idx (addV vs (3, (j : Int), (i : Int), 0)) (3, (j : Int), (i : Int), 0) = r) := ⟨_, rfl⟩
  go_enter Try.func55, Try.ntmps55
  go_wp2_with fail
  refine (spec_is j 0 false B sb vs ks _ ((hS.out.alloc _).alloc _) hv hks hl (by omega) isy0.out).mono ?_
  rintro e w' ⟨rfl, hw⟩
  rw [hw]
  clear hw w'
  go_wp2_with fail
  refine (spec_is j 1 false B sb vs ks _ ((hS.out.alloc _).alloc _) hv hks hl (by omega) isy1.out).mono ?_
  rintro e w' ⟨rfl, hw⟩
  rw [hw]
  clear hw w'
  go_wp2_with fail
  refine (spec_is i 0 false B sb vs ks _ ((hS.out.alloc _).alloc _) hv hks hl (by omega) isx0.out).mono ?_
  rintro e w' ⟨rfl, hw⟩
  rw [hw]
  clear hw w'
  go_wp2_with fail
  refine (spec_is i 1 true B sb vs ks _ ((hS.out.alloc _).alloc _) hv hks hl (by omega) isx1.out).mono ?_
  rintro e w' ⟨rfl, hw⟩
  rw [hw]
  clear hw w'
  go_wp2_with fail
  refine (spec_find (3, (j : Int), (i : Int), 0) B sb vs ks _ ((hS.out.alloc _).alloc _) (by simp; omega) hv hks hl).mono ?_
  unfold FindAns
  rw [hr.out]
  rintro e w' ⟨rfl, h1, h2, h3⟩
  have H1 : Hid (St w' B sb (addV vs (3, (j : Int), (i : Int), 0)) ks) := h1
  have H2 : Hid (Below B W w') := by show Below _ _ _; refine Below.trans ?_ h2; go_grown
  have H3 : Hid (Frame W w' B sb vs ks) := by show Frame _ _ _ _ _ _; refine h3.pre ?_; go_grown
  clear h1 h2 h3
  go_wp2
  go_ret
  exact ⟨by rw [hr.out]; rfl, H1.out, H2.out, H3.out⟩
set_option maxRecDepth 100000 in
set_option maxHeartbeats 600000 in
theorem two_3_s (i : Nat) (x0 x1 x2 x3 : Int) (B sb : Nat) (vs : List V) (ks : List Int) (W : World) (hS : Hid (St W B sb vs ks)) (hBW : B ≤ W.heap.size) (hv : 0 < vs.length) (hks : 0 < ks.length) (hl : vs.length ≤ 1000) (hn : Hid vs.Nodup) (hi : (i : Int) < (vs.length : Int)) (hx : Hid (vs.getD i zV = (x0, x1, x2, x3))) (hk : (x0 == 1) = false) (hk2 : decide (x0 = 1) = false) (hk3 : ¬ x0 = 1) (hp : Hid (pairV vs 3 (x0, x1, x2, x3) (x0, x1, x2, x3) = (3, (i : Int), (i : Int), 0))) :
    Calls Try.prog 55 #[.pointer (some ⟨sb, 0, none⟩), .int .i64 3, .int .i64 (i : Int), .int .i64 (i : Int)] W fun e W' => FindAns W B sb vs ks (pairV vs 3 (x0, x1, x2, x3) (x0, x1, x2, x3)) e W' := by
  rw [hp.out]
  obtain ⟨gv, gn, cv, cn, hE⟩ := hS.out.seen hv hks
  have e0 := hE.v
  have hsl := hE.lt.1
  have hgl := hE.lt.2.1
  have c0 := hE.val (k := i) (i := 0) (by omega) (by omega)
  have c1 := hE.val (k := i) (i := 1) (by omega) (by omega)
  have c2 := hE.val (k := i) (i := 2) (by omega) (by omega)
  have c3 := hE.val (k := i) (i := 3) (by omega) (by omega)
  rw [hx.out] at c0 c1 c2 c3
  simp only [Nat.add_zero, fldV] at c0 c1 c2 c3
  clear hE
  have isx0 : Hid (decide (vs.getD i zV = kon 0) = false) := by show decide _ = _; rw [hx.out]; exact decide_eq_false (fun e => hk3 (congrArg Prod.fst e))
  have isx1 : Hid (decide (vs.getD i zV = kon 1) = false) := by show decide _ = _; rw [hx.out]; exact decide_eq_false (fun e => hk3 (congrArg Prod.fst e))
  obtain ⟨r, hr⟩ : ∃ r : Nat, Hid (idx (addV vs (3, (i : Int), (i : Int), 0)) (3, (i : Int), (i : Int), 0) = r) := ⟨_, rfl⟩
  go_enter Try.func55, Try.ntmps55
  go_wp2_with fail
  refine (spec_is i 0 false B sb vs ks _ ((hS.out.alloc _).alloc _) hv hks hl (by omega) isx0.out).mono ?_
  rintro e w' ⟨rfl, hw⟩
  rw [hw]
  clear hw w'
  go_wp2_with fail
  refine (spec_is i 1 false B sb vs ks _ ((hS.out.alloc _).alloc _) hv hks hl (by omega) isx1.out).mono ?_
  rintro e w' ⟨rfl, hw⟩
  rw [hw]
  clear hw w'
  go_wp2_with fail
  refine (spec_is i 0 false B sb vs ks _ ((hS.out.alloc _).alloc _) hv hks hl (by omega) isx0.out).mono ?_
  rintro e w' ⟨rfl, hw⟩
  rw [hw]
  clear hw w'
  go_wp2_with fail
  refine (spec_is i 1 false B sb vs ks _ ((hS.out.alloc _).alloc _) hv hks hl (by omega) isx1.out).mono ?_
  rintro e w' ⟨rfl, hw⟩
  rw [hw]
  clear hw w'
  go_wp2_with fail
  refine (spec_find (3, (i : Int), (i : Int), 0) B sb vs ks _ ((hS.out.alloc _).alloc _) (by simp; omega) hv hks hl).mono ?_
  unfold FindAns
  rw [hr.out]
  rintro e w' ⟨rfl, h1, h2, h3⟩
  have H1 : Hid (St w' B sb (addV vs (3, (i : Int), (i : Int), 0)) ks) := h1
  have H2 : Hid (Below B W w') := by show Below _ _ _; refine Below.trans ?_ h2; go_grown
  have H3 : Hid (Frame W w' B sb vs ks) := by show Frame _ _ _ _ _ _; refine h3.pre ?_; go_grown
  clear h1 h2 h3
  go_wp2
  go_ret
  exact ⟨by rw [hr.out]; rfl, H1.out, H2.out, H3.out⟩
set_option maxRecDepth 100000 in
set_option maxHeartbeats 600000 in
theorem two_3_xl (i j : Nat) (x0 x1 x2 x3 y0 y1 y2 y3 : Int) (B sb : Nat) (vs : List V) (ks : List Int) (W : World) (hS : Hid (St W B sb vs ks)) (hBW : B ≤ W.heap.size) (hv : 0 < vs.length) (hks : 0 < ks.length) (hl : vs.length ≤ 1000) (hn : Hid vs.Nodup) (hi : (i : Int) < (vs.length : Int)) (hj : (j : Int) < (vs.length : Int)) (hx : Hid (vs.getD i zV = (x0, x1, x2, x3))) (hy : Hid (vs.getD j zV = (y0, y1, y2, y3))) (hk : (x0 == 1) = false) (hk2 : decide (x0 = 1) = false) (hk3 : ¬ x0 = 1) (hij : ((i : Int) == (j : Int)) = false) (hij2 : decide ((i : Int) = (j : Int)) = false) (hij3 : ¬ (i : Int) = (j : Int)) (hx0 : (x0, x1, x2, x3) ≠ kon 0) (hx1 : (x0, x1, x2, x3) ≠ kon 1) (hy0 : (y0, y1, y2, y3) ≠ kon 0) (hy1 : (y0, y1, y2, y3) ≠ kon 1) (hlt : (i : Int) < (j : Int)) (hp : Hid (pairV vs 3 (x0, x1, x2, x3) (y0, y1, y2, y3) = (3, (i : Int), (j : Int), 0))) :
    Calls Try.prog 55 #[.pointer (some ⟨sb, 0, none⟩), .int .i64 3, .int .i64 (i : Int), .int .i64 (j : Int)] W fun e W' => FindAns W B sb vs ks (pairV vs 3 (x0, x1, x2, x3) (y0, y1, y2, y3)) e W' := by
  rw [hp.out]
  obtain ⟨gv, gn, cv, cn, hE⟩ := hS.out.seen hv hks
  have e0 := hE.v
  have hsl := hE.lt.1
  have hgl := hE.lt.2.1
  have c0 := hE.val (k := i) (i := 0) (by omega) (by omega)
  have c1 := hE.val (k := i) (i := 1) (by omega) (by omega)
  have c2 := hE.val (k := i) (i := 2) (by omega) (by omega)
  have c3 := hE.val (k := i) (i := 3) (by omega) (by omega)
  rw [hx.out] at c0 c1 c2 c3
  simp only [Nat.add_zero, fldV] at c0 c1 c2 c3
  have d0 := hE.val (k := j) (i := 0) (by omega) (by omega)
  have d1 := hE.val (k := j) (i := 1) (by omega) (by omega)
  have d2 := hE.val (k := j) (i := 2) (by omega) (by omega)
  have d3 := hE.val (k := j) (i := 3) (by omega) (by omega)
  rw [hy.out] at d0 d1 d2 d3
  simp only [Nat.add_zero, fldV] at d0 d1 d2 d3
  clear hE
  have isy0 : Hid (decide (vs.getD j zV = kon 0) = false) := by show decide _ = _; rw [hy.out]; exact decide_eq_false hy0
  have isy1 : Hid (decide (vs.getD j zV = kon 1) = false) := by show decide _ = _; rw [hy.out]; exact decide_eq_false hy1
  have isx0 : Hid (decide (vs.getD i zV = kon 0) = false) := by show decide _ = _; rw [hx.out]; exact decide_eq_false hx0
  have isx1 : Hid (decide (vs.getD i zV = kon 1) = false) := by show decide _ = _; rw [hx.out]; exact decide_eq_false hx1
  obtain ⟨r, hr⟩ : ∃ r : Nat, Hid (idx (addV vs (3, (i : Int), (j : Int), 0)) (3, (i : Int), (j : Int), 0) = r) := ⟨_, rfl⟩
  clear hx0 hx1 hy0 hy1
  go_enter Try.func55, Try.ntmps55
  go_wp2_with fail
  refine (spec_is j 0 false B sb vs ks _ ((hS.out.alloc _).alloc _) hv hks hl (by omega) isy0.out).mono ?_
  rintro e w' ⟨rfl, hw⟩
  rw [hw]
  clear hw w'
  go_wp2_with fail
  refine (spec_is j 1 false B sb vs ks _ ((hS.out.alloc _).alloc _) hv hks hl (by omega) isy1.out).mono ?_
  rintro e w' ⟨rfl, hw⟩
  rw [hw]
  clear hw w'
  go_wp2_with fail
  refine (spec_is i 0 false B sb vs ks _ ((hS.out.alloc _).alloc _) hv hks hl (by omega) isx0.out).mono ?_
  rintro e w' ⟨rfl, hw⟩
  rw [hw]
  clear hw w'
  go_wp2_with fail
  refine (spec_is i 1 false B sb vs ks _ ((hS.out.alloc _).alloc _) hv hks hl (by omega) isx1.out).mono ?_
  rintro e w' ⟨rfl, hw⟩
  rw [hw]
  clear hw w'
  go_wp2_with fail
  refine (spec_find (3, (i : Int), (j : Int), 0) B sb vs ks _ ((hS.out.alloc _).alloc _) (by simp; omega) hv hks hl).mono ?_
  unfold FindAns
  rw [hr.out]
  rintro e w' ⟨rfl, h1, h2, h3⟩
  have H1 : Hid (St w' B sb (addV vs (3, (i : Int), (j : Int), 0)) ks) := h1
  have H2 : Hid (Below B W w') := by show Below _ _ _; refine Below.trans ?_ h2; go_grown
  have H3 : Hid (Frame W w' B sb vs ks) := by show Frame _ _ _ _ _ _; refine h3.pre ?_; go_grown
  clear h1 h2 h3
  go_wp2
  go_ret
  exact ⟨by rw [hr.out]; rfl, H1.out, H2.out, H3.out⟩
set_option maxRecDepth 100000 in
set_option maxHeartbeats 600000 in
theorem two_3_xg (i j : Nat) (x0 x1 x2 x3 y0 y1 y2 y3 : Int) (B sb : Nat) (vs : List V) (ks : List Int) (W : World) (hS : Hid (St W B sb vs ks)) (hBW : B ≤ W.heap.size) (hv : 0 < vs.length) (hks : 0 < ks.length) (hl : vs.length ≤ 1000) (hn : Hid vs.Nodup) (hi : (i : Int) < (vs.length : Int)) (hj : (j : Int) < (vs.length : Int)) (hx : Hid (vs.getD i zV = (x0, x1, x2, x3))) (hy : Hid (vs.getD j zV = (y0, y1, y2, y3))) (hk : (x0 == 1) = false) (hk2 : decide (x0 = 1) = false) (hk3 : ¬ x0 = 1) (hij : ((i : Int) == (j : Int)) = false) (hij2 : decide ((i : Int) = (j : Int)) = false) (hij3 : ¬ (i : Int) = (j : Int)) (hx0 : (x0, x1, x2, x3) ≠ kon 0) (hx1 : (x0, x1, x2, x3) ≠ kon 1) (hy0 : (y0, y1, y2, y3) ≠ kon 0) (hy1 : (y0, y1, y2, y3) ≠ kon 1) (hlt : (j : Int) < (i : Int)) (hp : Hid (pairV vs 3 (x0, x1, x2, x3) (y0, y1, y2, y3) = (3, (j : Int), (i : Int), 0))) :
    Calls Try.prog 55 #[.pointer (some ⟨sb, 0, none⟩), .int .i64 3, .int .i64 (i : Int), .int .i64 (j : Int)] W fun e W' => FindAns W B sb vs ks (pairV vs 3 (x0, x1, x2, x3) (y0, y1, y2, y3)) e W' := by
  rw [hp.out]
  obtain ⟨gv, gn, cv, cn, hE⟩ := hS.out.seen hv hks
  have e0 := hE.v
  have hsl := hE.lt.1
  have hgl := hE.lt.2.1
  have c0 := hE.val (k := i) (i := 0) (by omega) (by omega)
  have c1 := hE.val (k := i) (i := 1) (by omega) (by omega)
  have c2 := hE.val (k := i) (i := 2) (by omega) (by omega)
  have c3 := hE.val (k := i) (i := 3) (by omega) (by omega)
  rw [hx.out] at c0 c1 c2 c3
  simp only [Nat.add_zero, fldV] at c0 c1 c2 c3
  have d0 := hE.val (k := j) (i := 0) (by omega) (by omega)
  have d1 := hE.val (k := j) (i := 1) (by omega) (by omega)
  have d2 := hE.val (k := j) (i := 2) (by omega) (by omega)
  have d3 := hE.val (k := j) (i := 3) (by omega) (by omega)
  rw [hy.out] at d0 d1 d2 d3
  simp only [Nat.add_zero, fldV] at d0 d1 d2 d3
  clear hE
  have isy0 : Hid (decide (vs.getD j zV = kon 0) = false) := by show decide _ = _; rw [hy.out]; exact decide_eq_false hy0
  have isy1 : Hid (decide (vs.getD j zV = kon 1) = false) := by show decide _ = _; rw [hy.out]; exact decide_eq_false hy1
  have isx0 : Hid (decide (vs.getD i zV = kon 0) = false) := by show decide _ = _; rw [hx.out]; exact decide_eq_false hx0
  have isx1 : Hid (decide (vs.getD i zV = kon 1) = false) := by show decide _ = _; rw [hx.out]; exact decide_eq_false hx1
  obtain ⟨r, hr⟩ : ∃ r : Nat, Hid (idx (addV vs (3, (j : Int), (i : Int), 0)) (3, (j : Int), (i : Int), 0) = r) := ⟨_, rfl⟩
  clear hx0 hx1 hy0 hy1
  go_enter Try.func55, Try.ntmps55
  go_wp2_with fail
  refine (spec_is j 0 false B sb vs ks _ ((hS.out.alloc _).alloc _) hv hks hl (by omega) isy0.out).mono ?_
  rintro e w' ⟨rfl, hw⟩
  rw [hw]
  clear hw w'
  go_wp2_with fail
  refine (spec_is j 1 false B sb vs ks _ ((hS.out.alloc _).alloc _) hv hks hl (by omega) isy1.out).mono ?_
  rintro e w' ⟨rfl, hw⟩
  rw [hw]
  clear hw w'
  go_wp2_with fail
  refine (spec_is i 0 false B sb vs ks _ ((hS.out.alloc _).alloc _) hv hks hl (by omega) isx0.out).mono ?_
  rintro e w' ⟨rfl, hw⟩
  rw [hw]
  clear hw w'
  go_wp2_with fail
  refine (spec_is i 1 false B sb vs ks _ ((hS.out.alloc _).alloc _) hv hks hl (by omega) isx1.out).mono ?_
  rintro e w' ⟨rfl, hw⟩
  rw [hw]
  clear hw w'
  go_wp2_with fail
  refine (spec_find (3, (j : Int), (i : Int), 0) B sb vs ks _ ((hS.out.alloc _).alloc _) (by simp; omega) hv hks hl).mono ?_
  unfold FindAns
  rw [hr.out]
  rintro e w' ⟨rfl, h1, h2, h3⟩
  have H1 : Hid (St w' B sb (addV vs (3, (j : Int), (i : Int), 0)) ks) := h1
  have H2 : Hid (Below B W w') := by show Below _ _ _; refine Below.trans ?_ h2; go_grown
  have H3 : Hid (Frame W w' B sb vs ks) := by show Frame _ _ _ _ _ _; refine h3.pre ?_; go_grown
  clear h1 h2 h3
  go_wp2
  go_ret
  exact ⟨by rw [hr.out]; rfl, H1.out, H2.out, H3.out⟩
set_option maxRecDepth 100000 in
set_option maxHeartbeats 600000 in
theorem two_3_yl (i j : Nat) (x1 x2 x3 y0 y1 y2 y3 : Int) (B sb : Nat) (vs : List V) (ks : List Int) (W : World) (hS : Hid (St W B sb vs ks)) (hBW : B ≤ W.heap.size) (hv : 0 < vs.length) (hks : 0 < ks.length) (hl : vs.length ≤ 1000) (hn : Hid vs.Nodup) (hi : (i : Int) < (vs.length : Int)) (hj : (j : Int) < (vs.length : Int)) (hx : Hid (vs.getD i zV = (1, x1, x2, x3))) (hy : Hid (vs.getD j zV = (y0, y1, y2, y3))) (hk : (y0 == 1) = false) (hk2 : decide (y0 = 1) = false) (hk3 : ¬ y0 = 1) (hij : ((i : Int) == (j : Int)) = false) (hij2 : decide ((i : Int) = (j : Int)) = false) (hij3 : ¬ (i : Int) = (j : Int)) (hx0 : (1, x1, x2, x3) ≠ kon 0) (hx1 : (1, x1, x2, x3) ≠ kon 1) (hy0 : (y0, y1, y2, y3) ≠ kon 0) (hy1 : (y0, y1, y2, y3) ≠ kon 1) (hlt : (i : Int) < (j : Int)) (hp : Hid (pairV vs 3 (1, x1, x2, x3) (y0, y1, y2, y3) = (3, (i : Int), (j : Int), 0))) :
    Calls Try.prog 55 #[.pointer (some ⟨sb, 0, none⟩), .int .i64 3, .int .i64 (i : Int), .int .i64 (j : Int)] W fun e W' => FindAns W B sb vs ks (pairV vs 3 (1, x1, x2, x3) (y0, y1, y2, y3)) e W' := by
  rw [hp.out]
  obtain ⟨gv, gn, cv, cn, hE⟩ := hS.out.seen hv hks
  have e0 := hE.v
  have hsl := hE.lt.1
  have hgl := hE.lt.2.1
  have c0 := hE.val (k := i) (i := 0) (by omega) (by omega)
  have c1 := hE.val (k := i) (i := 1) (by omega) (by omega)
  have c2 := hE.val (k := i) (i := 2) (by omega) (by omega)
  have c3 := hE.val (k := i) (i := 3) (by omega) (by omega)
  rw [hx.out] at c0 c1 c2 c3
  simp only [Nat.add_zero, fldV] at c0 c1 c2 c3
  have d0 := hE.val (k := j) (i := 0) (by omega) (by omega)
  have d1 := hE.val (k := j) (i := 1) (by omega) (by omega)
  have d2 := hE.val (k := j) (i := 2) (by omega) (by omega)
  have d3 := hE.val (k := j) (i := 3) (by omega) (by omega)
  rw [hy.out] at d0 d1 d2 d3
  simp only [Nat.add_zero, fldV] at d0 d1 d2 d3
  clear hE
  have isy0 : Hid (decide (vs.getD j zV = kon 0) = false) := by show decide _ = _; rw [hy.out]; exact decide_eq_false hy0
  have isy1 : Hid (decide (vs.getD j zV = kon 1) = false) := by show decide _ = _; rw [hy.out]; exact decide_eq_false hy1
  have isx0 : Hid (decide (vs.getD i zV = kon 0) = false) := by show decide _ = _; rw [hx.out]; exact decide_eq_false hx0
  have isx1 : Hid (decide (vs.getD i zV = kon 1) = false) := by show decide _ = _; rw [hx.out]; exact decide_eq_false hx1
  obtain ⟨r, hr⟩ : ∃ r : Nat, Hid (idx (addV vs (3, (i : Int), (j : Int), 0)) (3, (i : Int), (j : Int), 0) = r) := ⟨_, rfl⟩
  clear hx0 hx1 hy0 hy1
  go_enter Try.func55, Try.ntmps55
  go_wp2_with fail
  refine (spec_is j 0 false B sb vs ks _ ((hS.out.alloc _).alloc _) hv hks hl (by omega) isy0.out).mono ?_
  rintro e w' ⟨rfl, hw⟩
  rw [hw]
  clear hw w'
  go_wp2_with fail
  refine (spec_is j 1 false B sb vs ks _ ((hS.out.alloc _).alloc _) hv hks hl (by omega) isy1.out).mono ?_
  rintro e w' ⟨rfl, hw⟩
  rw [hw]
  clear hw w'
  go_wp2_with fail
  refine (spec_is i 0 false B sb vs ks _ ((hS.out.alloc _).alloc _) hv hks hl (by omega) isx0.out).mono ?_
  rintro e w' ⟨rfl, hw⟩
  rw [hw]
  clear hw w'
  go_wp2_with fail
  refine (spec_is i 1 false B sb vs ks _ ((hS.out.alloc _).alloc _) hv hks hl (by omega) isx1.out).mono ?_
  rintro e w' ⟨rfl, hw⟩
  rw [hw]
  clear hw w'
  go_wp2_with fail
  refine (spec_find (3, (i : Int), (j : Int), 0) B sb vs ks _ ((hS.out.alloc _).alloc _) (by simp; omega) hv hks hl).mono ?_
  unfold FindAns
  rw [hr.out]
  rintro e w' ⟨rfl, h1, h2, h3⟩
  have H1 : Hid (St w' B sb (addV vs (3, (i : Int), (j : Int), 0)) ks) := h1
  have H2 : Hid (Below B W w') := by show Below _ _ _; refine Below.trans ?_ h2; go_grown
  have H3 : Hid (Frame W w' B sb vs ks) := by show Frame _ _ _ _ _ _; refine h3.pre ?_; go_grown
  clear h1 h2 h3
  go_wp2
  go_ret
  exact ⟨by rw [hr.out]; rfl, H1.out, H2.out, H3.out⟩
set_option maxRecDepth 100000 in
set_option maxHeartbeats 600000 in
theorem two_3_yg (i j : Nat) (x1 x2 x3 y0 y1 y2 y3 : Int) (B sb : Nat) (vs : List V) (ks : List Int) (W : World) (hS : Hid (St W B sb vs ks)) (hBW : B ≤ W.heap.size) (hv : 0 < vs.length) (hks : 0 < ks.length) (hl : vs.length ≤ 1000) (hn : Hid vs.Nodup) (hi : (i : Int) < (vs.length : Int)) (hj : (j : Int) < (vs.length : Int)) (hx : Hid (vs.getD i zV = (1, x1, x2, x3))) (hy : Hid (vs.getD j zV = (y0, y1, y2, y3))) (hk : (y0 == 1) = false) (hk2 : decide (y0 = 1) = false) (hk3 : ¬ y0 = 1) (hij : ((i : Int) == (j : Int)) = false) (hij2 : decide ((i : Int) = (j : Int)) = false) (hij3 : ¬ (i : Int) = (j : Int)) (hx0 : (1, x1, x2, x3) ≠ kon 0) (hx1 : (1, x1, x2, x3) ≠ kon 1) (hy0 : (y0, y1, y2, y3) ≠ kon 0) (hy1 : (y0, y1, y2, y3) ≠ kon 1) (hlt : (j : Int) < (i : Int)) (hp : Hid (pairV vs 3 (1, x1, x2, x3) (y0, y1, y2, y3) = (3, (j : Int), (i : Int), 0))) :
    Calls Try.prog 55 #[.pointer (some ⟨sb, 0, none⟩), .int .i64 3, .int .i64 (i : Int), .int .i64 (j : Int)] W fun e W' => FindAns W B sb vs ks (pairV vs 3 (1, x1, x2, x3) (y0, y1, y2, y3)) e W' := by
  rw [hp.out]
  obtain ⟨gv, gn, cv, cn, hE⟩ := hS.out.seen hv hks
  have e0 := hE.v
  have hsl := hE.lt.1
  have hgl := hE.lt.2.1
  have c0 := hE.val (k := i) (i := 0) (by omega) (by omega)
  have c1 := hE.val (k := i) (i := 1) (by omega) (by omega)
  have c2 := hE.val (k := i) (i := 2) (by omega) (by omega)
  have c3 := hE.val (k := i) (i := 3) (by omega) (by omega)
  rw [hx.out] at c0 c1 c2 c3
  simp only [Nat.add_zero, fldV] at c0 c1 c2 c3
  have d0 := hE.val (k := j) (i := 0) (by omega) (by omega)
  have d1 := hE.val (k := j) (i := 1) (by omega) (by omega)
  have d2 := hE.val (k := j) (i := 2) (by omega) (by omega)
  have d3 := hE.val (k := j) (i := 3) (by omega) (by omega)
  rw [hy.out] at d0 d1 d2 d3
  simp only [Nat.add_zero, fldV] at d0 d1 d2 d3
  clear hE
  have isy0 : Hid (decide (vs.getD j zV = kon 0) = false) := by show decide _ = _; rw [hy.out]; exact decide_eq_false hy0
  have isy1 : Hid (decide (vs.getD j zV = kon 1) = false) := by show decide _ = _; rw [hy.out]; exact decide_eq_false hy1
  have isx0 : Hid (decide (vs.getD i zV = kon 0) = false) := by show decide _ = _; rw [hx.out]; exact decide_eq_false hx0
  have isx1 : Hid (decide (vs.getD i zV = kon 1) = false) := by show decide _ = _; rw [hx.out]; exact decide_eq_false hx1
  obtain ⟨r, hr⟩ : ∃ r : Nat, Hid (idx (addV vs (3, (j : Int), (i : Int), 0)) (3, (j : Int), (i : Int), 0) = r) := ⟨_, rfl⟩
  clear hx0 hx1 hy0 hy1
  go_enter Try.func55, Try.ntmps55
  go_wp2_with fail
  refine (spec_is j 0 false B sb vs ks _ ((hS.out.alloc _).alloc _) hv hks hl (by omega) isy0.out).mono ?_
  rintro e w' ⟨rfl, hw⟩
  rw [hw]
  clear hw w'
  go_wp2_with fail
  refine (spec_is j 1 false B sb vs ks _ ((hS.out.alloc _).alloc _) hv hks hl (by omega) isy1.out).mono ?_
  rintro e w' ⟨rfl, hw⟩
  rw [hw]
  clear hw w'
  go_wp2_with fail
  refine (spec_is i 0 false B sb vs ks _ ((hS.out.alloc _).alloc _) hv hks hl (by omega) isx0.out).mono ?_
  rintro e w' ⟨rfl, hw⟩
  rw [hw]
  clear hw w'
  go_wp2_with fail
  refine (spec_is i 1 false B sb vs ks _ ((hS.out.alloc _).alloc _) hv hks hl (by omega) isx1.out).mono ?_
  rintro e w' ⟨rfl, hw⟩
  rw [hw]
  clear hw w'
  go_wp2_with fail
  refine (spec_find (3, (j : Int), (i : Int), 0) B sb vs ks _ ((hS.out.alloc _).alloc _) (by simp; omega) hv hks hl).mono ?_
  unfold FindAns
  rw [hr.out]
  rintro e w' ⟨rfl, h1, h2, h3⟩
  have H1 : Hid (St w' B sb (addV vs (3, (j : Int), (i : Int), 0)) ks) := h1
  have H2 : Hid (Below B W w') := by show Below _ _ _; refine Below.trans ?_ h2; go_grown
  have H3 : Hid (Frame W w' B sb vs ks) := by show Frame _ _ _ _ _ _; refine h3.pre ?_; go_grown
  clear h1 h2 h3
  go_wp2
  go_ret
  exact ⟨by rw [hr.out]; rfl, H1.out, H2.out, H3.out⟩
end Go.Proofs.Ytldmeffhbabanaa.nums
