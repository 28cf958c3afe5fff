/-
  What slices.SortStableFunc does with tasks and their ranks, which puts so few in by one after the other.
-/
import Derived.Test.YtfgfhmfdkglhoaaProg
import Derived.Test.YtfgfhmfdkglhoaaMagMath
import Derived.Test.YtfgfhmfdkglhoaaTaskMath
import Derived.Test.YtfgfhmfdkglhoaaRankMath
import Derived.Test.YtfgfhmfdkglhoaaOrderMath
import Derived.Test.YtfgfhmfdkglhoaaTaskSpec
import Derived.Test.YtfgfhmfdkglhoaaTaskImpl
import Derived.Test.YtfgfhmfdkglhoaaRankImpl
import Derived.Test.YtfgfhmfdkglhoaaOrderSpec
import Derived.Test.YtfgfhmfdkglhoaaInts
import Derived.Test.YtfgfhmfdkglhoaaOwnInts
import Derived.Test.YtfgfhmfdkglhoaaPats
import Derived.Test.YtfgfhmfdkglhoaaTaskMark
import Derived.WalkKit
import Derived.WalkSpells
import Derived.Below
import Derived.Handy
import Derived.Deep.QuietTactic
import Derived.BigQuiet
import Derived.Deep.RegionHeld3
namespace Go.Proofs.Ytfgfhmfdkglhoaa.walks
open Go.RowKit Go.Proofs.Ytfgfhmfdkglhoaa.math Go.Proofs.Ytfgfhmfdkglhoaa.ints
set_option linter.unusedVariables false
set_option linter.unusedSimpArgs false
set_option maxRecDepth 100000

theorem impl_nan (x : Int) (W : World) : Calls Try.prog 52 #[.int .i64 x] W fun e W' => e = .returned (.bool false) ∧ W' = W := by
  have e1 : (x != x) = false := by simp
  go_enter Try.func52, Try.ntmps52
  go_wp2
  go_ret
  exact ⟨rfl, rfl⟩
/-- How two numbers stand. -/
def cmpV (a b : Int) : Int := if a < b then -1 else if b < a then 1 else 0
theorem impl_cmp (a b : Int) (W : World) : Calls Try.prog 36 #[.int .i64 a, .int .i64 b] W fun e W' => e = .returned (.int .i64 (cmpV a b)) ∧ W' = W := by
  rcases Int.lt_trichotomy a b with h | h | h
  · have HV : Hid (cmpV a b = -1) := if_pos h
    rw [HV.out]
    go_enter Try.func36, Try.ntmps36
    go_wp2_with (go_at_call 52; refine (impl_nan _ _).mono ?_; rintro e w' ⟨rfl, hw⟩; rw [hw]; clear hw w')
    go_ret
    exact ⟨rfl, rfl⟩
  · subst h
    have HV : Hid (cmpV a a = 0) := by show _ = _; unfold cmpV; rw [if_neg (by omega), if_neg (by omega)]
    rw [HV.out]
    go_enter Try.func36, Try.ntmps36
    go_wp2_with (go_at_call 52; refine (impl_nan _ _).mono ?_; rintro e w' ⟨rfl, hw⟩; rw [hw]; clear hw w')
    go_ret
    exact ⟨rfl, rfl⟩
  · have HV : Hid (cmpV a b = 1) := by show _ = _; unfold cmpV; rw [if_neg (by omega), if_pos h]
    rw [HV.out]
    have h2 : b ≤ a := by omega
    go_enter Try.func36, Try.ntmps36
    go_wp2_with (go_at_call 52; refine (impl_nan _ _).mono ?_; rintro e w' ⟨rfl, hw⟩; rw [hw]; clear hw w')
    go_ret
    exact ⟨rfl, rfl⟩
/-- The ranks, and the box that the function holds of them. -/
structure RankB (W : World) (rb rg n : Nat) (R : Nat → Int) : Prop where
  box : W.cell? ⟨rb, 0, none⟩ = some (.slice (some ⟨rg, 0, none⟩) n n)
  row : ∀ i, i < n → W.cell? ⟨rg, i, none⟩ = some (.int .i64 (R i))
theorem cell_drewN (w : World) (p : Addr) : ∀ q, (w.drewN q).cell? p = w.cell? p
  | 0 => rfl
  | q + 1 => cell_drewN w p q
theorem RankB.drewN {W : World} {rb rg n : Nat} {R : Nat → Int} (h : RankB W rb rg n R) (q : Nat) : RankB (W.drewN q) rb rg n R := ⟨by rw [cell_drewN]; exact h.box, fun i hi => by rw [cell_drewN]; exact h.row i hi⟩
set_option maxHeartbeats 2000000 in
theorem impl_less (x y rb rg n : Nat) (R : Nat → Int) (W : World) (hx : x < n) (hy : y < n) (hn : n ≤ 12) (h : Hid (RankB W rb rg n R)) :
    Calls Try.prog 35 #[.int .i64 (x : Int), .int .i64 (y : Int), .pointer (some ⟨rb, 0, none⟩)] W fun e W' => e = .returned (.int .i64 (cmpV (R y) (R x))) ∧ ∃ m, W' = W.drewN m := by
  have hxI : (x : Int) < (n : Int) := by omega
  have hyI : (y : Int) < (n : Int) := by omega
  have c0 := h.out.box
  have c1 := h.out.row x hx
  have c2 := h.out.row y hy
  obtain ⟨rx, hrx⟩ : ∃ rx, Hid (R x = rx) := ⟨_, rfl⟩
  obtain ⟨ry, hry⟩ : ∃ ry, Hid (R y = ry) := ⟨_, rfl⟩
  rw [hrx.out] at c1
  rw [hry.out] at c2
  rw [hrx.out, hry.out]
  obtain ⟨cv, hcv⟩ : ∃ cv, Hid (cmpV ry rx = cv) := ⟨_, rfl⟩
  have CC : Hid (∀ w, Calls Try.prog 36 #[.int .i64 ry, .int .i64 rx] w fun e W' => e = .returned (.int .i64 cv) ∧ W' = w) := fun w => by
    have := impl_cmp ry rx w
    rw [hcv.out] at this
    exact this
  rw [hcv.out]
  go_enter Try.func35, Try.ntmps35
  go_wp2_with fail
  go_quiet (first | (go_at_call 36; with_reducible exact Calls.quiet_of_same (CC.out _)))
  all_goals
    go_wp2
    go_ret
    exact ⟨rfl, _, rfl⟩
/-- The row that is being sorted, and that nothing else has turned. -/
structure SortI (W wr : World) (g n : Nat) (s : Nat → Nat) : Prop where
  cell : ∀ x, x < n → wr.cell? ⟨g, x, none⟩ = some (.int .i64 ((s x : Nat) : Int)) ∧ wr.frozen? ⟨g, x, none⟩ = false
  only : OnlyP W wr g (g + 1)
theorem frozen_drewN (w : World) (p : Addr) : ∀ q, (w.drewN q).frozen? p = w.frozen? p
  | 0 => rfl
  | q + 1 => frozen_drewN w p q
theorem onlyP_drewN {W w : World} {b E : Nat} (h : OnlyP W w b E) : ∀ q, OnlyP W (w.drewN q) b E
  | 0 => h
  | q + 1 => by
    have r := onlyP_drewN h q
    exact ⟨r.os, r.tape, r.output, r.size, r.block⟩
theorem SortI.drewN {W wr : World} {g n : Nat} {s : Nat → Nat} (h : SortI W wr g n s) (q : Nat) : SortI W (wr.drewN q) g n s := ⟨fun x hx => by rw [cell_drewN, frozen_drewN]; exact h.cell x hx, onlyP_drewN h.only q⟩
theorem SortI.congr {W wr : World} {g n : Nat} {s s' : Nat → Nat} (h : SortI W wr g n s) (e : ∀ x, x < n → s x = s' x) : SortI W wr g n s' := ⟨fun x hx => by rw [← e x hx]; exact h.cell x hx, h.only⟩
theorem SortI.swap {W wr : World} {g n j : Nat} {l : List Nat} {i : Nat} (h : SortI W wr g n (inS l j i)) (hj : 0 < j) (hji : j ≤ i) (hi : i < n) (u v : Nat) (hu : u = inS l j i (j - 1)) (hv : v = inS l j i j) : SortI W ((wr.setCell ⟨g, j, none⟩ (.int .i64 (u : Int))).setCell ⟨g, j - 1, none⟩ (.int .i64 (v : Int))) g n (inS l (j - 1) i) := by
  refine ⟨fun x hx => ⟨?_, by simpa using (h.cell x hx).2⟩, (h.only.set (by omega)).set (by omega)⟩
  rw [inS_swap hj hji]
  by_cases a : x = j
  · rw [if_pos a, World.cell?_setCell_other _ _ _ _ (by simp; try omega), a, World.cell?_setCell_same _ _ _ (h.cell j (by omega)).1, hu]
  · rw [if_neg a]
    by_cases b : x = j - 1
    · rw [if_pos b, b]
      have q : (wr.setCell ⟨g, j, none⟩ (.int .i64 (u : Int))).cell? ⟨g, j - 1, none⟩ = some (.int .i64 ((inS l j i (j - 1) : Nat) : Int)) := by
        rw [World.cell?_setCell_other _ _ _ _ (by simp; try omega)]; exact (h.cell (j - 1) (by omega)).1
      rw [World.cell?_setCell_same _ _ _ q, hv]
    · rw [if_neg b, World.cell?_setCell_other _ _ _ _ (by simp; try omega), World.cell?_setCell_other _ _ _ _ (by simp; try omega)]
      exact (h.cell x hx).1
theorem RankB.only {W wr : World} {rb rg n g : Nat} {R : Nat → Int} (h : RankB W rb rg n R) (ho : OnlyP W wr g (g + 1)) (h1 : rb ≠ g) (h2 : rg ≠ g) : RankB wr rb rg n R := by
  refine ⟨?_, fun i hi => ?_⟩
  · exact (World.cell?_of_block (ho.block rb (by have := World.block_lt_of_cell? W _ h.box; exact this) (by omega))).trans h.box
  · exact (World.cell?_of_block (ho.block rg (by have := World.block_lt_of_cell? W _ (h.row i hi); exact this) (by omega))).trans (h.row i hi)
theorem cmp_lt {a b : Int} (h : a < b) : cmpV a b = -1 := if_pos h
theorem cmp_ge {a b : Int} (h : b ≤ a) : 0 ≤ cmpV a b := by
  unfold cmpV
  rw [if_neg (by omega)]
  split <;> omega
set_option maxHeartbeats 8000000 in
theorem impl_insert (sa : Option Addr) (oc g n rb rg : Nat) (R : Nat → Int) (W : World) (hsa : Hid (0 < n → sa = some ⟨g, 0, none⟩)) (hn : n ≤ 12) (hrb : rb ≠ g) (hrg : rg ≠ g) (h : Hid (RankB W rb rg n R)) (hs : Hid (SortI W W g n (fun x => x))) :
    Calls Try.prog 57 #[.slice sa n oc, .int .i64 0, .int .i64 (n : Int), .func (.func 35) #[] #[.pointer (some ⟨rb, 0, none⟩)]] W fun e W' => e = .returned (.tuple #[]) ∧ SortI W W' g n (rowS R n) := by
  have hnI : (n : Int) ≤ 12 := by omega
  go_enter Try.func57, Try.ntmps57
  go_wp2
  go_loopw [8] (fun vi wr => ∃ i : Nat, 1 ≤ i ∧ i ≤ n + 1 ∧ (1 < i → i ≤ n) ∧ vi = .int .i64 (i : Int) ∧ Hid (SortI W wr g n (rowS R i))) (fun vi _ => n - (intOf vi).toNat)
  case atStart => exact ⟨1, Nat.le_refl _, by omega, fun q => by omega, rfl, hs.out.congr (fun x hx => (rowS_one R x).symm)⟩
  case round =>
    obtain ⟨i, hi1, hi2, hi3, rfl, HS⟩ := hrel
    by_cases hin : i < n
    rotate_left
    · have HE : Hid (SortI W wr g n (rowS R n)) := by
        show SortI _ _ _ _ _
        by_cases q : 1 < i
        · have : i = n := by have := hi3 q; omega
          rw [← this]; rw [this] at HS ⊢; exact HS.out
        · exact HS.out.congr (fun x hx => by
            have e1 : i = 1 := by omega
            have e2 : n = 1 := by omega
            rw [e1, e2])
      have hin' : n ≤ i := by omega
      have hinI : (n : Int) ≤ (i : Int) := by omega
      clear hin
      go_wp2
      exact bodyPost_end (v := .tuple #[]) (by simp [results, Try.results57]) rfl ⟨rfl, HE.out⟩
    have hinI : (i : Int) < (n : Int) := by omega
    obtain rfl := hsa.out (by omega)
    obtain ⟨l, hlE⟩ : ∃ l, Hid (ordTo R i = l) := ⟨_, rfl⟩
    have HF : Hid (Falls R l) := by show Falls R l; rw [← hlE.out]; exact ord_falls R i
    have HLL : Hid (l.length = i) := by show _ = _; rw [← hlE.out]; exact ord_len R i
    have HLT : Hid (∀ x, x < i → l.getD x 0 < i) := by show ∀ x, _ → _; rw [← hlE.out]; exact ord_lt R i
    have HS0 : Hid (SortI W wr g n (inS l i i)) := by show SortI _ _ _ _ _; rw [← hlE.out, inS_start]; exact HS.out
    have HEND : Hid (∀ j, j ≤ i → (∀ x, j ≤ x → x < i → R (l.getD x 0) < R i) → (j = 0 ∨ R i ≤ R (l.getD (j - 1) 0)) → inS l j i = rowS R (i + 1)) := fun j h1 h2 h3 => by
      rw [← hlE.out]
      refine inS_end (insP_right ?_ ?_ ?_ ?_)
      · rw [hlE.out]; exact HF.out
      · rw [hlE.out, HLL.out]; exact h1
      · rw [hlE.out, HLL.out]; exact h2
      · rw [hlE.out]; exact h3
    clear HS
    go_wp2
    go_loopw [9] (fun vj wi => ∃ j : Nat, j ≤ i ∧ vj = .int .i64 (j : Int) ∧ Hid (∀ x, j ≤ x → x < i → R (l.getD x 0) < R i) ∧ Hid (SortI W wi g n (inS l j i))) (fun vj _ => (intOf vj).toNat)
    case atStart => exact ⟨i, Nat.le_refl _, rfl, fun x q1 q2 => by omega, HS0⟩
    case round =>
      obtain ⟨j, hji, rfl, HGT, HS⟩ := hrel
      by_cases hj0 : j = 0
      · have HE : Hid (inS l j i = rowS R (i + 1)) := HEND.out j hji HGT.out (Or.inl hj0)
        have dj : decide ((j : Int) > 0) = false := decide_eq_false (by omega)
        have dj2 : decide (0 < j) = false := decide_eq_false (by omega)
        have dj3 : (j : Int) ≤ 0 := by omega
        clear hj0
        go_wp2_with fail
        go_quiet (fail)
        go_wp2
        go_roundw
        case rel => exact ⟨i + 1, by omega, by omega, fun _ => by omega, by go_num, by show SortI _ _ _ _ _; rw [← HE.out]; exact HS.out.drewN _⟩
        case measure => simp [intOf]; omega
      have hj1 : 0 < j := by omega
      have hj1I : (0 : Int) < (j : Int) := by omega
      have djt : decide ((j : Int) > 0) = true := decide_eq_true hj1I
      have djt2 : decide (0 < j) = true := decide_eq_true hj1
      clear hj0
      have cJ := (HS.out.cell j (by omega)).1
      have zJ := (HS.out.cell j (by omega)).2
      have cP := (HS.out.cell (j - 1) (by omega)).1
      have zP := (HS.out.cell (j - 1) (by omega)).2
      rw [inS_here] at cJ
      rw [inS_prev hj1] at cP
      have HRB : Hid (∀ q, RankB (wr.drewN q) rb rg n R) := fun q => (h.out.only HS.out.only hrb hrg).drewN q
      have hyl := HLT.out (j - 1) (by omega)
      have HEX : Hid (R i ≤ R (l.getD (j - 1) 0) → inS l j i = rowS R (i + 1)) := fun q => HEND.out j hji HGT.out (Or.inr q)
      have HGX : Hid (R (l.getD (j - 1) 0) < R i → ∀ x, j - 1 ≤ x → x < i → R (l.getD x 0) < R i) := fun q x h1 h2 => by
        by_cases e : x = j - 1
        · rw [e]; exact q
        · exact HGT.out x (by omega) h2
      have HSW : Hid (SortI W ((wr.setCell ⟨g, j, none⟩ (.int .i64 ((l.getD (j - 1) 0 : Nat) : Int))).setCell ⟨g, j - 1, none⟩ (.int .i64 (i : Int))) g n (inS l (j - 1) i)) := HS.out.swap hj1 hji hin _ _ (inS_prev hj1).symm (inS_here l j i).symm
      obtain ⟨y, hy⟩ : ∃ y, Hid (l.getD (j - 1) 0 = y) := ⟨_, rfl⟩
      rw [hy.out] at cP hyl HEX HGX HSW
      have hyn : y < n := by omega
      obtain ⟨m, hm⟩ : ∃ m : Nat, j = m + 1 := ⟨j - 1, by omega⟩
      subst hm
      rw [Nat.add_sub_cancel] at cP zP HGX HSW
      have em : (m : Int) + 1 - 1 = (m : Int) := by omega
      have hmI : (m : Int) < (n : Int) := by omega
      have hm1I : (m : Int) + 1 < (n : Int) := by omega
      have hm10 : (0 : Int) ≤ (m : Int) + 1 := by omega
      have hwm : IntKind.i64.wrap (m : Int) = (m : Int) := Go.IntWalk.i64_in _ (by omega)
      have CL : Hid (∀ q, Calls Try.prog 35 #[.int .i64 (i : Int), .int .i64 (y : Int), .pointer (some ⟨rb, 0, none⟩)] (wr.drewN q) fun e W' => e = .returned (.int .i64 (cmpV (R y) (R i))) ∧ ∃ m, W' = (wr.drewN q).drewN m) := fun q => impl_less i y rb rg n R _ hin hyn hn (HRB.out q)
      by_cases q : R y < R i
      rotate_left
      · have HE : Hid (inS l (m + 1) i = rowS R (i + 1)) := HEX.out (by omega)
        have hc0 := cmp_ge (a := R y) (b := R i) (by omega)
        obtain ⟨cv, hcv⟩ : ∃ cv, Hid (cmpV (R y) (R i) = cv) := ⟨_, rfl⟩
        rw [hcv.out] at CL hc0
        have dcv : decide (cv < 0) = false := decide_eq_false (by omega)
        clear zJ zP q
        go_wp2_with fail
        go_quiet (first | (go_at_call 35; refine Calls.quiet_of (CL.out _)))
        all_goals
          go_wp2
          go_roundw
          case rel => exact ⟨i + 1, by omega, by omega, fun _ => by omega, by go_num, by show SortI _ _ _ _ _; rw [← HE.out]; exact HS.out.drewN _⟩
          case measure => simp [intOf]; omega
      rw [cmp_lt q] at CL
      have HG2 := HGX.out q
      have HG3 : Hid (∀ x, m ≤ x → x < i → R (l.getD x 0) < R i) := HG2
      clear HG2 q
      go_wp2_with fail
      go_quiet (first | (go_at_call 35; refine Calls.quiet_of (CL.out _)))
      all_goals
        have cJ2 : (wr.drewN nq).cell? ⟨g, m + 1, none⟩ = some (.int .i64 (i : Int)) := by rw [cell_drewN]; exact cJ
        have cP2 : (wr.drewN nq).cell? ⟨g, m, none⟩ = some (.int .i64 (y : Int)) := by rw [cell_drewN]; exact cP
        have zJ2 : (wr.drewN nq).frozen? ⟨g, m + 1, none⟩ = false := by rw [frozen_drewN]; exact zJ
        have zP2 : (wr.drewN nq).frozen? ⟨g, m, none⟩ = false := by rw [frozen_drewN]; exact zP
        have HSD : Hid (SortI W (wr.drewN nq) g n (inS l (m + 1) i)) := HS.out.drewN nq
        generalize wr.drewN nq = V at cJ2 cP2 zJ2 zP2 HSD ⊢
        clear cJ cP zJ zP HSW
        have HSW : Hid (SortI W ((V.setCell ⟨g, m + 1, none⟩ (.int .i64 (y : Int))).setCell ⟨g, m, none⟩ (.int .i64 (i : Int))) g n (inS l m i)) := by
          have := HSD.out.swap hj1 hji hin y i (by rw [inS_prev hj1]; exact hy.out.symm) (inS_here l (m + 1) i).symm
          rw [Nat.add_sub_cancel] at this
          exact this
        go_wp2_with fail
        refine wp_region_noPanic ?_
        refine wp_region_held_drew (S := (fun _ => True)) (by kernel_rfl) ?_ (fun hHeld => ?_)
        · (try dsimp only); (try trivial)
        refine wpAnyH_take (i := 0) (v := ?v1) rfl (by kernel_rfl) (by kernel_rfl) (by kernel_rfl) (fun _ _ _ h => h) (Or.inl ⟨by rfl, ?hy1⟩) (by assumption) ?_
        case hy1 => (intro w hSw; (try dsimp only at hSw); go_simp; try with_reducible rfl)
        try simp only [Act.put, List.setIfInBounds_toArray, List.set_cons_zero, List.set_cons_succ]
        refine wpAnyH_take (i := 1) (v := ?v2) rfl (by kernel_rfl) (by kernel_rfl) (by kernel_rfl) (fun _ _ _ h => h) (Or.inl ⟨by rfl, ?hy2⟩) (by assumption) ?_
        case hy2 => (intro w hSw; (try dsimp only at hSw); go_simp; try with_reducible rfl)
        try simp only [Act.put, List.setIfInBounds_toArray, List.set_cons_zero, List.set_cons_succ]
        refine wpAnyH_take (i := 2) (v := ?v3) rfl (by kernel_rfl) (by kernel_rfl) (by kernel_rfl) (fun _ _ _ h => h) (Or.inl ⟨by rfl, ?hy3⟩) (by assumption) ?_
        case hy3 => (intro w hSw; (try dsimp only at hSw); go_simp; try with_reducible rfl)
        try simp only [Act.put, List.setIfInBounds_toArray, List.set_cons_zero, List.set_cons_succ]
        refine wpAnyH_take (i := 3) (v := ?v4) rfl (by kernel_rfl) (by kernel_rfl) (by kernel_rfl) (fun _ _ _ h => h) (Or.inl ⟨by rfl, ?hy4⟩) (by assumption) ?_
        case hy4 => (intro w hSw; (try dsimp only at hSw); go_simp; try with_reducible rfl)
        try simp only [Act.put, List.setIfInBounds_toArray, List.set_cons_zero, List.set_cons_succ]
        refine wpAnyH_take (i := 4) (v := ?v5) rfl (by kernel_rfl) (by kernel_rfl) (by kernel_rfl) (fun _ _ _ h => h) (Or.inl ⟨by rfl, ?hy5⟩) (by assumption) ?_
        case hy5 => (intro w hSw; (try dsimp only at hSw); go_simp; try with_reducible rfl)
        try simp only [Act.put, List.setIfInBounds_toArray, List.set_cons_zero, List.set_cons_succ]
        refine wpAnyH_take (i := 5) (v := ?v6) rfl (by kernel_rfl) (by kernel_rfl) (by kernel_rfl) (fun _ _ _ h => h) (Or.inl ⟨by rfl, ?hy6⟩) (by assumption) ?_
        case hy6 => (intro w hSw; (try dsimp only at hSw); go_simp; try with_reducible rfl)
        try simp only [Act.put, List.setIfInBounds_toArray, List.set_cons_zero, List.set_cons_succ]
        refine wpAnyH_take (i := 6) (v := ?v7) rfl (by kernel_rfl) (by kernel_rfl) (by kernel_rfl) (fun _ _ _ h => h) (Or.inl ⟨by rfl, ?hy7⟩) (by assumption) ?_
        case hy7 => (intro w hSw; (try dsimp only at hSw); go_simp; try with_reducible rfl)
        try simp only [Act.put, List.setIfInBounds_toArray, List.set_cons_zero, List.set_cons_succ]
        refine wpAnyH_take (i := 7) (v := ?v8) rfl (by kernel_rfl) (by kernel_rfl) (by kernel_rfl) (fun _ _ _ h => h) (Or.inl ⟨by rfl, ?hy8⟩) (by assumption) ?_
        case hy8 => (intro w hSw; (try dsimp only at hSw); go_simp; try with_reducible rfl)
        try simp only [Act.put, List.setIfInBounds_toArray, List.set_cons_zero, List.set_cons_succ]
        refine wpAnyH_take (i := 8) (v := ?v9) rfl (by kernel_rfl) (by kernel_rfl) (by kernel_rfl) (fun _ _ _ h => h) (Or.inl ⟨by rfl, ?hy9⟩) (by assumption) ?_
        case hy9 => (intro w hSw; (try dsimp only at hSw); go_simp; try with_reducible rfl)
        try simp only [Act.put, List.setIfInBounds_toArray, List.set_cons_zero, List.set_cons_succ]
        refine wpAnyH_take (i := 10) (v := ?v10) rfl (by kernel_rfl) (by kernel_rfl) (by kernel_rfl) (fun _ _ _ h => h) (Or.inl ⟨by rfl, ?hy10⟩) (by assumption) ?_
        case hy10 => (intro w hSw; (try dsimp only at hSw); go_simp; try with_reducible rfl)
        try simp only [Act.put, List.setIfInBounds_toArray, List.set_cons_zero, List.set_cons_succ]
        refine wpAnyH_take (i := 11) (v := ?v11) rfl (by kernel_rfl) (by kernel_rfl) (by kernel_rfl) (fun _ _ _ h => h) (Or.inl ⟨by rfl, ?hy11⟩) (by assumption) ?_
        case hy11 => (intro w hSw; (try dsimp only at hSw); go_simp; try with_reducible rfl)
        try simp only [Act.put, List.setIfInBounds_toArray, List.set_cons_zero, List.set_cons_succ]
        refine wpAnyH_take (i := 12) (v := ?v12) rfl (by kernel_rfl) (by kernel_rfl) (by kernel_rfl) (fun _ _ _ h => h) (Or.inl ⟨by rfl, ?hy12⟩) (by assumption) ?_
        case hy12 => (intro w hSw; (try dsimp only at hSw); go_simp; try with_reducible rfl)
        try simp only [Act.put, List.setIfInBounds_toArray, List.set_cons_zero, List.set_cons_succ]
        refine wpAnyH_ready (rs := [9, 13]) (by kernel_rfl) (by simp) ?_
        refine AllReadyH.cons rfl (fun K hK => ?_) ?_
        · go_simp
          refine hK.out _ _ ?_ (fun hHeld => ?_)
          · (try dsimp only); (try trivial)
          clear hK K
          try simp only [Act.put, List.setIfInBounds_toArray, List.set_cons_zero, List.set_cons_succ]
          refine wpAnyH_ready (rs := [13]) (by kernel_rfl) (by simp) ?_
          refine AllReadyH.cons rfl (fun K hK => ?_) AllReadyH.nil
          go_simp
          refine hK.out _ _ ?_ (fun hHeld => ?_)
          · (try dsimp only); (try trivial)
          clear hK K
          try simp only [Act.put, List.setIfInBounds_toArray, List.set_cons_zero, List.set_cons_succ]
          refine wpAnyH_take (i := 14) (v := ?v13) rfl (by kernel_rfl) (by kernel_rfl) (by kernel_rfl) (fun _ _ _ h => h) (Or.inl ⟨by rfl, ?hy13⟩) (by assumption) ?_
          case hy13 => (intro w hSw; (try dsimp only at hSw); go_simp; try with_reducible rfl)
          try simp only [Act.put, List.setIfInBounds_toArray, List.set_cons_zero, List.set_cons_succ]
          refine wpAnyH_ready (rs := [15]) (by kernel_rfl) (by simp) ?_
          refine AllReadyH.cons rfl (fun K hK => ?_) AllReadyH.nil
          go_simp
          refine hK.out _ _ ?_ (fun hHeld => ?_)
          · (try dsimp only); (try trivial)
          clear hK K
          try simp only [Act.put, List.setIfInBounds_toArray, List.set_cons_zero, List.set_cons_succ]
          refine wpAnyH_take (i := 16) (v := ?v14) rfl (by kernel_rfl) (by kernel_rfl) (by kernel_rfl) (fun _ _ _ h => h) (Or.inl ⟨by rfl, ?hy14⟩) (by assumption) ?_
          case hy14 => (intro w hSw; (try dsimp only at hSw); go_simp; try with_reducible rfl)
          try simp only [Act.put, List.setIfInBounds_toArray, List.set_cons_zero, List.set_cons_succ]
          refine wpAnyH_ready (rs := [17]) (by kernel_rfl) (by simp) ?_
          refine AllReadyH.cons rfl (fun K hK => ?_) AllReadyH.nil
          go_simp
          refine hK.out _ _ ?_ (fun hHeld => ?_)
          · (try dsimp only); (try trivial)
          clear hK K
          try simp only [Act.put, List.setIfInBounds_toArray, List.set_cons_zero, List.set_cons_succ]
          refine wpAnyH_done (by kernel_rfl) ?_ _
          refine NoPanic.normal ?_
          clear hHeld
          go_wp2
          go_roundw
          case rel => exact ⟨m, by omega, by go_num, HG3, HSW.out.drewN 1⟩
          case measure => simp [intOf]; try omega
        refine AllReadyH.cons rfl (fun K hK => ?_) AllReadyH.nil
        go_simp
        refine hK.out _ _ ?_ (fun hHeld => ?_)
        · (try dsimp only); (try trivial)
        clear hK K
        try simp only [Act.put, List.setIfInBounds_toArray, List.set_cons_zero, List.set_cons_succ]
        refine wpAnyH_ready (rs := [9]) (by kernel_rfl) (by simp) ?_
        refine AllReadyH.cons rfl (fun K hK => ?_) AllReadyH.nil
        go_simp
        refine hK.out _ _ ?_ (fun hHeld => ?_)
        · (try dsimp only); (try trivial)
        clear hK K
        try simp only [Act.put, List.setIfInBounds_toArray, List.set_cons_zero, List.set_cons_succ]
        refine wpAnyH_take (i := 14) (v := ?v15) rfl (by kernel_rfl) (by kernel_rfl) (by kernel_rfl) (fun _ _ _ h => h) (Or.inl ⟨by rfl, ?hy15⟩) (by assumption) ?_
        case hy15 => (intro w hSw; (try dsimp only at hSw); go_simp; try with_reducible rfl)
        try simp only [Act.put, List.setIfInBounds_toArray, List.set_cons_zero, List.set_cons_succ]
        refine wpAnyH_ready (rs := [15]) (by kernel_rfl) (by simp) ?_
        refine AllReadyH.cons rfl (fun K hK => ?_) AllReadyH.nil
        go_simp
        refine hK.out _ _ ?_ (fun hHeld => ?_)
        · (try dsimp only); (try trivial)
        clear hK K
        try simp only [Act.put, List.setIfInBounds_toArray, List.set_cons_zero, List.set_cons_succ]
        refine wpAnyH_take (i := 16) (v := ?v16) rfl (by kernel_rfl) (by kernel_rfl) (by kernel_rfl) (fun _ _ _ h => h) (Or.inl ⟨by rfl, ?hy16⟩) (by assumption) ?_
        case hy16 => (intro w hSw; (try dsimp only at hSw); go_simp; try with_reducible rfl)
        try simp only [Act.put, List.setIfInBounds_toArray, List.set_cons_zero, List.set_cons_succ]
        refine wpAnyH_ready (rs := [17]) (by kernel_rfl) (by simp) ?_
        refine AllReadyH.cons rfl (fun K hK => ?_) AllReadyH.nil
        go_simp
        refine hK.out _ _ ?_ (fun hHeld => ?_)
        · (try dsimp only); (try trivial)
        clear hK K
        try simp only [Act.put, List.setIfInBounds_toArray, List.set_cons_zero, List.set_cons_succ]
        refine wpAnyH_done (by kernel_rfl) ?_ _
        refine NoPanic.normal ?_
        clear hHeld
        go_wp2
        go_roundw
        case rel => exact ⟨m, by omega, by go_num, HG3, HSW.out.drewN 1⟩
        case measure => simp [intOf]; try omega
end Go.Proofs.Ytfgfhmfdkglhoaa.walks
