/-
  What the specification's value and l4All do: the values and the names' numbers behind the code.
-/
import Derived.Test.YtldmeffhbabanaaProg
import Derived.Test.YtldmeffhbabanaaNumTwo
import Derived.Test.YtldmeffhbabanaaNumStart
import Derived.Test.YtldmeffhbabanaaInts
import Derived.Test.YtldmeffhbabanaaRecsInstr
import Derived.Test.YtldmeffhbabanaaCodeGood
import Derived.WalkKit
import Derived.WalkSpells
import Derived.Below
import Derived.Handy
import Derived.Deep.RegionWith
import Derived.Deep.RegionHeld3
namespace Go.Proofs.Ytldmeffhbabanaa.nums
open Go.RowKit Go.Proofs.Ytldmeffhbabanaa.math Go.Proofs.Ytldmeffhbabanaa.ints Go.Proofs.Ytldmeffhbabanaa.walks
set_option linter.unusedVariables false
set_option linter.unusedSimpArgs false

set_option maxHeartbeats 1000000 in
theorem sval_const (d a b n : Int) (B sb : Nat) (vs : List V) (ks : List Int) (W : World) (hS : Hid (St W B sb vs ks)) (hBW : B ≤ W.heap.size) (hv : 0 < vs.length) (hks : 0 < ks.length) (hl : vs.length ≤ 1000) :
    Calls Try.prog 31 #[.pointer (some ⟨sb, 0, none⟩), .agg #[.int .i64 1, .int .i64 d, .int .i64 a, .int .i64 b, .int .i64 n]] W fun e W' => FindAns W B sb vs ks (kon n) e W' := by
  obtain ⟨r, hr⟩ : ∃ r : Nat, Hid (idx (addV vs (kon n)) (kon n) = r) := ⟨_, rfl⟩
  go_enter Try.func31, Try.ntmps31
  go_wp2_with fail
  refine (spec_const n B sb vs ks _ (hS.out.alloc _) (by simp; omega) hv hks hl).mono ?_
  unfold FindAns
  rw [hr.out]
  rintro e w' ⟨rfl, h1, h2, h3⟩
  have H1 : Hid (St w' B sb (addV vs (kon n)) ks) := h1
  have H2 : Hid (Below B W w') := by show Below _ _ _; refine Below.trans ?_ h2; go_grown
  have H3 : Hid (Frame W w' B sb vs ks) := by show Frame _ _ _ _ _ _; refine h3.pre ?_; go_grown
  clear h1 h2 h3
  go_wp2
  go_ret
  exact ⟨by rw [hr.out]; rfl, H1.out, H2.out, H3.out⟩
set_option maxHeartbeats 1000000 in
theorem sval_copy (d b n : Int) (j r : Nat) (v : V) (B sb : Nat) (vs : List V) (ks : List Int) (W : World) (hS : Hid (St W B sb vs ks)) (hBW : B ≤ W.heap.size) (hv : 0 < vs.length) (hj : (j : Int) < (ks.length : Int)) (hr : Hid (ks.getD j 0 = (r : Int))) (hm : Hid (v ∈ vs ∧ idx vs v = r)) :
    Calls Try.prog 31 #[.pointer (some ⟨sb, 0, none⟩), .agg #[.int .i64 2, .int .i64 d, .int .i64 (j : Int), .int .i64 b, .int .i64 n]] W fun e W' => FindAns W B sb vs ks v e W' := by
  obtain ⟨gv, gn, cv, cn, hE⟩ := hS.out.seen hv (by omega)
  have e1 := hE.n
  have e2 := hE.num (k := j) (by omega)
  rw [hr.out] at e2
  have l0 := hE.lt.1
  have l2 := hE.lt.2.2.1
  generalize ks.length = kn at e1 hj
  clear hE
  go_enter Try.func31, Try.ntmps31
  go_wp2
  go_region
  all_goals go_wp2
  all_goals go_ret
  all_goals refine ⟨by rw [add_old hm.out.1, hm.out.2]; rfl, by rw [add_old hm.out.1]; exact (hS.out.alloc _).drew, ?_, frame_far ?_⟩
  all_goals go_grown
set_option maxRecDepth 100000 in
set_option maxHeartbeats 2000000 in
theorem sval_pair (o d n : Int) (j k i1 i2 r : Nat) (v : V) (B sb : Nat) (vs : List V) (ks : List Int) (W : World) (o3 : 3 ≤ o) (o7 : o ≤ 7) (hS : Hid (St W B sb vs ks)) (hBW : B ≤ W.heap.size) (hv : 0 < vs.length) (hks : 0 < ks.length) (hl : vs.length ≤ 1000) (hj : (j : Int) < (ks.length : Int)) (hk : (k : Int) < (ks.length : Int)) (HI : Hid (vs.Nodup ∧ ∀ v ∈ vs, okV v)) (hi1 : i1 < vs.length) (hi2 : i2 < vs.length) (hr1 : Hid (ks.getD j 0 = (i1 : Int))) (hr2 : Hid (ks.getD k 0 = (i2 : Int)))
    (HX : Hid (pairV vs o (vs.getD i1 zV) (vs.getD i2 zV) = v)) (HR : Hid (idx (addV vs v) v = r)) :
    Calls Try.prog 31 #[.pointer (some ⟨sb, 0, none⟩), .agg #[.int .i64 o, .int .i64 d, .int .i64 (j : Int), .int .i64 (k : Int), .int .i64 n]] W fun e W' => FindAns W B sb vs ks v e W' := by
  obtain ⟨gv, gn, cv, cn, hE⟩ := hS.out.seen hv hks
  have e1 := hE.n
  have e2 := hE.num (k := j) (by omega)
  have e3 := hE.num (k := k) (by omega)
  rw [hr1.out] at e2
  rw [hr2.out] at e3
  obtain ⟨l0, l1, l2, l3, l4⟩ := hE.lt
  have n0 := hE.n0
  have n1 := hE.n1
  have n2 := hE.n2
  have HE : Hid (Seen W B sb gv gn cv cn vs ks) := hE
  have q1 : (o == 1) = false := by simp; omega
  have q2 : (o == 2) = false := by simp; omega
  obtain ⟨kn, hkn⟩ : ∃ kn, ks.length = kn := ⟨_, rfl⟩
  rw [hkn] at e1 hj hk
  clear hE
  go_enter Try.func31, Try.ntmps31
  go_wp2_with fail
  refine wp_region_noPanic ?_
  refine wp_region_held_drew (S := fun w' => (w'.cell? ⟨W.heap.size, 0, none⟩ = some (.int .i64 o) ∧ w'.cell? ⟨W.heap.size, 2, none⟩ = some (.int .i64 (j : Int)) ∧ w'.cell? ⟨W.heap.size, 3, none⟩ = some (.int .i64 (k : Int))) ∧ w'.cell? ⟨sb, 1, none⟩ = some (.slice (some ⟨gn, 0, none⟩) kn cn) ∧ w'.cell? ⟨gn, j, none⟩ = some (.int .i64 (i1 : Int)) ∧ w'.cell? ⟨gn, k, none⟩ = some (.int .i64 (i2 : Int))) (by kernel_rfl) ?_ (fun hHeld => ?_)
  · (try dsimp only); (refine ⟨⟨?_, ?_, ?_⟩, ?_, ?_, ?_⟩ <;> go_simp)
  refine wpAnyH_take (i := 0) (v := ?v1) rfl (by kernel_rfl) (by kernel_rfl) (by kernel_rfl) (fun _ _ _ h => h) (Or.inl ⟨by rfl, ?hy1⟩) (by assumption) ?_
  case hy1 => (intro w hSw; (try dsimp only at hSw); go_simp; try with_reducible rfl)
  try simp only [Act.put, List.setIfInBounds_toArray, List.set_cons_zero, List.set_cons_succ]
  refine wpAnyH_take (i := 1) (v := ?v2) rfl (by kernel_rfl) (by kernel_rfl) (by kernel_rfl) (fun _ _ _ h => h) (Or.inl ⟨by rfl, ?hy2⟩) (by assumption) ?_
  case hy2 => (intro w hSw; (try dsimp only at hSw); go_simp; try with_reducible rfl)
  try simp only [Act.put, List.setIfInBounds_toArray, List.set_cons_zero, List.set_cons_succ]
  refine wpAnyH_take (i := 2) (v := ?v3) rfl (by kernel_rfl) (by kernel_rfl) (by kernel_rfl) (fun _ _ _ h => h) (Or.inl ⟨by rfl, ?hy3⟩) (by assumption) ?_
  case hy3 => (intro w hSw; (try dsimp only at hSw); go_simp; try with_reducible rfl)
  try simp only [Act.put, List.setIfInBounds_toArray, List.set_cons_zero, List.set_cons_succ]
  refine wpAnyH_take (i := 3) (v := ?v4) rfl (by kernel_rfl) (by kernel_rfl) (by kernel_rfl) (fun _ _ _ h => h) (Or.inl ⟨by rfl, ?hy4⟩) (by assumption) ?_
  case hy4 => (intro w hSw; (try dsimp only at hSw); go_simp; try with_reducible rfl)
  try simp only [Act.put, List.setIfInBounds_toArray, List.set_cons_zero, List.set_cons_succ]
  refine wpAnyH_take (i := 4) (v := ?v5) rfl (by kernel_rfl) (by kernel_rfl) (by kernel_rfl) (fun _ _ _ h => h) (Or.inl ⟨by rfl, ?hy5⟩) (by assumption) ?_
  case hy5 => (intro w hSw; (try dsimp only at hSw); go_simp; try with_reducible rfl)
  try simp only [Act.put, List.setIfInBounds_toArray, List.set_cons_zero, List.set_cons_succ]
  refine wpAnyH_take (i := 5) (v := ?v6) rfl (by kernel_rfl) (by kernel_rfl) (by kernel_rfl) (fun _ _ _ h => h) (Or.inl ⟨by rfl, ?hy6⟩) (by assumption) ?_
  case hy6 => (intro w hSw; (try dsimp only at hSw); go_simp; try with_reducible rfl)
  try simp only [Act.put, List.setIfInBounds_toArray, List.set_cons_zero, List.set_cons_succ]
  refine wpAnyH_take (i := 6) (v := ?v7) rfl (by kernel_rfl) (by kernel_rfl) (by kernel_rfl) (fun _ _ _ h => h) (Or.inl ⟨by rfl, ?hy7⟩) (by assumption) ?_
  case hy7 => (intro w hSw; (try dsimp only at hSw); go_simp; try with_reducible rfl)
  try simp only [Act.put, List.setIfInBounds_toArray, List.set_cons_zero, List.set_cons_succ]
  refine wpAnyH_take (i := 7) (v := ?v8) rfl (by kernel_rfl) (by kernel_rfl) (by kernel_rfl) (fun _ _ _ h => h) (Or.inl ⟨by rfl, ?hy8⟩) (by assumption) ?_
  case hy8 => (intro w hSw; (try dsimp only at hSw); go_simp; try with_reducible rfl)
  try simp only [Act.put, List.setIfInBounds_toArray, List.set_cons_zero, List.set_cons_succ]
  refine wpAnyH_take (i := 8) (v := ?v9) rfl (by kernel_rfl) (by kernel_rfl) (by kernel_rfl) (fun _ _ _ h => h) (Or.inl ⟨by rfl, ?hy9⟩) (by assumption) ?_
  case hy9 => (intro w hSw; (try dsimp only at hSw); go_simp; try with_reducible rfl)
  try simp only [Act.put, List.setIfInBounds_toArray, List.set_cons_zero, List.set_cons_succ]
  refine wpAnyH_take (i := 9) (v := ?v10) rfl (by kernel_rfl) (by kernel_rfl) (by kernel_rfl) (fun _ _ _ h => h) (Or.inl ⟨by rfl, ?hy10⟩) (by assumption) ?_
  case hy10 => (intro w hSw; (try dsimp only at hSw); go_simp; try with_reducible rfl)
  try simp only [Act.put, List.setIfInBounds_toArray, List.set_cons_zero, List.set_cons_succ]
  refine wpAnyH_take (i := 10) (v := ?v11) rfl (by kernel_rfl) (by kernel_rfl) (by kernel_rfl) (fun _ _ _ h => h) (Or.inl ⟨by rfl, ?hy11⟩) (by assumption) ?_
  case hy11 => (intro w hSw; (try dsimp only at hSw); go_simp; try with_reducible rfl)
  try simp only [Act.put, List.setIfInBounds_toArray, List.set_cons_zero, List.set_cons_succ]
  refine wpAnyH_take (i := 11) (v := ?v12) rfl (by kernel_rfl) (by kernel_rfl) (by kernel_rfl) (fun _ _ _ h => h) (Or.inl ⟨by rfl, ?hy12⟩) (by assumption) ?_
  case hy12 => (intro w hSw; (try dsimp only at hSw); go_simp; try with_reducible rfl)
  try simp only [Act.put, List.setIfInBounds_toArray, List.set_cons_zero, List.set_cons_succ]
  refine wpAnyH_take (i := 12) (v := ?v13) rfl (by kernel_rfl) (by kernel_rfl) (by kernel_rfl) (fun _ _ _ h => h) (Or.inl ⟨by rfl, ?hy13⟩) (by assumption) ?_
  case hy13 => (intro w hSw; (try dsimp only at hSw); go_simp; try with_reducible rfl)
  try simp only [Act.put, List.setIfInBounds_toArray, List.set_cons_zero, List.set_cons_succ]
  refine wpAnyH_take (i := 13) (v := ?v14) rfl (by kernel_rfl) (by kernel_rfl) (by kernel_rfl) (fun _ _ _ h => h) (Or.inl ⟨by rfl, ?hy14⟩) (by assumption) ?_
  case hy14 => (intro w hSw; (try dsimp only at hSw); go_simp; try with_reducible rfl)
  try simp only [Act.put, List.setIfInBounds_toArray, List.set_cons_zero, List.set_cons_succ]
  refine wpAnyH_take (i := 14) (v := ?v15) rfl (by kernel_rfl) (by kernel_rfl) (by kernel_rfl) (fun _ _ _ h => h) (Or.inl ⟨by rfl, ?hy15⟩) (by assumption) ?_
  case hy15 => (intro w hSw; (try dsimp only at hSw); go_simp; try with_reducible rfl)
  try simp only [Act.put, List.setIfInBounds_toArray, List.set_cons_zero, List.set_cons_succ]
  refine wpAnyH_take (i := 15) (v := ?v16) rfl (by kernel_rfl) (by kernel_rfl) (by kernel_rfl) (fun _ _ _ h => h) (Or.inl ⟨by rfl, ?hy16⟩) (by assumption) ?_
  case hy16 => (intro w hSw; (try dsimp only at hSw); go_simp; try with_reducible rfl)
  try simp only [Act.put, List.setIfInBounds_toArray, List.set_cons_zero, List.set_cons_succ]
  refine wpAnyH_take (i := 16) (v := ?v17) rfl (by kernel_rfl) (by kernel_rfl) (by kernel_rfl) (fun _ _ _ h => h) (Or.inl ⟨by rfl, ?hy17⟩) (by assumption) ?_
  case hy17 => (intro w hSw; (try dsimp only at hSw); go_simp; try with_reducible rfl)
  try simp only [Act.put, List.setIfInBounds_toArray, List.set_cons_zero, List.set_cons_succ]
  refine wpAnyH_take (i := 17) (v := ?v18) rfl (by kernel_rfl) (by kernel_rfl) (by kernel_rfl) (fun _ _ _ h => h) (Or.inl ⟨by rfl, ?hy18⟩) (by assumption) ?_
  case hy18 => (intro w hSw; (try dsimp only at hSw); go_simp; try with_reducible rfl)
  try simp only [Act.put, List.setIfInBounds_toArray, List.set_cons_zero, List.set_cons_succ]
  refine wpAnyH_take (i := 18) (v := ?v19) rfl (by kernel_rfl) (by kernel_rfl) (by kernel_rfl) (fun _ _ _ h => h) (Or.inl ⟨by rfl, ?hy19⟩) (by assumption) ?_
  case hy19 => (intro w hSw; (try dsimp only at hSw); go_simp; try with_reducible rfl)
  try simp only [Act.put, List.setIfInBounds_toArray, List.set_cons_zero, List.set_cons_succ]
  refine wpAnyH_ready (rs := [19]) (by kernel_rfl) (by simp) ?_
  refine AllReadyH.cons rfl (fun K hK => ?_) AllReadyH.nil
  go_simp
  go_at_call 55
  refine (spec_twoV o i1 i2 B sb vs ks _ o3 o7 ((hS.out.alloc _).drew) (by simp; omega) hv hks hl HI.out.1 HI.out.2 hi1 hi2).mono ?_
  rintro e w' ⟨he, h1, h2, h3⟩
  rw [HX.out, HR.out] at he
  subst he
  rw [HX.out] at h1
  obtain ⟨h4, h5⟩ := h3 gv gn cv cn (HE.out.kept (by go_grown))
  have h6 := h4 W.heap.size (by simp) (by omega) (by omega)
  have h7 := h4 gn (by simp; omega) (by omega) (by omega)
  have s0 : w'.cell? ⟨W.heap.size, 0, none⟩ = some (.int .i64 o) := (World.cell?_of_block (a := ⟨W.heap.size, 0, none⟩) h6).trans (by go_simp)
  have s2 : w'.cell? ⟨W.heap.size, 2, none⟩ = some (.int .i64 (j : Int)) := (World.cell?_of_block (a := ⟨W.heap.size, 2, none⟩) h6).trans (by go_simp)
  have s3 : w'.cell? ⟨W.heap.size, 3, none⟩ = some (.int .i64 (k : Int)) := (World.cell?_of_block (a := ⟨W.heap.size, 3, none⟩) h6).trans (by go_simp)
  have s4 : w'.cell? ⟨sb, 1, none⟩ = some (.slice (some ⟨gn, 0, none⟩) kn cn) := h5.trans (by go_simp)
  have s5 : w'.cell? ⟨gn, j, none⟩ = some (.int .i64 (i1 : Int)) := (World.cell?_of_block (a := ⟨gn, j, none⟩) h7).trans (by go_simp)
  have s6 : w'.cell? ⟨gn, k, none⟩ = some (.int .i64 (i2 : Int)) := (World.cell?_of_block (a := ⟨gn, k, none⟩) h7).trans (by go_simp)
  have H1 : Hid (St w' B sb (addV vs v) ks) := h1
  have H2 : Hid (Below B W w') := by show Below _ _ _; refine Below.trans ?_ h2; go_grown
  have H3 : Hid (Frame W w' B sb vs ks) := by show Frame _ _ _ _ _ _; refine h3.pre ?_; go_grown
  clear h1 h2 h3 h4 h5 h6 h7
  go_wp2_with fail
  refine hK.out _ _ ?_ (fun hHeld => ?_)
  · (try dsimp only); exact ⟨⟨s0, s2, s3⟩, s4, s5, s6⟩
  clear hK K
  try simp only [Act.put, List.setIfInBounds_toArray, List.set_cons_zero, List.set_cons_succ]
  refine wpAnyH_ready (rs := [20]) (by kernel_rfl) (by simp) ?_
  refine AllReadyH.cons rfl (fun K hK => ?_) AllReadyH.nil
  go_simp
  refine hK.out _ _ ?_ (fun hHeld => ?_)
  · (try dsimp only); exact ⟨⟨s0, s2, s3⟩, s4, s5, s6⟩
  clear hK K
  try simp only [Act.put, List.setIfInBounds_toArray, List.set_cons_zero, List.set_cons_succ]
  refine wpAnyH_done (by kernel_rfl) ?_ _
  refine NoPanic.normal ?_
  go_wp2_with fail
  go_ret
  exact ⟨by rw [HR.out]; simp, H1.out, H2.out, H3.out⟩
theorem spec_value (o d a b n : Int) (B sb m : Nat) (vs ns : List V) (W : World) (hm : m ≤ 900) (g : goodI o d a b n = true) (h8 : o ≠ 8) (hI : Inv vs ns m) (hS : St W B sb vs (numsOf vs ns)) (hBW : B ≤ W.heap.size) :
    Calls Try.prog 31 #[.pointer (some ⟨sb, 0, none⟩), .agg #[.int .i64 o, .int .i64 d, .int .i64 a, .int .i64 b, .int .i64 n]] W fun e W' => FindAns W B sb vs (numsOf vs ns) (valV vs ns o a b n) e W' := by
  have hlen : (numsOf vs ns).length = 8 := by rw [nums_len, hI.len]
  have hv : 0 < vs.length := by
    have := idx_lt (hI.at (i := 0) (by omega))
    omega
  have hl : vs.length ≤ 1000 := Nat.le_trans hI.room (by omega)
  unfold valV
  rcases good_cases g with ⟨e, _, hn⟩ | ⟨e, _, ha⟩ | ⟨e, _⟩ | ⟨e, _, ha, hb⟩
  · subst e
    rw [if_pos rfl]
    exact sval_const d a b n B sb vs _ W hS hBW hv (by omega) hl
  · subst e
    rw [if_neg (by omega), if_pos rfl]
    obtain ⟨j, rfl⟩ := Int.eq_ofNat_of_zero_le ha.1
    rw [show ((j : Nat) : Int).toNat = j from Int.toNat_natCast j]
    exact sval_copy d b n j _ _ B sb vs _ W hS hBW hv (by omega) (nums_at (by rw [hI.len]; omega)) ⟨hI.at (by omega), rfl⟩
  · exact (h8 e).elim
  · rw [if_neg (by omega), if_neg (by omega)]
    obtain ⟨j, rfl⟩ := Int.eq_ofNat_of_zero_le ha.1
    obtain ⟨k, rfl⟩ := Int.eq_ofNat_of_zero_le hb.1
    rw [show ((j : Nat) : Int).toNat = j from Int.toNat_natCast j, show ((k : Nat) : Int).toNat = k from Int.toNat_natCast k]
    have mj := hI.at (i := j) (by omega)
    have mk := hI.at (i := k) (by omega)
    exact sval_pair o d n j k _ _ _ _ B sb vs _ W e.1 e.2 hS hBW hv (by omega) hl (by omega) (by omega) ⟨hI.nodup, hI.ok⟩ (idx_lt mj) (idx_lt mk) (nums_at (by rw [hI.len]; omega)) (nums_at (by rw [hI.len]; omega)) (by show pairV vs o _ _ = _; rw [idx_get mj, idx_get mk]) rfl
theorem k8 : kTo 8 = numsOf (startTo 8) (startTo 8) := by decide
/-- What l4All leaves. -/
def AllAns (zs : List Int) (len : Nat) (W : World) (e : Ending) (W' : World) : Prop := e = .returned (.pointer (some ⟨W.heap.size, 0, none⟩)) ∧ St W' W.heap.size W.heap.size (numTo zs len).1 (numsOf (numTo zs len).1 (numTo zs len).2) ∧ Below W.heap.size W W'
set_option maxHeartbeats 4000000 in
theorem spec_all (a : Option Addr) (len cap : Nat) (zs : List Int) (W : World) (hz : Hid (zs.length = len * 5)) (HC : Hid (codeB zs len = true)) (h : Hid (Ints W a zs)) :
    Calls Try.prog 41 #[.slice a len cap] W fun e W' => AllAns zs len W e W' := by
  have h30 : len ≤ 30 := (code_out HC.out).1
  go_enter Try.func41, Try.ntmps41
  go_wp2_with fail
  refine (spec_start W).mono ?_
  rintro e w0 ⟨rfl, hS0, hB0⟩
  have HS0 : Hid (St w0 W.heap.size W.heap.size (numTo zs 0).1 (numsOf (numTo zs 0).1 (numTo zs 0).2)) := by show St _ _ _ _ _; rw [show numsOf (numTo zs 0).1 (numTo zs 0).2 = kTo 8 from k8.symm]; exact hS0
  have HB0 : Hid (Below W.heap.size W w0) := hB0
  clear hS0 hB0
  go_wp2
  go_loopw [10] (fun vi wr => ∃ k : Nat, k ≤ len ∧ vi = .int .i64 k ∧ Hid (St wr W.heap.size W.heap.size (numTo zs k).1 (numsOf (numTo zs k).1 (numTo zs k).2)) ∧ Hid (Below W.heap.size W wr)) (fun vi _ => len - (intOf vi).toNat)
  case atStart => exact ⟨0, Nat.zero_le _, rfl, HS0, HB0⟩
  case round =>
    obtain ⟨k, hk, rfl, HS, HB⟩ := hrel
    by_cases hlt : k < len
    · obtain ⟨b, off, ha, hb, c0, c1, c2, c3, c4⟩ := Instr_at h.out hz.out HB.out hlt
      subst ha
      have HI : Hid (Inv (numTo zs k).1 (numTo zs k).2 (8 + k)) := inv_to HC.out k hk
      have HG : Hid (stepB zs k = true) := (code_out HC.out).2 k hlt
      have HT : Hid (numTo zs (k + 1) = stepN (numTo zs k) (zs.getD (k * 5) 0) (zs.getD (k * 5 + 1) 0) (zs.getD (k * 5 + 2) 0) (zs.getD (k * 5 + 3) 0) (zs.getD (k * 5 + 4) 0)) := rfl
      have HG' : Hid (goodI (zs.getD (k * 5) 0) (zs.getD (k * 5 + 1) 0) (zs.getD (k * 5 + 2) 0) (zs.getD (k * 5 + 3) 0) (zs.getD (k * 5 + 4) 0) = true) := HG
      clear HG
      generalize zs.getD (k * 5) 0 = o at c0 HT HG'
      generalize zs.getD (k * 5 + 1) 0 = d at c1 HT HG'
      generalize zs.getD (k * 5 + 2) 0 = x at c2 HT HG'
      generalize zs.getD (k * 5 + 3) 0 = y at c3 HT HG'
      generalize zs.getD (k * 5 + 4) 0 = n at c4 HT HG'
      obtain ⟨vs, ns, hvn⟩ : ∃ vs ns, numTo zs k = (vs, ns) := ⟨_, _, rfl⟩
      rw [hvn] at HS HI HT
      have hsz := HB.out.size
      by_cases h8 : o = 8
      · have HT' : Hid (numTo zs (k + 1) = (vs, ns)) := by show _ = _; rw [HT.out]; unfold stepN; rw [if_pos h8]
        subst h8
        clear HT hvn
        go_wp2
        go_roundw
        case rel => exact ⟨k + 1, by omega, by go_num, by show St _ _ _ _ _; rw [HT'.out]; exact HS.out.alloc _, by show Below _ _ _; refine Below.trans HB.out ?_; go_grown⟩
        case measure => simp [intOf]; omega
      · have HT' : Hid (numTo zs (k + 1) = (addV vs (valV vs ns o x y n), ns.set d.toNat (valV vs ns o x y n))) := by show _ = _; rw [HT.out]; unfold stepN; rw [if_neg h8]
        have q8 : (o == 8) = false := by simpa using h8
        obtain ⟨dj, rfl, hdj⟩ : ∃ j : Nat, d = (j : Int) ∧ j < 8 := by
          have h0 : 0 ≤ d ∧ d ≤ 7 := by
            rcases good_cases HG'.out with ⟨_, hd, _⟩ | ⟨_, hd, _⟩ | ⟨e, _⟩ | ⟨_, hd, _⟩
            · exact hd
            · exact hd
            · exact (h8 e).elim
            · exact hd
          exact ⟨d.toNat, by omega, by omega⟩
        obtain ⟨r, hr⟩ : ∃ r : Nat, Hid (idx (addV vs (valV vs ns o x y n)) (valV vs ns o x y n) = r) := ⟨_, rfl⟩
        go_wp2_with fail
        refine (spec_value o (dj : Int) x y n W.heap.size W.heap.size (8 + k) vs ns _ (by omega) HG'.out h8 HI.out (HS.out.alloc _) (by simp; omega)).mono ?_
        unfold FindAns
        rw [hr.out]
        rintro e w' ⟨rfl, h1, h2, h3⟩
        have hkl : (numsOf vs ns).length = 8 := by rw [nums_len, HI.out.len]
        have hv : 0 < vs.length := by
          have := idx_lt (HI.out.at (i := 0) (by omega))
          omega
        obtain ⟨gv, gn, cv, cn, hE⟩ := (HS.out.alloc (.cells #[.int .i64 o, .int .i64 (dj : Int), .int .i64 x, .int .i64 y, .int .i64 n] 61)).seen hv (by omega)
        obtain ⟨gv', gn', cv', cn', hE'⟩ := h1.seen (by have := add_len' vs (valV vs ns o x y n); omega) (by omega)
        obtain ⟨h4, h5⟩ := h3 gv gn cv cn hE
        clear h5
        have hgv : gv < wr.heap.size := by
          obtain ⟨gv2, gn2, cv2, cn2, hE2⟩ := HS.out.seen hv (by omega)
          obtain ⟨e1, _⟩ := (hE2.kept ((Below.refl _ _).alloc (Nat.le_refl _) (.cells #[.int .i64 o, .int .i64 (dj : Int), .int .i64 x, .int .i64 y, .int .i64 n] 61))).same hE
          rw [e1]; exact hE2.lt.2.1
        have hsl := HS.out.lt
        have h6 := h4 wr.heap.size (by simp) (by omega) (by omega)
        have s1 : w'.cell? ⟨wr.heap.size, 1, none⟩ = some (.int .i64 (dj : Int)) := (World.cell?_of_block (a := ⟨wr.heap.size, 1, none⟩) h6).trans (by go_simp)
        have e1 := hE'.n
        rw [hkl] at e1
        have e2 := hE'.num (k := dj) (by omega)
        generalize (numsOf vs ns).getD dj 0 = old at e2
        have f2 := hE'.nums.frozenAt dj
        have l0 := hE'.lt.1
        have l2 := hE'.lt.2.2.1
        have lw : wr.heap.size < w'.heap.size := by have := h2.size; simp at this; omega
        have hd8 : (dj : Int) < 8 := by omega
        have HW : Hid (St (w'.setCell ⟨gn', dj, none⟩ (.int .i64 (r : Int))) W.heap.size W.heap.size (numTo zs (k + 1)).1 (numsOf (numTo zs (k + 1)).1 (numTo zs (k + 1)).2)) := by
          show St _ _ _ _ _
          rw [HT'.out]
          simp only [Int.toNat_natCast]
          rw [nums_set HI.out, hr.out]
          exact (hE'.put (j := dj) (r : Int)).st
        have HB' : Hid (Below W.heap.size W w') := by show Below _ _ _; refine Below.trans ?_ h2; exact HB.out.alloc hsz _
        have hgn : W.heap.size ≤ gn' := hE'.lt.2.2.2.2
        clear h1 h2 h3 h4 h6 hE hE' HT HT' hvn
        go_wp2
        go_region
        all_goals go_wp2
        all_goals go_roundw
        case rel => exact ⟨k + 1, by omega, by go_num, HW, (by show Below _ _ _; exact (Below.setCell (p := ⟨gn', dj, none⟩) HB'.out hgn _).drew)⟩
        case measure => simp [intOf]; omega
    · have HE : Hid (k = len) := by show k = len; omega
      go_wp2
      go_ret
      rw [HE.out] at HS
      exact ⟨rfl, HS.out, HB.out⟩
end Go.Proofs.Ytldmeffhbabanaa.nums
