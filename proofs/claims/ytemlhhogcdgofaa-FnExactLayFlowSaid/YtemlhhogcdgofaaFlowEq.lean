/-
  The laws hold a flow against another one, and count it.
-/
import Derived.Test.YtemlhhogcdgofaaProg
import Derived.Test.YtemlhhogcdgofaaFlow
import Derived.WalkKit
import Derived.WalkSpells
import Derived.Below
import Derived.Handy
import Derived.Deep.OwnRows
import Derived.Deep.RegionWith
namespace Go.Proofs.Ytemlhhogcdgofaa.walks
open Go.RowKit Go.Proofs.Ytemlhhogcdgofaa.math Go.Proofs.Ytemlhhogcdgofaa.ints
set_option linter.unusedVariables false

theorem bel2' {W X w' : World} (h : Below W.heap.size W X) (B : Below X.heap.size X w') : Below W.heap.size W w' := h.trans (B.mono h.size)
theorem box_two (W : World) (v u : Value) (t th el : Int) (ty : TypeId) : ∃ X, X = (W.alloc (.cells #[v, .int .i64 t, .int .i64 th, .int .i64 el] ty)).alloc (.cells #[u, .int .i64 t, .int .i64 th, .int .i64 el] ty) ∧ Below W.heap.size W X ∧ X.heap.size = W.heap.size + 1 + 1 ∧
    X.cell? ⟨W.heap.size, 0, none⟩ = some v ∧ X.cell? ⟨W.heap.size, 1, none⟩ = some (.int .i64 t) ∧ X.cell? ⟨W.heap.size, 2, none⟩ = some (.int .i64 th) ∧ X.cell? ⟨W.heap.size, 3, none⟩ = some (.int .i64 el) ∧
    X.cell? ⟨W.heap.size + 1, 0, none⟩ = some u ∧ X.cell? ⟨W.heap.size + 1, 1, none⟩ = some (.int .i64 t) ∧ X.cell? ⟨W.heap.size + 1, 2, none⟩ = some (.int .i64 th) ∧ X.cell? ⟨W.heap.size + 1, 3, none⟩ = some (.int .i64 el) := by
  refine ⟨_, rfl, by repeat (first | exact Below.refl _ _ | refine Below.drew ?_ | refine Below.setCell ?_ (by simp; try omega) _ | refine Below.alloc ?_ (by simp; try omega) _), by simp, ?_⟩
  refine ⟨?_, ?_, ?_, ?_, ?_, ?_, ?_, ?_⟩ <;> go_simp
set_option maxRecDepth 100000 in
set_option maxHeartbeats 2000000 in
theorem eq_block (ca cb : Option Addr) (len cc cd : Nat) (t th el : Int) (zs : List Int) (W : World) (hz : Hid (zs.length = len * 5)) (hlen : len ≤ 1048576) (h : Hid (Ints W ca zs)) (h' : Hid (Ints W cb zs)) :
    Calls Try.prog 26 #[.agg #[.slice ca len cc, .int .i64 t, .int .i64 th, .int .i64 el], .agg #[.slice cb len cd, .int .i64 t, .int .i64 th, .int .i64 el]] W fun e W' => e = .returned (.bool true) ∧ Below W.heap.size W W' := by
  go_enter Try.func26, Try.ntmps26
  go_wp2_with fail
  obtain ⟨X, EX, BX, lX, x0, x1, x2, x3, y0, y1, y2, y3⟩ := box_two W (.slice ca len cc) (.slice cb len cd) t th el 46
  rw [← EX]
  refine (Instr_same _ _ _ _ _ zs _ hz hlen (h.out.kept BX) (h'.out.kept BX)).mono ?_
  rintro e w1 ⟨rfl, hB⟩
  have q : ∀ b o v, b < X.heap.size → X.cell? ⟨b, o, none⟩ = some v → w1.cell? ⟨b, o, none⟩ = some v := fun b o v hb hc => (hB.cell (p := ⟨b, o, none⟩) hb).trans hc
  have HB : Hid (Below W.heap.size W w1) := bel2' BX hB
  have x1 := q _ _ _ (by omega) x1
  have x2 := q _ _ _ (by omega) x2
  have x3 := q _ _ _ (by omega) x3
  have y1 := q _ _ _ (by omega) y1
  have y2 := q _ _ _ (by omega) y2
  have y3 := q _ _ _ (by omega) y3
  clear q hB EX BX x0 y0
  go_wp2
  go_ret
  exact ⟨rfl, HB.out⟩
set_option maxHeartbeats 4000000 in
theorem flow_same (a a' : Option Addr) (n cap cap' : Nat) (f : Nat → Bv) (W : World) (hn : n ≤ 1048576) (hlen : Hid (∀ k, k < n → (f k).len ≤ 1048576)) (h : Hid (Flow W a n f)) (h' : Hid (Flow W a' n f)) :
    Calls Try.prog 10 #[.slice a n cap, .slice a' n cap'] W fun e W' => e = .returned (.bool true) ∧ Below W.heap.size W W' := by
  go_enter Try.func10, Try.ntmps10
  go_wp2
  go_loopw [5] (fun vi wr => ∃ k : Nat, k ≤ n ∧ vi = .int .i64 k ∧ Hid (Below W.heap.size W wr)) (fun vi _ => n - (intOf vi).toNat)
  case atStart => exact ⟨0, Nat.zero_le _, rfl, Below.refl _ _⟩
  case round =>
    obtain ⟨k, hk, rfl, HB⟩ := hrel
    by_cases hlt : k < n
    · obtain ⟨b, off, ca, cc, ha, hb, c0, c1, c2, c3, hI, hZ⟩ := flow_at h.out HB.out hlt
      obtain ⟨b', off', cb, cd, ha', hb', e0, e1, e2, e3, hI', _⟩ := flow_at h'.out HB.out hlt
      subst ha ha'
      have HZ : Hid ((f k).zs.length = (f k).len * 5) := hZ
      have HI : Hid (Ints wr ca (f k).zs) := hI
      have HI' : Hid (Ints wr cb (f k).zs) := hI'
      have HL := hlen.out k hlt
      have HD : Hid (Below wr.heap.size wr wr.drew) := (Below.refl _ _).drew
      clear hI hI' hZ
      go_wp2_with fail
      go_region_with (go_at_call 26; refine (eq_block _ _ _ _ _ _ _ _ (f k).zs _ HZ HL (HI.out.kept HD.out) (HI'.out.kept HD.out)).mono ?_; rintro e w' ⟨rfl, hb⟩; have HX : Hid (Below W.heap.size W w') := bel2' HB.out.drew hb; clear hb)
      all_goals
        go_wp2
        go_roundw
        case rel => exact ⟨k + 1, by omega, by go_num, HX.out⟩
        case measure => simp [intOf]; omega
    · go_wp2
      go_ret
      exact ⟨rfl, HB.out⟩
theorem sz_list (a : Option Addr) (len cap : Nat) (l : Int) (W : World) (h0 : 0 ≤ l) (h1 : l ≤ 1048576) (hm : len ≤ 9223372036854775807) :
    Calls Try.prog 32 #[.slice a len cap, .int .i64 l] W fun e W' => e = .returned (.int .i64 (if (len : Int) ≤ l then l - (len : Int) else -1)) ∧ W' = W := by
  by_cases h : (len : Int) ≤ l
  · rw [if_pos h]
    go_enter Try.func32, Try.ntmps32
    go_wp2
    go_ret
    exact ⟨rfl, rfl⟩
  · rw [if_neg h]
    have h' : l < (len : Int) := by omega
    clear h
    go_enter Try.func32, Try.ntmps32
    go_wp2
    go_ret
    exact ⟨rfl, rfl⟩
set_option maxHeartbeats 1000000 in
theorem sz_block (ca : Option Addr) (len cc : Nat) (t th el : Int) (l : Int) (W : World) (h0 : 0 ≤ l) (h1 : l ≤ 1048576) (hm : len ≤ 9223372036854775807) :
    Calls Try.prog 18 #[.agg #[.slice ca len cc, .int .i64 t, .int .i64 th, .int .i64 el], .int .i64 l] W fun e W' => e = .returned (.int .i64 (if (len : Int) ≤ l then l - (len : Int) else -1)) ∧ Below W.heap.size W W' := by
  by_cases h : (len : Int) ≤ l
  · rw [if_pos h]
    have hp : 0 ≤ l - (len : Int) := by omega
    go_enter Try.func18, Try.ntmps18
    go_wp2_with (go_at_call 32; refine (sz_list _ _ _ _ _ h0 h1 hm).mono ?_; rw [if_pos h]; rintro e w' ⟨rfl, hw⟩; rw [hw]; clear hw w')
    go_ret
    exact ⟨rfl, by repeat (first | exact Below.refl _ _ | refine Below.drew ?_ | refine Below.setCell ?_ (by simp; try omega) _ | refine Below.alloc ?_ (by simp; try omega) _)⟩
  · rw [if_neg h]
    go_enter Try.func18, Try.ntmps18
    go_wp2_with (go_at_call 32; refine (sz_list _ _ _ _ _ h0 h1 hm).mono ?_; rw [if_neg h]; rintro e w' ⟨rfl, hw⟩; rw [hw]; clear hw w')
    go_ret
    exact ⟨rfl, by repeat (first | exact Below.refl _ _ | refine Below.drew ?_ | refine Below.setCell ?_ (by simp; try omega) _ | refine Below.alloc ?_ (by simp; try omega) _)⟩
/-- What is counted: all of it, or too much. -/
def Counted (f : Nat → Bv) (n : Nat) (W : World) (e : Ending) (W' : World) : Prop := ∃ v : Int, e = .returned (.int .i64 v) ∧ ((v = leftTo f (1048576 - (n : Int)) n ∧ 0 ≤ v ∧ n ≤ 1048576) ∨ v = -1) ∧ Below W.heap.size W W'
set_option maxHeartbeats 4000000 in
theorem flow_size (a : Option Addr) (n cap : Nat) (f : Nat → Bv) (W : World) (hn : n ≤ 140737488351232) (hlen : Hid (∀ k, k < n → (f k).len ≤ 9223372036854775807)) (h : Hid (Flow W a n f)) :
    Calls Try.prog 5 #[.slice a n cap, .int .i64 1048576] W fun e W' => Counted f n W e W' := by
  by_cases h1 : n ≤ 1048576
  rotate_left
  · have h2 : (1048576 : Int) < (n : Int) := by omega
    go_enter Try.func5, Try.ntmps5
    go_wp2
    go_ret
    exact ⟨-1, rfl, Or.inr rfl, Below.refl _ _⟩
  have h2 : (n : Int) ≤ 1048576 := by omega
  have h3 : 0 ≤ 1048576 - (n : Int) := by omega
  go_enter Try.func5, Try.ntmps5
  go_wp2
  go_loopw [1, 5] (fun vl vi wr => ∃ (k : Nat) (l : Int), k ≤ n ∧ vi = .int .i64 k ∧ vl = .int .i64 l ∧ Hid (l = leftTo f (1048576 - (n : Int)) k) ∧ 0 ≤ l ∧ l ≤ 1048576 ∧ Hid (Below W.heap.size W wr)) (fun _ vi _ => n - (intOf vi).toNat)
  case atStart => exact ⟨0, _, Nat.zero_le _, rfl, rfl, rfl, by omega, by omega, Below.refl _ _⟩
  case round =>
    obtain ⟨k, l, hk, rfl, rfl, HL, l0, l1, HB⟩ := hrel
    by_cases hlt : k < n
    · obtain ⟨b, off, ca, cc, ha, hb, c0, c1, c2, c3, _, _⟩ := flow_at h.out HB.out hlt
      subst ha
      have hm := hlen.out k hlt
      have HS : Hid (leftTo f (1048576 - (n : Int)) (k + 1) = l - ((f k).len : Int)) := by rw [HL.out]; rfl
      by_cases hf : ((f k).len : Int) ≤ l
      · have hp : 0 ≤ l - ((f k).len : Int) := by omega
        go_wp2_with fail
        refine (sz_block _ _ _ _ _ _ _ _ l0 l1 hm).mono ?_
        rw [if_pos hf]
        rintro e w1 ⟨rfl, hB⟩
        have HX : Hid (Below W.heap.size W w1) := bel2' HB.out hB
        clear hB
        go_wp2
        go_roundw
        case rel => exact ⟨k + 1, _, by omega, by go_num, rfl, HS.out.symm, by omega, by omega, HX.out⟩
        case measure => simp [intOf]; omega
      · go_wp2_with fail
        refine (sz_block _ _ _ _ _ _ _ _ l0 l1 hm).mono ?_
        rw [if_neg (by omega)]
        rintro e w1 ⟨rfl, hB⟩
        have HX : Hid (Below W.heap.size W w1) := bel2' HB.out hB
        clear hB
        go_wp2
        go_ret
        exact ⟨-1, rfl, Or.inr rfl, HX.out⟩
    · have HE : Hid (k = n) := by show k = n; omega
      go_wp2
      go_ret
      exact ⟨l, rfl, Or.inl ⟨by rw [HL.out, HE.out], l0, h1⟩, HB.out⟩
end Go.Proofs.Ytemlhhogcdgofaa.walks
