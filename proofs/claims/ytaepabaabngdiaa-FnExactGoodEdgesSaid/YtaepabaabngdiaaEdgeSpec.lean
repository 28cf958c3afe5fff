/-
  What the specification's l1In, l11Blocks, l1Has, GoodEdges and IsLayout answer.
-/
import Derived.Test.YtaepabaabngdiaaProg
import Derived.Test.YtaepabaabngdiaaMagMath
import Derived.Test.YtaepabaabngdiaaEdgeMath
import Derived.Test.YtaepabaabngdiaaInts
import Derived.Test.YtaepabaabngdiaaRecsEdge
import Derived.WalkKit
import Derived.WalkSpells
import Derived.Below
import Derived.Handy
import Derived.Deep.QuietTactic
import Derived.BigQuiet
namespace Go.Proofs.Ytaepabaabngdiaa.walks
open Go.RowKit Go.Proofs.Ytaepabaabngdiaa.math Go.Proofs.Ytaepabaabngdiaa.ints
set_option linter.unusedVariables false
set_option maxRecDepth 100000

theorem belowN {B : Nat} {W w : World} (h : Below B W w) : ∀ q, Below B W (w.drewN q)
  | 0 => h
  | q + 1 => (belowN h q).drew
theorem spec_in (n lo hi : Int) (W : World) : Calls Try.prog 32 #[.int .i64 n, .int .i64 lo, .int .i64 hi] W fun e W' => e = .returned (.bool (inR n lo hi)) ∧ W' = W := by
  by_cases h0 : lo ≤ n
  rotate_left
  · have k0 : n < lo := by omega
    have d0 : decide (lo ≤ n) = false := decide_eq_false h0
    rw [inR_lt k0]
    clear h0
    go_enter Try.func32, Try.ntmps32
    go_wp2
    go_ret
    exact ⟨rfl, rfl⟩
  by_cases h1 : n ≤ hi
  rotate_left
  · have k1 : hi < n := by omega
    have d1 : decide (n ≤ hi) = false := decide_eq_false (by omega)
    rw [inR_gt k1]
    clear h1
    go_enter Try.func32, Try.ntmps32
    go_wp2
    go_ret
    exact ⟨rfl, rfl⟩
  rw [inR_mk h0 h1]
  have d1 : decide (n ≤ hi) = true := decide_eq_true (by omega)
  have d0 : decide (lo ≤ n) = true := decide_eq_true h0
  go_enter Try.func32, Try.ntmps32
  go_wp2
  go_ret
  exact ⟨rfl, rfl⟩
theorem in_quiet {n lo hi : Int} {b : Bool} (h : inR n lo hi = b) (W : World) : Calls Try.prog 32 #[.int .i64 n, .int .i64 lo, .int .i64 hi] W fun e W' => e = .returned (.bool b) ∧ W' = W := by
  have := spec_in n lo hi W
  rw [h] at this
  exact this
theorem spec_blocks {u : Int} {b : Bool} (h : inR u 1 8 = b) (W : World) : Calls Try.prog 33 #[.int .i64 u] W fun e W' => e = .returned (.bool b) ∧ W' = W := by
  go_enter Try.func33, Try.ntmps33
  go_wp2_with (go_at_call 32; refine (in_quiet h _).mono ?_; rintro e w' ⟨rfl, hw⟩; rw [hw]; clear hw w')
  go_ret
  exact ⟨rfl, rfl⟩
theorem spec_has (a : Option Addr) (len cap : Nat) (x : Int) (zs : List Int) (W : World) (hz : len ≤ zs.length) (hlen : len ≤ 1048576) (h : Hid (Ints W a zs)) :
    Calls Try.prog 43 #[.slice a len cap, .int .i64 x] W fun e W' => e = .returned (.bool (hasTo zs x len)) ∧ W' = W := by
  go_enter Try.func43, Try.ntmps43
  go_wp2
  go_loop [9] (fun vi => ∃ k : Nat, k ≤ len ∧ vi = .int .i64 (k : Int) ∧ Hid (hasTo zs x k = false)) (fun vi => len - (intOf vi).toNat)
  case atStart => exact ⟨0, Nat.zero_le _, rfl, rfl⟩
  case round =>
    obtain ⟨k, hk, rfl, HF⟩ := hrel
    by_cases hlt : k < len
    rotate_left
    · have HE : Hid (hasTo zs x len = false) := by show _ = _; rw [show len = k by omega]; exact HF.out
      go_wp2
      go_ret
      exact ⟨by rw [HE.out]; rfl, rfl⟩
    have hltI : (k : Int) < (len : Int) := by omega
    obtain ⟨b, off, ha, hc⟩ := h.out.at (Below.refl _ _) (k := k) (by omega)
    subst ha
    by_cases e : zs.getD k 0 = x
    · have HE : Hid (hasTo zs x len = true) := (hasTo_iff _).2 ⟨k, hlt, e⟩
      rw [e] at hc
      clear e
      go_wp2
      go_ret
      exact ⟨by rw [HE.out]; rfl, rfl⟩
    · have HN : Hid (hasTo zs x (k + 1) = false) := by
        show _ = _
        simp only [hasTo, HF.out, decide_eq_false e, Bool.or_self]
      obtain ⟨z, hzz⟩ : ∃ z, Hid (zs.getD k 0 = z) := ⟨_, rfl⟩
      rw [hzz.out] at hc e
      have e1 : (z == x) = false := by simpa using e
      have e2 : decide (z = x) = false := decide_eq_false e
      go_wp2
      go_round
      case rel => exact ⟨k + 1, by omega, by go_num, HN⟩
      case measure => simp [intOf]; omega
theorem has_quiet {a : Option Addr} {len cap : Nat} {x : Int} {zs : List Int} {b : Bool} (W : World) (hz : len ≤ zs.length) (hlen : len ≤ 1048576) (h : Ints W a zs) (hb : hasTo zs x len = b) :
    Calls Try.prog 43 #[.slice a len cap, .int .i64 x] W fun e W' => e = .returned (.bool b) ∧ W' = W := by
  have := spec_has a len cap x zs W hz hlen h
  rw [hb] at this
  exact this
set_option maxHeartbeats 4000000 in
theorem spec_islay (a : Option Addr) (len cap : Nat) (u : Int) (zs : List Int) (W : World) (hz : Hid (zs.length = len)) (hlen : len ≤ 1048576) (hcap : len ≤ cap) (hcm : cap ≤ 1048576) (h : Hid (Ints W a zs)) :
    Calls Try.prog 30 #[.int .i64 u, .slice a len cap] W fun e W' => e = .returned (.bool (layB zs u)) ∧ W' = W := by
  cases hu : inR u 1 8
  · have HE : Hid (layB zs u = false) := lay_u hu
    go_enter Try.func30, Try.ntmps30
    go_wp2_with (go_at_call 33; refine (spec_blocks hu _).mono ?_; rintro e w' ⟨rfl, hw⟩; rw [hw]; clear hw w')
    go_ret
    exact ⟨by rw [HE.out]; rfl, rfl⟩
  have hub := inR_out hu
  by_cases hl : (len : Int) = u
  rotate_left
  · have HE : Hid (layB zs u = false) := lay_ord (order_len (by rw [hz.out]; exact hl))
    have e1 : ((len : Int) != u) = true := by simpa using hl
    have e2 : ((len : Int) == u) = false := by simpa using hl
    have e3 : decide ((len : Int) = u) = false := decide_eq_false hl
    go_enter Try.func30, Try.ntmps30
    go_wp2_with (go_at_call 33; refine (spec_blocks hu _).mono ?_; rintro e w' ⟨rfl, hw⟩; rw [hw]; clear hw w')
    go_ret
    exact ⟨by rw [HE.out]; rfl, rfl⟩
  subst hl
  have hl0 : 0 < len := by omega
  obtain ⟨b, off, ha, hc⟩ := h.out.at (Below.refl _ _) (k := 0) (by rw [hz.out]; exact hl0)
  have hl0I : (0 : Int) < (len : Int) := by omega
  rw [Nat.add_zero] at hc
  by_cases hf : zs.getD 0 0 = 0
  rotate_left
  · have HE : Hid (layB zs (len : Int) = false) := lay_first hf
    obtain ⟨x, hx⟩ : ∃ x, Hid (zs.getD 0 0 = x) := ⟨_, rfl⟩
    rw [hx.out] at hc hf
    have e1 : (x != 0) = true := by simpa using hf
    have e2 : (x == 0) = false := by simpa using hf
    have e3 : decide (x = 0) = false := decide_eq_false hf
    subst ha
    go_enter Try.func30, Try.ntmps30
    go_wp2_with (go_at_call 33; refine (spec_blocks hu _).mono ?_; rintro e w' ⟨rfl, hw⟩; rw [hw]; clear hw w')
    go_ret
    exact ⟨by rw [HE.out]; rfl, rfl⟩
  have HF : Hid (zs.getD 0 0 = 0) := hf
  rw [hf] at hc
  clear hf
  have ha' : Hid (a = some ⟨b, off, none⟩) := ha
  subst ha
  go_enter Try.func30, Try.ntmps30
  go_wp2_with (go_at_call 33; refine (spec_blocks hu _).mono ?_; rintro e w' ⟨rfl, hw⟩; rw [hw]; clear hw w')
  clear hc
  go_loop [24] (fun vi => ∃ k : Nat, k ≤ len ∧ vi = .int .i64 (k : Int) ∧ Hid (∀ i, i < k → OrdOk zs (len : Int) i)) (fun vi => len - (intOf vi).toNat)
  case atStart => exact ⟨0, Nat.zero_le _, rfl, fun i hi => by omega⟩
  case round =>
    obtain ⟨k, hk, rfl, HG⟩ := hrel
    by_cases hlt : k < len
    rotate_left
    · have HE : Hid (layB zs (len : Int) = true) := lay_yes hu (order_yes (by rw [hz.out]) (fun i hi => HG.out i (by rw [hz.out] at hi; omega))) HF.out
      go_wp2
      go_ret
      exact ⟨by rw [HE.out]; rfl, rfl⟩
    have hltI : (k : Int) < (len : Int) := by omega
    have hkc : k ≤ cap := by omega
    have hkcI : (k : Int) ≤ (cap : Int) := by omega
    obtain ⟨b', off', ha, hc⟩ := h.out.at (Below.refl _ _) (k := k) (by rw [hz.out]; exact hlt)
    obtain ⟨rfl, rfl⟩ : b = b' ∧ off = off' := by simpa using ha
    have HNO : Hid ((zs.getD k 0 < 0 ∨ (len : Int) ≤ zs.getD k 0 ∨ hasTo zs (zs.getD k 0) k = true) → layB zs (len : Int) = false) := fun q => lay_ord (order_bad (k := k) (by rw [hz.out]; exact hlt) (fun r => by
      obtain ⟨r0, r1, r2⟩ := r
      rcases q with q | q | q
      · omega
      · omega
      · rw [q] at r2; cases r2))
    have HYES : Hid (0 ≤ zs.getD k 0 → zs.getD k 0 < (len : Int) → hasTo zs (zs.getD k 0) k = false → ∀ i, i < k + 1 → OrdOk zs (len : Int) i) := fun q0 q1 q2 i hi => by
      by_cases e : i = k
      · subst e; exact ⟨q0, q1, q2⟩
      · exact HG.out i (by omega)
    obtain ⟨x, hx⟩ : ∃ x, Hid (zs.getD k 0 = x) := ⟨_, rfl⟩
    rw [hx.out] at hc HNO HYES
    by_cases x0 : x < 0
    · have HE : Hid (layB zs (len : Int) = false) := HNO.out (Or.inl x0)
      have d0 : decide (x < 0) = true := decide_eq_true x0
      go_wp2
      go_ret
      exact ⟨by rw [HE.out]; rfl, rfl⟩
    have x0' : 0 ≤ x := by omega
    have d0 : decide (x < 0) = false := decide_eq_false x0
    clear x0
    by_cases x1 : (len : Int) ≤ x
    · have HE : Hid (layB zs (len : Int) = false) := HNO.out (Or.inr (Or.inl x1))
      have d1 : decide (x ≥ (len : Int)) = true := decide_eq_true x1
      go_wp2
      go_ret
      exact ⟨by rw [HE.out]; rfl, rfl⟩
    have x1' : x < (len : Int) := by omega
    have d1 : decide (x ≥ (len : Int)) = false := decide_eq_false x1
    clear x1
    have hkz : k ≤ zs.length := by rw [hz.out]; exact hk
    have HKZ : Hid (k ≤ zs.length) := hkz
    clear hkz
    cases hh : hasTo zs x k
    · have HN : Hid (∀ i, i < k + 1 → OrdOk zs (len : Int) i) := HYES.out x0' x1' hh
      go_wp2_with (go_at_call 43; refine (has_quiet _ HKZ.out (by omega) h.out hh).mono ?_; rintro e w' ⟨rfl, hw⟩; rw [hw]; clear hw w')
      go_round
      case rel => exact ⟨k + 1, by omega, by go_num, HN⟩
      case measure => simp [intOf]; omega
    · have HE : Hid (layB zs (len : Int) = false) := HNO.out (Or.inr (Or.inr hh))
      go_wp2_with (go_at_call 43; refine (has_quiet _ HKZ.out (by omega) h.out hh).mono ?_; rintro e w' ⟨rfl, hw⟩; rw [hw]; clear hw w')
      go_ret
      exact ⟨by rw [HE.out]; rfl, rfl⟩
/-- The three numbers of one edge. -/
theorem edge_at {W wr : World} {a : Option Addr} {zs : List Int} {len k : Nat} (h : Ints W a zs) (hz : zs.length = len * 3) (hB : Below W.heap.size W wr) (hk : k < len) : ∃ b off x y c, a = some ⟨b, off, none⟩ ∧ b < W.heap.size ∧ wr.cell? ⟨b, off + k * 3, none⟩ = some (.int .i64 x) ∧ wr.cell? ⟨b, off + k * 3 + 1, none⟩ = some (.int .i64 y) ∧ wr.cell? ⟨b, off + k * 3 + 2, none⟩ = some (.int .i64 c) ∧ Hid (frE zs k = x) ∧ Hid (toE zs k = y) ∧ Hid (ctE zs k = c) := by
  obtain ⟨b, off, ha, hb, c0, c1, c2⟩ := Edge_at h hz hB hk
  exact ⟨b, off, _, _, _, ha, hb, c0, c1, c2, rfl, rfl, rfl⟩
set_option maxHeartbeats 4000000 in
theorem spec_edges (a : Option Addr) (len cap : Nat) (u : Int) (zs : List Int) (W : World) (hz : Hid (zs.length = len * 3)) (hlen : len ≤ 1048576) (hcap : len ≤ cap) (hcm : cap ≤ 1048576) (h : Hid (Ints W a zs)) :
    Calls Try.prog 10 #[.int .i64 u, .slice a len cap] W fun e W' => e = .returned (.bool (edgesB zs u len)) ∧ Below W.heap.size W W' := by
  go_enter Try.func10, Try.ntmps10
  go_wp2
  go_loopw [11] (fun vi wr => ∃ k : Nat, k ≤ len ∧ vi = .int .i64 k ∧ Hid (∀ j, j < k → EdgeOk zs u j) ∧ Hid (Below W.heap.size W wr)) (fun vi _ => len - (intOf vi).toNat)
  case atStart => exact ⟨0, Nat.zero_le _, rfl, fun j hj => by omega, Below.refl _ _⟩
  case round =>
    obtain ⟨k, hk, rfl, HG, HB⟩ := hrel
    obtain ⟨wo, hwo⟩ : ∃ wo, wo = wr := ⟨_, rfl⟩
    subst hwo
    by_cases hlt : k < len
    rotate_left
    · have HALL : Hid (∀ j, j < len → EdgeOk zs u j) := fun j hj => HG.out j (by omega)
      cases hu : inR u 1 8
      · have HE : Hid (edgesB zs u len = false) := edges_u hu
        go_wp2_with (go_at_call 33; refine (spec_blocks hu _).mono ?_; rintro e w' ⟨rfl, hw⟩; rw [hw]; clear hw w')
        go_ret
        exact ⟨by rw [HE.out]; rfl, HB.out⟩
      by_cases q : len ≤ 20
      · have dq : decide ((len : Int) ≤ 20) = true := decide_eq_true (by omega)
        have HE : Hid (edgesB zs u len = true) := edges_yes hu q HALL.out
        go_wp2_with (go_at_call 33; refine (spec_blocks hu _).mono ?_; rintro e w' ⟨rfl, hw⟩; rw [hw]; clear hw w')
        go_ret
        exact ⟨by rw [HE.out]; rfl, HB.out⟩
      · have dq : decide ((len : Int) ≤ 20) = false := decide_eq_false (by omega)
        have HE : Hid (edgesB zs u len = false) := edges_many (by omega)
        have q' : (20 : Int) < (len : Int) := by omega
        clear q
        go_wp2_with (go_at_call 33; refine (spec_blocks hu _).mono ?_; rintro e w' ⟨rfl, hw⟩; rw [hw]; clear hw w')
        go_ret
        exact ⟨by rw [HE.out]; rfl, HB.out⟩
    obtain ⟨b, off, x, y, c, ha, hb, c0, c1, c2, HX, HY, HC⟩ := edge_at h.out hz.out HB.out hlt
    have hbw : b < wo.heap.size := by have := HB.out.size; omega
    have HB1 : Hid (Below W.heap.size W (wo.alloc (.cells #[.int .i64 x, .int .i64 y, .int .i64 c] 46))) := HB.out.alloc HB.out.size _
    have HNO : Hid ((x < 0 ∨ u ≤ x ∨ y < 0 ∨ u ≤ y ∨ inR c 0 100000 = false) → edgesB zs u len = false) := fun q => edges_bad hlt (fun r => by
      obtain ⟨⟨r0, r1⟩, ⟨r2, r3⟩, ⟨r4, r5⟩, _⟩ := r
      rw [HX.out] at r0 r1
      rw [HY.out] at r2 r3
      rw [HC.out] at r4 r5
      rcases q with q | q | q | q | q
      · omega
      · omega
      · omega
      · omega
      · rw [inR_mk r4 r5] at q; cases q)
    have hltI : (k : Int) < (len : Int) := by omega
    subst ha
    by_cases x0 : x < 0
    · have HE : Hid (edgesB zs u len = false) := HNO.out (Or.inl x0)
      have d0 : decide (x < 0) = true := decide_eq_true x0
      go_wp2
      go_ret
      exact ⟨by rw [HE.out]; rfl, HB1.out⟩
    have x0' : 0 ≤ x := by omega
    have d0 : decide (x < 0) = false := decide_eq_false x0
    clear x0
    by_cases x1 : u ≤ x
    · have HE : Hid (edgesB zs u len = false) := HNO.out (Or.inr (Or.inl x1))
      have d1 : decide (x ≥ u) = true := decide_eq_true x1
      go_wp2
      go_ret
      exact ⟨by rw [HE.out]; rfl, HB1.out⟩
    have x1' : x < u := by omega
    have d1 : decide (x ≥ u) = false := decide_eq_false x1
    clear x1
    by_cases y0 : y < 0
    · have HE : Hid (edgesB zs u len = false) := HNO.out (Or.inr (Or.inr (Or.inl y0)))
      have d2 : decide (y < 0) = true := decide_eq_true y0
      go_wp2
      go_ret
      exact ⟨by rw [HE.out]; rfl, HB1.out⟩
    have y0' : 0 ≤ y := by omega
    have d2 : decide (y < 0) = false := decide_eq_false y0
    clear y0
    by_cases y1 : u ≤ y
    · have HE : Hid (edgesB zs u len = false) := HNO.out (Or.inr (Or.inr (Or.inr (Or.inl y1))))
      have d3 : decide (y ≥ u) = true := decide_eq_true y1
      go_wp2
      go_ret
      exact ⟨by rw [HE.out]; rfl, HB1.out⟩
    have y1' : y < u := by omega
    have d3 : decide (y ≥ u) = false := decide_eq_false y1
    clear y1
    cases hc : inR c 0 100000
    · have HE : Hid (edgesB zs u len = false) := HNO.out (Or.inr (Or.inr (Or.inr (Or.inr hc))))
      go_wp2_with (go_at_call 32; refine (in_quiet hc _).mono ?_; rintro e w' ⟨rfl, hw⟩; rw [hw]; clear hw w')
      go_ret
      exact ⟨by rw [HE.out]; rfl, HB1.out⟩
    clear HNO
    have hkcI : (k : Int) ≤ (cap : Int) := by omega
    go_wp2_with (go_at_call 32; refine (in_quiet hc _).mono ?_; rintro e w' ⟨rfl, hw⟩; rw [hw]; clear hw w')
    go_loopw [46] (fun vj w2 => ∃ j : Nat, j ≤ k ∧ vj = .int .i64 j ∧ Hid (∀ i, i < j → ¬ (frE zs i = x ∧ toE zs i = y)) ∧ Hid (Below W.heap.size W w2) ∧ Hid (w2.cell? ⟨wo.heap.size, 0, none⟩ = some (.int .i64 x)) ∧ Hid (w2.cell? ⟨wo.heap.size, 1, none⟩ = some (.int .i64 y)) ∧ wo.heap.size < w2.heap.size) (fun vj _ => k - (intOf vj).toNat)
    case atStart => exact ⟨0, Nat.zero_le _, rfl, fun i hi => by omega, HB1, by show World.cell? _ _ = _; simp, by show World.cell? _ _ = _; simp, by simp⟩
    case round =>
      obtain ⟨j, hj, rfl, HN, HB2, H0, H1, hsz⟩ := hrel
      by_cases hjl : j < k
      rotate_left
      · have HG' : Hid (∀ j, j < k + 1 → EdgeOk zs u j) := by
          show ∀ j, _ → _
          intro i hi
          by_cases e : i = k
          · subst e
            refine ⟨by rw [HX.out]; exact ⟨x0', x1'⟩, by rw [HY.out]; exact ⟨y0', y1'⟩, by rw [HC.out]; exact inR_out hc, fun l hl => ?_⟩
            rw [HX.out, HY.out]
            exact HN.out l (by omega)
          · exact HG.out i (by omega)
        go_wp2
        go_roundw
        case rel => exact ⟨k + 1, by omega, by go_num, HG', HB2⟩
        case measure => simp [intOf]; omega
      obtain ⟨b', off', s, t, v, ha, hb', e0, e1, e2, HS, HT, HV⟩ := edge_at h.out hz.out HB2.out (show j < len by omega)
      obtain ⟨rfl, rfl⟩ : b = b' ∧ off = off' := by simpa using ha
      have hbwr : b < wr.heap.size := by omega
      have HB3 : Hid (Below W.heap.size W (wr.alloc (.cells #[.int .i64 s, .int .i64 t, .int .i64 v] 46))) := HB2.out.alloc HB2.out.size _
      have c4 := H0.out
      have c5 := H1.out
      have hjI : (j : Int) < (k : Int) := by omega
      have HNX : Hid (¬ (s = x ∧ t = y) → ∀ i, i < j + 1 → ¬ (frE zs i = x ∧ toE zs i = y)) := fun q i hi => by
        by_cases e : i = j
        · subst e; rw [HS.out, HT.out]; exact q
        · exact HN.out i (by omega)
      by_cases es : s = x
      · by_cases et : t = y
        · have HE : Hid (edgesB zs u len = false) := edges_bad hlt (fun r => r.2.2.2 j hjl ⟨by rw [HS.out, HX.out]; exact es, by rw [HT.out, HY.out]; exact et⟩)
          subst es et
          go_wp2
          go_ret
          exact ⟨by rw [HE.out]; rfl, HB3.out⟩
        · have HN' : Hid (∀ i, i < j + 1 → ¬ (frE zs i = x ∧ toE zs i = y)) := HNX.out (fun q => et q.2)
          have g1 : (t == y) = false := by simpa using et
          have g2 : decide (t = y) = false := decide_eq_false et
          clear HNX
          subst es
          go_wp2
          go_roundw
          case rel => exact ⟨j + 1, by omega, by go_num, HN', HB3, by show World.cell? _ _ = _; rw [World.cell?_alloc_past _ _ _ hsz]; exact H0.out, by show World.cell? _ _ = _; rw [World.cell?_alloc_past _ _ _ hsz]; exact H1.out, by simp; omega⟩
          case measure => simp [intOf]; omega
      · have HN' : Hid (∀ i, i < j + 1 → ¬ (frE zs i = x ∧ toE zs i = y)) := HNX.out (fun q => es q.1)
        have g1 : (s == x) = false := by simpa using es
        have g2 : decide (s = x) = false := decide_eq_false es
        clear HNX
        go_wp2
        go_roundw
        case rel => exact ⟨j + 1, by omega, by go_num, HN', HB3, by show World.cell? _ _ = _; rw [World.cell?_alloc_past _ _ _ hsz]; exact H0.out, by show World.cell? _ _ = _; rw [World.cell?_alloc_past _ _ _ hsz]; exact H1.out, by simp; omega⟩
        case measure => simp [intOf]; omega
end Go.Proofs.Ytaepabaabngdiaa.walks
