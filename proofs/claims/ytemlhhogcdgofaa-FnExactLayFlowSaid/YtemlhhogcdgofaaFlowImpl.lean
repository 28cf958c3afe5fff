/-
  What the program's GoodFlow answers, at every flow; it makes new memory alone.
-/
import Derived.Test.YtemlhhogcdgofaaProg
import Derived.Test.YtemlhhogcdgofaaFlow
import Derived.Test.YtemlhhogcdgofaaFlowEq
import Derived.Test.YtemlhhogcdgofaaFlowMath
import Derived.Test.YtemlhhogcdgofaaCodeGood
import Derived.Test.YtemlhhogcdgofaaStepImpl
import Derived.Test.YtemlhhogcdgofaaStepsOf
import Derived.WalkKit
import Derived.WalkSpells
import Derived.Below
import Derived.Handy
import Derived.Deep.DeepFit
namespace Go.Proofs.Ytemlhhogcdgofaa.walks
open Go.RowKit Go.Proofs.Ytemlhhogcdgofaa.math Go.Proofs.Ytemlhhogcdgofaa.ints
set_option linter.unusedVariables false

theorem impl_next (x : Int) (n : Nat) (W : World) : Calls Try.prog 40 #[.int .i64 x, .int .i64 (n : Int)] W fun e W' => e = .returned (.bool (inR x (-1) ((n : Int) - 1))) ∧ W' = W := by
  by_cases h0 : -1 ≤ x
  rotate_left
  · have k0 : x < -1 := by omega
    have d0 : decide (-1 ≤ x) = false := decide_eq_false h0
    rw [inR_lt k0]
    clear h0
    go_enter Try.func40, Try.ntmps40
    go_wp2
    go_ret
    exact ⟨rfl, rfl⟩
  by_cases h1 : x < (n : Int)
  rotate_left
  · have k1 : (n : Int) - 1 < x := by omega
    have k2 : (n : Int) ≤ x := by omega
    have d1 : decide (x < (n : Int)) = false := decide_eq_false h1
    rw [inR_gt k1]
    clear h1
    go_enter Try.func40, Try.ntmps40
    go_wp2
    go_ret
    exact ⟨rfl, rfl⟩
  rw [inR_mk h0 (by omega)]
  have d1 : decide (x < (n : Int)) = true := decide_eq_true h1
  have d0 : decide (-1 ≤ x) = true := decide_eq_true h0
  go_enter Try.func40, Try.ntmps40
  go_wp2
  go_ret
  exact ⟨rfl, rfl⟩
theorem fblock_info : (Try.prog.info? 53).map (fun i => (i.zero, i.size, i.bytes)) = some (some (.agg #[.slice none 0 0, .int .i64 0, .int .i64 0, .int .i64 0, .slice none 0 0]), 5, 72) := by kernel_rfl
/-- A list of blocks of its own (whatever they are). -/
def OwnB (w : World) (B : Nat) (v : Value) (k : Nat) : Prop := ∃ xs, w.ownsRow B 53 5 v k xs
theorem row_far {w w' : World} {B k : Nat} {v : Value} {xs : List Value} (h : w.ownsRow B 53 5 v k xs) (hb : Below w.heap.size w w') : w'.ownsRow B 53 5 v k xs := by
  refine ⟨h.1, ?_⟩
  rcases h.2 with q | ⟨g, cap, cur, e, hg, hw, r⟩
  · exact Or.inl q
  · exact Or.inr ⟨g, cap, cur, e, hg, (hb.block g (Array.getElem?_eq_some_iff.1 hw).1).trans hw, r⟩
theorem own_none (w : World) (B : Nat) : w.ownsRow B 53 5 (.slice none 0 0) 0 [] := ⟨by simp, Or.inl ⟨rfl, rfl⟩⟩
theorem five_cells (w : World) (v0 v1 v2 v3 v4 : Value) (t : TypeId) : ∀ (j : Nat) (u : Value), [v0, v1, v2, v3, v4][j]? = some u → (w.alloc (.cells #[v0, v1, v2, v3, v4] t)).cell? ((⟨w.heap.size, 0, none⟩ : Addr).add j) = some u := by
  intro j u hj
  match j, hj with
  | 0, hj => simp at hj; subst hj; simp [Addr.add]
  | 1, hj => simp at hj; subst hj; simp [Addr.add]
  | 2, hj => simp at hj; subst hj; simp [Addr.add]
  | 3, hj => simp at hj; subst hj; simp [Addr.add]
  | 4, hj => simp at hj; subst hj; simp [Addr.add]
set_option maxRecDepth 100000 in
set_option maxHeartbeats 8000000 in
theorem impl_blocks (a : Option Addr) (n cap : Nat) (f : Nat → Bv) (W : World) (hn : n ≤ 1048576) (hlen : Hid (∀ k, k < n → (f k).len ≤ 1048576)) (h : Hid (Flow W a n f)) :
    Calls Try.prog 22 #[.slice a n cap] W fun e W' => ∃ v, e = .returned (.tuple #[v, .bool (flowB f n)]) ∧ Below W.heap.size W W' := by
  obtain ⟨i0, hi, hz0, hz1, hz2⟩ := info_parts fblock_info
  by_cases h8 : 1 ≤ n ∧ n ≤ 8
  rotate_left
  · rw [flow_no h8]
    by_cases h0 : n = 0
    · subst h0
      go_enter Try.func22, Try.ntmps22
      go_wp2
      go_ret2
      exact ⟨_, rfl, Below.refl _ _⟩
    · have h1 : ¬ ((n : Int) < 1) := by omega
      have h1' : decide ((n : Int) < 1) = false := decide_eq_false h1
      have h2 : (8 : Int) < (n : Int) := by omega
      clear h1 h8
      go_enter Try.func22, Try.ntmps22
      go_wp2
      go_ret2
      exact ⟨_, rfl, Below.refl _ _⟩
  have h1' : decide ((n : Int) < 1) = false := decide_eq_false (by omega)
  have h2 : (n : Int) ≤ 8 := by omega
  have h2' : decide ((8 : Int) < (n : Int)) = false := decide_eq_false (by omega)
  have h01 : (1 : Int) ≤ (n : Int) := by omega
  go_enter Try.func22, Try.ntmps22
  go_wp2
  go_loopw [4, 19] (fun vl vi wr => ∃ k : Nat, k ≤ n ∧ vi = .int .i64 k ∧ Hid (OwnB wr W.heap.size vl k) ∧ Hid (∀ j, j < k → blockB (f j) n = true) ∧ Hid (Below W.heap.size W wr)) (fun _ vi _ => n - (intOf vi).toNat)
  case atStart => exact ⟨0, Nat.zero_le _, rfl, ⟨[], own_none _ _⟩, fun j hj => by omega, Below.refl _ _⟩
  case round =>
    obtain ⟨k, hk, rfl, HO, HG, HB⟩ := hrel
    by_cases hlt : k < n
    · obtain ⟨b, off, ca, cc, ha, hb, c0, c1, c2, c3, hI, hZ⟩ := flow_at h.out HB.out hlt
      subst ha
      have HI : Hid (Ints wr ca (f k).zs) := hI
      have HZ : Hid ((f k).zs.length = (f k).len * 5) := hZ
      have HLn := hlen.out k hlt
      have hnn : (1 : Int) ≤ (n : Int) := by omega
      obtain ⟨t, ET⟩ : ∃ t, Hid (t = (f k).t) := ⟨_, rfl⟩
      obtain ⟨th, EH⟩ : ∃ th, Hid (th = (f k).th) := ⟨_, rfl⟩
      obtain ⟨el, EE⟩ : ∃ el, Hid (el = (f k).el) := ⟨_, rfl⟩
      rw [← ET.out] at c1
      rw [← EH.out] at c2
      rw [← EE.out] at c3
      have HBB : Hid (blockB (f k) n = (codeB (f k).zs (f k).len && inR t 0 7 && inR th (-1) ((n : Int) - 1) && inR el (-1) ((n : Int) - 1))) := by show _ = _; rw [ET.out, EH.out, EE.out]; rfl
      clear hI hZ ET EH EE
      have hwb := HB.out.size
      obtain ⟨xs, HOx⟩ := HO.out
      go_wp2_with fail
      refine (impl_steps _ _ _ (f k).zs _ HZ HLn (HI.out.kept ((Below.refl _ _).alloc (Nat.le_refl _) _))).mono ?_
      rintro e w1 ⟨hA, hB⟩
      have x0 : w1.cell? ⟨wr.heap.size, 0, none⟩ = some (.slice ca (f k).len cc) := by rw [hB.cell (p := ⟨wr.heap.size, 0, none⟩) (by show wr.heap.size < (wr.alloc _).heap.size; simp)]; simp
      have x1 : w1.cell? ⟨wr.heap.size, 1, none⟩ = some (.int .i64 t) := by rw [hB.cell (p := ⟨wr.heap.size, 1, none⟩) (by show wr.heap.size < (wr.alloc _).heap.size; simp)]; simp
      have x2 : w1.cell? ⟨wr.heap.size, 2, none⟩ = some (.int .i64 th) := by rw [hB.cell (p := ⟨wr.heap.size, 2, none⟩) (by show wr.heap.size < (wr.alloc _).heap.size; simp)]; simp
      have x3 : w1.cell? ⟨wr.heap.size, 3, none⟩ = some (.int .i64 el) := by rw [hB.cell (p := ⟨wr.heap.size, 3, none⟩) (by show wr.heap.size < (wr.alloc _).heap.size; simp)]; simp
      have HB1 : Hid (Below W.heap.size W w1) := bel2' (HB.out.alloc hwb _) hB
      have HO1 : Hid (w1.ownsRow W.heap.size 53 5 _ k xs) := row_far (World.ownsRow.alloc HOx _) hB
      have hw1 := HB1.out.size
      clear hB HOx HO
      rcases hA with ⟨hc, sa, sc, rfl, _⟩ | ⟨hc, rfl⟩
      rotate_left
      · have HE : Hid (flowB f n = false) := flow_bad hlt (by rw [HBB.out, hc]; rfl)
        go_wp2
        go_ret2
        exact ⟨_, by rw [HE.out]; rfl, HB1.out⟩
      cases e1 : inR t 0 7
      · have HE : Hid (flowB f n = false) := flow_bad hlt (by rw [HBB.out, hc, e1]; rfl)
        go_wp2_with (first | (go_at_call 39; refine (impl_name _ _).mono ?_; rw [e1]; rintro e w' ⟨rfl, hw⟩; rw [hw]; clear hw w'))
        go_ret2
        exact ⟨_, by rw [HE.out]; rfl, HB1.out⟩
      cases e2 : inR th (-1) ((n : Int) - 1)
      · have HE : Hid (flowB f n = false) := flow_bad hlt (by rw [HBB.out, hc, e1, e2]; rfl)
        go_wp2_with (first | (go_at_call 39; refine (impl_name _ _).mono ?_; rw [e1]; rintro e w' ⟨rfl, hw⟩; rw [hw]; clear hw w') | (go_at_call 40; go_fit (impl_next th _ _); rw [e2]; rintro e w' ⟨rfl, hw⟩; rw [hw]; clear hw w'))
        go_ret2
        exact ⟨_, by rw [HE.out]; rfl, HB1.out⟩
      cases e3 : inR el (-1) ((n : Int) - 1)
      · have HE : Hid (flowB f n = false) := flow_bad hlt (by rw [HBB.out, hc, e1, e2, e3]; rfl)
        go_wp2_with (first | (go_at_call 39; refine (impl_name _ _).mono ?_; rw [e1]; rintro e w' ⟨rfl, hw⟩; rw [hw]; clear hw w') | (go_at_call 40; go_fit (impl_next th _ _); rw [e2]; rintro e w' ⟨rfl, hw⟩; rw [hw]; clear hw w') | (go_at_call 40; go_fit (impl_next el _ _); rw [e3]; rintro e w' ⟨rfl, hw⟩; rw [hw]; clear hw w'))
        go_ret2
        exact ⟨_, by rw [HE.out]; rfl, HB1.out⟩
      have HG' : Hid (∀ j, j < k + 1 → blockB (f j) n = true) := by
        show ∀ j, j < k + 1 → _
        intro j hj
        by_cases e : j = k
        · rw [e, HBB.out, hc, e1, e2, e3]; rfl
        · exact HG.out j (by omega)
      go_wp2_with (first | (go_at_call 39; refine (impl_name _ _).mono ?_; rw [e1]; rintro e w' ⟨rfl, hw⟩; rw [hw]; clear hw w') | (go_at_call 40; go_fit (impl_next th _ _); rw [e2]; rintro e w' ⟨rfl, hw⟩; rw [hw]; clear hw w') | (go_at_call 40; go_fit (impl_next el _ _); rw [e3]; rintro e w' ⟨rfl, hw⟩; rw [hw]; clear hw w') | (at_builtin; refine wpList_append_own _ rfl _ _ 48 rfl W.heap.size 53 i0 _ 5 72 Try.underlying48 hi hz0 hz1 hz2 rfl (by decide) _ _ _ rfl (World.ownsRow.alloc HO1.out _) ⟨w1.heap.size, 0, none⟩ 1 1 [.slice ca (f k).len cc, .int .i64 t, .int .i64 th, .int .i64 el, .slice sa (f k).len sc] rfl rfl ?c1 ?c2 ?c3 ?c4 ?c5 ?_) | go_in)
      case c1 => exact five_cells _ _ _ _ _ _ _
      case c2 =>
        intro u hu
        simp at hu
        rcases hu with rfl | rfl | rfl | rfl | rfl <;> rfl
      case c3 => unfold maxLen; omega
      case c4 => omega
      case c5 => simp; omega
      · intro v' w2 hown' hgrow _
        have Q0 : Hid (OwnB w2 W.heap.size v' (k + 1)) := ⟨_, hown'⟩
        have Q1 : Hid (Below W.heap.size W w2) := (HB1.out.alloc hw1 _).grown hgrow (by simp; omega) (fun j hj => (World.ownsRow.lt HO1.out j hj).1)
        clear hown' hgrow
        go_wp2
        go_roundw
        case rel => exact ⟨k + 1, by omega, by go_num, Q0, HG', Q1⟩
        case measure => simp [intOf]; omega
    · have HE : Hid (flowB f n = true) := flow_mk (by omega) (by omega) (fun j hj => HG.out j (by omega))
      go_wp2
      go_ret2
      exact ⟨_, by rw [HE.out]; rfl, HB.out⟩
end Go.Proofs.Ytemlhhogcdgofaa.walks
