/-
  What slices.Reverse does to a part of a row, and what the program's ringFrom answers.
-/
import Derived.Test.YthjcgnldlhjjmabProg
import Derived.Test.YthjcgnldlhjjmabRingMath
import Derived.Test.YthjcgnldlhjjmabInts
import Derived.Test.YthjcgnldlhjjmabOwnInts
import Derived.Test.YthjcgnldlhjjmabArrs
import Derived.Test.YthjcgnldlhjjmabRingSpec
import Derived.WalkKit
import Derived.WalkSpells
import Derived.Below
import Derived.Handy
import Derived.Deep.LoopGhost
import Derived.Deep.RegionWith
namespace Go.Proofs.Ythjcgnldlhjjmab.walks
open Go.RowKit Go.Proofs.Ythjcgnldlhjjmab.math Go.Proofs.Ythjcgnldlhjjmab.ints
set_option linter.unusedVariables false
set_option maxRecDepth 100000

theorem grow_set8 {w w' : World} {g : Nat} (h : w.grownBy w' (some g)) (i : Nat) (v : Value) : w.grownBy (w'.setCell ⟨g, i, none⟩ v) (some g) :=
  ⟨h.os, h.tape, h.output, by simpa [World.setCell] using h.size, fun k hk hne => (Below.heap_setCell _ _ _ _ (by simpa using hne)).trans (h.block k hk hne)⟩
theorem grow_refl8 (w : World) (row : Option Nat) : w.grownBy w row := ⟨rfl, rfl, rfl, Nat.le_refl _, fun _ _ _ => rfl⟩
theorem grow_drew8 {w w' : World} {row : Option Nat} (h : w.grownBy w' row) : w.grownBy w'.drew row := ⟨h.os, h.tape, h.output, h.size, h.block⟩
theorem own_row {w : World} {B g n cap : Nat} {zs : List Int} (h : Own w B (.slice (some ⟨g, 0, none⟩) n cap) zs) : zs.length = n ∧ n ≤ cap ∧ cap ≤ maxLen ∧ B ≤ g ∧ ∃ F, w.rowIs g 3 cap F ∧ ∀ i, i < n → F i = .int .i64 (zs.getD i 0) := by
  obtain ⟨h1, h2⟩ := h
  rcases h2 with ⟨e, _⟩ | ⟨g', cap', cur, e, hB, hg, hc, hm, hs, ht⟩
  · cases e
  · simp only [Value.slice.injEq, Option.some.injEq, Addr.mk.injEq] at e
    obtain ⟨⟨rfl, _⟩, rfl, rfl⟩ := e
    refine ⟨rfl, hc, hm, hB, fun i => cur[i]?.getD undef, ⟨cur, hg, by omega, fun i hi => ?_⟩, fun i hi => ?_⟩
    · show cur[i]? = some (cur[i]?.getD undef)
      rw [Array.getElem?_eq_getElem (by omega)]; rfl
    · have e1 : (cur.toList.take (zs.length * 1))[i]? = (zs.map (Value.int .i64))[i]? := by rw [ht]
      rw [List.getElem?_take, if_pos (by omega)] at e1
      simp only [Array.getElem?_toList] at e1
      show cur[i]?.getD undef = _
      rw [e1]
      simp [List.getD, hi]
theorem row_own {w : World} {B g n cap : Nat} {zs : List Int} {F : Nat → Value} (h : w.rowIs g 3 cap F) (hB : B ≤ g) (hz : zs.length = n) (hc : n ≤ cap) (hm : cap ≤ maxLen) (hF : ∀ i, i < n → F i = .int .i64 (zs.getD i 0)) : Own w B (.slice (some ⟨g, 0, none⟩) n cap) zs := by
  obtain ⟨c, hg, hs, hget⟩ := h
  subst hz
  refine ⟨by simp, Or.inr ⟨g, cap, c, rfl, hB, hg, hc, hm, by omega, ?_⟩⟩
  apply List.ext_getElem?
  intro i
  rw [List.getElem?_take]
  by_cases q : i < zs.length
  · rw [if_pos (by omega)]
    simp only [Array.getElem?_toList]
    rw [hget i (by omega), hF i q]
    simp [List.getD, q]
  · rw [if_neg (by omega)]
    simp [q]
/-- The row F, of whose n cells from off on the first k and the last k are turned round. -/
def turnF (F : Nat → Value) (off n k : Nat) : Nat → Value := fun p => if off ≤ p ∧ p < off + n ∧ (p - off < k ∨ n - 1 - k < p - off) then F (off + (n - 1 - (p - off))) else F p
theorem turn_half {F : Nat → Value} {off n k p : Nat} (h : n - 1 ≤ 2 * k) (h0 : off ≤ p) (h1 : p < off + n) : turnF F off n k p = F (off + (n - 1 - (p - off))) := by
  unfold turnF
  by_cases q : p - off < k ∨ n - 1 - k < p - off
  · rw [if_pos ⟨h0, h1, q⟩]
  · rw [if_neg (fun r => q r.2.2)]
    congr 1; omega
theorem turn_out8 {F : Nat → Value} {off n k p : Nat} (h : p < off) : turnF F off n k p = F p := if_neg (by omega)
theorem turn_step {F : Nat → Value} {off n k : Nat} (h : 2 * k + 1 < n) (p : Nat) : (if p = off + (n - 1 - k) then F (off + k) else if p = off + k then F (off + (n - 1 - k)) else turnF F off n k p) = turnF F off n (k + 1) p := by
  unfold turnF
  by_cases e1 : p = off + (n - 1 - k)
  · rw [if_pos e1, if_pos (by omega)]
    congr 1; omega
  · rw [if_neg e1]
    by_cases e2 : p = off + k
    · rw [if_pos e2, if_pos (by omega)]
      congr 1; omega
    · rw [if_neg e2]
      by_cases q : off ≤ p ∧ p < off + n ∧ (p - off < k ∨ n - 1 - k < p - off)
      · rw [if_pos q, if_pos (by omega)]
      · rw [if_neg q, if_neg (by omega)]
theorem turn_same {F : Nat → Value} {off n k p : Nat} (h0 : k ≤ p - off) (h1 : p - off ≤ n - 1 - k) : turnF F off n k p = F p := if_neg (by omega)
set_option maxHeartbeats 4000000 in
theorem impl_reverse (g off n cap N : Nat) (t : TypeId) (F : Nat → Value) (f : Nat → Int) (W : World) (hn : n ≤ 20) (hN : off + n ≤ N) (hF : Hid (∀ i, i < n → F (off + i) = .int .i64 (f i))) (h : Hid (W.rowIs g t N F)) :
    Calls Try.prog 31 #[.slice (some ⟨g, off, none⟩) n cap] W fun e W' => e = .returned (.tuple #[]) ∧ W'.rowIs g t N (turnF F off n (n / 2)) ∧ W.grownBy W' (some g) := by
  have hgW := h.out.lt
  go_enter Try.func31, Try.ntmps31
  go_wp2
  go_loopg [2, 3] 12 (fun gk vi vj wr => ∃ k : Nat, k + gk = 12 ∧ k ≤ n / 2 ∧ vi = .int .i64 (k : Int) ∧ vj = .int .i64 ((n : Int) - 1 - (k : Int)) ∧ Hid (wr.rowIs g t N (turnF F off n k)) ∧ Hid (W.grownBy wr (some g)))
  case atStart =>
    refine ⟨0, by omega, by omega, rfl, by simp, ?_, grow_refl8 _ _⟩
    exact h.out.congr (fun p hp => by unfold turnF; rw [if_neg (by omega)])
  case round =>
    obtain ⟨k, hk, hk2, rfl, rfl, HR, HG⟩ := hrel
    by_cases hlt : 2 * k + 1 < n
    · obtain ⟨j, hj⟩ : ∃ j : Nat, Hid (n - 1 - k = j) := ⟨_, rfl⟩
      have hjj := hj.out
      have hjI : (n : Int) - 1 - (k : Int) = (j : Int) := by omega
      rw [hjI]
      have hkj : (k : Int) < (j : Int) := by omega
      have hjn : (j : Int) < (n : Int) := by omega
      have hkn : (k : Int) < (n : Int) := by omega
      have c0 := HR.out.cell (i := off + k) (by omega)
      have c1 := HR.out.cell (i := off + j) (by omega)
      have f0 := HR.out.frozen (off + k)
      have f1 := HR.out.frozen (off + j)
      rw [turn_same (by omega) (by omega), hF.out k (by omega)] at c0
      rw [turn_same (by omega) (by omega), hF.out j (by omega)] at c1
      have hne : k ≠ j := by omega
      have HS : Hid (∀ p, p < N → (if p = off + j then Value.int .i64 (f k) else if p = off + k then .int .i64 (f j) else turnF F off n k p) = turnF F off n (k + 1) p) := by
        show ∀ p, p < N → _
        intro p hp
        rw [← turn_step hlt p, hj.out, hF.out k (by omega), hF.out j (by omega)]
      have HI : Hid ((j : Int) - 1 = (n : Int) - 1 - ((k + 1 : Nat) : Int)) := by show _ = _; omega
      obtain ⟨x, hx⟩ : ∃ x, Hid (f k = x) := ⟨_, rfl⟩
      obtain ⟨y, hy⟩ : ∃ y, Hid (f j = y) := ⟨_, rfl⟩
      rw [hx.out] at c0 HS
      rw [hy.out] at c1 HS
      clear hjj hjI
      go_wp2
      go_region
      all_goals
        go_wp2
        go_roundg (gk - 1)
        case rel =>
          refine ⟨k + 1, by omega, by omega, by go_num, by rw [HI.out], ?_, ?_⟩
          · exact World.rowIs.congr ((HR.out.set (off + k) (.int .i64 y)).set (off + j) (.int .i64 x)) HS.out
          · exact grow_drew8 (grow_set8 (grow_set8 HG.out _ _) _ _)
        case measure => omega
    · have hkn : k = n / 2 := by omega
      have hlt' : (n : Int) - 1 - (k : Int) ≤ (k : Int) := by omega
      have d : decide ((k : Int) < (n : Int) - 1 - (k : Int)) = false := decide_eq_false (by omega)
      subst hkn
      go_wp2
      exact bodyPost_end (v := .tuple #[]) (by simp [results, Try.results31, go_sem]) rfl ⟨rfl, HR.out, HG.out⟩
set_option maxHeartbeats 4000000 in
theorem impl_ring (g0 m : Nat) (s : Int → Int) (W : World) (hm : m < 10) (hP : Hid (∀ k, Pl (itS s (m : Int) k))) (hN : 2 ≤ perTo s (m : Int) 10) (h : Hid (W.rowIs g0 45 10 (fun i => .int .i64 (s (i : Int))))) :
    Calls Try.prog 25 #[.pointer (some ⟨g0, 0, none⟩), .int .i64 (m : Int)] W fun e W' => RingAns (ringL s (m : Int)) W e W' := by
  obtain ⟨i0, hi, hz0, hz1, hz2⟩ := info_parts row_info
  obtain ⟨n, hn⟩ : ∃ n, Hid (perTo s (m : Int) 10 = n) := ⟨_, rfl⟩
  obtain ⟨_, n10, en, hl⟩ := per_out (s := s) (p := (m : Int)) (n := 10) (by omega)
  have HE : Hid (ringL s (m : Int) = (m : Int) :: downL (itS s (m : Int)) (n - 1) (n - 1)) := by
    show ringL s (m : Int) = _
    unfold ringL
    rw [if_neg (by omega), hn.out]
  rw [hn.out] at n10 en hl hN
  have HEN : Hid (itS s (m : Int) n = (m : Int)) := en
  have HL : Hid (∀ k, 1 ≤ k → k < n → itS s (m : Int) k ≠ (m : Int)) := hl
  have hmI : (m : Int) < 10 := by omega
  have hgW := h.out.lt
  have HB0 : Hid (Below W.heap.size W (W.alloc (.cells #[.int .i64 (m : Int)] 3))) := (Below.refl _ _).alloc (Nat.le_refl _) _
  have HO0 : Hid (Own (W.alloc (.cells #[.int .i64 (m : Int)] 3)) W.heap.size (.slice (some ⟨W.heap.size, 0, none⟩) 1 1) [(m : Int)]) := own_lit W _ (Nat.le_refl _) _
  have c0 := h.out.cell hm
  obtain ⟨x0, hx0⟩ : ∃ x, Hid (s (m : Int) = x) := ⟨_, rfl⟩
  rw [hx0.out] at c0
  clear en hl
  go_enter Try.func25, Try.ntmps25
  go_wp2
  clear c0
  go_loopg [5, 6] 12 (fun gk vb va wr => ∃ (k : Nat) (v : Value) (x : Int), k + gk = 13 ∧ 1 ≤ k ∧ k ≤ n ∧ v = vb ∧ va = .int .i64 x ∧ Hid (itS s (m : Int) k = x) ∧ Hid (Own wr W.heap.size v (upsL (itS s (m : Int)) k)) ∧ Hid (Below W.heap.size W wr))
  case atStart => exact ⟨1, _, _, by omega, by omega, by omega, rfl, rfl, hx0, HO0, HB0⟩
  case round =>
    obtain ⟨k, v, x, hk, hk1, hkn, rfl, rfl, HX, HO, HB⟩ := hrel
    clear HO0 HB0
    have hul : Hid ((upsL (itS s (m : Int)) k).length = k) := ups_len _ _
    have hsz : W.heap.size ≤ wr.heap.size := HB.out.size
    have HR : Hid (wr.rowIs g0 45 10 (fun i => .int .i64 (s (i : Int)))) := h.out.of_block (HB.out.block g0 hgW)
    by_cases hkl : k < n
    · have hx : x ≠ (m : Int) := by rw [← HX.out]; exact HL.out k hk1 hkl
      have hpx := hP.out k
      rw [HX.out] at hpx
      unfold Pl at hpx
      obtain ⟨j, rfl⟩ : ∃ j : Nat, x = (j : Int) := ⟨x.toNat, by omega⟩
      have hj : j < 10 := by omega
      have hjI : (j : Int) < 10 := by omega
      have e1 : ((j : Int) == (m : Int)) = false := by simpa using hx
      have e2 : decide ((j : Int) = (m : Int)) = false := decide_eq_false hx
      have HU : Hid (upsL (itS s (m : Int)) (k + 1) = upsL (itS s (m : Int)) k ++ [(j : Int)]) := by
        show upsL (itS s (m : Int)) k ++ [itS s (m : Int) k] = _
        rw [HX.out]
      clear hx hpx
      go_wp2_with (first
        | (at_builtin; refine wpList_append_own _ rfl _ _ 43 rfl W.heap.size 3 i0 (.int .i64 0) 1 8 Try.underlying43 hi hz0 hz1 hz2 rfl (by decide) _ _ _ rfl (World.ownsRow.alloc HO.out _) ⟨wr.heap.size, 0, none⟩ 1 1 [.int .i64 (j : Int)] rfl rfl ?c1 ?c2 ?c3 ?c4 ?c5 ?_)
        | go_in)
      case c1 => exact new_one _ _ _
      case c2 => exact one_of _
      case c3 => rw [hul.out]; unfold maxLen; omega
      case c4 => rw [hul.out]; omega
      case c5 => simp; omega
      · intro v' w1 hown' hgrow _
        obtain ⟨o1, o2, o3⟩ := Own.snoc HO.out hsz HB.out hown' hgrow
        have HO4 : Hid (Own w1 W.heap.size v' (upsL (itS s (m : Int)) k ++ [(j : Int)])) := o1
        have HB4 : Hid (Below W.heap.size W w1) := o2
        have c1 := (h.out.of_block (HB4.out.block g0 hgW)).cell hj
        obtain ⟨y, hy⟩ : ∃ y, Hid (s (j : Int) = y) := ⟨_, rfl⟩
        rw [hy.out] at c1
        clear hown' hgrow o1 o2
        go_wp2
        go_roundg (gk - 1)
        case measure => omega
        case rel => exact ⟨k + 1, _, _, by omega, by omega, by omega, rfl, rfl, by show s (itS s (m : Int) k) = _; rw [HX.out]; exact hy.out, by rw [HU.out]; exact HO4, HB4⟩
    · have hkn' : k = n := by omega
      subst hkn'
      have hxm : x = (m : Int) := by rw [← HX.out]; exact HEN.out
      subst hxm
      obtain ⟨va, vc, hv, _⟩ := HO.out.mine
      rw [hul.out] at hv
      subst hv
      obtain ⟨b, hva⟩ : ∃ b, va = some ⟨b, 0, none⟩ := by
        rcases HO.out.2 with ⟨e, _⟩ | ⟨g', cap', cur, e, _⟩
        · simp only [Value.slice.injEq] at e; omega
        · simp only [Value.slice.injEq] at e; exact ⟨g', e.1⟩
      subst hva
      obtain ⟨_, hkc, hcm, hBb, F, hR, hF⟩ := own_row HO.out
      have HRF : Hid (wr.rowIs b 3 vc F) := hR
      have HF : Hid (∀ i, i < k → F i = .int .i64 (itS s (m : Int) i)) := fun i hi => by rw [hF i hi, ups_at _ hi]
      have hvc : (2 : Int) ≤ (vc : Int) := by omega
      have hcm' : vc ≤ 9223372036854775807 := by unfold maxLen at hcm; omega
      have hkI : (1 : Int) ≤ (k : Int) := by omega
      have hkc' : (k : Int) ≤ (vc : Int) := by omega
      clear hR hF
      go_wp2_with fail
      refine (impl_reverse b 1 (k - 1) _ vc 3 F (fun i => itS s (m : Int) (i + 1)) _ (by omega) (by omega) (fun i hi => by rw [Nat.add_comm]; exact HF.out (i + 1) (by omega)) HRF).mono ?_
      rintro e w2 ⟨rfl, hR2, hG2⟩
      have HA : Hid (RingAns (ringL s (m : Int)) W (.returned (.slice (some ⟨b, 0, none⟩) k vc)) w2) := by
        refine ⟨_, rfl, ?_, HB.out.grown hG2 hsz (fun j hj => by simp at hj; subst hj; exact hBb)⟩
        rw [HE.out]
        refine row_own hR2 hBb (by simp [down_len]; omega) hkc hcm (fun i hi => ?_)
        by_cases e : i = 0
        · subst e
          rw [turn_out8 (by omega), HF.out 0 (by omega)]; rfl
        · obtain ⟨q, rfl⟩ : ∃ q, i = q + 1 := ⟨i - 1, by omega⟩
          rw [turn_half (by omega) (by omega) (by omega), HF.out _ (by omega), List.getD_cons_succ, down_at _ _ (by omega)]
          congr 2; omega
      clear hR2 hG2
      go_wp2
      go_ret
      exact HA.out
end Go.Proofs.Ythjcgnldlhjjmab.walks
