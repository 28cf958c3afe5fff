/-
  What the specification's l1Has, l10Ranks, l10Chain, RanksOf, LongestChain and WorkOf answer.
-/
import Derived.Test.YtfgfhmfdkglhoaaProg
import Derived.Test.YtfgfhmfdkglhoaaMagMath
import Derived.Test.YtfgfhmfdkglhoaaTaskMath
import Derived.Test.YtfgfhmfdkglhoaaRankMath
import Derived.Test.YtfgfhmfdkglhoaaTaskSpec
import Derived.Test.YtfgfhmfdkglhoaaInts
import Derived.Test.YtfgfhmfdkglhoaaPats
import Derived.WalkKit
import Derived.WalkSpells
import Derived.Below
import Derived.Handy
import Derived.Deep.OwnRows
namespace Go.Proofs.Ytfgfhmfdkglhoaa.walks
open Go.RowKit Go.Proofs.Ytfgfhmfdkglhoaa.math Go.Proofs.Ytfgfhmfdkglhoaa.ints
set_option linter.unusedVariables false
set_option maxRecDepth 100000

theorem spec_has (a : Option Addr) (len cap : Nat) (x : Int) (zs : List Int) (W : World) (hz : Hid (zs.length = len)) (hlen : len ≤ 1048576) (h : Hid (Ints W a zs)) :
    Calls Try.prog 39 #[.slice a len cap, .int .i64 x] W fun e W' => e = .returned (.bool (hasB zs x)) ∧ W' = W := by
  go_enter Try.func39, Try.ntmps39
  go_wp2
  go_loop [9] (fun vi => ∃ k : Nat, k ≤ len ∧ vi = .int .i64 (k : Int) ∧ Hid (hasTo zs x k = false)) (fun vi => len - (intOf vi).toNat)
  case atStart => exact ⟨0, Nat.zero_le _, rfl, rfl⟩
  case round =>
    obtain ⟨k, hk, rfl, HF⟩ := hrel
    by_cases hlt : k < len
    rotate_left
    · have HE : Hid (hasB zs x = false) := by show _ = _; unfold hasB; rw [hz.out, show len = k by omega]; exact HF.out
      go_wp2
      go_ret
      exact ⟨by rw [HE.out]; rfl, rfl⟩
    have hltI : (k : Int) < (len : Int) := by omega
    obtain ⟨b, off, ha, hc⟩ := h.out.at (Below.refl _ _) (k := k) (by rw [hz.out]; exact hlt)
    subst ha
    by_cases e : zs.getD k 0 = x
    · have HE : Hid (hasB zs x = true) := (hasTo_iff _).2 ⟨k, by rw [hz.out]; exact hlt, e⟩
      rw [e] at hc
      clear e
      go_wp2
      go_ret
      exact ⟨by rw [HE.out]; rfl, rfl⟩
    · have HN : Hid (hasTo zs x (k + 1) = false) := by
        show _ = _
        simp only [hasTo, HF.out, decide_eq_false e, Bool.or_self]
      obtain ⟨z, hzz⟩ : ∃ z, Hid (zs.getD k 0 = z) := ⟨_, rfl⟩
      rw [hzz.out] at hc e
      have e1 : (z == x) = false := by simpa using e
      have e2 : decide (z = x) = false := decide_eq_false e
      go_wp2
      go_round
      case rel => exact ⟨k + 1, by omega, by go_num, HN⟩
      case measure => simp [intOf]; omega
theorem has_quiet {a : Option Addr} {len cap : Nat} {x : Int} {zs : List Int} {b : Bool} (W : World) (hz : Hid (zs.length = len)) (hlen : len ≤ 1048576) (h : Ints W a zs) (hb : hasB zs x = b) :
    Calls Try.prog 39 #[.slice a len cap, .int .i64 x] W fun e W' => e = .returned (.bool b) ∧ W' = W := by
  have := spec_has a len cap x zs W hz hlen h
  rw [hb] at this
  exact this
set_option maxHeartbeats 4000000 in
theorem spec_ranks (a : Option Addr) (n cap : Nat) (f : Nat → Pv) (W : World) (hn : n ≤ 12) (hg : Hid (∀ k, k < n → taskB (f k) k = true)) (hlen : Hid (∀ k, k < n → (f k).zs.length ≤ 1048576)) (h : Hid (Pats W a n f)) :
    Calls Try.prog 32 #[.slice a n cap] W fun e W' => e = .returned (.slice (some ⟨W.heap.size, 0, none⟩) n n) ∧ W'.rowIs W.heap.size 3 n (fun i => .int .i64 (rankV f n i)) ∧ Below W.heap.size W W' := by
  have hmk := run_make_row' (P := Try.prog) 23 3 (.int .i64 0) 8 Try.underlying23 row_info rfl .i64 .i64 n (by omega) (by omega)
  have hnI : (n : Int) ≤ 12 := by omega
  have hbd : Hid (∀ i, 0 ≤ rankV f n i ∧ rankV f n i ≤ 240) := rank_bound hg.out hn
  go_enter Try.func32, Try.ntmps32
  go_wp2
  clear hmk
  go_loopw [4] (fun vi wr => ∃ m : Nat, m ≤ n ∧ vi = .int .i64 ((m : Int) - 1) ∧ Hid (wr.rowIs W.heap.size 3 n (fun j => .int .i64 (if m ≤ j then rankV f n j else 0))) ∧ Hid (Below W.heap.size W wr)) (fun vi _ => ((intOf vi) + 1).toNat)
  case atStart =>
    refine ⟨n, Nat.le_refl _, rfl, ?_, ?_⟩
    · show World.rowIs _ _ _ _ _
      exact (World.rowIs_made W (.int .i64 0) n 3).congr (fun i hi => by rw [if_neg (by omega)])
    · show Below _ _ _
      go_grown
  case round =>
    obtain ⟨m, hm, rfl, HC, HB⟩ := hrel
    rcases m with _ | q
    · go_wp2
      go_ret
      exact ⟨rfl, HC.out.congr (fun i hi => by rw [if_pos (Nat.zero_le _)]), HB.out⟩
    have hq : ((q + 1 : Nat) : Int) - 1 = (q : Int) := by omega
    rw [hq]
    clear hq
    have hqn : q < n := by omega
    have hqI : (q : Int) < (n : Int) := by omega
    have hq0 : (0 : Int) ≤ (q : Int) := by omega
    obtain ⟨b, off, ca0, cc0, ha, hb, c0, c1, _⟩ := pat_at h.out HB.out hqn
    subst ha
    clear c0
    have hlt := HC.out.lt
    have ht := task_out (hg.out q hqn)
    obtain ⟨pc, hpc⟩ : ∃ pc, Hid ((f q).c = pc) := ⟨_, rfl⟩
    rw [hpc.out] at c1 ht
    obtain ⟨t0, t1, _⟩ := ht
    have hbw : b < wr.heap.size := by have := HB.out.size; omega
    go_wp2
    go_loop [5, 6] (fun vv vk => ∃ (k : Nat) (v : Int), q < k ∧ k ≤ n ∧ vk = .int .i64 (k : Int) ∧ vv = .int .i64 v ∧ Hid (Most f (rankV f n) q (q + 1) k v) ∧ 0 ≤ v ∧ v ≤ 240) (fun _ vk => n - (intOf vk).toNat)
    case atStart => exact ⟨q + 1, 0, by omega, by omega, by go_num, rfl, most_nil _ _ _ _, by omega, by omega⟩
    case round =>
      obtain ⟨k, v, hqk, hkn, rfl, rfl, HM, v0, v1⟩ := hrel
      by_cases hkl : k < n
      rotate_left
      · have HR : Hid (pc + v = rankV f n q) := by
          show _ = _
          rw [← hpc.out]
          exact rank_most hg.out hqn (by have e : k = n := by omega
                                         rw [← e]; rw [← e] at HM; exact HM.out)
        have hkl' : n ≤ k := by omega
        have hklI : (n : Int) ≤ (k : Int) := by omega
        clear hkl
        have d0 := HC.out.cell hqn
        have d1 := HC.out.frozen q
        go_wp2
        go_roundw
        case rel =>
          refine ⟨q, by omega, rfl, ?_, HB.out.setCell (Nat.le_refl _) _⟩
          show World.rowIs _ _ _ _ _
          refine World.rowIs.congr (HC.out.set q _) ?_
          intro j hj
          by_cases e : j = q
          · subst e; rw [if_pos rfl, if_pos (Nat.le_refl _), HR.out]
          · rw [if_neg e]
            by_cases e2 : q + 1 ≤ j
            · rw [if_pos e2, if_pos (by omega)]
            · rw [if_neg e2, if_neg (by omega)]
        case measure => simp [intOf]
      have hklI : (k : Int) < (n : Int) := by omega
      obtain ⟨b', off', ca, cc, ha, hb', e0, e1, hI⟩ := pat_at h.out HB.out hkl
      obtain ⟨rfl, rfl⟩ : b = b' ∧ off = off' := by simpa using ha
      have HI : Hid (Ints wr ca (f k).zs) := hI
      have HL := hlen.out k hkl
      clear hI e1 ha
      have dk := HC.out.cell hkl
      rw [if_pos (show q + 1 ≤ k by omega)] at dk
      have hbk := hbd.out k
      cases hh : hasB (f k).zs (q : Int)
      · have HN : Hid (Most f (rankV f n) q (q + 1) (k + 1) v) := most_up_no HM.out (fun e => by rw [hh] at e; cases e)
        clear dk hbk
        obtain ⟨zs, hzs⟩ : ∃ zs, Hid ((f k).zs = zs) := ⟨_, rfl⟩
        rw [hzs.out] at hh HI HL e0
        go_wp2_with (go_at_call 39; refine (has_quiet _ rfl HL HI.out hh).mono ?_; rintro e w' ⟨rfl, hw⟩; rw [hw]; clear hw w')
        go_round
        case rel => exact ⟨k + 1, v, by omega, by omega, by go_num, rfl, HN, v0, v1⟩
        case measure => simp [intOf]; omega
      · have HNO : Hid (rankV f n k ≤ v → Most f (rankV f n) q (q + 1) (k + 1) v) := fun e => most_up_no HM.out (fun _ => e)
        have HNY : Hid (v < rankV f n k → Most f (rankV f n) q (q + 1) (k + 1) (rankV f n k)) := fun e => most_up_yes HM.out (by omega) hh e
        obtain ⟨zs, hzs⟩ : ∃ zs, Hid ((f k).zs = zs) := ⟨_, rfl⟩
        rw [hzs.out] at hh HI HL e0
        obtain ⟨rk, hrk⟩ : ∃ rk, Hid (rankV f n k = rk) := ⟨_, rfl⟩
        rw [hrk.out] at dk hbk HNO HNY
        obtain ⟨hb0, hb1⟩ := hbk
        by_cases hv : v < rk
        · have HN := HNY.out hv
          have HN2 : Hid (Most f (rankV f n) q (q + 1) (k + 1) rk) := HN
          clear HN
          go_wp2_with (go_at_call 39; refine (has_quiet _ rfl HL HI.out hh).mono ?_; rintro e w' ⟨rfl, hw⟩; rw [hw]; clear hw w')
          go_round
          case rel => exact ⟨k + 1, rk, by omega, by omega, by go_num, rfl, HN2, hb0, hb1⟩
          case measure => simp [intOf]; omega
        · have hv' : rk ≤ v := by omega
          have HN := HNO.out hv'
          have HN2 : Hid (Most f (rankV f n) q (q + 1) (k + 1) v) := HN
          clear HN hv
          go_wp2_with (go_at_call 39; refine (has_quiet _ rfl HL HI.out hh).mono ?_; rintro e w' ⟨rfl, hw⟩; rw [hw]; clear hw w')
          go_round
          case rel => exact ⟨k + 1, v, by omega, by omega, by go_num, rfl, HN2, v0, v1⟩
          case measure => simp [intOf]; omega
end Go.Proofs.Ytfgfhmfdkglhoaa.walks
