/-
  slices.Repeat of a list of one cell that is free: a list that has it so many times.
-/
import Derived.Test.YtokaibpkajloeaaProg
import Derived.Test.YtokaibpkajloeaaInts
import Derived.Test.YtokaibpkajloeaaDeep
import Derived.Test.YtokaibpkajloeaaDeepRow
import Derived.Test.YtokaibpkajloeaaCopyWide
import Derived.WalkKit
import Derived.WalkSpells
import Derived.Below
import Derived.Handy
import Derived.Deep.OwnRows
import Derived.Laws.MakeOwn
import Derived.Laws.CopyOwn
import Derived.Deep.RegionLaw
import Derived.Maps.AppendAt
namespace Go.Proofs.Ytokaibpkajloeaa.walks
open Go.RowKit Go.Proofs.Ytokaibpkajloeaa.ints Go.Proofs.Ytokaibpkajloeaa.deep
set_option linter.unusedVariables false
set_option maxRecDepth 100000

theorem mul64_one (c : Nat) (hc : c ≤ 12) (W : World) : Calls Try.prog 89 #[.int .u64 1, .int .u64 (c : Int)] W fun e W' => e = .returned (.tuple #[.int .u64 0, .int .u64 (c : Int)]) ∧ W' = W := by
  rcases (show c = 0 ∨ c = 1 ∨ c = 2 ∨ c = 3 ∨ c = 4 ∨ c = 5 ∨ c = 6 ∨ c = 7 ∨ c = 8 ∨ c = 9 ∨ c = 10 ∨ c = 11 ∨ c = 12 by omega) with r | r | r | r | r | r | r | r | r | r | r | r | r
  all_goals
    subst r
    go_enter Try.func89, Try.ntmps89
    go_wp2
    go_ret2
    exact ⟨rfl, rfl⟩
theorem mul_one (c : Nat) (hc : c ≤ 12) (W : World) : Calls Try.prog 79 #[.int .u64 1, .int .u64 (c : Int)] W fun e W' => e = .returned (.tuple #[.int .u64 0, .int .u64 (c : Int)]) ∧ W' = W := by
  go_enter Try.func79, Try.ntmps79
  go_wp2_with (go_at_call 89; refine (mul64_one c hc _).mono ?_; rintro e w' ⟨rfl, hw⟩; rw [hw]; clear hw w')
  go_ret2
  exact ⟨rfl, rfl⟩
theorem add_zero (b j : Nat) : (⟨b, 0, none⟩ : Addr).add j = ⟨b, j, none⟩ := by
  rw [show (⟨b, 0, none⟩ : Addr).add j = ⟨b, 0 + j, none⟩ by unfold Addr.add; split <;> simp_all, Nat.zero_add]
/-- A free cell's values; those of a cell that was just made. -/
def freeC (i : Nat) : Value := if i % 3 = 2 then .bool true else .int .i64 (-1)
def zeroC (i : Nat) : Value := if i % 3 = 2 then .bool false else .int .i64 0
/-- c cells, the first m of them free ones. -/
def repC (c m : Nat) : List Value := (List.range (c * 3)).map (fun i => if i < m * 3 then freeC i else zeroC i)
def onlyC (k : Nat) : List Value := (List.range (k * 3)).map freeC
theorem repC_len (c m : Nat) : (repC c m).length = c * 3 := by simp [repC]
theorem onlyC_len (k : Nat) : (onlyC k).length = k * 3 := by simp [onlyC]
theorem repC_at (c m : Nat) {i : Nat} (h : i < c * 3) : (repC c m)[i]? = some (if i < m * 3 then freeC i else zeroC i) := by simp [repC, h]
theorem onlyC_at (k : Nat) {i : Nat} (h : i < k * 3) : (onlyC k)[i]? = some (freeC i) := by simp [onlyC, h]
theorem onlyC_one (k : Nat) : ∀ v ∈ onlyC k, v.oneCell' = true := by
  intro v hv
  obtain ⟨i, _, rfl⟩ := List.mem_map.1 hv
  unfold freeC
  split <;> rfl
theorem freeC_mod {i j : Nat} (h : i % 3 = j % 3) : freeC i = freeC j := by unfold freeC; rw [h]
theorem repC_splice (c m k : Nat) (h : m + k ≤ c) : splice (repC c m) (m * 3) (onlyC k) = repC c (m + k) := by
  unfold splice
  apply List.ext_getElem?
  intro i
  by_cases hi : i < c * 3
  · rw [repC_at c (m + k) hi]
    by_cases h1 : i < m * 3
    · rw [List.getElem?_append_left (by rw [List.length_take, repC_len]; omega), List.getElem?_take, if_pos h1, repC_at c m hi, if_pos h1, if_pos (by omega)]
    · rw [List.getElem?_append_right (by rw [List.length_take, repC_len]; omega), List.length_take, repC_len, Nat.min_eq_left (by omega)]
      by_cases h2 : i < (m + k) * 3
      · rw [List.getElem?_append_left (by rw [onlyC_len]; omega), onlyC_at k (by omega), if_pos h2]
        congr 1
        exact freeC_mod (by omega)
      · rw [List.getElem?_append_right (by rw [onlyC_len]; omega), onlyC_len, List.getElem?_drop, show m * 3 + k * 3 + (i - m * 3 - k * 3) = i by omega, repC_at c m hi, if_neg h1, if_neg h2]
  · have e1 : ∀ l : List Value, l.length ≤ i → l[i]? = none := fun l hl => List.getElem?_eq_none hl
    rw [e1 _ (by simp only [List.length_append, List.length_take, List.length_drop, onlyC_len, repC_len]; omega), e1 _ (by rw [repC_len]; omega)]
theorem made_rep (c : Nat) : (madeCells #[.int .i64 0, .int .i64 0, .bool false] (c * 3)).toList = repC c 0 := by
  apply List.ext_getElem?
  intro i
  by_cases hi : i < c * 3
  · rw [repC_at c 0 hi, if_neg (by omega)]
    unfold madeCells zeroC
    simp only [Array.toList_map, Array.toList_range, List.getElem?_map, List.getElem?_range hi, Option.map_some]
    rcases (show i % 3 = 0 ∨ i % 3 = 1 ∨ i % 3 = 2 by omega) with q | q | q <;> simp [q]
  · rw [List.getElem?_eq_none (by simp [madeCells]; omega), List.getElem?_eq_none (by rw [repC_len]; omega)]
theorem repC_row {w : World} {g c : Nat} (h : w.heap[g]? = some (.cells (repC c c).toArray 78 (0, 0))) : w.rowIs g 78 (c * 3) freeC := by
  refine ⟨_, h, by simp [repC_len], fun i hi => ?_⟩
  rw [List.getElem?_toArray, repC_at c c hi, if_pos hi]
theorem repC_cell {w : World} {g c m : Nat} (h : w.heap[g]? = some (.cells (repC c m).toArray 78 (0, 0))) {i : Nat} (hm : i < m * 3) (hc : m ≤ c) : w.cell? ((⟨g, 0, none⟩ : Addr).add i) = some (freeC i) := by
  rw [show (⟨g, 0, none⟩ : Addr).add i = ⟨g, 0 + i, none⟩ by unfold Addr.add; split <;> simp_all]
  simp [World.cell?, h, repC_at c m (show i < c * 3 by omega), hm]
def RepTo (c : Nat) (W : World) (e : Ending) (W' : World) : Prop := e = .returned (.slice (some ⟨W.heap.size, 0, none⟩) c c) ∧ W'.rowIs W.heap.size 78 (c * 3) freeC ∧ Below W.heap.size W W'
set_option maxHeartbeats 4000000 in
theorem impl_repeatC (b : Nat) (c : Nat) (hc0 : 1 ≤ c) (hc : c ≤ 12) (W : World) (h : Hid (∀ i, i < 3 → W.cell? ⟨b, i, none⟩ = some (freeC i))) (hb : b < W.heap.size) :
    Calls Try.prog 55 #[.slice (some ⟨b, 0, none⟩) 1 1, .int .i64 (c : Int)] W fun e W' => RepTo c W e W' := by
  obtain ⟨i0, hi, hz0, hz1, hz2⟩ := parts_of (P := Try.prog) (e := 78) (z := .agg #[.int .i64 0, .int .i64 0, .bool false]) (a := 3) (b := 24) (by kernel_rfl)
  obtain ⟨M, HM⟩ : ∃ M, Hid (madeCells #[.int .i64 0, .int .i64 0, .bool false] (c * 3) = M) := ⟨_, rfl⟩
  have hmk : ∀ w : World, (Instr.makeSlice 70 (.int .i64 (c : Int)) (.int .i64 (c : Int))).run Try.prog w = .ok (.slice (some ⟨w.heap.size, 0, none⟩) c c) (w.alloc (.cells M 78)) := by
    intro w
    have hr := run_make (P := Try.prog) w 70 78 i0 _ Try.underlying70 hi hz0 .i64 .i64 (c : Int) (c : Int) (by omega) (Int.le_refl _) (by rw [hz2]; omega) (by omega)
    simp only [Int.toNat_natCast] at hr
    rw [hr, hz1, ← HM.out]; rfl
  have hszC : Hid ((Try.prog.info? 78).map (·.size) = some 3) := by show _ = _; rw [hi]; simp [hz1]
  clear hi hz0 hz1 hz2
  have HML : Hid (M.toList = repC c 0) := by show _ = _; rw [← HM.out]; exact made_rep c
  have hcI : (1 : Int) ≤ (c : Int) := by omega
  have hcI2 : (c : Int) ≤ 12 := by omega
  have hd0 : decide ((c : Int) < 0) = false := decide_eq_false (by omega)
  have hn0 : Hid (1 = Nat.min 1 c) := (Nat.min_eq_left hc0).symm
  have HSRC : Hid (∀ j v, (onlyC 1)[j]? = some v → (W.alloc (.cells M 78)).cell? ((⟨b, 0, none⟩ : Addr).add j) = some v) := fun j v hj => by
    have hj0 : j < 1 * 3 := by
      have := (List.getElem?_eq_some_iff.1 hj).1
      rwa [onlyC_len] at this
    rw [onlyC_at 1 hj0] at hj
    cases hj
    rw [add_zero b j]
    exact (((Below.refl W.heap.size W).alloc (Nat.le_refl _) (.cells M 78)).cell (p := ⟨b, j, none⟩) hb).trans (h.out j hj0)
  have HS0 : Hid (splice M.toList 0 (onlyC 1) = repC c 1) := by
    have q := repC_splice c 0 1 (by omega)
    rw [Nat.zero_mul, Nat.zero_add] at q
    show _ = _
    rw [HML.out]; exact q
  go_enter Try.func55, Try.ntmps55
  go_wp2_with (first
    | (go_at_call 79; refine (mul_one c hc _).mono ?_; rintro e w' ⟨rfl, hw⟩; rw [hw]; clear hw w')
    | (refine wpList_copy_wide rfl _ _ _ _ rfl 78 3 Try.underlying70 hszC.out _ _ c c 1 1 rfl rfl W.heap.size 0 M.toList 78 (by rw [Array.toArray_toList]; exact heap_alloc_new W _) (onlyC 1) 1 hn0.out (onlyC_len 1) rfl ⟨b, 0, none⟩ rfl HSRC.out (by rw [HML.out, repC_len, onlyC_len]; omega) (onlyC_one 1) W.heap.size W ((Below.refl _ _).alloc (Nat.le_refl _) _) (Nat.le_refl _) ?_))
  intro w2 HG2 hB2
  have HB2 : Hid (Below W.heap.size W w2) := hB2
  have HR1 : Hid (w2.heap[W.heap.size]? = some (.cells (repC c 1).toArray 78 (0, 0))) := by
    have q := HG2.out
    rw [HS0.out] at q
    exact q
  clear hB2 HG2 HSRC hmk
  go_wp2
  go_loopw [8] (fun vn wr => ∃ m : Nat, 1 ≤ m ∧ m ≤ c ∧ vn = .int .i64 m ∧ Hid (wr.heap[W.heap.size]? = some (.cells (repC c m).toArray 78 (0, 0))) ∧ Hid (Below W.heap.size W wr)) (fun vn _ => c - (intOf vn).toNat)
  case atStart => exact ⟨1, by omega, hc0, rfl, HR1, HB2⟩
  case round =>
    obtain ⟨m, hm1, hmc, rfl, HG, HB⟩ := hrel
    by_cases hlt : m < c
    rotate_left
    · have hE : m = c := by omega
      subst hE
      have HA : Hid (RepTo m W (.returned (.slice (some ⟨W.heap.size, 0, none⟩) m m)) wr) := ⟨rfl, repC_row HG.out, HB.out⟩
      go_wp2
      go_ret
      exact HA.out
    have hltI : (m : Int) < (c : Int) := by omega
    have m0 : (0 : Int) ≤ (m : Int) := by omega
    obtain ⟨k, hk⟩ : ∃ k, k = Nat.min m (c - m) := ⟨_, rfl⟩
    have hkm : k ≤ m ∧ m + k ≤ c ∧ 1 ≤ k := by
      have h1 := Nat.min_le_left m (c - m)
      have h2 := Nat.min_le_right m (c - m)
      have h3 : Nat.min m (c - m) = m ∨ Nat.min m (c - m) = c - m := by
        rcases Nat.le_total m (c - m) with q | q
        · exact Or.inl (Nat.min_eq_left q)
        · exact Or.inr (Nat.min_eq_right q)
      have e : Nat.min m (c - m) = min m (c - m) := rfl
      omega
    have hkH : Hid (k = Nat.min m (c - m)) := hk
    have hk2 : m + k ≤ c := hkm.2.1
    have hk1 : 1 ≤ k := hkm.2.2
    have hkI : (k : Int) ≤ 12 := by omega
    have hkI0 : (0 : Int) ≤ (k : Int) := by omega
    have hmI : (m : Int) ≤ 12 := by omega
    have hwr : IntKind.i64.wrap ((m : Int) + (k : Int)) = (m : Int) + (k : Int) := Go.IntWalk.i64_in _ (by omega)
    clear hk
    have HS : Hid (∀ j v, (onlyC k)[j]? = some v → wr.drew.cell? ((⟨W.heap.size, 0, none⟩ : Addr).add j) = some v) := fun j v hj => by
      have hjk : j < k * 3 := by
        have := (List.getElem?_eq_some_iff.1 hj).1
        rwa [onlyC_len] at this
      rw [onlyC_at k hjk] at hj
      cases hj
      exact repC_cell (w := wr.drew) HG.out (show j < m * 3 by omega) hmc
    have HSP : Hid (splice (repC c m) (m * 3) (onlyC k) = repC c (m + k)) := repC_splice c m k hkm.2.1
    have HCM : Hid (¬ c = m) := by show ¬ _; omega
    have HFIT : Hid (m * 3 + (onlyC k).length ≤ (repC c m).length) := by show _ ≤ _; rw [repC_len, onlyC_len]; omega
    clear hlt
    go_wp2_with fail
    go_region_law (refine step_copy_wide rfl (.tmp 41) (.tmp 44) 70 70 rfl 78 3 Try.underlying70 hszC.out (some ⟨W.heap.size, m * 3, none⟩) (some ⟨W.heap.size, 0, none⟩) (c - m) (c - m) m c (by simp [Act.eval, Act.put, HCM.out]) (by simp [Act.eval, Act.put]) W.heap.size (m * 3) (repC c m) 78 HG.out (onlyC k) k hkH.out (onlyC_len k) rfl ⟨W.heap.size, 0, none⟩ rfl HS.out HFIT.out (onlyC_one k) W.heap.size W HB.out.drew (Nat.le_refl _) ?_; intro w3 HG3 hB3)
    rw [HSP.out] at HG3
    have HB3 : Hid (Below W.heap.size W w3) := hB3
    clear hB3 HSP HS hkH
    clear hkm
    go_wp2
    go_roundw
    case rel =>
      refine ⟨m + k, by omega, by omega, by omega, ?_⟩
      exact HG3
    case measure => simp [intOf]; omega
end Go.Proofs.Ytokaibpkajloeaa.walks
