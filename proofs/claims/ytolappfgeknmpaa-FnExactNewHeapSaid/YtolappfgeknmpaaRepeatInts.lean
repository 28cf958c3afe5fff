/-
  slices.Repeat of a list of one number: a list that has it so many times.
-/
import Derived.Test.YtolappfgeknmpaaProg
import Derived.Test.YtolappfgeknmpaaInts
import Derived.Test.YtolappfgeknmpaaDeep
import Derived.Test.YtolappfgeknmpaaDeepRow
import Derived.WalkKit
import Derived.WalkSpells
import Derived.Below
import Derived.Handy
import Derived.Deep.OwnRows
import Derived.Laws.MakeOwn
import Derived.Laws.CopyOwn
import Derived.Deep.RegionLaw
import Derived.Maps.AppendAt
namespace Go.Proofs.Ytolappfgeknmpaa.walks
open Go.RowKit Go.Proofs.Ytolappfgeknmpaa.ints Go.Proofs.Ytolappfgeknmpaa.deep
set_option linter.unusedVariables false
set_option maxRecDepth 100000

theorem mul64_one (c : Nat) (hc : c ≤ 12) (W : World) : Calls Try.prog 19 #[.int .u64 1, .int .u64 (c : Int)] W fun e W' => e = .returned (.tuple #[.int .u64 0, .int .u64 (c : Int)]) ∧ W' = W := by
  rcases (show c = 0 ∨ c = 1 ∨ c = 2 ∨ c = 3 ∨ c = 4 ∨ c = 5 ∨ c = 6 ∨ c = 7 ∨ c = 8 ∨ c = 9 ∨ c = 10 ∨ c = 11 ∨ c = 12 by omega) with r | r | r | r | r | r | r | r | r | r | r | r | r
  all_goals
    subst r
    go_enter Try.func19, Try.ntmps19
    go_wp2
    go_ret2
    exact ⟨rfl, rfl⟩
theorem mul_one (c : Nat) (hc : c ≤ 12) (W : World) : Calls Try.prog 16 #[.int .u64 1, .int .u64 (c : Int)] W fun e W' => e = .returned (.tuple #[.int .u64 0, .int .u64 (c : Int)]) ∧ W' = W := by
  go_enter Try.func16, Try.ntmps16
  go_wp2_with (go_at_call 19; refine (mul64_one c hc _).mono ?_; rintro e w' ⟨rfl, hw⟩; rw [hw]; clear hw w')
  go_ret2
  exact ⟨rfl, rfl⟩
/-- A row of c numbers of which the first m are x, the others 0. -/
def repL (x : Int) (c m : Nat) : List Value := (List.range c).map (fun i => .int .i64 (if i < m then x else 0))
theorem repL_len (x : Int) (c m : Nat) : (repL x c m).length = c := by simp [repL]
theorem repL_at (x : Int) (c m : Nat) {i : Nat} (h : i < c) : (repL x c m)[i]? = some (.int .i64 (if i < m then x else 0)) := by simp [repL, h]
theorem rep_splice (x : Int) (c m k : Nat) (h : m + k ≤ c) : splice (repL x c m) m (List.replicate k (Value.int .i64 x)) = repL x c (m + k) := by
  unfold splice
  apply List.ext_getElem?
  intro i
  by_cases hi : i < c
  · rw [repL_at x c (m + k) hi]
    by_cases h1 : i < m
    · rw [List.getElem?_append_left (by rw [List.length_take, repL_len]; omega), List.getElem?_take, if_pos h1, repL_at x c m hi, if_pos h1, if_pos (by omega)]
    · rw [List.getElem?_append_right (by rw [List.length_take, repL_len]; omega), List.length_take, repL_len, Nat.min_eq_left (by omega)]
      by_cases h2 : i < m + k
      · rw [List.getElem?_append_left (by rw [List.length_replicate]; omega), List.getElem?_replicate, if_pos (by omega), if_pos h2]
      · rw [List.getElem?_append_right (by rw [List.length_replicate]; omega), List.length_replicate, List.getElem?_drop, show m + k + (i - m - k) = i by omega, repL_at x c m hi, if_neg h1, if_neg h2]
  · have e1 : ∀ l : List Value, l.length ≤ i → l[i]? = none := fun l hl => List.getElem?_eq_none hl
    rw [e1 _ (by simp only [List.length_append, List.length_take, List.length_drop, List.length_replicate, repL_len]; omega), e1 _ (by rw [repL_len]; omega)]
theorem rep_zero (x : Int) (c : Nat) : List.replicate c (Value.int .i64 0) = repL x c 0 := by
  apply List.ext_getElem?
  intro i
  by_cases hi : i < c
  · rw [repL_at x c 0 hi, List.getElem?_replicate, if_pos hi, if_neg (by omega)]
  · rw [List.getElem?_eq_none (by simp; omega), List.getElem?_eq_none (by rw [repL_len]; omega)]
theorem rep_row {w : World} {g c : Nat} {x : Int} (h : w.heap[g]? = some (.cells (repL x c c).toArray 3 (0, 0))) : w.rowIs g 3 c (fun _ => .int .i64 x) := by
  refine ⟨_, h, by simp [repL_len], fun i hi => ?_⟩
  rw [List.getElem?_toArray, repL_at x c c hi, if_pos hi]
theorem rep_cell {w : World} {g c m : Nat} {x : Int} (h : w.heap[g]? = some (.cells (repL x c m).toArray 3 (0, 0))) {i : Nat} (hm : i < m) (hc : m ≤ c) : w.cell? ((⟨g, 0, none⟩ : Addr).add i) = some (.int .i64 x) := by
  rw [show (⟨g, 0, none⟩ : Addr).add i = ⟨g, 0 + i, none⟩ by unfold Addr.add; split <;> simp_all]
  simp [World.cell?, h, repL_at x c m (show i < c by omega), hm]
def RepTo (x : Int) (c : Nat) (W : World) (e : Ending) (W' : World) : Prop := e = .returned (.slice (some ⟨W.heap.size, 0, none⟩) c c) ∧ W'.rowIs W.heap.size 3 c (fun _ => .int .i64 x) ∧ Below W.heap.size W W'
set_option maxHeartbeats 4000000 in
theorem impl_repeat (b cap : Nat) (x : Int) (c : Nat) (hc0 : 1 ≤ c) (hc : c ≤ 12) (W : World) (hcap : 1 ≤ cap) (h : Hid (W.cell? ⟨b, 0, none⟩ = some (.int .i64 x))) (hb : b < W.heap.size) :
    Calls Try.prog 9 #[.slice (some ⟨b, 0, none⟩) 1 cap, .int .i64 (c : Int)] W fun e W' => RepTo x c W e W' := by
  obtain ⟨i0, hi, hz0, hz1, hz2⟩ := parts_of (P := Try.prog) (e := 3) (z := .int .i64 0) (a := 1) (b := 8) (by kernel_rfl)
  obtain ⟨M, HM⟩ : ∃ M, Hid (madeCells #[.int .i64 0] c = M) := ⟨_, rfl⟩
  have hmk : ∀ w : World, (Instr.makeSlice 23 (.int .i64 (c : Int)) (.int .i64 (c : Int))).run Try.prog w = .ok (.slice (some ⟨w.heap.size, 0, none⟩) c c) (w.alloc (.cells M 3)) := by
    intro w
    have hr := run_make (P := Try.prog) w 23 3 i0 _ Try.underlying23 hi hz0 .i64 .i64 (c : Int) (c : Int) (by omega) (Int.le_refl _) (by rw [hz2]; omega) (by omega)
    simp only [Int.toNat_natCast] at hr
    rw [hr, hz1, ← HM.out, Nat.mul_one]; rfl
  clear hi hz0 hz1 hz2
  have HML : Hid (M.toList = repL x c 0) := by show _ = _; rw [← HM.out, ← rep_zero]; exact toList_madeCells_one _ _
  have hcI : (1 : Int) ≤ (c : Int) := by omega
  have hcI2 : (c : Int) ≤ 12 := by omega
  have hd0 : decide ((c : Int) < 0) = false := decide_eq_false (by omega)
  have hn0 : [Value.int .i64 x].length = Nat.min 1 c := (Nat.min_eq_left hc0).symm
  have HSRC : Hid (∀ j v, [Value.int .i64 x][j]? = some v → (W.alloc (.cells M 3)).cell? ((⟨b, 0, none⟩ : Addr).add j) = some v) := fun j v hj => by
    have hj0 : j = 0 := by
      have := (List.getElem?_eq_some_iff.1 hj).1
      simp at this; omega
    subst hj0
    simp only [List.getElem?_cons_zero, Option.some.injEq] at hj
    subst hj
    show (W.alloc (.cells M 3)).cell? ⟨b, 0, none⟩ = _
    exact (((Below.refl W.heap.size W).alloc (Nat.le_refl _) (.cells M 3)).cell (p := ⟨b, 0, none⟩) hb).trans h.out
  go_enter Try.func9, Try.ntmps9
  go_wp2_with (first
    | (go_at_call 16; refine (mul_one c hc _).mono ?_; rintro e w' ⟨rfl, hw⟩; rw [hw]; clear hw w')
    | (at_builtin; refine wpList_copy_splice rfl _ _ _ _ rfl 3 Try.underlying23 (by kernel_rfl) _ _ c c 1 cap rfl rfl W.heap.size 0 M.toList 3 (by rw [Array.toArray_toList]; exact heap_alloc_new W _) [.int .i64 x] hn0 (fun _ => ⟨rfl, ⟨b, 0, none⟩, rfl, fun j v hj => HSRC.out j v hj⟩) (by rw [HML.out, repL_len]; exact hc0) (by simp [Value.oneCell']) W.heap.size W ((Below.refl _ _).alloc (Nat.le_refl _) _) (Nat.le_refl _) ?_)
    | (refine wpList_copy_splice rfl _ _ _ _ rfl 3 Try.underlying23 (by kernel_rfl) _ _ c c 1 cap rfl rfl W.heap.size 0 M.toList 3 (by rw [Array.toArray_toList]; exact heap_alloc_new W _) [.int .i64 x] hn0 (fun _ => ⟨rfl, ⟨b, 0, none⟩, rfl, fun j v hj => HSRC.out j v hj⟩) (by rw [HML.out, repL_len]; exact hc0) (by simp [Value.oneCell']) W.heap.size W ((Below.refl _ _).alloc (Nat.le_refl _) _) (Nat.le_refl _) ?_))
  intro w2 HG2 hB2
  have HB2 : Hid (Below W.heap.size W w2) := hB2
  have HR1 : Hid (w2.heap[W.heap.size]? = some (.cells (repL x c 1).toArray 3 (0, 0))) := by
    have q := HG2.out
    rw [HML.out, show [Value.int .i64 x] = List.replicate 1 (Value.int .i64 x) from rfl, rep_splice x c 0 1 (by omega)] at q
    exact q
  clear hB2 HG2 HSRC hmk
  go_wp2
  go_loopw [8] (fun vn wr => ∃ m : Nat, 1 ≤ m ∧ m ≤ c ∧ vn = .int .i64 m ∧ Hid (wr.heap[W.heap.size]? = some (.cells (repL x c m).toArray 3 (0, 0))) ∧ Hid (Below W.heap.size W wr)) (fun vn _ => c - (intOf vn).toNat)
  case atStart => exact ⟨1, by omega, hc0, rfl, HR1, HB2⟩
  case round =>
    obtain ⟨m, hm1, hmc, rfl, HG, HB⟩ := hrel
    by_cases hlt : m < c
    rotate_left
    · have hE : m = c := by omega
      subst hE
      have HA : Hid (RepTo x m W (.returned (.slice (some ⟨W.heap.size, 0, none⟩) m m)) wr) := ⟨rfl, rep_row HG.out, HB.out⟩
      go_wp2
      go_ret
      exact HA.out
    have hltI : (m : Int) < (c : Int) := by omega
    have m0 : (0 : Int) ≤ (m : Int) := by omega
    obtain ⟨k, hk⟩ : ∃ k, k = Nat.min m (c - m) := ⟨_, rfl⟩
    have hkm : k ≤ m ∧ m + k ≤ c ∧ 1 ≤ k := by
      have h1 := Nat.min_le_left m (c - m)
      have h2 := Nat.min_le_right m (c - m)
      have h3 : Nat.min m (c - m) = m ∨ Nat.min m (c - m) = c - m := by
        rcases Nat.le_total m (c - m) with q | q
        · exact Or.inl (Nat.min_eq_left q)
        · exact Or.inr (Nat.min_eq_right q)
      have e : Nat.min m (c - m) = min m (c - m) := rfl
      omega
    have hkl : Hid ((List.replicate k (Value.int .i64 x)).length = Nat.min m (c - m)) := by show _ = _; rw [List.length_replicate]; exact hk
    have hk2 : m + k ≤ c := hkm.2.1
    have hk1 : 1 ≤ k := hkm.2.2
    have hkI : (k : Int) ≤ 12 := by omega
    have hkI0 : (0 : Int) ≤ (k : Int) := by omega
    have hmI : (m : Int) ≤ 12 := by omega
    have hwr : IntKind.i64.wrap ((m : Int) + (k : Int)) = (m : Int) + (k : Int) := Go.IntWalk.i64_in _ (by omega)
    clear hk
    have HS : Hid (∀ j v, (List.replicate k (Value.int .i64 x))[j]? = some v → wr.drew.cell? ((⟨W.heap.size, 0, none⟩ : Addr).add j) = some v) := fun j v hj => by
      have hjk : j < k := by
        have := (List.getElem?_eq_some_iff.1 hj).1
        simpa using this
      rw [List.getElem?_replicate, if_pos hjk] at hj
      cases hj
      exact rep_cell (w := wr.drew) HG.out (show j < m by omega) hmc
    have HSP : Hid (splice (repL x c m) m (List.replicate k (Value.int .i64 x)) = repL x c (m + k)) := rep_splice x c m k hkm.2.1
    have HCM : Hid (¬ c = m) := by show ¬ _; omega
    clear hlt
    go_wp2_with fail
    go_region_law (refine step_copy_splice rfl (.tmp 41) (.tmp 44) 23 23 rfl 3 Try.underlying23 (by kernel_rfl) (some ⟨W.heap.size, m, none⟩) (some ⟨W.heap.size, 0, none⟩) (c - m) (c - m) m c (by simp [Act.eval, Act.put, HCM.out]) (by simp [Act.eval, Act.put]) W.heap.size m (repL x c m) 3 HG.out (List.replicate k (Value.int .i64 x)) hkl.out (fun _ => ⟨rfl, ⟨W.heap.size, 0, none⟩, rfl, HS.out⟩) (by rw [repL_len, List.length_replicate]; exact hkm.2.1) (by intro u hu; rw [(List.mem_replicate.1 hu).2]; rfl) W.heap.size W HB.out.drew (Nat.le_refl _) ?_; intro w3 HG3 hB3)
    rw [HSP.out] at HG3
    have HB3 : Hid (Below W.heap.size W w3) := hB3
    clear hB3 HSP HS hkl
    clear hkm
    go_wp2
    go_roundw
    case rel =>
      refine ⟨m + k, by omega, by omega, by omega, ?_⟩
      exact HG3
    case measure => simp [intOf]; omega
end Go.Proofs.Ytolappfgeknmpaa.walks
