/-
  What the program's sweep and finish do.
-/
import Derived.Test.YtokaibpkajloeaaProg
import Derived.Test.YtokaibpkajloeaaInts
import Derived.Test.YtokaibpkajloeaaDeep
import Derived.Test.YtokaibpkajloeaaDeepRow
import Derived.Test.YtokaibpkajloeaaMarkMath
import Derived.Test.YtokaibpkajloeaaStepMath15
import Derived.Test.YtokaibpkajloeaaMarkRun
import Derived.Test.YtokaibpkajloeaaNewRun
import Derived.Test.YtokaibpkajloeaaMarkAsk
import Derived.Test.YtokaibpkajloeaaImplStep15
import Derived.WalkKit
import Derived.WalkSpells
import Derived.Below
import Derived.Handy
import Derived.OwnWalk
import Derived.Deep.OwnRows
import Derived.Deep.RegionHeld3
import Derived.Deep.DeepCutAuto
namespace Go.Proofs.Ytokaibpkajloeaa.walks
open Go.RowKit Go.Proofs.Ytokaibpkajloeaa.math Go.Proofs.Ytokaibpkajloeaa.ints Go.Proofs.Ytokaibpkajloeaa.deep
set_option linter.unusedVariables false
set_option linter.unusedSimpArgs false
set_option maxRecDepth 100000

theorem far_cp {w : World} {g b i : Nat} {v : Value} (h : w.cell? ⟨b, i, none⟩ = some v) (hne : b ≠ g) (i0 i1 i2 : Nat) (u0 u1 u2 : Value) : (((w.setCell ⟨g, i0, none⟩ u0).setCell ⟨g, i1, none⟩ u1).setCell ⟨g, i2, none⟩ u2).cell? ⟨b, i, none⟩ = some v := by
  rw [World.cell?_setCell_other _ _ _ _ (by simp <;> omega), World.cell?_setCell_other _ _ _ _ (by simp <;> omega), World.cell?_setCell_other _ _ _ _ (by simp <;> omega)]
  exact h
theorem sweep_skip {w : World} {B rp cp op n c1 c2 m : Nat} {s : Mst} (h : RunM w B rp cp op n c1 c2 (sweepTo s m)) (hy : s.co m ≠ 0) : RunM w B rp cp op n c1 c2 (sweepTo s (m + 1)) := by
  have e : ∀ k, (k < m ∧ s.co k = 0) ↔ (k < m + 1 ∧ s.co k = 0) := fun k => by
    constructor
    · rintro ⟨a, b⟩; exact ⟨by omega, b⟩
    · rintro ⟨a, b⟩
      by_cases q : k = m
      · subst q; exact absurd b hy
      · exact ⟨by omega, b⟩
  refine h.congr (fun k _ => ⟨fun j _ => ?_, ?_, rfl⟩) (fun _ _ => rfl) rfl
  · unfold sweepTo
    dsimp only
    by_cases q : k < m ∧ s.co k = 0
    · rw [if_pos q, if_pos ((e k).1 q)]
    · rw [if_neg q, if_neg (fun r => q ((e k).2 r))]
  · unfold sweepTo
    dsimp only
    by_cases q : k < m ∧ s.co k = 0
    · rw [if_pos q, if_pos ((e k).1 q)]
    · rw [if_neg q, if_neg (fun r => q ((e k).2 r))]
theorem sweep_free {w : World} {B rp cp op n c1 c2 m : Nat} {s : Mst} (h : RunM w B rp cp op n c1 c2 (sweepTo s m)) (hm : m < n) (hy : s.co m = 0) : RunM (((w.setCell ⟨cp, m * 3, none⟩ (.int .i64 (-1))).setCell ⟨cp, m * 3 + 1, none⟩ (.int .i64 (-1))).setCell ⟨cp, m * 3 + 2, none⟩ (.bool true)) B rp cp op n c1 c2 (sweepTo s (m + 1)) := by
  have q := ((h.setLk (k := m) (j := 0) hm (by decide) (-1)).setLk (k := m) (j := 1) hm (by decide) (-1)).setFr hm true
  refine q.congr (fun k _ => ⟨fun j hj => ?_, ?_, rfl⟩) (fun _ _ => rfl) rfl
  · unfold Mst.setFr Mst.setLk sweepTo upN
    dsimp only
    by_cases e : k = m
    · subst e
      rcases (show j = 0 ∨ j = 1 by omega) with r | r
      · subst r; simp [hy]
      · subst r; simp [hy]
    · rw [if_neg e, if_neg e]
      by_cases r : k < m ∧ s.co k = 0
      · rw [if_pos r, if_pos ⟨by omega, r.2⟩]
      · rw [if_neg r, if_neg (fun w => r ⟨by omega, w.2⟩)]
  · unfold Mst.setFr Mst.setLk sweepTo upN
    dsimp only
    by_cases e : k = m
    · subst e
      simp [hy]
    · rw [if_neg e]
      by_cases r : k < m ∧ s.co k = 0
      · rw [if_pos r, if_pos ⟨by omega, r.2⟩]
      · rw [if_neg r, if_neg (fun w => r ⟨by omega, w.2⟩)]
theorem impl_sweep_no (B rp cp op n c1 c2 : Nat) (s : Mst) (W : World) (hn : n ≤ 10) (h : Hid (RunM W B rp cp op n c1 c2 s)) (hg : s.on = false ∨ 0 ≤ greyI s n) :
    Calls Try.prog 75 #[.pointer (some ⟨rp, 0, none⟩)] W fun e W' => e = .returned (.bool false) ∧ W' = W := by
  have hc := impl_containsg B rp cp op n c1 c2 s W hn h
  have r1 : W.cell? ⟨rp, 1, none⟩ = some (.slice (some ⟨op, 0, none⟩) n c2) := h.out.row.cell (i := 1) (by decide)
  have r4 : W.cell? ⟨rp, 4, none⟩ = some (.bool s.on) := h.out.row.cell (i := 4) (by decide)
  have rl := h.out.row.lt
  cases hon : s.on
  · rw [hon] at r4
    clear hc hg hon
    go_enter Try.func75, Try.ntmps75
    go_wp2
    go_ret
    exact ⟨rfl, rfl⟩
  · have hg2 : 0 ≤ greyI s n := hg.resolve_left (by rw [hon]; simp)
    rw [hon] at r4
    rw [decide_eq_true (show greyI s n ≥ 0 from hg2)] at hc
    clear hg hg2 hon
    go_enter Try.func75, Try.ntmps75
    go_wp2_with (go_at_call 86; refine hc.mono ?_; rintro e w' ⟨rfl, hw⟩; rw [hw]; clear hw w')
    go_ret
    exact ⟨rfl, rfl⟩
set_option maxHeartbeats 8000000 in
theorem impl_sweep_yes (B rp cp op n c1 c2 : Nat) (s : Mst) (W : World) (hn0 : 0 < n) (hn : n ≤ 10) (h : Hid (RunM W B rp cp op n c1 c2 s)) (hon : s.on = true) (hg : greyI s n = -1) :
    Calls Try.prog 75 #[.pointer (some ⟨rp, 0, none⟩)] W fun e W' => DidTo B rp cp op n c1 c2 (sweepS s n) true W e W' := by
  have hc := impl_containsg B rp cp op n c1 c2 s W hn h
  rw [hg, show decide ((-1 : Int) ≥ 0) = false by decide] at hc
  have r1 : W.cell? ⟨rp, 1, none⟩ = some (.slice (some ⟨op, 0, none⟩) n c2) := h.out.row.cell (i := 1) (by decide)
  have r4 : W.cell? ⟨rp, 4, none⟩ = some (.bool s.on) := h.out.row.cell (i := 4) (by decide)
  rw [hon] at r4
  have rl := h.out.row.lt
  have H0 : Hid (RunM W B rp cp op n c1 c2 (sweepTo s 0)) := h.out.congr (fun k _ => ⟨fun j _ => by unfold sweepTo; dsimp only; rw [if_neg (by omega)], by unfold sweepTo; dsimp only; rw [if_neg (by omega)], rfl⟩) (fun _ _ => rfl) rfl
  have HCO : Hid (∀ m, (sweepTo s m).co = s.co ∧ (sweepTo s m).on = s.on) := fun m => ⟨rfl, rfl⟩
  have HON : Hid (s.on = true) := hon
  have hne := impl_noends
  clear hon hg
  go_enter Try.func75, Try.ntmps75
  go_wp2_with (go_at_call 86; refine hc.mono ?_; rintro e w' ⟨rfl, hw⟩; rw [hw]; clear hw w' hc)
  clear r1 r4 rl
  go_loopw [22] (fun vi wr => ∃ m : Nat, m ≤ n ∧ vi = .int .i64 (m : Int) ∧ Hid (RunM wr B rp cp op n c1 c2 (sweepTo s m)) ∧ Hid (OnlyF W wr (ofM rp cp op))) (fun vi _ => n - (intOf vi).toNat)
  case atStart => exact ⟨0, Nat.zero_le _, rfl, H0, OnlyF.refl _ _⟩
  case round =>
    obtain ⟨m, hm, rfl, HR, HO⟩ := hrel
    by_cases hlt : m < n
    rotate_left
    · have u1 : wr.cell? ⟨rp, 1, none⟩ = some (.slice (some ⟨op, 0, none⟩) n c2) := HR.out.row.cell (i := 1) (by decide)
      have ul := HR.out.row.lt
      obtain ⟨w2, hw2⟩ : ∃ w2, Hid (wr.setCells op 0 (List.replicate n (.int .i64 0)) = w2) := ⟨_, rfl⟩
      have R2 : Hid (RunM w2 B rp cp op n c1 c2 ⟨(sweepTo s m).lk, (sweepTo s m).fr, fun k => if k < n then 0 else s.co k, s.rt, s.on⟩) := by show RunM _ _ _ _ _ _ _ _ _; rw [← hw2.out]; exact HR.out.clear
      have O2 : Hid (OnlyF W w2 (ofM rp cp op)) := by show OnlyF _ _ _; rw [← hw2.out]; exact only_clear HO.out (Or.inr (Or.inr rfl)) _
      have HA : Hid (DidTo B rp cp op n c1 c2 (sweepS s n) true W (.returned (.bool true)) (w2.setCell ⟨rp, 4, none⟩ (.bool false))) := by
        have e : m = n := by omega
        subst e
        exact ⟨rfl, R2.out.setMk false, only_set O2.out (Or.inl rfl) _⟩
      have v4 : w2.cell? ⟨rp, 4, none⟩ = some (.bool s.on) := R2.out.row.cell (i := 4) (by decide)
      have vf := R2.out.row.frozen 4
      have vl := R2.out.row.lt
      go_wp2_with (refine wpList_clear15 rfl _ rfl op n c2 _ rfl hn0 HR.out.cols ?_; rw [hw2.out])
      go_ret
      exact HA.out
    have hltI : (m : Int) < (n : Int) := by omega
    have m0 : (0 : Int) ≤ (m : Int) := by omega
    have c0 := HR.out.color hlt
    rw [(HCO.out m).1] at c0
    have ol := HR.out.cols.1
    obtain ⟨y, Hy⟩ : ∃ y, Hid (s.co m = y) := ⟨_, rfl⟩
    rw [Hy.out] at c0
    by_cases hy : y = 0
    rotate_left
    · have HR2 : Hid (RunM wr B rp cp op n c1 c2 (sweepTo s (m + 1))) := sweep_skip HR.out (by rw [Hy.out]; exact hy)
      have d0 : (y == 0) = false := by simpa using hy
      have d1 : decide (y = 0) = false := decide_eq_false hy
      go_wp2
      go_roundw
      case rel => exact ⟨m + 1, by omega, by go_num, HR2, HO⟩
      case measure => simp [intOf]; omega
    subst hy
    have BD : Hid (Below wr.heap.size wr (wr.alloc (.cells #[.int .i64 (-1), .int .i64 (-1)] 72)).drew) := ((Below.refl wr.heap.size wr).alloc (Nat.le_refl _) _).drew
    have RD : Hid (RunM (wr.alloc (.cells #[.int .i64 (-1), .int .i64 (-1)] 72)).drew B rp cp op n c1 c2 (sweepTo s m)) := HR.out.kept BD.out
    have RS := sweep_free HR.out hlt Hy.out
    have HR2 : Hid (RunM ((((wr.setCell ⟨cp, m * 3, none⟩ (.int .i64 (-1))).setCell ⟨cp, m * 3 + 1, none⟩ (.int .i64 (-1))).setCell ⟨cp, m * 3 + 2, none⟩ (.bool true)).alloc (.cells #[.int .i64 (-1), .int .i64 (-1)] 72)).drew B rp cp op n c1 c2 (sweepTo s (m + 1))) := RS.kept (((Below.refl _ _).alloc (Nat.le_refl _) _).drew)
    have HO2 : Hid (OnlyF W ((((wr.setCell ⟨cp, m * 3, none⟩ (.int .i64 (-1))).setCell ⟨cp, m * 3 + 1, none⟩ (.int .i64 (-1))).setCell ⟨cp, m * 3 + 2, none⟩ (.bool true)).alloc (.cells #[.int .i64 (-1), .int .i64 (-1)] 72)).drew (ofM rp cp op)) := only_later (only_set (only_set (only_set HO.out (Or.inr (Or.inl rfl)) _) (Or.inr (Or.inl rfl)) _) (Or.inr (Or.inl rfl)) _) (((Below.refl _ _).alloc (Nat.le_refl _) _).drew)
    have q0 : wr.drew.cell? ⟨rp, 0, none⟩ = some (.slice (some ⟨cp, 0, none⟩) n c1) := HR.out.row.cell (i := 0) (by decide)
    have q1 : (wr.alloc (.cells #[.int .i64 (-1), .int .i64 (-1)] 72)).drew.cell? ⟨rp, 0, none⟩ = some (.slice (some ⟨cp, 0, none⟩) n c1) := RD.out.row.cell (i := 0) (by decide)
    have q2 : ((((wr.setCell ⟨cp, m * 3, none⟩ (.int .i64 (-1))).setCell ⟨cp, m * 3 + 1, none⟩ (.int .i64 (-1))).setCell ⟨cp, m * 3 + 2, none⟩ (.bool true)).alloc (.cells #[.int .i64 (-1), .int .i64 (-1)] 72)).drew.cell? ⟨rp, 0, none⟩ = some (.slice (some ⟨cp, 0, none⟩) n c1) := HR2.out.row.cell (i := 0) (by decide)
    clear RS
    obtain ⟨a0, a1, a2⟩ := HR.out.cell hlt
    have f0 := (HR.out.cells.2 (m * 3) (by omega)).2
    have f1 := (HR.out.cells.2 (m * 3 + 1) (by omega)).2
    have f2 := (HR.out.cells.2 (m * 3 + 2) (by omega)).2
    have cl := HR.out.cells.1
    have rl := HR.out.row.lt
    generalize (sweepTo s m).lk m 0 = z0 at a0
    generalize (sweepTo s m).lk m 1 = z1 at a1
    generalize (sweepTo s m).fr m = z2 at a2
    go_wp2_with fail
    go_region_held3 (fun w' => w'.cell? ⟨rp, 0, none⟩ = some (.slice (some ⟨cp, 0, none⟩) n c1)) (first | with_reducible exact q0 | with_reducible exact q1 | with_reducible exact q2 | go_keep) (first
      | (go_at_call 56; refine (hne _).mono ?_; rintro e w' ⟨rfl, hw⟩; rw [hw]; clear hw w'))
    all_goals
      go_wp2
      go_roundw
      case rel => exact ⟨m + 1, by omega, by go_num, HR2, HO2⟩
      case measure => simp [intOf]; omega
end Go.Proofs.Ytokaibpkajloeaa.walks
