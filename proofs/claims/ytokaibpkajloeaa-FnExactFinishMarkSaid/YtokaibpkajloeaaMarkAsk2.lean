/-
  What the program asks of a marker at work: hidesNothing, isColoredWell.
-/
import Derived.Test.YtokaibpkajloeaaProg
import Derived.Test.YtokaibpkajloeaaInts
import Derived.Test.YtokaibpkajloeaaDeep
import Derived.Test.YtokaibpkajloeaaDeepRow
import Derived.Test.YtokaibpkajloeaaMarkMath
import Derived.Test.YtokaibpkajloeaaMarkWell
import Derived.Test.YtokaibpkajloeaaMarkRun
import Derived.Test.YtokaibpkajloeaaNewRun
import Derived.Test.YtokaibpkajloeaaMarkAsk
import Derived.WalkKit
import Derived.WalkSpells
import Derived.Below
import Derived.Handy
import Derived.OwnWalk
import Derived.ChangeKeysEq
import Derived.Laws.StructEq
import Derived.Deep.OwnRows
import Derived.Deep.RegionWith
import Derived.Deep.QuietTactic
import Derived.BigQuiet
import Derived.Deep.RegionHeld3
import Derived.Deep.DeepCutAuto
namespace Go.Proofs.Ytokaibpkajloeaa.walks
open Go.RowKit Go.Proofs.Ytokaibpkajloeaa.math Go.Proofs.Ytokaibpkajloeaa.ints Go.Proofs.Ytokaibpkajloeaa.deep
set_option linter.unusedVariables false
set_option linter.unusedSimpArgs false
set_option maxRecDepth 100000

def fstW (s : Mst) (l0 l1 : Int) : Int := if whiteB s l0 = true then 0 else if whiteB s l1 = true then 1 else -1
theorem impl_indexw (B rp cp op n c1 c2 g off : Nat) (s : Mst) (l0 l1 : Int) (W : World) (hn : n ≤ 10) (h : Hid (RunM W B rp cp op n c1 c2 s)) (h0 : l0 = -1 ∨ ∃ k : Nat, l0 = (k : Int) ∧ k < n) (h1 : l1 = -1 ∨ ∃ k : Nat, l1 = (k : Int) ∧ k < n) (d0 : W.cell? ⟨g, off, none⟩ = some (.int .i64 l0)) (d1 : W.cell? ⟨g, off + 1, none⟩ = some (.int .i64 l1)) :
    Calls Try.prog 93 #[.slice (some ⟨g, off, none⟩) 2 2, .func (.func 90) #[.pointer (some ⟨rp, 0, none⟩)] #[]] W fun e W' => e = .returned (.int .i64 (fstW s l0 l1)) ∧ W' = W := by
  have hy0 := impl_white B rp cp op n c1 c2 s l0 W hn h h0
  have hy1 := impl_white B rp cp op n c1 c2 s l1 W hn h h1
  obtain ⟨R, HR⟩ : ∃ R, Hid (fstW s l0 l1 = R) := ⟨_, rfl⟩
  rw [HR.out]
  clear h0 h1
  go_enter Try.func93, Try.ntmps93
  go_wp2
  go_loop [8] (fun vi => ∃ k : Nat, k ≤ 2 ∧ vi = .int .i64 (k : Int) ∧ Hid (0 < k → whiteB s l0 = false) ∧ Hid (1 < k → whiteB s l1 = false)) (fun vi => 2 - (intOf vi).toNat)
  case atStart => exact ⟨0, by omega, rfl, fun q => by omega, fun q => by omega⟩
  case round =>
    obtain ⟨k, hk, rfl, K0, K1⟩ := hrel
    rcases (show k = 0 ∨ k = 1 ∨ k = 2 by omega) with r | r | r
    · subst r
      cases q : whiteB s l0
      · rw [q] at hy0
        have N0 : Hid (0 < 1 → whiteB s l0 = false) := fun _ => q
        have N1 : Hid (1 < 1 → whiteB s l1 = false) := fun r => by omega
        go_wp2_with fail
        refine hy0.mono ?_
        rintro e w' ⟨rfl, hw⟩
        rw [hw]
        clear hw w'
        go_wp2
        go_round
        case rel => exact ⟨1, by omega, by go_num, (by first | exact N0 | exact fun _ => trivial), (by first | exact N1 | exact fun _ => trivial)⟩
        case measure => simp [intOf]
      · rw [q] at hy0
        have HE : Hid (R = 0) := by show _ = _; rw [← HR.out]; unfold fstW; rw [if_pos q]
        go_wp2_with fail
        refine hy0.mono ?_
        rintro e w' ⟨rfl, hw⟩
        rw [hw]
        clear hw w'
        go_wp2
        go_ret
        exact ⟨by rw [HE.out]; rfl, rfl⟩
    · subst r
      have q0 := K0.out (by omega)
      cases q : whiteB s l1
      · rw [q] at hy1
        have N0 : Hid (0 < 2 → whiteB s l0 = false) := fun _ => q0
        have N1 : Hid (1 < 2 → whiteB s l1 = false) := fun _ => q
        go_wp2_with fail
        refine hy1.mono ?_
        rintro e w' ⟨rfl, hw⟩
        rw [hw]
        clear hw w'
        go_wp2
        go_round
        case rel => exact ⟨2, by omega, by go_num, (by first | exact N0 | exact fun _ => trivial), (by first | exact N1 | exact fun _ => trivial)⟩
        case measure => simp [intOf]
      · rw [q] at hy1
        have HE : Hid (R = 1) := by show _ = _; rw [← HR.out]; unfold fstW; rw [if_neg (by rw [q0]; simp), if_pos q]
        go_wp2_with fail
        refine hy1.mono ?_
        rintro e w' ⟨rfl, hw⟩
        rw [hw]
        clear hw w'
        go_wp2
        go_ret
        exact ⟨by rw [HE.out]; rfl, rfl⟩
    · subst r
      have HE : Hid (R = -1) := by show _ = _; rw [← HR.out]; unfold fstW; rw [if_neg (by rw [K0.out (by omega)]; simp), if_neg (by rw [K1.out (by omega)]; simp)]
      go_wp2
      go_ret
      exact ⟨by rw [HE.out]; rfl, rfl⟩
theorem impl_containsw (B rp cp op n c1 c2 g off : Nat) (s : Mst) (l0 l1 : Int) (W : World) (hn : n ≤ 10) (h : Hid (RunM W B rp cp op n c1 c2 s)) (h0 : l0 = -1 ∨ ∃ k : Nat, l0 = (k : Int) ∧ k < n) (h1 : l1 = -1 ∨ ∃ k : Nat, l1 = (k : Int) ∧ k < n) (d0 : W.cell? ⟨g, off, none⟩ = some (.int .i64 l0)) (d1 : W.cell? ⟨g, off + 1, none⟩ = some (.int .i64 l1)) :
    Calls Try.prog 92 #[.slice (some ⟨g, off, none⟩) 2 2, .func (.func 90) #[.pointer (some ⟨rp, 0, none⟩)] #[]] W fun e W' => e = .returned (.bool (whiteB s l0 || whiteB s l1)) ∧ W' = W := by
  have hc := impl_indexw B rp cp op n c1 c2 g off s l0 l1 W hn h h0 h1 d0 d1
  obtain ⟨R, HR⟩ : ∃ R, Hid (fstW s l0 l1 = R) := ⟨_, rfl⟩
  have HB : Hid ((whiteB s l0 || whiteB s l1) = decide (R ≥ 0)) := by
    show _ = _
    rw [← HR.out]
    unfold fstW
    cases whiteB s l0 <;> cases whiteB s l1 <;> rfl
  rw [HR.out] at hc
  rw [HB.out]
  clear h0 h1
  go_enter Try.func92, Try.ntmps92
  go_wp2_with fail
  refine hc.mono ?_
  rintro e w' ⟨rfl, hw⟩
  rw [hw]
  clear hw w' hc
  go_wp2
  go_ret
  exact ⟨rfl, rfl⟩
set_option maxHeartbeats 4000000 in
theorem impl_hides (B rp cp op n c1 c2 : Nat) (s : Mst) (W : World) (hn : n ≤ 10) (h : Hid (RunM W B rp cp op n c1 c2 s)) (hl : Hid (LeadsW s n)) :
    Calls Try.prog 83 #[.pointer (some ⟨rp, 0, none⟩)] W fun e W' => e = .returned (.bool (decide (HidesW s n))) ∧ Below W.heap.size W W' := by
  have HRW : Hid (∀ w, Below W.heap.size W w → RunM w B rp cp op n c1 c2 s) := fun w q => h.out.kept q
  obtain ⟨i0, i1⟩ := lead_in hl.out.1
  have hc0 := impl_containsw B rp cp op n c1 c2 rp 2 s (s.rt 0) (s.rt 1) W hn h i0 i1 (h.out.row.cell (i := 2) (by decide)) (h.out.row.cell (i := 3) (by decide))
  clear i0 i1
  obtain ⟨R, HR⟩ : ∃ R, Hid (decide (HidesW s n) = R) := ⟨_, rfl⟩
  rw [HR.out]
  have HNO : Hid (¬ HidesW s n → R = false) := fun q => by rw [← HR.out]; exact decide_eq_false q
  have HYES : Hid (HidesW s n → R = true) := fun q => by rw [← HR.out]; exact decide_eq_true q
  clear HR
  have rl := h.out.row.lt
  cases hb0 : (whiteB s (s.rt 0) || whiteB s (s.rt 1))
  rotate_left
  · have HE : Hid (R = false) := HNO.out (fun q => by rw [q.1] at hb0; cases hb0)
    rw [hb0] at hc0
    clear hb0
    go_enter Try.func83, Try.ntmps83
    go_wp2_with fail
    refine hc0.mono ?_
    rintro e w' ⟨rfl, hw⟩
    rw [hw]
    clear hw w'
    go_wp2
    go_ret
    exact ⟨by rw [HE.out]; rfl, Below.refl _ _⟩
  have HB0 : Hid ((whiteB s (s.rt 0) || whiteB s (s.rt 1)) = false) := hb0
  rw [hb0] at hc0
  clear hb0
  have r0 : W.cell? ⟨rp, 0, none⟩ = some (.slice (some ⟨cp, 0, none⟩) n c1) := h.out.row.cell (i := 0) (by decide)
  go_enter Try.func83, Try.ntmps83
  go_wp2_with fail
  refine hc0.mono ?_
  rintro e w' ⟨rfl, hw⟩
  rw [hw]
  clear hw w' hc0
  go_wp2
  clear r0 rl
  go_loopw [17] (fun vi wr => ∃ k : Nat, k ≤ n ∧ vi = .int .i64 k ∧ Hid (∀ j, j < k → s.co j = 2 → (whiteB s (s.lk j 0) || whiteB s (s.lk j 1)) = false) ∧ Hid (Below W.heap.size W wr)) (fun vi _ => n - (intOf vi).toNat)
  case atStart => exact ⟨0, Nat.zero_le _, rfl, fun j hj => by omega, Below.refl _ _⟩
  case round =>
    obtain ⟨k, hk, rfl, HG, HB⟩ := hrel
    by_cases hlt : k < n
    rotate_left
    · have HE : Hid (R = true) := HYES.out ⟨HB0.out, fun j hj => HG.out j (by omega)⟩
      go_wp2
      go_ret
      exact ⟨by rw [HE.out]; rfl, HB.out⟩
    have hltI : (k : Int) < (n : Int) := by omega
    have k0 : (0 : Int) ≤ (k : Int) := by omega
    have HRr := HRW.out wr HB.out
    obtain ⟨c0, c1', c2'⟩ := HRr.cell hlt
    have cl := HRr.cells.1
    obtain ⟨i0, i1⟩ := lead_in (hl.out.2 k hlt).2
    have HNX : Hid ((s.co k = 2 → (whiteB s (s.lk k 0) || whiteB s (s.lk k 1)) = false) → ∀ j, j < k + 1 → s.co j = 2 → (whiteB s (s.lk j 0) || whiteB s (s.lk j 1)) = false) := fun q j hj => by
      by_cases e : j = k
      · rw [e]; exact q
      · exact HG.out j (by omega)
    have HNK : Hid (s.co k = 2 → (whiteB s (s.lk k 0) || whiteB s (s.lk k 1)) = true → R = false) := fun q1 q2 => HNO.out (fun r => by rw [r.2 k hlt q1] at q2; cases q2)
    obtain ⟨Y, hY⟩ : ∃ Y, Hid (wr.alloc (.cells #[.int .i64 (s.lk k 0), .int .i64 (s.lk k 1), .bool (s.fr k)] 78) = Y) := ⟨_, rfl⟩
    have BY : Hid (Below W.heap.size W Y) := by show Below _ _ _; rw [← hY.out]; exact HB.out.alloc HB.out.size _
    have HYR := row_of wr #[.int .i64 (s.lk k 0), .int .i64 (s.lk k 1), .bool (s.fr k)] 78
    rw [hY.out] at HYR
    have HRY : Hid (RunM Y B rp cp op n c1 c2 s) := HRW.out Y BY.out
    have hcw := impl_containsw B rp cp op n c1 c2 wr.heap.size 0 s (s.lk k 0) (s.lk k 1) Y hn HRY i0 i1 (HYR.cell (i := 0) (by show 0 < 3; decide)) (HYR.cell (i := 1) (by show 1 < 3; decide))
    have yl := HYR.lt
    have u1 : Y.cell? ⟨rp, 1, none⟩ = some (.slice (some ⟨op, 0, none⟩) n c2) := HRY.out.row.cell (i := 1) (by decide)
    have uc := HRY.out.color hlt
    have rl := HRY.out.row.lt
    have ol := HRY.out.cols.1
    clear HRr HYR i0 i1
    obtain ⟨wb, HWB⟩ : ∃ b, Hid ((whiteB s (s.lk k 0) || whiteB s (s.lk k 1)) = b) := ⟨_, rfl⟩
    rw [HWB.out] at hcw HNX HNK
    obtain ⟨y, Hy⟩ : ∃ y, Hid (s.co k = y) := ⟨_, rfl⟩
    rw [Hy.out] at uc HNX HNK
    go_upto_region 6 with fail
    rw [hY.out]
    clear hY c0 c1' c2' cl HWB Hy HRY
    generalize wr.heap.size = lb at hcw yl ⊢
    by_cases hy : y = 2
    · subst hy
      cases wb
      · have HN2 : Hid (∀ j, j < k + 1 → s.co j = 2 → (whiteB s (s.lk j 0) || whiteB s (s.lk j 1)) = false) := HNX.out (fun _ => rfl)
        clear HNX HNK
        go_wp2_with fail
        refine hcw.mono ?_
        rintro e w' ⟨rfl, hw⟩
        rw [hw]
        clear hw w'
        go_wp2
        go_roundw
        case rel => exact ⟨k + 1, by omega, by go_num, HN2, BY⟩
        case measure => simp [intOf]; omega
      · have HE : Hid (R = false) := HNK.out rfl rfl
        clear HNX HNK
        go_wp2_with fail
        refine hcw.mono ?_
        rintro e w' ⟨rfl, hw⟩
        rw [hw]
        clear hw w'
        go_wp2
        go_ret
        exact ⟨by rw [HE.out]; rfl, BY.out⟩
    · have HN2 : Hid (∀ j, j < k + 1 → s.co j = 2 → (whiteB s (s.lk j 0) || whiteB s (s.lk j 1)) = false) := HNX.out (fun q => absurd q hy)
      have d0 : (y == 2) = false := by simpa using hy
      have d1 : decide (y = 2) = false := decide_eq_false hy
      clear HNX HNK hcw
      go_wp2
      go_roundw
      case rel => exact ⟨k + 1, by omega, by go_num, HN2, BY⟩
      case measure => simp [intOf]; omega
set_option maxHeartbeats 4000000 in
theorem impl_colored (B rp cp op n c1 c2 : Nat) (s : Mst) (W : World) (hn : n ≤ 10) (h : Hid (RunM W B rp cp op n c1 c2 s)) (hl : Hid (LeadsW s n)) :
    Calls Try.prog 64 #[.pointer (some ⟨rp, 0, none⟩)] W fun e W' => e = .returned (.bool (decide (ColorW s n))) ∧ Below W.heap.size W W' := by
  have hh := impl_hides B rp cp op n c1 c2 s W hn h hl
  obtain ⟨R, HR⟩ : ∃ R, Hid (decide (ColorW s n) = R) := ⟨_, rfl⟩
  rw [HR.out]
  have HNO : Hid (¬ ColorW s n → R = false) := fun q => by rw [← HR.out]; exact decide_eq_false q
  have HEQ : Hid ((∀ k, k < n → (0 ≤ s.co k ∧ s.co k ≤ 2) ∧ (s.co k ≠ 0 → s.on = true ∧ s.fr k = false)) → R = (!s.on || decide (HidesW s n))) := fun q => by
    rw [← HR.out]
    by_cases hon : s.on = true
    · rw [hon]
      by_cases hd : HidesW s n
      · rw [decide_eq_true hd, decide_eq_true ⟨q, fun _ => hd⟩]; rfl
      · rw [decide_eq_false hd, decide_eq_false (fun r => hd (r.2 hon))]; rfl
    · have hon : s.on = false := by simpa using hon
      rw [hon, decide_eq_true ⟨q, fun r => by rw [hon] at r; cases r⟩]; rfl
  clear HR
  have r1 : W.cell? ⟨rp, 1, none⟩ = some (.slice (some ⟨op, 0, none⟩) n c2) := h.out.row.cell (i := 1) (by decide)
  have r0 : W.cell? ⟨rp, 0, none⟩ = some (.slice (some ⟨cp, 0, none⟩) n c1) := h.out.row.cell (i := 0) (by decide)
  have r4 : W.cell? ⟨rp, 4, none⟩ = some (.bool s.on) := h.out.row.cell (i := 4) (by decide)
  have rl := h.out.row.lt
  have cl := h.out.cells.1
  have ol := h.out.cols.1
  obtain ⟨on, Hon⟩ : ∃ b, Hid (s.on = b) := ⟨_, rfl⟩
  rw [Hon.out] at r4 HEQ
  go_enter Try.func64, Try.ntmps64
  go_wp2
  go_loop [11] (fun vi => ∃ k : Nat, k ≤ n ∧ vi = .int .i64 (k : Int) ∧ Hid (∀ j, j < k → (0 ≤ s.co j ∧ s.co j ≤ 2) ∧ (s.co j ≠ 0 → s.on = true ∧ s.fr j = false))) (fun vi => n - (intOf vi).toNat)
  case atStart => exact ⟨0, Nat.zero_le _, rfl, fun j hj => by omega⟩
  case round =>
    obtain ⟨k, hk, rfl, HG⟩ := hrel
    by_cases hlt : k < n
    rotate_left
    · have HE := HEQ.out (fun j hj => by have q := HG.out j (by omega); rw [Hon.out] at q; exact q)
      obtain ⟨hb, HHB⟩ : ∃ b, Hid (decide (HidesW s n) = b) := ⟨_, rfl⟩
      rw [HHB.out] at hh HE
      have HE2 : Hid (R = (!on || hb)) := HE
      clear HE HHB HEQ HNO
      cases on
      · have HE3 : Hid (R = true) := HE2.out
        clear HE2 hh
        go_wp2
        go_ret
        exact ⟨by rw [HE3.out]; rfl, Below.refl _ _⟩
      · have HE3 : Hid (R = hb) := HE2.out
        clear HE2
        go_wp2_with fail
        refine hh.mono ?_
        rintro e w1 ⟨rfl, hB⟩
        have B1 : Hid (Below W.heap.size W w1) := hB
        clear hB hh r0 r1 r4
        go_wp2
        go_ret
        exact ⟨by rw [HE3.out]; rfl, B1.out⟩
    have hltI : (k : Int) < (n : Int) := by omega
    have k0 : (0 : Int) ≤ (k : Int) := by omega
    obtain ⟨d0, d1, d2⟩ := h.out.cell hlt
    have uc := h.out.color hlt
    have HNX : Hid ((0 ≤ s.co k ∧ s.co k ≤ 2) → (s.co k ≠ 0 → s.on = true ∧ s.fr k = false) → ∀ j, j < k + 1 → (0 ≤ s.co j ∧ s.co j ≤ 2) ∧ (s.co j ≠ 0 → s.on = true ∧ s.fr j = false)) := fun q1 q2 j hj => by
      by_cases e : j = k
      · rw [e]; exact ⟨q1, q2⟩
      · exact HG.out j (by omega)
    have HNK : Hid (¬ ((0 ≤ s.co k ∧ s.co k ≤ 2) ∧ (s.co k ≠ 0 → s.on = true ∧ s.fr k = false)) → R = false) := fun q => HNO.out (fun r => q (r.1 k hlt))
    clear HEQ HNO hh
    rw [Hon.out] at HNX HNK
    obtain ⟨y, Hy⟩ : ∃ y, Hid (s.co k = y) := ⟨_, rfl⟩
    obtain ⟨z, Hz⟩ : ∃ y, Hid (s.fr k = y) := ⟨_, rfl⟩
    rw [Hy.out] at uc HNX HNK
    rw [Hz.out] at d2 HNX HNK
    have hbt := betweenM (n := y) (lo := 0) (hi := 2) rfl W
    by_cases hyr : 0 ≤ y ∧ y ≤ 2
    rotate_left
    · have HE : Hid (R = false) := HNK.out (fun q => hyr q.1)
      rw [decide_eq_false hyr] at hbt
      clear hyr HNX HNK
      cases on <;> cases z
      all_goals
        go_wp2_with (go_at_call 71; refine hbt.mono ?_; rintro e w' ⟨rfl, hw⟩; rw [hw]; clear hw w')
        go_ret
        exact ⟨by rw [HE.out]; rfl, Below.refl _ _⟩
    rw [decide_eq_true hyr] at hbt
    by_cases hy : y = 0
    · subst hy
      have HN2 := HNX.out hyr (fun q => absurd rfl q)
      rw [← Hon.out] at HN2
      have HN3 : Hid (∀ j, j < k + 1 → (0 ≤ s.co j ∧ s.co j ≤ 2) ∧ (s.co j ≠ 0 → s.on = true ∧ s.fr j = false)) := HN2
      clear HN2 HNX HNK hyr
      cases on <;> cases z
      all_goals
        go_wp2_with (go_at_call 71; refine hbt.mono ?_; rintro e w' ⟨rfl, hw⟩; rw [hw]; clear hw w')
        go_round
        case rel => exact ⟨k + 1, by omega, by go_num, HN3⟩
        case measure => simp [intOf]; omega
    have e0 : (y == 0) = false := by simpa using hy
    have e1 : (y != 0) = true := by simpa using hy
    have e2 : decide (y = 0) = false := decide_eq_false hy
    by_cases hoz : on = true ∧ z = false
    · have HN2 := HNX.out hyr (fun _ => hoz)
      rw [← Hon.out] at HN2
      have HN3 : Hid (∀ j, j < k + 1 → (0 ≤ s.co j ∧ s.co j ≤ 2) ∧ (s.co j ≠ 0 → s.on = true ∧ s.fr j = false)) := HN2
      obtain ⟨h1, h2⟩ := hoz
      subst h1
      subst h2
      clear HN2 HNX HNK hyr
      go_wp2_with (go_at_call 71; refine hbt.mono ?_; rintro e w' ⟨rfl, hw⟩; rw [hw]; clear hw w')
      go_round
      case rel => exact ⟨k + 1, by omega, by go_num, HN3⟩
      case measure => simp [intOf]; omega
    · have HE : Hid (R = false) := HNK.out (fun q => hoz (q.2 hy))
      clear HNX HNK hyr
      cases on
      · cases z
        all_goals
          clear hoz
          go_wp2_with (go_at_call 71; refine hbt.mono ?_; rintro e w' ⟨rfl, hw⟩; rw [hw]; clear hw w')
          go_ret
          exact ⟨by rw [HE.out]; rfl, Below.refl _ _⟩
      · cases z
        · exact absurd ⟨rfl, rfl⟩ hoz
        · clear hoz
          go_wp2_with (go_at_call 71; refine hbt.mono ?_; rintro e w' ⟨rfl, hw⟩; rw [hw]; clear hw w')
          go_ret
          exact ⟨by rw [HE.out]; rfl, Below.refl _ _⟩
end Go.Proofs.Ytokaibpkajloeaa.walks
