/-
  What both sides' GoodLined answer.
-/
import Derived.Test.YtlocdlgbjjbnoaaProg
import Derived.Test.YtlocdlgbjjbnoaaMagMath
import Derived.Test.YtlocdlgbjjbnoaaInts
import Derived.Test.YtlocdlgbjjbnoaaDeep
import Derived.Test.YtlocdlgbjjbnoaaDeepRow
import Derived.Test.YtlocdlgbjjbnoaaLineMath
import Derived.Test.YtlocdlgbjjbnoaaLineStep
import Derived.Test.YtlocdlgbjjbnoaaLineGd
import Derived.Deep.DeepFit
import Derived.Deep.DeepCutAuto
import Derived.WalkKit
import Derived.WalkSpells
import Derived.Below
import Derived.Handy
namespace Go.Proofs.Ytlocdlgbjjbnoaa.walks
open Go.RowKit Go.Proofs.Ytlocdlgbjjbnoaa.math Go.Proofs.Ytlocdlgbjjbnoaa.ints Go.Proofs.Ytlocdlgbjjbnoaa.deep
set_option linter.unusedVariables false
set_option maxRecDepth 100000

def zf (zs : List Int) : Nat → Int := fun i => zs.getD i 0
theorem lstep_at {W wr : World} {a : Option Addr} {zs : List Int} {n k : Nat} (h : Ints W a zs) (hz : zs.length = n * 3) (hB : Below W.heap.size W wr) (hk : k < n) : ∃ b o, a = some ⟨b, o, none⟩ ∧ b < W.heap.size ∧ wr.cell? ⟨b, o + k * 3, none⟩ = some (.int .i64 (lop (zf zs) k)) ∧ wr.cell? ⟨b, o + k * 3 + 1, none⟩ = some (.int .i64 (lnn (zf zs) k)) ∧ wr.cell? ⟨b, o + k * 3 + 2, none⟩ = some (.int .i64 (lto (zf zs) k)) := by
  rcases h with h | ⟨b, o, rfl, hb, hc⟩
  · rw [h] at hz; simp at hz; omega
  · exact ⟨b, o, rfl, hb, (hB.cell (p := ⟨b, o + k * 3, none⟩) hb).trans (hc (k * 3) (by omega)), (hB.cell (p := ⟨b, o + k * 3 + 1, none⟩) hb).trans (hc (k * 3 + 1) (by omega)), (hB.cell (p := ⟨b, o + k * 3 + 2, none⟩) hb).trans (hc (k * 3 + 2) (by omega))⟩
theorem lguard_at {W wr : World} {a : Option Addr} {zs : List Int} {n k : Nat} (h : Ints W a zs) (hz : zs.length = n * 4) (hB : Below W.heap.size W wr) (hk : k < n) : ∃ b o, a = some ⟨b, o, none⟩ ∧ b < W.heap.size ∧ wr.cell? ⟨b, o + k * 4, none⟩ = some (.int .i64 (gfr (zf zs) k)) ∧ wr.cell? ⟨b, o + k * 4 + 1, none⟩ = some (.int .i64 (gto (zf zs) k)) ∧ wr.cell? ⟨b, o + k * 4 + 2, none⟩ = some (.int .i64 (gkd (zf zs) k)) ∧ wr.cell? ⟨b, o + k * 4 + 3, none⟩ = some (.int .i64 (gat (zf zs) k)) := by
  rcases h with h | ⟨b, o, rfl, hb, hc⟩
  · rw [h] at hz; simp at hz; omega
  · exact ⟨b, o, rfl, hb, (hB.cell (p := ⟨b, o + k * 4, none⟩) hb).trans (hc (k * 4) (by omega)), (hB.cell (p := ⟨b, o + k * 4 + 1, none⟩) hb).trans (hc (k * 4 + 1) (by omega)), (hB.cell (p := ⟨b, o + k * 4 + 2, none⟩) hb).trans (hc (k * 4 + 2) (by omega)), (hB.cell (p := ⟨b, o + k * 4 + 3, none⟩) hb).trans (hc (k * 4 + 3) (by omega))⟩
theorem keepL {W X w : World} {T : TypeId} {n : Nat} {f : Nat → Value} (HX : Hid (Below W.heap.size W X)) (R0 : Hid (X.rowIs W.heap.size T n f)) (hB : Below X.heap.size X w) : Hid (Below W.heap.size W w) ∧ Hid (w.rowIs W.heap.size T n f) := ⟨HX.out.trans (hB.mono HX.out.size), R0.out.of_block (hB.block _ R0.out.lt)⟩
theorem cellsL {W w : World} {T : TypeId} {u v : Value} (R0 : Hid (w.rowIs W.heap.size T 2 (rowF [u, v]))) : w.cell? ⟨W.heap.size, 0, none⟩ = some u ∧ w.cell? ⟨W.heap.size, 1, none⟩ = some v ∧ W.heap.size < w.heap.size := ⟨R0.out.cell (i := 0) (by decide), R0.out.cell (i := 1) (by decide), R0.out.lt⟩

set_option maxHeartbeats 4000000 in
theorem spec_lined (a : Option Addr) (n cap : Nat) (ga : Option Addr) (g gc : Nat) (zs gs : List Int) (W : World) (hz : Hid (zs.length = n * 3)) (hn : n ≤ 1048576) (h : Hid (Ints W a zs)) (hgz : Hid (gs.length = g * 4)) (hg : g ≤ 1048576) (hgs : Hid (Ints W ga gs)) :
    Calls Try.prog 31 #[.agg #[.slice a n cap, .slice ga g gc]] W fun e W' => e = .returned (.bool (linedB (zf zs) n (zf gs) g)) ∧ Below W.heap.size W W' := by
  obtain ⟨R, HP⟩ : ∃ R, Hid (linedB (zf zs) n (zf gs) g = R) := ⟨_, rfl⟩
  rw [HP.out]
  go_enter Try.func31, Try.ntmps31
  go_wp2
  go_loopw [14] (fun vi wr => ∃ k : Nat, k ≤ n ∧ vi = .int .i64 k ∧ Hid (∀ j, j < k → stepAt (zf zs) n j = true) ∧ Hid (wr.rowIs W.heap.size 37 2 (rowF [.slice a n cap, .slice ga g gc])) ∧ Hid (Below W.heap.size W wr)) (fun vi _ => n - (intOf vi).toNat)
  case atStart => exact ⟨0, Nat.zero_le _, rfl, fun j hj => by omega, row_of W #[.slice a n cap, .slice ga g gc] _, by show Below _ _ _; go_grown⟩
  case round =>
    obtain ⟨k, hk, rfl, HG, HR, HB⟩ := hrel
    obtain ⟨r0, r1, rl0⟩ := cellsL HR
    by_cases hlt : k < n
    rotate_left
    · have HGS : Hid (∀ j, j < n → stepAt (zf zs) n j = true) := fun j hj => HG.out j (by omega)
      clear HG
      have hend : k = n := by omega
      have hkn : (k : Int) = (n : Int) := by omega
      rw [hend]
      clear hlt hk
      go_wp2
      go_loopw [26] (fun vi wr => ∃ k : Nat, k ≤ g ∧ vi = .int .i64 k ∧ Hid (∀ j, j < k → guardAt (zf gs) n j = true) ∧ Hid (wr.rowIs W.heap.size 37 2 (rowF [.slice a n cap, .slice ga g gc])) ∧ Hid (Below W.heap.size W wr)) (fun vi _ => g - (intOf vi).toNat)
      case atStart => exact ⟨0, Nat.zero_le _, rfl, fun j hj => by omega, HR, HB⟩
      case round =>
        clear r0 r1 rl0 HR HB
        obtain ⟨k2, hk2, rfl, HG, HR, HB⟩ := hrel
        obtain ⟨r0, r1, rl0⟩ := cellsL HR
        by_cases hlt2 : k2 < g
        rotate_left
        · have HGG : Hid (∀ j, j < g → guardAt (zf gs) n j = true) := fun j hj => HG.out j (by omega)
          by_cases hn1 : n ≤ 120
          rotate_left
          · have HE : Hid (R = false) := by show _ = _; rw [← HP.out]; exact lined_no (fun q => hn1 q.2.2.1)
            have e1 : decide ((n : Int) ≤ 120) = false := decide_eq_false (by omega)
            go_wp2
            go_ret
            exact ⟨by rw [HE.out]; rfl, HB.out⟩
          have e1 : decide ((n : Int) ≤ 120) = true := decide_eq_true (by omega)
          by_cases hg1 : g ≤ 20
          rotate_left
          · have HE : Hid (R = false) := by show _ = _; rw [← HP.out]; exact lined_no (fun q => hg1 q.2.2.2)
            have f1 : decide ((g : Int) ≤ 20) = false := decide_eq_false (by omega)
            go_wp2
            go_ret
            exact ⟨by rw [HE.out]; rfl, HB.out⟩
          have f1 : decide ((g : Int) ≤ 20) = true := decide_eq_true (by omega)
          have HE : Hid (R = true) := by show _ = _; rw [← HP.out]; exact lined_yes ⟨HGS.out, HGG.out, hn1, hg1⟩
          go_wp2
          go_ret
          exact ⟨by rw [HE.out]; rfl, HB.out⟩
        have hltI : (k2 : Int) < (g : Int) := by omega
        obtain ⟨b, o, ha, hb, c0, c1, c2, c3⟩ := lguard_at hgs.out hgz.out HB.out hlt2
        subst ha
        have hbw : b < wr.heap.size := by have := HB.out.size; omega
        have HBAD : Hid (guardB n (gfr (zf gs) k2) (gto (zf gs) k2) (gkd (zf gs) k2) (gat (zf gs) k2) = false → R = false) := fun q => by rw [← HP.out]; exact lined_badg hlt2 q
        have HNX : Hid (guardB n (gfr (zf gs) k2) (gto (zf gs) k2) (gkd (zf gs) k2) (gat (zf gs) k2) = true → ∀ j, j < k2 + 1 → guardAt (zf gs) n j = true) := fun q j hj => by
          by_cases e : j = k2
          · subst e; exact q
          · exact HG.out j (by omega)
        generalize gfr (zf gs) k2 = f at c0 HBAD HNX
        generalize gto (zf gs) k2 = t at c1 HBAD HNX
        generalize gkd (zf gs) k2 = k' at c2 HBAD HNX
        generalize gat (zf gs) k2 = x at c3 HBAD HNX
        obtain ⟨X, hX⟩ : ∃ X, Hid (wr.alloc (.cells #[.int .i64 f, .int .i64 t, .int .i64 k', .int .i64 x] 93) = X) := ⟨_, rfl⟩
        have HX : Hid (Below wr.heap.size wr X) := by show Below _ _ _; rw [← hX.out]; go_grown
        have HXB : Hid (Below W.heap.size W X) := HB.out.trans (HX.out.mono HB.out.size)
        have HRX : Hid (X.rowIs W.heap.size 37 2 (rowF [.slice a n cap, .slice (some ⟨b, o, none⟩) g gc])) := HR.out.of_block (HX.out.block _ rl0)
        clear HG
        cases h1 : inR f 0 n
        · skip
          have h2 : True := trivial
          have h3 : True := trivial
          have h4 : True := trivial
          have HE : Hid (R = false) := HBAD.out (by unfold guardB; simp [h1])
          clear HBAD HNX
          go_wp2_with (go_at_call 42; (first | go_fit (range16 h1 _) | go_fit (range16 h2 _) | go_fit (range16 h3 _) | go_fit (range16 h4 _)); rintro e w' ⟨rfl, hw⟩; rw [hw]; clear hw w')
          go_ret
          exact ⟨by rw [HE.out]; rfl, by rw [hX.out]; exact HXB.out⟩
        · skip
          cases h2 : inR t f n
          · skip
            have h3 : True := trivial
            have h4 : True := trivial
            have HE : Hid (R = false) := HBAD.out (by unfold guardB; simp [h2])
            clear HBAD HNX
            go_wp2_with (go_at_call 42; (first | go_fit (range16 h1 _) | go_fit (range16 h2 _) | go_fit (range16 h3 _) | go_fit (range16 h4 _)); rintro e w' ⟨rfl, hw⟩; rw [hw]; clear hw w')
            go_ret
            exact ⟨by rw [HE.out]; rfl, by rw [hX.out]; exact HXB.out⟩
          · skip
            cases h3 : inR k' 0 9
            · skip
              have h4 : True := trivial
              have HE : Hid (R = false) := HBAD.out (by unfold guardB; simp [h3])
              clear HBAD HNX
              go_wp2_with (go_at_call 42; (first | go_fit (range16 h1 _) | go_fit (range16 h2 _) | go_fit (range16 h3 _) | go_fit (range16 h4 _)); rintro e w' ⟨rfl, hw⟩; rw [hw]; clear hw w')
              go_ret
              exact ⟨by rw [HE.out]; rfl, by rw [hX.out]; exact HXB.out⟩
            · skip
              cases h4 : inR x 0 n
              · skip
                have HE : Hid (R = false) := HBAD.out (by unfold guardB; simp [h4])
                clear HBAD HNX
                go_wp2_with (go_at_call 42; (first | go_fit (range16 h1 _) | go_fit (range16 h2 _) | go_fit (range16 h3 _) | go_fit (range16 h4 _)); rintro e w' ⟨rfl, hw⟩; rw [hw]; clear hw w')
                go_ret
                exact ⟨by rw [HE.out]; rfl, by rw [hX.out]; exact HXB.out⟩
              · skip
                have HN := HNX.out (by unfold guardB; simp [h1, h2, h3, h4])
                clear HBAD HNX
                go_wp2_with (go_at_call 42; (first | go_fit (range16 h1 _) | go_fit (range16 h2 _) | go_fit (range16 h3 _) | go_fit (range16 h4 _)); rintro e w' ⟨rfl, hw⟩; rw [hw]; clear hw w')
                rw [hX.out]
                go_roundw
                case rel => exact ⟨k2 + 1, by omega, by go_num, HN, HRX, HXB⟩
                case measure => simp [intOf]; omega
    have hltI : (k : Int) < (n : Int) := by omega
    obtain ⟨b, o', ha, hb, c0, c1, c2⟩ := lstep_at h.out hz.out HB.out hlt
    subst ha
    have hbw : b < wr.heap.size := by have := HB.out.size; omega
    have HBAD : Hid (lstepB n (lop (zf zs) k) (lnn (zf zs) k) (lto (zf zs) k) = false → R = false) := fun q => by rw [← HP.out]; exact lined_bad hlt q
    have HNX : Hid (lstepB n (lop (zf zs) k) (lnn (zf zs) k) (lto (zf zs) k) = true → ∀ j, j < k + 1 → stepAt (zf zs) n j = true) := fun q j hj => by
      by_cases e : j = k
      · subst e; exact q
      · exact HG.out j (by omega)
    generalize lop (zf zs) k = o at c0 HBAD HNX
    generalize lnn (zf zs) k = x at c1 HBAD HNX
    generalize lto (zf zs) k = t at c2 HBAD HNX
    obtain ⟨X, hX⟩ : ∃ X, Hid (wr.alloc (.cells #[.int .i64 o, .int .i64 x, .int .i64 t] 90) = X) := ⟨_, rfl⟩
    have HX : Hid (Below wr.heap.size wr X) := by show Below _ _ _; rw [← hX.out]; go_grown
    have HXB : Hid (Below W.heap.size W X) := HB.out.trans (HX.out.mono HB.out.size)
    have HRX : Hid (X.rowIs W.heap.size 37 2 (rowF [.slice (some ⟨b, o', none⟩) n cap, .slice ga g gc])) := HR.out.of_block (HX.out.block _ rl0)
    have RX : Hid (X.rowIs wr.heap.size 90 3 (rowF [.int .i64 o, .int .i64 x, .int .i64 t])) := by rw [← hX.out]; exact row_of wr _ _
    have x0 : X.cell? ⟨wr.heap.size, 0, none⟩ = some (.int .i64 o) := RX.out.cell (i := 0) (by decide)
    have x1 : X.cell? ⟨wr.heap.size, 1, none⟩ = some (.int .i64 x) := RX.out.cell (i := 1) (by decide)
    have x2 : X.cell? ⟨wr.heap.size, 2, none⟩ = some (.int .i64 t) := RX.out.cell (i := 2) (by decide)
    have xl := RX.out.lt
    obtain ⟨z0, z1, zl⟩ := cellsL HRX
    clear HG
    obtain ⟨B, hBq⟩ : ∃ B, Hid (lstepB n o x t = B) := ⟨_, rfl⟩
    have hc := spec_lstep n o x t X
    rw [hBq.out] at hc
    go_upto_region 5 with fail
    rw [hX.out]
    cases B
    · have HE : Hid (R = false) := HBAD.out hBq.out
      clear HBAD HNX
      go_wp2_with (go_at_call 53; refine hc.mono ?_; rintro e w1 ⟨rfl, hB1⟩; obtain ⟨K0, K1⟩ := keepL HXB HRX hB1; clear hB1)
      go_ret
      exact ⟨by rw [HE.out]; rfl, K0.out⟩
    · have HN := HNX.out hBq.out
      clear HBAD HNX
      go_wp2_with (go_at_call 53; refine hc.mono ?_; rintro e w1 ⟨rfl, hB1⟩; obtain ⟨K0, K1⟩ := keepL HXB HRX hB1; clear hB1)
      go_roundw
      case rel => exact ⟨k + 1, by omega, by go_num, HN, K1, K0⟩
      case measure => simp [intOf]; omega
set_option maxHeartbeats 4000000 in
theorem impl_lined (a : Option Addr) (n cap : Nat) (ga : Option Addr) (g gc : Nat) (zs gs : List Int) (W : World) (hz : Hid (zs.length = n * 3)) (hn : n ≤ 1048576) (h : Hid (Ints W a zs)) (hgz : Hid (gs.length = g * 4)) (hg : g ≤ 1048576) (hgs : Hid (Ints W ga gs)) :
    Calls Try.prog 33 #[.agg #[.slice a n cap, .slice ga g gc]] W fun e W' => e = .returned (.bool (linedB (zf zs) n (zf gs) g)) ∧ Below W.heap.size W W' := by
  obtain ⟨R, HP⟩ : ∃ R, Hid (linedB (zf zs) n (zf gs) g = R) := ⟨_, rfl⟩
  rw [HP.out]
  by_cases hn1 : n ≤ 120
  rotate_left
  · have HE : Hid (R = false) := by show _ = _; rw [← HP.out]; exact lined_no (fun q => hn1 q.2.2.1)
    rw [HE.out]
    have e1 : decide ((n : Int) > 120) = true := decide_eq_true (by omega)
    have e2 : decide ((120 : Int) < (n : Int)) = true := decide_eq_true (by omega)
    clear hn1
    go_enter Try.func33, Try.ntmps33
    go_wp2
    go_ret
    exact ⟨rfl, by go_grown⟩
  have e1 : decide ((n : Int) > 120) = false := decide_eq_false (by omega)
  have e2 : decide ((120 : Int) < (n : Int)) = false := decide_eq_false (by omega)
  by_cases hg1 : g ≤ 20
  rotate_left
  · have HE : Hid (R = false) := by show _ = _; rw [← HP.out]; exact lined_no (fun q => hg1 q.2.2.2)
    rw [HE.out]
    have f1 : decide ((g : Int) > 20) = true := decide_eq_true (by omega)
    have f2 : decide ((20 : Int) < (g : Int)) = true := decide_eq_true (by omega)
    clear hg1
    go_enter Try.func33, Try.ntmps33
    go_wp2
    go_ret
    exact ⟨rfl, by go_grown⟩
  have f1 : decide ((g : Int) > 20) = false := decide_eq_false (by omega)
  have f2 : decide ((20 : Int) < (g : Int)) = false := decide_eq_false (by omega)
  go_enter Try.func33, Try.ntmps33
  go_wp2
  go_loopw [20] (fun vi wr => ∃ k : Nat, k ≤ n ∧ vi = .int .i64 k ∧ Hid (∀ j, j < k → stepAt (zf zs) n j = true) ∧ Hid (wr.rowIs W.heap.size 37 2 (rowF [.slice a n cap, .slice ga g gc])) ∧ Hid (Below W.heap.size W wr)) (fun vi _ => n - (intOf vi).toNat)
  case atStart => exact ⟨0, Nat.zero_le _, rfl, fun j hj => by omega, row_of W #[.slice a n cap, .slice ga g gc] _, by show Below _ _ _; go_grown⟩
  case round =>
    obtain ⟨k, hk, rfl, HG, HR, HB⟩ := hrel
    obtain ⟨r0, r1, rl0⟩ := cellsL HR
    by_cases hlt : k < n
    rotate_left
    · have HGS : Hid (∀ j, j < n → stepAt (zf zs) n j = true) := fun j hj => HG.out j (by omega)
      clear HG
      have hend : k = n := by omega
      have hkn : (k : Int) = (n : Int) := by omega
      rw [hend]
      clear hlt hk
      go_wp2
      go_loopw [32] (fun vi wr => ∃ k : Nat, k ≤ g ∧ vi = .int .i64 k ∧ Hid (∀ j, j < k → guardAt (zf gs) n j = true) ∧ Hid (wr.rowIs W.heap.size 37 2 (rowF [.slice a n cap, .slice ga g gc])) ∧ Hid (Below W.heap.size W wr)) (fun vi _ => g - (intOf vi).toNat)
      case atStart => exact ⟨0, Nat.zero_le _, rfl, fun j hj => by omega, HR, HB⟩
      case round =>
        clear r0 r1 rl0 HR HB
        obtain ⟨k2, hk2, rfl, HG, HR, HB⟩ := hrel
        obtain ⟨r0, r1, rl0⟩ := cellsL HR
        by_cases hlt2 : k2 < g
        rotate_left
        · have HGG : Hid (∀ j, j < g → guardAt (zf gs) n j = true) := fun j hj => HG.out j (by omega)
          have HE : Hid (R = true) := by show _ = _; rw [← HP.out]; exact lined_yes ⟨HGS.out, HGG.out, hn1, hg1⟩
          go_wp2
          go_ret
          exact ⟨by rw [HE.out]; rfl, HB.out⟩
        have hltI : (k2 : Int) < (g : Int) := by omega
        obtain ⟨b, o, ha, hb, c0, c1, c2, c3⟩ := lguard_at hgs.out hgz.out HB.out hlt2
        subst ha
        have hbw : b < wr.heap.size := by have := HB.out.size; omega
        have HBAD : Hid (guardB n (gfr (zf gs) k2) (gto (zf gs) k2) (gkd (zf gs) k2) (gat (zf gs) k2) = false → R = false) := fun q => by rw [← HP.out]; exact lined_badg hlt2 q
        have HNX : Hid (guardB n (gfr (zf gs) k2) (gto (zf gs) k2) (gkd (zf gs) k2) (gat (zf gs) k2) = true → ∀ j, j < k2 + 1 → guardAt (zf gs) n j = true) := fun q j hj => by
          by_cases e : j = k2
          · subst e; exact q
          · exact HG.out j (by omega)
        generalize gfr (zf gs) k2 = f at c0 HBAD HNX
        generalize gto (zf gs) k2 = t at c1 HBAD HNX
        generalize gkd (zf gs) k2 = k' at c2 HBAD HNX
        generalize gat (zf gs) k2 = x at c3 HBAD HNX
        obtain ⟨X, hX⟩ : ∃ X, Hid (wr.alloc (.cells #[.int .i64 f, .int .i64 t, .int .i64 k', .int .i64 x] 93) = X) := ⟨_, rfl⟩
        have HX : Hid (Below wr.heap.size wr X) := by show Below _ _ _; rw [← hX.out]; go_grown
        have HXB : Hid (Below W.heap.size W X) := HB.out.trans (HX.out.mono HB.out.size)
        have HRX : Hid (X.rowIs W.heap.size 37 2 (rowF [.slice a n cap, .slice (some ⟨b, o, none⟩) g gc])) := HR.out.of_block (HX.out.block _ rl0)
        clear HG
        have RX : Hid (X.rowIs wr.heap.size 93 4 (rowF [.int .i64 f, .int .i64 t, .int .i64 k', .int .i64 x])) := by rw [← hX.out]; exact row_of wr _ _
        have x0 : X.cell? ⟨wr.heap.size, 0, none⟩ = some (.int .i64 f) := RX.out.cell (i := 0) (by decide)
        have x1 : X.cell? ⟨wr.heap.size, 1, none⟩ = some (.int .i64 t) := RX.out.cell (i := 1) (by decide)
        have x2 : X.cell? ⟨wr.heap.size, 2, none⟩ = some (.int .i64 k') := RX.out.cell (i := 2) (by decide)
        have x3 : X.cell? ⟨wr.heap.size, 3, none⟩ = some (.int .i64 x) := RX.out.cell (i := 3) (by decide)
        have xl := RX.out.lt
        obtain ⟨z0, z1, zl⟩ := cellsL HRX
        obtain ⟨B, hBq⟩ : ∃ B, Hid (guardB n f t k' x = B) := ⟨_, rfl⟩
        have hc := impl_lguard a n cap (some ⟨b, o, none⟩) g gc f t k' x hn X
        rw [hBq.out] at hc
        go_upto_region 12 with fail
        rw [hX.out]
        cases B
        · have HE : Hid (R = false) := HBAD.out hBq.out
          clear HBAD HNX
          go_wp2_with (go_at_call 60; refine hc.mono ?_; rintro e w1 ⟨rfl, hB1⟩; obtain ⟨K0, K1⟩ := keepL HXB HRX hB1; clear hB1)
          go_ret
          exact ⟨by rw [HE.out]; rfl, K0.out⟩
        · have HN := HNX.out hBq.out
          clear HBAD HNX
          go_wp2_with (go_at_call 60; refine hc.mono ?_; rintro e w1 ⟨rfl, hB1⟩; obtain ⟨K0, K1⟩ := keepL HXB HRX hB1; clear hB1)
          go_roundw
          case rel => exact ⟨k2 + 1, by omega, by go_num, HN, K1, K0⟩
          case measure => simp [intOf]; omega
    have hltI : (k : Int) < (n : Int) := by omega
    obtain ⟨b, o', ha, hb, c0, c1, c2⟩ := lstep_at h.out hz.out HB.out hlt
    subst ha
    have hbw : b < wr.heap.size := by have := HB.out.size; omega
    have HBAD : Hid (lstepB n (lop (zf zs) k) (lnn (zf zs) k) (lto (zf zs) k) = false → R = false) := fun q => by rw [← HP.out]; exact lined_bad hlt q
    have HNX : Hid (lstepB n (lop (zf zs) k) (lnn (zf zs) k) (lto (zf zs) k) = true → ∀ j, j < k + 1 → stepAt (zf zs) n j = true) := fun q j hj => by
      by_cases e : j = k
      · subst e; exact q
      · exact HG.out j (by omega)
    generalize lop (zf zs) k = o at c0 HBAD HNX
    generalize lnn (zf zs) k = x at c1 HBAD HNX
    generalize lto (zf zs) k = t at c2 HBAD HNX
    obtain ⟨X, hX⟩ : ∃ X, Hid (wr.alloc (.cells #[.int .i64 o, .int .i64 x, .int .i64 t] 90) = X) := ⟨_, rfl⟩
    have HX : Hid (Below wr.heap.size wr X) := by show Below _ _ _; rw [← hX.out]; go_grown
    have HXB : Hid (Below W.heap.size W X) := HB.out.trans (HX.out.mono HB.out.size)
    have HRX : Hid (X.rowIs W.heap.size 37 2 (rowF [.slice (some ⟨b, o', none⟩) n cap, .slice ga g gc])) := HR.out.of_block (HX.out.block _ rl0)
    have RX : Hid (X.rowIs wr.heap.size 90 3 (rowF [.int .i64 o, .int .i64 x, .int .i64 t])) := by rw [← hX.out]; exact row_of wr _ _
    have x0 : X.cell? ⟨wr.heap.size, 0, none⟩ = some (.int .i64 o) := RX.out.cell (i := 0) (by decide)
    have x1 : X.cell? ⟨wr.heap.size, 1, none⟩ = some (.int .i64 x) := RX.out.cell (i := 1) (by decide)
    have x2 : X.cell? ⟨wr.heap.size, 2, none⟩ = some (.int .i64 t) := RX.out.cell (i := 2) (by decide)
    have xl := RX.out.lt
    obtain ⟨z0, z1, zl⟩ := cellsL HRX
    clear HG
    obtain ⟨B, hBq⟩ : ∃ B, Hid (lstepB n o x t = B) := ⟨_, rfl⟩
    have hc := impl_lstep (some ⟨b, o', none⟩) n cap ga g gc o x t hn X
    rw [hBq.out] at hc
    go_upto_region 6 with fail
    rw [hX.out]
    cases B
    · have HE : Hid (R = false) := HBAD.out hBq.out
      clear HBAD HNX
      go_wp2_with (go_at_call 59; refine hc.mono ?_; rintro e w1 ⟨rfl, hB1⟩; obtain ⟨K0, K1⟩ := keepL HXB HRX hB1; clear hB1)
      go_ret
      exact ⟨by rw [HE.out]; rfl, K0.out⟩
    · have HN := HNX.out hBq.out
      clear HBAD HNX
      go_wp2_with (go_at_call 59; refine hc.mono ?_; rintro e w1 ⟨rfl, hB1⟩; obtain ⟨K0, K1⟩ := keepL HXB HRX hB1; clear hB1)
      go_roundw
      case rel => exact ⟨k + 1, by omega, by go_num, HN, K1, K0⟩
      case measure => simp [intOf]; omega
end Go.Proofs.Ytlocdlgbjjbnoaa.walks
