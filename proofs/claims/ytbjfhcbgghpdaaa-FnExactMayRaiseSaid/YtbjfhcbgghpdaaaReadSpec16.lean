/-
  The tree that the specification's l16Read reads.
-/
import Derived.Test.YtbjfhcbgghpdaaaProg
import Derived.Test.YtbjfhcbgghpdaaaMagMath
import Derived.Test.YtbjfhcbgghpdaaaInts
import Derived.Test.YtbjfhcbgghpdaaaDeep
import Derived.Test.YtbjfhcbgghpdaaaDeepRow
import Derived.Test.YtbjfhcbgghpdaaaTreeMath16
import Derived.Test.YtbjfhcbgghpdaaaDeepGrow
import Derived.Test.YtbjfhcbgghpdaaaOwnMath
import Derived.Test.YtbjfhcbgghpdaaaTreeMem16
import Derived.Test.YtbjfhcbgghpdaaaLineMath
import Derived.Test.YtbjfhcbgghpdaaaLineStep
import Derived.Test.YtbjfhcbgghpdaaaCellBase16
import Derived.Deep.RegionWith
import Derived.Deep.RegionHeld3
import Derived.Deep.DeepFit
import Derived.Deep.DeepCutAuto
import Derived.WalkKit
import Derived.WalkSpells
import Derived.Below
import Derived.Handy
import Derived.OwnWalk
namespace Go.Proofs.Ytbjfhcbgghpdaaa.walks
open Go.RowKit Go.Proofs.Ytbjfhcbgghpdaaa.math Go.Proofs.Ytbjfhcbgghpdaaa.ints Go.Proofs.Ytbjfhcbgghpdaaa.deep
set_option linter.unusedVariables false
set_option maxRecDepth 100000

def kdX (zs : List Int) : Nat → Int := fun i => zs.getD (i * 2) 0
def nnX (zs : List Int) : Nat → Int := fun i => zs.getD (i * 2 + 1) 0
theorem xcell_at {W wr : World} {a : Option Addr} {zs : List Int} {n k : Nat} (h : Ints W a zs) (hz : zs.length = n * 2) (hB : Below W.heap.size W wr) (hk : k < n) : ∃ b o, a = some ⟨b, o, none⟩ ∧ b < W.heap.size ∧ wr.cell? ⟨b, o + k * 2, none⟩ = some (.int .i64 (kdX zs k)) ∧ wr.cell? ⟨b, o + k * 2 + 1, none⟩ = some (.int .i64 (nnX zs k)) := by
  rcases h with h | ⟨b, o, rfl, hb, hc⟩
  · rw [h] at hz; simp at hz; omega
  · exact ⟨b, o, rfl, hb, (hB.cell (p := ⟨b, o + k * 2, none⟩) hb).trans (hc (k * 2) (by omega)), (hB.cell (p := ⟨b, o + k * 2 + 1, none⟩) hb).trans (hc (k * 2 + 1) (by omega))⟩
theorem new_three (w : World) (x y z : Value) (T : TypeId) : ∀ (j : Nat) (u : Value), [x, y, z][j]? = some u → (w.alloc (.cells #[x, y, z] T)).cell? ((⟨w.heap.size, 0, none⟩ : Addr).add j) = some u := by
  intro j u hj
  have q := row_of w #[x, y, z] T
  match j, hj with
  | 0, hj => simp at hj; subst hj; exact q.cell (i := 0) (by simp)
  | 1, hj => simp at hj; subst hj; exact q.cell (i := 1) (by simp)
  | 2, hj => simp at hj; subst hj; exact q.cell (i := 2) (by simp)
theorem three_one (k n : Int) (a : Option Addr) (l c : Nat) : ∀ u ∈ [Value.int .i64 k, .int .i64 n, .slice a l c], u.oneCell' = true := by
  intro u hu
  simp at hu
  rcases hu with rfl | rfl | rfl <;> rfl
theorem row_some16 {w : World} {B n sz : Nat} {T : TypeId} {v : Value} {xs : List Value} (h : w.ownsRow B T sz v n xs) (hn : 0 < n) : ∃ g c, v = .slice (some ⟨g, 0, none⟩) n c := by
  rcases h.2 with ⟨_, e⟩ | ⟨g, cap, cur, e, _⟩
  · omega
  · exact ⟨g, cap, e⟩
/-- What a reading comes to. -/
def ReadTo (W : World) (r : Option (XT × Nat)) (e : Ending) (W' : World) : Prop := Below W.heap.size W W' ∧ (r = none → e = .returned (.tuple #[.agg #[.int .i64 0, .int .i64 0, .slice none 0 0], .int .i64 0])) ∧ ∀ t x, r = some (t, x) → ∃ la lc F, e = .returned (.tuple #[.agg #[.int .i64 t.kind, .int .i64 t.num, .slice la t.kids.length lc], .int .i64 (x : Int)]) ∧ Owns W' false W.heap.size (kidsD t) (.slice la t.kids.length lc) F ∧ ∀ x, F x → W.heap.size ≤ x ∧ x < W'.heap.size
def prep (done : List XT) : Option (List XT × Nat) → Option (List XT × Nat)
  | none => none
  | some (ts, e) => some (done ++ ts, e)
theorem prep_nil (o : Option (List XT × Nat)) : prep [] o = o := by cases o <;> rfl
theorem prep_no {rd : Nat → Option (XT × Nat)} {done : List XT} {j at' : Nat} (h : rd at' = none) : prep done (readK rd (j + 1) at') = none := by unfold readK; rw [h]; rfl
theorem prep_yes {rd : Nat → Option (XT × Nat)} {done : List XT} {j at' : Nat} {s : XT} {e : Nat} (h : rd at' = some (s, e)) : prep done (readK rd (j + 1) at') = prep (done ++ [s]) (readK rd j e) := by
  have e1 : readK rd (j + 1) at' = (match rd at' with | none => none | some (t, e) => match readK rd j e with | none => none | some (ts, e') => some (t :: ts, e')) := rfl
  rw [e1, h]
  show prep done (match readK rd j e with | none => none | some (ts, e') => some (s :: ts, e')) = _
  cases readK rd j e with
  | none => rfl
  | some p => simp [prep]

set_option maxHeartbeats 8000000 in
theorem spec_read (a : Option Addr) (len cap : Nat) (zs : List Int) (hz : Hid (zs.length = len * 2)) (hlen : len ≤ 30) : ∀ (f at' : Nat) (W : World) (ha : at' ≤ len) (hf : len < at' + f) (h : Hid (Ints W a zs)),
    Calls Try.prog 46 #[.slice a len cap, .int .i64 at'] W fun e W' => ReadTo W (readX (kdX zs) (nnX zs) len f at') e W'
  | 0, at', W, ha, hf, h => by omega
  | f + 1, at', W, ha, hf, h => by
    obtain ⟨i0, hi0, hz0, hz1, hz2⟩ := parts_of (P := Try.prog) (e := 53) (z := .agg #[.int .i64 0, .int .i64 0, .slice none 0 0]) (a := 3) (b := 40) (by kernel_rfl)
    obtain ⟨X, hX⟩ : ∃ X, Hid (W.alloc (.cells #[.int .i64 0, .int .i64 0, .slice none 0 0] 53) = X) := ⟨_, rfl⟩
    have HX : Hid (Below W.heap.size W X) := by show Below _ _ _; rw [← hX.out]; exact (Below.refl _ _).alloc (Nat.le_refl _) _
    have XS : Hid (X.heap.size = W.heap.size + 1) := by show _ = _; rw [← hX.out]; simp
    have RZ : Hid (X.rowIs W.heap.size 53 3 (rowF [.int .i64 0, .int .i64 0, .slice none 0 0])) := by rw [← hX.out]; exact row_of W #[.int .i64 0, .int .i64 0, .slice none 0 0] _
    by_cases hlt : at' < len
    rotate_left
    · have d1 : decide ((at' : Int) ≥ (len : Int)) = true := decide_eq_true (by omega)
      have d2 : decide ((len : Int) ≤ (at' : Int)) = true := decide_eq_true (by omega)
      have d3 : decide (len ≤ at') = true := decide_eq_true (by omega)
      have HE : Hid (readX (kdX zs) (nnX zs) len (f + 1) at' = none) := readX_no (fun q => hlt q.1)
      rw [HE.out]
      have z0 : X.cell? ⟨W.heap.size, 0, none⟩ = some (.int .i64 0) := RZ.out.cell (i := 0) (by decide)
      have z1 : X.cell? ⟨W.heap.size, 1, none⟩ = some (.int .i64 0) := RZ.out.cell (i := 1) (by decide)
      have z2 : X.cell? ⟨W.heap.size, 2, none⟩ = some (.slice none 0 0) := RZ.out.cell (i := 2) (by decide)
      have y0 := RZ.out.frozen 0
      have y1 := RZ.out.frozen 1
      have y2 := RZ.out.frozen 2
      have zl := RZ.out.lt
      clear hlt HE hi0 hz0 hz1 hz2
      go_enter Try.func46, Try.ntmps46
      go_upto_region 1 with fail
      rw [hX.out]
      go_wp2
      (try simp only [Exit.inBlock, Exit.then])
      refine bodyPost_ret (v := .tuple #[.agg #[.int .i64 0, .int .i64 0, .slice none 0 0], .int .i64 0]) (by simp only [results, Try.results46]; go_simp) rfl ?_
      refine ⟨?_, fun _ => rfl, fun t x q => by cases q⟩
      refine Below.trans HX.out ?_
      iterate 3 refine Below.setCell ?_ (by show W.heap.size ≤ W.heap.size; omega) _
      exact Below.refl _ _
    have i1 : (at' : Int) < (len : Int) := by omega
    have i2 : decide (len ≤ at') = false := decide_eq_false (by omega)
    have i3 : decide ((len : Int) ≤ (at' : Int)) = false := decide_eq_false (by omega)
    obtain ⟨b, o, hab, hb, c0, c1⟩ := xcell_at h.out hz.out HX.out hlt
    subst hab
    have hcell := spec_cell16 (kdX zs at') (nnX zs at') X
    have hbX : b < X.heap.size := by have := HX.out.size; omega
    obtain ⟨k, ek⟩ : ∃ k, Hid (kdX zs at' = k) := ⟨_, rfl⟩
    obtain ⟨n, en⟩ : ∃ n, Hid (nnX zs at' = n) := ⟨_, rfl⟩
    rw [ek.out, en.out] at hcell
    rw [ek.out] at c0
    rw [en.out] at c1
    cases hcb : cellX k n
    · have HE : Hid (readX (kdX zs) (nnX zs) len (f + 1) at' = none) := readX_no (fun q => by rw [ek.out, en.out, hcb] at q; cases q.2)
      rw [HE.out]
      rw [hcb] at hcell
      clear HE hi0 hz0 hz1 hz2 hlt
      go_enter Try.func46, Try.ntmps46
      go_upto_region 1 with fail
      rw [hX.out]
      clear hX
      go_upto_region 2 with (go_at_call 60; refine hcell.mono ?_; rintro e w1 ⟨rfl, hB⟩; have B1 : Hid (Below W.heap.size W w1) := HX.out.trans (hB.mono HX.out.size); have Z1 : Hid (w1.rowIs W.heap.size 53 3 (rowF [.int .i64 0, .int .i64 0, .slice none 0 0])) := RZ.out.of_block (hB.block _ RZ.out.lt); clear hB)
      have z0 : w1.cell? ⟨W.heap.size, 0, none⟩ = some (.int .i64 0) := Z1.out.cell (i := 0) (by decide)
      have z1 : w1.cell? ⟨W.heap.size, 1, none⟩ = some (.int .i64 0) := Z1.out.cell (i := 1) (by decide)
      have z2 : w1.cell? ⟨W.heap.size, 2, none⟩ = some (.slice none 0 0) := Z1.out.cell (i := 2) (by decide)
      have y0 := Z1.out.frozen 0
      have y1 := Z1.out.frozen 1
      have y2 := Z1.out.frozen 2
      have zl := Z1.out.lt
      go_wp2
      (try simp only [Exit.inBlock, Exit.then])
      refine bodyPost_ret (v := .tuple #[.agg #[.int .i64 0, .int .i64 0, .slice none 0 0], .int .i64 0]) (by simp only [results, Try.results46]; go_simp) rfl ?_
      refine ⟨?_, fun _ => rfl, fun t x q => by cases q⟩
      refine Below.trans B1.out ?_
      iterate 3 refine Below.setCell ?_ (by show W.heap.size ≤ W.heap.size; omega) _
      exact Below.refl _ _
    rw [hcb] at hcell
    have hk6 := cellX_kind hcb
    obtain ⟨m, em⟩ : ∃ m, Hid (arX k = m) := ⟨_, rfl⟩
    have hm2 : m ≤ 2 := by rw [← em.out]; exact arX_few k
    have har : Hid (∀ w, Calls Try.prog 61 #[.int .i64 k] w fun e w' => e = .returned (.int .i64 (m : Int)) ∧ w' = w) := fun w => by
      have q := spec_arity k w
      rw [arV_ok hk6.1 hk6.2, em.out] at q
      exact q
    obtain ⟨R, HR⟩ : ∃ R, Hid (readX (kdX zs) (nnX zs) len (f + 1) at' = R) := ⟨_, rfl⟩
    have HRK : Hid ((match readK (fun x => readX (kdX zs) (nnX zs) len f x) m (at' + 1) with | none => none | some (ts, e) => some (mkX k n ts, e)) = R) := by
      show _ = _
      rw [← HR.out, readX_yes hlt (by rw [ek.out, en.out]; exact hcb), ek.out, en.out, em.out]; rfl
    rw [HR.out]
    clear HR
    have ih := spec_read (some ⟨b, o, none⟩) len cap zs hz hlen f
    go_enter Try.func46, Try.ntmps46
    go_upto_region 1 with fail
    rw [hX.out]
    clear hX
    go_upto_region 3 with (go_at_call 60; refine hcell.mono ?_; rintro e w1 ⟨rfl, hB⟩; have B1 : Hid (Below W.heap.size W w1) := HX.out.trans (hB.mono HX.out.size); have Z1 : Hid (w1.rowIs W.heap.size 53 3 (rowF [.int .i64 0, .int .i64 0, .slice none 0 0])) := RZ.out.of_block (hB.block _ RZ.out.lt); have k0 := (hB.cell (p := ⟨b, o + at' * 2, none⟩) hbX).trans c0; have k1 := (hB.cell (p := ⟨b, o + at' * 2 + 1, none⟩) hbX).trans c1; have sz1 := hB.size; clear hB hcell c0 c1)
    have kl : b < w1.heap.size := by omega
    have g0 : (0 : Int) ≤ (at' : Int) := by omega
    go_cut [6] (fun v6 wx => v6 = .pointer (some ⟨w1.heap.size, 0, none⟩) ∧ wx.rowIs w1.heap.size 53 3 (rowF [.int .i64 k, .int .i64 n, .slice none 0 0]) ∧ Below w1.heap.size w1 wx)
    case first =>
      go_region_with fail
      all_goals go_wp2_with fail
      all_goals go_meet
      all_goals exact ⟨rfl, row_of w1 #[.int .i64 k, .int .i64 n, .slice none 0 0] _, ((Below.refl _ _).alloc (Nat.le_refl _) _).drew⟩
    case rest =>
      obtain ⟨rfl, hR6, hB6⟩ := hcut
      have B6 : Hid (Below W.heap.size W wc) := B1.out.trans (hB6.mono B1.out.size)
      have Z6 : Hid (wc.rowIs W.heap.size 53 3 (rowF [.int .i64 0, .int .i64 0, .slice none 0 0])) := Z1.out.of_block (hB6.block _ Z1.out.lt)
      have P6 : Hid (PartT wc w1.heap.size wc.heap.size 53 53 k n [] (.slice none 0 0)) := PartT.start hR6 hR6.lt (Nat.le_refl _)
      have hgz : W.heap.size < w1.heap.size := Z1.out.lt
      have hBW : W.heap.size ≤ wc.heap.size := B6.out.size
      have t0 : wc.cell? ⟨w1.heap.size, 0, none⟩ = some (.int .i64 k) := hR6.cell (i := 0) (by decide)
      have tl : w1.heap.size < wc.heap.size := hR6.lt
      clear hR6 hB6 Z1 B1 k0 k1 sz1 kl RZ HX XS
      obtain ⟨gt, hgt⟩ : ∃ gt, w1.heap.size = gt := ⟨_, rfl⟩
      rw [hgt] at P6 hgz t0 tl ⊢
      clear hgt
      go_wp2_with (go_at_call 61; refine (har.out _).mono ?_; rintro e w' ⟨rfl, hw⟩; rw [hw]; clear hw w')
      clear t0 tl
      obtain ⟨B, hB0⟩ : ∃ B, wc.heap.size = B := ⟨_, rfl⟩
      rw [hB0] at P6 hBW
      clear hB0
      go_loopw [7, 1] (fun v7 v1 wr => ∃ (j : Nat) (done : List XT) (at2 : Nat) (v : Value), done.length + j = m ∧ v7 = .int .i64 (j : Int) ∧ v1 = .int .i64 (at2 : Int) ∧ at' < at2 ∧ at2 ≤ len ∧ Hid (readK (fun x => readX (kdX zs) (nnX zs) len f x) m (at' + 1) = prep done (readK (fun x => readX (kdX zs) (nnX zs) len f x) j at2)) ∧ Hid (PartT wr gt B 53 53 k n done v) ∧ Hid (wr.rowIs W.heap.size 53 3 (rowF [.int .i64 0, .int .i64 0, .slice none 0 0])) ∧ Hid (Below W.heap.size W wr)) (fun v7 _ _ => (intOf v7).toNat)
      case atStart => exact ⟨m, [], at' + 1, _, by simp, rfl, by go_num, by omega, by omega, (prep_nil _).symm, P6, Z6, B6⟩
      case round =>
        obtain ⟨j, done, at2, v, hj, rfl, rfl, hlo, hhi, HK, HP, HZ, HB⟩ := hrel
        have PB := HP.out.box
        have t0 : wr.cell? ⟨gt, 0, none⟩ = some (.int .i64 k) := PB.cell (i := 0) (by decide)
        have t1 : wr.cell? ⟨gt, 1, none⟩ = some (.int .i64 n) := PB.cell (i := 1) (by decide)
        have t2 : wr.cell? ⟨gt, 2, none⟩ = some v := PB.cell (i := 2) (by decide)
        have tl := PB.lt
        have z0 : wr.cell? ⟨W.heap.size, 0, none⟩ = some (.int .i64 0) := HZ.out.cell (i := 0) (by decide)
        have z1 : wr.cell? ⟨W.heap.size, 1, none⟩ = some (.int .i64 0) := HZ.out.cell (i := 1) (by decide)
        have z2 : wr.cell? ⟨W.heap.size, 2, none⟩ = some (.slice none 0 0) := HZ.out.cell (i := 2) (by decide)
        have y0 := HZ.out.frozen 0
        have y1 := HZ.out.frozen 1
        have y2 := HZ.out.frozen 2
        have zl := HZ.out.lt
        by_cases hj0 : j = 0
        · subst hj0
          have HE : Hid (R = some (mkX k n done, at2)) := by
            show _ = _
            rw [← HRK.out, HK.out]; simp [readK, prep]
          obtain ⟨la, lc, F, ev, hO, hF⟩ := HP.out.owns (by omega)
          obtain ⟨L, hL⟩ : ∃ L, Hid ((mkX k n done).kids.length = L) := ⟨_, rfl⟩
          rw [hL.out] at ev hO
          subst ev
          have HO : Hid (Owns wr false B (kidsD (mkX k n done)) (.slice la L lc) F) := hO
          have HF : Hid (∀ x, F x → B ≤ x ∧ x < wr.heap.size) := hF
          have hlow := HP.out.low
          clear hO hF PB HP HK
          go_wp2
          (try simp only [Exit.inBlock, Exit.then])
          refine bodyPost_ret (v := .tuple #[.agg #[.int .i64 k, .int .i64 n, .slice la L lc], .int .i64 (at2 : Int)]) (by simp only [results, Try.results46]; go_simp) rfl ?_
          refine ⟨?_, fun q => ?_, fun t x q => ?_⟩
          · refine Below.trans HB.out ?_
            iterate 3 refine Below.setCell ?_ (by show W.heap.size ≤ W.heap.size; omega) _
            exact Below.refl _ _
          · rw [HE.out] at q; cases q
          · rw [HE.out] at q
            simp only [Option.some.injEq, Prod.mk.injEq] at q
            rw [← q.1, ← q.2, mk_kind, mk_num, hL.out]
            refine ⟨la, lc, F, rfl, ?_, fun y hy => ⟨by have := (HF.out y hy).1; omega, by simpa [World.setCell] using (HF.out y hy).2⟩⟩
            refine (HO.out.low hBW).agree (by simp [World.setCell]) (fun y hy _ => ?_)
            have hne : y ≠ W.heap.size := fun e => by have := (HF.out y hy).1; omega
            rw [Below.heap_setCell _ _ _ _ (by show y ≠ W.heap.size; exact hne), Below.heap_setCell _ _ _ _ (by show y ≠ W.heap.size; exact hne), Below.heap_setCell _ _ _ _ (by show y ≠ W.heap.size; exact hne)]
        · obtain ⟨j', rfl⟩ : ∃ j', j = j' + 1 := ⟨j - 1, by omega⟩
          have ihc := ih at2 wr hhi (by omega) (h.out.kept HB.out)
          have jp : (0 : Int) < ((j' + 1 : Nat) : Int) := by omega
          cases hr : readX (kdX zs) (nnX zs) len f at2 with
          | none =>
            have HE : Hid (R = none) := by
              show _ = _
              rw [← HRK.out, HK.out, prep_no hr]
            clear PB HK t0 t1 t2
            go_upto_region 9 with (go_at_call 46; refine ihc.mono ?_; rintro e w2 ⟨hB2, hno, hyes⟩; obtain rfl := hno hr; have HB2 : Hid (Below wr.heap.size wr w2) := hB2; clear hB2 hno hyes z0 z1 z2 y0 y1 y2 zl tl)
            have Z2 : Hid (w2.rowIs W.heap.size 53 3 (rowF [.int .i64 0, .int .i64 0, .slice none 0 0])) := HZ.out.of_block (HB2.out.block _ HZ.out.lt)
            have Z3 := Z2.out.alloc (.cells #[.int .i64 0, .int .i64 0, .slice none 0 0] 53)
            obtain ⟨Y, hY⟩ : ∃ Y, Hid (w2.alloc (.cells #[.int .i64 0, .int .i64 0, .slice none 0 0] 53) = Y) := ⟨_, rfl⟩
            have HY : Hid (Below W.heap.size W Y) := by show Below _ _ _; rw [← hY.out]; exact (HB.out.trans (HB2.out.mono HB.out.size)).alloc (Nat.le_trans HB.out.size HB2.out.size) _
            rw [hY.out] at Z3 ⊢
            have z0 : Y.cell? ⟨W.heap.size, 0, none⟩ = some (.int .i64 0) := Z3.cell (i := 0) (by decide)
            have z1 : Y.cell? ⟨W.heap.size, 1, none⟩ = some (.int .i64 0) := Z3.cell (i := 1) (by decide)
            have z2 : Y.cell? ⟨W.heap.size, 2, none⟩ = some (.slice none 0 0) := Z3.cell (i := 2) (by decide)
            have y0 := Z3.frozen 0
            have y1 := Z3.frozen 1
            have y2 := Z3.frozen 2
            have zl := Z3.lt
            clear Z3
            go_wp2
            (try simp only [Exit.inBlock, Exit.then])
            refine bodyPost_ret (v := .tuple #[.agg #[.int .i64 0, .int .i64 0, .slice none 0 0], .int .i64 0]) (by simp only [results, Try.results46]; go_simp) rfl ?_
            refine ⟨?_, fun _ => rfl, fun t x q => by rw [HE.out] at q; cases q⟩
            refine Below.trans HY.out ?_
            iterate 3 refine Below.setCell ?_ (by show W.heap.size ≤ W.heap.size; omega) _
            exact Below.refl _ _
          | some p =>
            obtain ⟨s, e2⟩ := p
            have he2 := readX_at hr
            have HKN : Hid (readK (fun x => readX (kdX zs) (nnX zs) len f x) m (at' + 1) = prep (done ++ [s]) (readK (fun x => readX (kdX zs) (nnX zs) len f x) j' e2)) := by
              show _ = _
              rw [HK.out, prep_yes hr]
            clear HK PB z0 z1 z2 y0 y1 y2 zl t0 t1 t2 tl
            go_upto_region 9 with (go_at_call 46; refine ihc.mono ?_; rintro e w2 ⟨hB2, hno, hyes⟩; obtain ⟨la, lc, H, rfl, hs, hH⟩ := hyes s e2 hr; have HB2 : Hid (Below wr.heap.size wr w2) := hB2; have HS : Hid (Owns w2 false wr.heap.size (kidsD s) (.slice la s.kids.length lc) H) := hs; have HH : Hid (∀ x, H x → wr.heap.size ≤ x ∧ x < w2.heap.size) := hH; clear hB2 hno hyes hs hH)
            obtain ⟨U, F, hG⟩ := HP.out.kids
            have HG : Hid (Grown wr B 53 3 v done.length (kcs done) U F) := hG
            clear hG
            obtain ⟨k2, hk2⟩ : ∃ x, Hid (s.kind = x) := ⟨_, rfl⟩
            obtain ⟨n2, hn2⟩ : ∃ x, Hid (s.num = x) := ⟨_, rfl⟩
            obtain ⟨l2, hl2⟩ : ∃ x, Hid (s.kids.length = x) := ⟨_, rfl⟩
            rw [hk2.out, hn2.out, hl2.out]
            obtain ⟨Y, hY⟩ : ∃ Y, Hid (w2.alloc (.cells #[.int .i64 k2, .int .i64 n2, .slice la l2 lc] 53) = Y) := ⟨_, rfl⟩
            have HY2 : Hid (Below w2.heap.size w2 Y) := by show Below _ _ _; rw [← hY.out]; exact (Below.refl _ _).alloc (Nat.le_refl _) _
            have HYR : Hid (Below wr.heap.size wr Y) := HB2.out.trans (HY2.out.mono HB2.out.size)
            have PY : Hid (PartT Y gt B 53 53 k n done v) := HP.out.kept HYR.out
            have RY : Hid (Y.rowIs w2.heap.size 53 3 (rowF [.int .i64 k2, .int .i64 n2, .slice la l2 lc])) := by rw [← hY.out]; exact row_of w2 _ _
            rw [hY.out]
            have e20 : ((e2 : Int) == 0) = false := by simp; omega
            have e21 : decide ((e2 : Int) = 0) = false := decide_eq_false (by omega)
            have e22 : (e2 == 0) = false := by simp; omega
            have e23 : decide (e2 = 0) = false := decide_eq_false (by omega)
            have t2 : Y.cell? ⟨gt, 2, none⟩ = some v := PY.out.box.cell (i := 2) (by decide)
            have tl := PY.out.box.lt
            have x0 : Y.cell? ⟨w2.heap.size, 0, none⟩ = some (.int .i64 k2) := RY.out.cell (i := 0) (by decide)
            have x1 : Y.cell? ⟨w2.heap.size, 1, none⟩ = some (.int .i64 n2) := RY.out.cell (i := 1) (by decide)
            have x2 : Y.cell? ⟨w2.heap.size, 2, none⟩ = some (.slice la l2 lc) := RY.out.cell (i := 2) (by decide)
            have xl := RY.out.lt
            have hdl : done.length ≤ 2 := by omega
            have hBY : B ≤ Y.heap.size := PY.out.top
            have HGY : Hid (Y.ownsRow B 53 3 v done.length ((List.range (done.length * 3)).map U)) := (HG.out.kept HYR.out).row
            obtain ⟨dl, hdlq⟩ : ∃ x, Hid (done.length = x) := ⟨_, rfl⟩
            obtain ⟨XS, hXS⟩ : ∃ x, Hid ((List.range (done.length * 3)).map U = x) := ⟨_, rfl⟩
            rw [hXS.out, hdlq.out] at HGY
            rw [hdlq.out] at hdl
            go_upto_region 11 with fail
            go_wp2_with (at_builtin; refine wpList_append_own_at _ rfl _ _ 51 rfl B 53 i0 (.agg #[.int .i64 0, .int .i64 0, .slice none 0 0]) 3 40 Try.underlying51 hi0 hz0 hz1 hz2 rfl (by decide) v dl XS rfl (World.ownsRow.alloc HGY.out _) ⟨Y.heap.size, 0, none⟩ 1 1 [.int .i64 k2, .int .i64 n2, .slice la l2 lc] rfl rfl (new_three Y _ _ _ _) (three_one _ _ _ _ _) ?c3 ?c4 ?c5 ?_)
            case c3 => unfold maxLen; omega
            case c4 => omega
            case c5 => first | omega | (simp; omega)
            intro v' w3 hown hgrow hnil hat
            obtain ⟨g3, c3, rfl⟩ := row_some16 hown (Nat.succ_pos dl)
            have hown2 : w3.ownsRow B 53 3 (.slice (some ⟨g3, 0, none⟩) (dl + 1) c3) (done.length + 1) ((List.range (done.length * 3)).map U ++ newsT s la lc) := by
              unfold newsT
              rw [hk2.out, hn2.out, hl2.out, hdlq.out, ← hdlq.out, hXS.out, hdlq.out]
              exact hown
            have bW : Below w2.heap.size w2 (Y.alloc (.cells #[.int .i64 k2, .int .i64 n2, .slice la l2 lc] 53)) := HY2.out.alloc HY2.out.size _
            have b12 : Below wr.heap.size wr (Y.alloc (.cells #[.int .i64 k2, .int .i64 n2, .slice la l2 lc] 53)) := HB2.out.trans (bW.mono HB2.out.size)
            have PN : Hid (PartT (w3.setCell ⟨gt, 2, none⟩ (.slice (some ⟨g3, 0, none⟩) (dl + 1) c3)) gt B 53 53 k n (done ++ [s]) (.slice (some ⟨g3, 0, none⟩) (dl + 1) c3)) := HP.out.snoc HG.out (by rw [hl2.out]; have q := HS.out; rw [hl2.out] at q; exact q) HH.out HB2.out bW hown2 hgrow (by simpa using hat)
            have bG : Below B (Y.alloc (.cells #[.int .i64 k2, .int .i64 n2, .slice la l2 lc] 53)) w3 := (HG.out.kept b12).below hgrow (Nat.le_trans hBY (by simp))
            have BN : Hid (Below W.heap.size W (w3.setCell ⟨gt, 2, none⟩ (.slice (some ⟨g3, 0, none⟩) (dl + 1) c3))) := (HB.out.trans ((b12.mono HB.out.size).trans (bG.mono hBW))).setCell (by show W.heap.size ≤ gt; omega) _
            have bz : w3.heap[W.heap.size]? = wr.heap[W.heap.size]? := (bG.block _ (by have := HP.out.low; omega)).trans (b12.block _ HZ.out.lt)
            have ZN : Hid ((w3.setCell ⟨gt, 2, none⟩ (.slice (some ⟨g3, 0, none⟩) (dl + 1) c3)).rowIs W.heap.size 53 3 (rowF [.int .i64 0, .int .i64 0, .slice none 0 0])) := (HZ.out.of_block bz).of_block (Below.heap_setCell _ _ _ _ (by show W.heap.size ≠ gt; omega))
            have T3 : w3.rowIs gt 53 3 (rowF [.int .i64 k, .int .i64 n, v]) := HP.out.box.of_block ((bG.block _ HP.out.low).trans (b12.block _ HP.out.box.lt))
            have q2 : w3.cell? ⟨gt, 2, none⟩ = some v := T3.cell (i := 2) (by decide)
            have qf := T3.frozen 2
            have ql := T3.lt
            clear T3 bz bG b12 bW hown2 hown hgrow hnil hat t2 tl x0 x1 x2 xl e20 e21 e22 e23 hi0 hz0 hz1 hz2
            go_wp2
            go_roundw
            case rel => exact ⟨j', done ++ [s], e2, _, by simp; omega, by go_num, rfl, by omega, by omega, HKN, PN, ZN, BN⟩
            case measure => simp [intOf]

end Go.Proofs.Ytbjfhcbgghpdaaa.walks
