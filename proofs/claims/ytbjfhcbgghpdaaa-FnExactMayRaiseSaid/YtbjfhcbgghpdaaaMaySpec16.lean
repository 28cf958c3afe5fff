/-
  What the specification's l16May and MayRaise answer.
-/
import Derived.Test.YtbjfhcbgghpdaaaProg
import Derived.Test.YtbjfhcbgghpdaaaMagMath
import Derived.Test.YtbjfhcbgghpdaaaInts
import Derived.Test.YtbjfhcbgghpdaaaOwnInts
import Derived.Test.YtbjfhcbgghpdaaaDeep
import Derived.Test.YtbjfhcbgghpdaaaDeepRow
import Derived.Test.YtbjfhcbgghpdaaaDeepGrow
import Derived.Test.YtbjfhcbgghpdaaaNamesMath
import Derived.Test.YtbjfhcbgghpdaaaPutSpec
import Derived.Test.YtbjfhcbgghpdaaaTreeMath16
import Derived.Test.YtbjfhcbgghpdaaaOwnMath
import Derived.Test.YtbjfhcbgghpdaaaTreeMem16
import Derived.Test.YtbjfhcbgghpdaaaMayMath16
import Derived.Test.YtbjfhcbgghpdaaaLineMath
import Derived.Test.YtbjfhcbgghpdaaaLineStep
import Derived.Test.YtbjfhcbgghpdaaaCellBase16
import Derived.Test.YtbjfhcbgghpdaaaReadSpec16
import Derived.Test.YtbjfhcbgghpdaaaTreeSpec16
import Derived.Deep.RegionWith
import Derived.Deep.DeepFit
import Derived.Deep.DeepCutAuto
import Derived.WalkKit
import Derived.WalkSpells
import Derived.Below
import Derived.Handy
import Derived.OwnWalk
namespace Go.Proofs.Ytbjfhcbgghpdaaa.walks
open Go.RowKit Go.Proofs.Ytbjfhcbgghpdaaa.math Go.Proofs.Ytbjfhcbgghpdaaa.ints Go.Proofs.Ytbjfhcbgghpdaaa.deep
set_option linter.unusedVariables false
set_option maxRecDepth 100000

theorem kid_zero {W wr : World} {c : Bool} {t : XT} {a : Option Addr} {cap : Nat} (h : Holds W c (kidsD t) (.slice a t.kids.length cap)) (hB : Below W.heap.size W wr) (hk : 0 < t.kids.length) : ∃ b o la lc, a = some ⟨b, o, none⟩ ∧ b < W.heap.size ∧ wr.cell? ⟨b, o, none⟩ = some (.int .i64 (t.kid 0).kind) ∧ wr.cell? ⟨b, o + 1, none⟩ = some (.int .i64 (t.kid 0).num) ∧ wr.cell? ⟨b, o + 2, none⟩ = some (.slice la (t.kid 0).kids.length lc) ∧ Holds wr c (kidsD (t.kid 0)) (.slice la (t.kid 0).kids.length lc) := by
  obtain ⟨b, o, la, lc, h1, h2, h3, h4, h5, h6⟩ := kid_at h hB hk
  exact ⟨b, o, la, lc, h1, h2, by simpa using h3, by simpa using h4, by simpa using h5, h6⟩
theorem kid_one {W wr : World} {c : Bool} {t : XT} {b o cap : Nat} (h : Holds W c (kidsD t) (.slice (some ⟨b, o, none⟩) t.kids.length cap)) (hB : Below W.heap.size W wr) (hk : 1 < t.kids.length) : ∃ la lc, wr.cell? ⟨b, o + 3, none⟩ = some (.int .i64 (t.kid 1).kind) ∧ wr.cell? ⟨b, o + 3 + 1, none⟩ = some (.int .i64 (t.kid 1).num) ∧ wr.cell? ⟨b, o + 3 + 2, none⟩ = some (.slice la (t.kid 1).kids.length lc) ∧ Holds wr c (kidsD (t.kid 1)) (.slice la (t.kid 1).kids.length lc) := by
  obtain ⟨b', o', la, lc, h1, h2, h3, h4, h5, h6⟩ := kid_at h hB hk
  simp only [Option.some.injEq, Addr.mk.injEq, and_true] at h1
  obtain ⟨rfl, rfl⟩ := h1
  rw [Nat.one_mul] at h3 h4 h5
  exact ⟨la, lc, h3, h4, h5, h6⟩
theorem lrow_own {w : World} {B : Nat} {v : Value} {zs : List Int} (h : Own w B v zs) : LRow w v zs := by
  rcases h.2 with ⟨e, hn⟩ | ⟨g, cap, cur, e, hg, hw, hmc, r⟩
  · exact Or.inl ⟨List.eq_nil_of_length_eq_zero hn, e⟩
  · subst e
    refine Or.inr ⟨g, 0, cap, rfl, hmc, (World.ownsRow.lt h g rfl).2, fun i hi => ?_⟩
    have q := World.ownsRow.cellAt h i (by omega)
    rw [Nat.zero_add, q]
    simp [List.getD, hi]
theorem spec_put16 (v : Value) (zs : List Int) (n : Int) (W : World) (h : LRow W v zs) (hl : zs.length ≤ 1000) : Calls Try.prog 57 #[v, .int .i64 n] W (PutAns W (putL zs n)) := by
  rcases h with ⟨rfl, rfl⟩ | ⟨b, off, cap, rfl, hc, hb, hx⟩
  · exact put_nil n W
  · exact put_some b off cap zs.length (putK zs n) zs n W rfl hc hl hb rfl hx
theorem one_code {n : Int} (h1 : 1 ≤ n) (h2 : n ≤ 9) : risingTo (fun c => decide ((2 : Int) = 2) && decide (n = (c : Int))) 10 = [n] := by
  rcases (show n = 1 ∨ n = 2 ∨ n = 3 ∨ n = 4 ∨ n = 5 ∨ n = 6 ∨ n = 7 ∨ n = 8 ∨ n = 9 by omega) with rfl | rfl | rfl | rfl | rfl | rfl | rfl | rfl | rfl <;> decide
theorem risingTo_none {f : Nat → Bool} (h : ∀ c, f c = false) : ∀ k, risingTo f k = []
  | 0 => rfl
  | k + 1 => by unfold risingTo; rw [risingTo_none h k, h k]; rfl

set_option maxHeartbeats 8000000 in
theorem spec_may (t : XT) : ∀ (hw : WfX t) (W : World) (a : Option Addr) (cap : Nat) (h : Hid (Holds W false (kidsD t) (.slice a t.kids.length cap))), Calls Try.prog 43 #[.agg #[.int .i64 t.kind, .int .i64 t.num, .slice a t.kids.length cap]] W fun e W' => PutAns W (risingTo (mayX t) 10) e W' := by
  refine XT.ind (P := fun t => ∀ (hw : WfX t) (W : World) (a : Option Addr) (cap : Nat) (h : Hid (Holds W false (kidsD t) (.slice a t.kids.length cap))), Calls Try.prog 43 #[.agg #[.int .i64 t.kind, .int .i64 t.num, .slice a t.kids.length cap]] W fun e W' => PutAns W (risingTo (mayX t) 10) e W') (fun t ih hw W a cap h => ?_) t
  cases t with
  | leaf k n =>
    obtain ⟨hc, hk0⟩ := hw
    have hk6 := cellX_kind hc
    have hk : k = 1 ∨ k = 2 := by
      rcases (show k = 1 ∨ k = 2 ∨ k = 3 ∨ k = 4 ∨ k = 5 ∨ k = 6 by omega) with e | e | e | e | e | e
      · exact Or.inl e
      · exact Or.inr e
      · rw [e] at hk0; exact absurd hk0 (by decide)
      · rw [e] at hk0; exact absurd hk0 (by decide)
      · rw [e] at hk0; exact absurd hk0 (by decide)
      · rw [e] at hk0; exact absurd hk0 (by decide)
    show Calls _ _ #[.agg #[.int .i64 k, .int .i64 n, .slice a 0 cap]] W _
    rcases hk with rfl | rfl
    · rw [show risingTo (mayX (.leaf 1 n)) 10 = [] from risingTo_none (fun c => by unfold mayX; simp) _]
      clear h ih hc hk0 hk6
      go_enter Try.func43, Try.ntmps43
      go_wp2
      go_ret
      exact ⟨_, rfl, Or.inl ⟨rfl, rfl⟩, by go_grown⟩
    · have hn := inR_out (show inR n 1 9 = true from hc)
      rw [show risingTo (mayX (.leaf 2 n)) 10 = [n] from one_code hn.1 hn.2]
      clear h ih hc hk0 hk6
      go_enter Try.func43, Try.ntmps43
      go_wp2
      go_ret
      refine ⟨_, rfl, Or.inr ⟨W.heap.size + 1, 0, 1, rfl, Nat.le_refl _, by simp, fun i hi => ?_⟩, by go_grown⟩
      obtain rfl : i = 0 := by simpa using hi
      simp
  | one k n s =>
    obtain ⟨hc, hk1, hws⟩ := hw
    have hk6 := cellX_kind hc
    have hk : k = 6 := by
      rcases (show k = 1 ∨ k = 2 ∨ k = 3 ∨ k = 4 ∨ k = 5 ∨ k = 6 by omega) with e | e | e | e | e | e
      · rw [e] at hk1; exact absurd hk1 (by decide)
      · rw [e] at hk1; exact absurd hk1 (by decide)
      · rw [e] at hk1; exact absurd hk1 (by decide)
      · rw [e] at hk1; exact absurd hk1 (by decide)
      · rw [e] at hk1; exact absurd hk1 (by decide)
      · exact e
    subst hk
    have hn := inR_out (show inR n 0 5 = true from hc)
    show Calls _ _ #[.agg #[.int .i64 6, .int .i64 n, .slice a 1 cap]] W _
    by_cases hn0 : n = 0
    · subst hn0
      rw [show risingTo (mayX (.one 6 0 s)) 10 = [] from risingTo_none (fun c => by unfold mayX; simp) _]
      clear h ih hc hk1 hk6
      go_enter Try.func43, Try.ntmps43
      go_wp2
      go_ret
      exact ⟨_, rfl, Or.inl ⟨rfl, rfl⟩, by go_grown⟩
    · have d1 : (n == 0) = false := by simpa using hn0
      have d2 : decide (n = 0) = false := decide_eq_false hn0
      rw [show risingTo (mayX (.one 6 n s)) 10 = risingTo (mayX s) 10 from risingTo_congr (fun c _ => by rw [mayX, decide_eq_true (show 0 < n by omega), Bool.true_and])]
      obtain ⟨X, hX⟩ : ∃ X, Hid (W.alloc (.cells #[.int .i64 6, .int .i64 n, .slice a 1 cap] 53) = X) := ⟨_, rfl⟩
      have HX : Hid (Below W.heap.size W X) := by show Below _ _ _; rw [← hX.out]; exact (Below.refl _ _).alloc (Nat.le_refl _) _
      obtain ⟨b, o, la, lc, hab, hb, c0, c1, c2, hq⟩ := kid_zero (t := .one 6 n s) h.out HX.out (show 0 < 1 by decide)
      subst hab
      have ih0 := ih 0 (show 0 < 1 by decide) hws X la lc hq
      have RX : Hid (X.rowIs W.heap.size 53 3 (rowF [.int .i64 6, .int .i64 n, .slice (some ⟨b, o, none⟩) 1 cap])) := by rw [← hX.out]; exact row_of W _ _
      have hbX : b < X.heap.size := by have := HX.out.size; omega
      have x0 : X.cell? ⟨W.heap.size, 0, none⟩ = some (.int .i64 6) := RX.out.cell (i := 0) (by decide)
      have x1 : X.cell? ⟨W.heap.size, 1, none⟩ = some (.int .i64 n) := RX.out.cell (i := 1) (by decide)
      have x2 : X.cell? ⟨W.heap.size, 2, none⟩ = some (.slice (some ⟨b, o, none⟩) 1 cap) := RX.out.cell (i := 2) (by decide)
      have xl := RX.out.lt
      have hkid : XT.kid (.one 6 n s) 0 = s := rfl
      rw [hkid] at c0 c1 c2 ih0
      clear hq hkid
      generalize s.kind = k2 at c0 ih0
      generalize s.num = n2 at c1 ih0
      generalize s.kids.length = l2 at c2 ih0
      generalize risingTo (mayX s) 10 = zs at ih0 ⊢
      go_enter Try.func43, Try.ntmps43
      go_upto_region 1 with fail
      rw [hX.out]
      clear hX
      go_wp2_with (go_at_call 43; refine ih0.mono ?_; rintro e w2 ⟨v, rfl, hL, hB⟩; have HL : Hid (LRow w2 v zs) := hL; have HB : Hid (Below X.heap.size X w2) := hB; clear hL hB)
      go_ret
      exact ⟨_, rfl, HL.out, HX.out.trans (HB.out.mono HX.out.size)⟩
  | two k n s1 s2 =>
    obtain ⟨hc, hk2, hw1, hw2⟩ := hw
    have hk6 := cellX_kind hc
    obtain ⟨RES, hRES⟩ : ∃ l, Hid (risingTo (mayX (.two k n s1 s2)) 10 = l) := ⟨_, rfl⟩
    rw [hRES.out]
    show Calls _ _ #[.agg #[.int .i64 k, .int .i64 n, .slice a 2 cap]] W _
    obtain ⟨X, hX⟩ : ∃ X, Hid (W.alloc (.cells #[.int .i64 k, .int .i64 n, .slice a 2 cap] 53) = X) := ⟨_, rfl⟩
    have HX : Hid (Below W.heap.size W X) := by show Below _ _ _; rw [← hX.out]; exact (Below.refl _ _).alloc (Nat.le_refl _) _
    obtain ⟨b, o, la, lc, hab, hb, c0, c1, c2, hq⟩ := kid_zero (t := .two k n s1 s2) h.out HX.out (show 0 < 2 by decide)
    subst hab
    obtain ⟨la1, lc1, e0, e1, e2, hq1⟩ := kid_one (t := .two k n s1 s2) h.out HX.out (show 1 < 2 by decide)
    have ih0 := ih 0 (show 0 < 2 by decide) hw1 X la lc hq
    have ih1 : Hid (∀ w, Below X.heap.size X w → Calls Try.prog 43 #[.agg #[.int .i64 (XT.kid (.two k n s1 s2) 1).kind, .int .i64 (XT.kid (.two k n s1 s2) 1).num, .slice la1 (XT.kid (.two k n s1 s2) 1).kids.length lc1]] w fun e W' => PutAns w (risingTo (mayX (XT.kid (.two k n s1 s2) 1)) 10) e W') := fun w hb => ih 1 (show 1 < 2 by decide) hw2 w la1 lc1 (hq1.kept hb)
    have RX : Hid (X.rowIs W.heap.size 53 3 (rowF [.int .i64 k, .int .i64 n, .slice (some ⟨b, o, none⟩) 2 cap])) := by rw [← hX.out]; exact row_of W _ _
    have hbX : b < X.heap.size := by have := HX.out.size; omega
    have x0 : X.cell? ⟨W.heap.size, 0, none⟩ = some (.int .i64 k) := RX.out.cell (i := 0) (by decide)
    have x1 : X.cell? ⟨W.heap.size, 1, none⟩ = some (.int .i64 n) := RX.out.cell (i := 1) (by decide)
    have x2 : X.cell? ⟨W.heap.size, 2, none⟩ = some (.slice (some ⟨b, o, none⟩) 2 cap) := RX.out.cell (i := 2) (by decide)
    have xl := RX.out.lt
    rw [show XT.kid (.two k n s1 s2) 0 = s1 from rfl] at c0 c1 c2 ih0
    rw [show XT.kid (.two k n s1 s2) 1 = s2 from rfl] at e0 e1 e2 ih1
    clear hq hq1 h ih
    obtain ⟨zs1, hz1⟩ : ∃ z, Hid (risingTo (mayX s1) 10 = z) := ⟨_, rfl⟩
    obtain ⟨zs2, hz2⟩ : ∃ z, Hid (risingTo (mayX s2) 10 = z) := ⟨_, rfl⟩
    have hl1 : zs1.length ≤ 10 := by rw [← hz1.out]; exact rising_len _ _
    have hl2 : zs2.length ≤ 10 := by rw [← hz2.out]; exact rising_len _ _
    rw [hz1.out] at ih0
    rw [hz2.out] at ih1
    generalize s1.kind = k2 at c0 ih0
    generalize s1.num = n2 at c1 ih0
    generalize s1.kids.length = l2 at c2 ih0
    generalize s2.kind = k3 at e0 ih1
    generalize s2.num = n3 at e1 ih1
    generalize s2.kids.length = l3 at e2 ih1
    by_cases hk4 : k = 4
    rotate_left
    · have hk35 : k = 3 ∨ k = 5 := by
        rcases (show k = 1 ∨ k = 2 ∨ k = 3 ∨ k = 4 ∨ k = 5 ∨ k = 6 by omega) with e | e | e | e | e | e
        · rw [e] at hk2; exact absurd hk2 (by decide)
        · rw [e] at hk2; exact absurd hk2 (by decide)
        · exact Or.inl e
        · exact absurd e hk4
        · exact Or.inr e
        · rw [e] at hk2; exact absurd hk2 (by decide)
      have HFIN : putsL zs1 zs2 = RES := by
        rw [← hz1.out, ← hz2.out, puts_all, ← hRES.out]
        exact risingTo_congr (fun c _ => by rw [mayX, if_neg hk4])
      clear hk2 hk6 hc
      have d1 : (k == 4) = false := by simpa using hk4
      have d2 : decide (k = 4) = false := decide_eq_false hk4
      have f1 : (k == 1) = false := by simp; omega
      have f2 : decide (k = 1) = false := decide_eq_false (by omega)
      have f3 : (k == 2) = false := by simp; omega
      have f4 : decide (k = 2) = false := decide_eq_false (by omega)
      have f5 : (k == 6) = false := by simp; omega
      have f6 : decide (k = 6) = false := decide_eq_false (by omega)
      go_enter Try.func43, Try.ntmps43
      go_upto_region 1 with fail
      rw [hX.out]
      clear hX
      go_upto_region 11 with (go_at_call 43; refine ih0.mono ?_; rintro e w1 ⟨v1, rfl, hL, hB⟩; obtain ⟨a1, c1, rfl, hI1⟩ := hL.ints; have L1 : Hid (LRow w1 (.slice a1 zs1.length c1) zs1) := hL; have B1 : Hid (Below X.heap.size X w1) := hB; clear hL hB)
      have u0 := (B1.out.cell (p := ⟨W.heap.size, 0, none⟩) xl).trans x0
      have ul := Nat.lt_of_lt_of_le xl B1.out.size
      have q0 := (B1.out.cell (p := ⟨W.heap.size, 2, none⟩) xl).trans x2
      have g0 := (B1.out.cell (p := ⟨b, o + 3, none⟩) hbX).trans e0
      have g1 := (B1.out.cell (p := ⟨b, o + 3 + 1, none⟩) hbX).trans e1
      have g2 := (B1.out.cell (p := ⟨b, o + 3 + 2, none⟩) hbX).trans e2
      have gl : b < w1.heap.size := Nat.lt_of_lt_of_le hbX B1.out.size
      have gl2 : W.heap.size < w1.heap.size := Nat.lt_of_lt_of_le xl B1.out.size
      have ih1w := ih1.out w1 B1.out
      go_wp2_with (go_at_call 43; refine ih1w.mono ?_; rintro e w4 ⟨v4, rfl, hL, hB⟩; obtain ⟨a4, c4, rfl, hI4⟩ := hL.ints; have B4 : Hid (Below w1.heap.size w1 w4) := hB; clear hL hB)
      have HI4 : Hid (Ints w4 a4 zs2) := hI4
      clear hI4 q0 g0 g1 g2 gl gl2 ih1w
      obtain ⟨N2, hN2⟩ : ∃ N, Hid (zs2.length = N) := ⟨_, rfl⟩
      have hN10 : N2 ≤ 10 := by rw [← hN2.out]; exact hl2
      rw [hN2.out]
      have HW4 : Hid (Below W.heap.size W w4) := HX.out.trans ((B1.out.trans (B4.out.mono B1.out.size)).mono HX.out.size)
      have HL0 : Hid (LRow w4 (.slice a1 zs1.length c1) (putsL zs1 (zs2.take 0))) := by have q := L1.out.kept B4.out; show LRow _ _ _; simpa [putsL] using q
      go_loopw [67, 3] (fun vi v3 wr => ∃ (i : Nat) (u : Value), i ≤ N2 ∧ vi = .int .i64 (i : Int) ∧ u = v3 ∧ Hid (LRow wr u (putsL zs1 (zs2.take i))) ∧ Hid (Below w4.heap.size w4 wr)) (fun vi _ _ => N2 - (intOf vi).toNat)
      case atStart => exact ⟨0, _, Nat.zero_le _, rfl, rfl, HL0, Below.refl _ _⟩
      case round =>
        obtain ⟨i, u, hi, rfl, rfl, HL, HB⟩ := hrel
        by_cases hlt : i < N2
        rotate_left
        · have HA : Hid (PutAns W RES (.returned u) wr) := by
            have q := HL.out
            rw [List.take_of_length_le (by rw [hN2.out]; omega)] at q
            rw [HFIN] at q
            exact ⟨u, rfl, q, HW4.out.trans (HB.out.mono HW4.out.size)⟩
          go_wp2
          go_ret
          exact HA.out
        have hltI : (i : Int) < (N2 : Int) := by omega
        have hiz : i < zs2.length := by rw [hN2.out]; exact hlt
        obtain ⟨b4, off, ha4, hc4⟩ := HI4.out.at HB.out (k := i) hiz
        subst ha4
        have hbw : b4 < wr.heap.size := World.block_lt_of_cell? wr _ hc4
        have hput := spec_put16 u (putsL zs1 (zs2.take i)) (zs2.getD i 0) wr HL.out (by have h1 := puts_len zs1 (zs2.take i); have h2 : (zs2.take i).length ≤ 10 := (by rw [List.length_take]; omega); have h3 := hl1; omega)
        rw [← puts_next hiz] at hput
        obtain ⟨x, Hx⟩ : ∃ x, Hid (zs2.getD i 0 = x) := ⟨_, rfl⟩
        rw [Hx.out] at hc4 hput
        go_wp2_with (go_at_call 57; refine hput.mono ?_; rintro e w5 ⟨v5, rfl, hL5, hB5⟩; have L5 : Hid (LRow w5 v5 (putsL zs1 (zs2.take (i + 1)))) := hL5; have B5 : Hid (Below wr.heap.size wr w5) := hB5; clear hL5 hB5 hput)
        go_roundw
        case rel => exact ⟨i + 1, v5, by omega, by go_num, rfl, L5, HB.out.trans (B5.out.mono HB.out.size)⟩
        case measure => simp [intOf]; omega
    · subst hk4
      obtain ⟨i0, hi0, hz0, hz1', hz2'⟩ := parts_of (P := Try.prog) (e := 3) (z := .int .i64 0) (a := 1) (b := 8) (by kernel_rfl)
      have HWO : Hid (zs1.filter (fun x => !catchI n x) = risingTo (wo (mayX s1) n) 10) := by show _ = _; rw [← hz1.out]; exact rising_filter _ _ _
      have HAN : Hid (zs1.any (catchI n) = anyC (mayX s1) n 10) := by show _ = _; rw [← hz1.out]; exact rising_any _ _ _
      obtain ⟨L2, hL2⟩ : ∃ l, Hid (zs1.filter (fun x => !catchI n x) = l) := ⟨_, rfl⟩
      have hl3 : L2.length ≤ 10 := by rw [← hL2.out]; exact Nat.le_trans (List.length_filter_le _ _) hl1
      have HNO : Hid (zs1.any (catchI n) = false → L2 = RES) := fun q => by
        rw [← hL2.out, HWO.out, ← hRES.out]
        rw [HAN.out] at q
        exact risingTo_congr (fun c _ => by rw [mayX, if_pos rfl, q, Bool.false_and, Bool.or_false])
      have HYES : Hid (zs1.any (catchI n) = true → putsL L2 zs2 = RES) := fun q => by
        rw [← hL2.out, HWO.out, ← hz2.out, puts_all, ← hRES.out]
        rw [HAN.out] at q
        exact risingTo_congr (fun c _ => by rw [mayX, if_pos rfl, q, Bool.true_and])
      clear hk2 hk6 hc HWO HAN hRES hz1 hz2
      go_enter Try.func43, Try.ntmps43
      go_upto_region 1 with fail
      rw [hX.out]
      clear hX
      go_upto_region 11 with (go_at_call 43; refine ih0.mono ?_; rintro e w1 ⟨v1, rfl, hL, hB⟩; obtain ⟨a1, c1, rfl, hI1⟩ := hL.ints; have L1 : Hid (LRow w1 (.slice a1 zs1.length c1) zs1) := hL; have B1 : Hid (Below X.heap.size X w1) := hB; clear hL hB)
      have u0 := (B1.out.cell (p := ⟨W.heap.size, 0, none⟩) xl).trans x0
      have ul := Nat.lt_of_lt_of_le xl B1.out.size
      have HI1 : Hid (Ints w1 a1 zs1) := hI1
      clear hI1
      obtain ⟨N1, hN1⟩ : ∃ N, Hid (zs1.length = N) := ⟨_, rfl⟩
      have hN10 : N1 ≤ 10 := by rw [← hN1.out]; exact hl1
      rw [hN1.out]
      rw [hN1.out] at L1
      go_wp2
      go_loopw [39, 4, 5] (fun vi v4 v5 wr => ∃ (i : Nat) (u : Value), i ≤ N1 ∧ vi = .int .i64 (i : Int) ∧ u = v4 ∧ v5 = .bool ((zs1.take i).any (catchI n)) ∧ Hid (Own wr w1.heap.size u ((zs1.take i).filter (fun x => !catchI n x))) ∧ Hid (Below w1.heap.size w1 wr)) (fun vi _ _ _ => N1 - (intOf vi).toNat)
      case atStart => exact ⟨0, _, Nat.zero_le _, rfl, rfl, rfl, own_nil _ _, Below.refl _ _⟩
      case round =>
        clear u0 ul
        obtain ⟨i, u, hi, rfl, rfl, rfl, HO, HB⟩ := hrel
        have HBX : Hid (Below X.heap.size X wr) := B1.out.trans (HB.out.mono B1.out.size)
        have r1 := (HBX.out.cell (p := ⟨W.heap.size, 1, none⟩) xl).trans x1
        have rl := Nat.lt_of_lt_of_le xl HBX.out.size
        by_cases hlt : i < N1
        rotate_left
        · have hft : zs1.take i = zs1 := List.take_of_length_le (by rw [hN1.out]; omega)
          rw [hft]
          rw [hft, hL2.out] at HO
          clear hft
          have LU : Hid (LRow wr u L2) := lrow_own HO.out
          cases hany : zs1.any (catchI n)
          · have HA : Hid (PutAns W RES (.returned u) wr) := ⟨u, rfl, by rw [← HNO.out hany]; exact LU.out, HX.out.trans (HBX.out.mono HX.out.size)⟩
            clear r1 rl
            go_wp2
            go_ret
            exact HA.out
          · have HFIN : putsL L2 zs2 = RES := HYES.out hany
            clear r1 rl HNO HYES
            have q0 := (HBX.out.cell (p := ⟨W.heap.size, 2, none⟩) xl).trans x2
            have g0 := (HBX.out.cell (p := ⟨b, o + 3, none⟩) hbX).trans e0
            have g1 := (HBX.out.cell (p := ⟨b, o + 3 + 1, none⟩) hbX).trans e1
            have g2 := (HBX.out.cell (p := ⟨b, o + 3 + 2, none⟩) hbX).trans e2
            have gl : b < wr.heap.size := Nat.lt_of_lt_of_le hbX HBX.out.size
            have gl2 : W.heap.size < wr.heap.size := Nat.lt_of_lt_of_le xl HBX.out.size
            have ih1w := ih1.out wr HBX.out
            go_wp2_with (go_at_call 43; refine ih1w.mono ?_; rintro e w4 ⟨v4, rfl, hL, hB⟩; obtain ⟨a4, c4, rfl, hI4⟩ := hL.ints; have B4 : Hid (Below wr.heap.size wr w4) := hB; clear hL hB)
            have HI4 : Hid (Ints w4 a4 zs2) := hI4
            clear hI4 q0 g0 g1 g2 gl gl2 ih1w
            obtain ⟨N2, hN2⟩ : ∃ N, Hid (zs2.length = N) := ⟨_, rfl⟩
            have hN10 : N2 ≤ 10 := by rw [← hN2.out]; exact hl2
            rw [hN2.out]
            have HW4 : Hid (Below W.heap.size W w4) := HX.out.trans ((HBX.out.trans (B4.out.mono HBX.out.size)).mono HX.out.size)
            have HL0 : Hid (LRow w4 u (putsL L2 (zs2.take 0))) := by have q := LU.out.kept B4.out; show LRow _ _ _; simpa [putsL] using q
            go_loopw [67, 3] (fun vi v3 wr => ∃ (i : Nat) (u : Value), i ≤ N2 ∧ vi = .int .i64 (i : Int) ∧ u = v3 ∧ Hid (LRow wr u (putsL L2 (zs2.take i))) ∧ Hid (Below w4.heap.size w4 wr)) (fun vi _ _ => N2 - (intOf vi).toNat)
            case atStart => exact ⟨0, _, Nat.zero_le _, rfl, rfl, HL0, Below.refl _ _⟩
            case round =>
              obtain ⟨i, u2, hi, rfl, rfl, HL, HB⟩ := hrel
              by_cases hlt : i < N2
              rotate_left
              · have HA : Hid (PutAns W RES (.returned u2) wr) := by
                  have q := HL.out
                  rw [List.take_of_length_le (by rw [hN2.out]; omega)] at q
                  rw [HFIN] at q
                  exact ⟨u2, rfl, q, HW4.out.trans (HB.out.mono HW4.out.size)⟩
                go_wp2
                go_ret
                exact HA.out
              have hltI : (i : Int) < (N2 : Int) := by omega
              have hiz : i < zs2.length := by rw [hN2.out]; exact hlt
              obtain ⟨b4, off, ha4, hc4⟩ := HI4.out.at HB.out (k := i) hiz
              subst ha4
              have hbw : b4 < wr.heap.size := World.block_lt_of_cell? wr _ hc4
              have hput := spec_put16 u2 (putsL L2 (zs2.take i)) (zs2.getD i 0) wr HL.out (by have h1 := puts_len L2 (zs2.take i); have h2 : (zs2.take i).length ≤ 10 := (by rw [List.length_take]; omega); have h3 := hl3; omega)
              rw [← puts_next hiz] at hput
              obtain ⟨x, Hx⟩ : ∃ x, Hid (zs2.getD i 0 = x) := ⟨_, rfl⟩
              rw [Hx.out] at hc4 hput
              go_wp2_with (go_at_call 57; refine hput.mono ?_; rintro e w5 ⟨v5, rfl, hL5, hB5⟩; have L5 : Hid (LRow w5 v5 (putsL L2 (zs2.take (i + 1)))) := hL5; have B5 : Hid (Below wr.heap.size wr w5) := hB5; clear hL5 hB5 hput)
              go_roundw
              case rel => exact ⟨i + 1, v5, by omega, by go_num, rfl, L5, HB.out.trans (B5.out.mono HB.out.size)⟩
              case measure => simp [intOf]; omega
        have hltI : (i : Int) < (N1 : Int) := by omega
        have hiz : i < zs1.length := by rw [hN1.out]; exact hlt
        obtain ⟨b1, off, ha1, hc1⟩ := HI1.out.at HB.out (k := i) hiz
        subst ha1
        have hbw : b1 < wr.heap.size := World.block_lt_of_cell? wr _ hc1
        obtain ⟨x, Hx⟩ : ∃ x, Hid (zs1.getD i 0 = x) := ⟨_, rfl⟩
        have HT : Hid (zs1.take (i + 1) = zs1.take i ++ [x]) := by show _ = _; rw [take_one hiz, Hx.out]
        rw [Hx.out] at hc1
        by_cases hcx : n = 0 ∨ n = x
        · have hci : catchI n x = true := by unfold catchI; rcases hcx with e | e <;> simp [e]
          have HF1 : Hid ((zs1.take (i + 1)).any (catchI n) = true) := by show _ = _; rw [HT.out, List.any_append]; simp [hci]
          have HF2 : Hid ((zs1.take (i + 1)).filter (fun x => !catchI n x) = (zs1.take i).filter (fun x => !catchI n x)) := by show _ = _; rw [HT.out, List.filter_append]; simp [hci]
          by_cases hn0 : n = 0
          · subst hn0
            go_wp2
            go_roundw
            case rel => exact ⟨i + 1, u, by omega, by go_num, rfl, by rw [HF1.out], by show Own _ _ _ _; rw [HF2.out]; exact HO.out, HB⟩
            case measure => simp [intOf]; omega
          · have n1 : (n == 0) = false := by simpa using hn0
            have n2 : decide (n = 0) = false := decide_eq_false hn0
            obtain rfl : n = x := hcx.resolve_left hn0
            go_wp2
            go_roundw
            case rel => exact ⟨i + 1, u, by omega, by go_num, rfl, by rw [HF1.out], by show Own _ _ _ _; rw [HF2.out]; exact HO.out, HB⟩
            case measure => simp [intOf]; omega
        · have n1 : (n == 0) = false := by simp; exact fun e => hcx (Or.inl e)
          have n2 : decide (n = 0) = false := decide_eq_false (fun e => hcx (Or.inl e))
          have n3 : (n == x) = false := by simp; exact fun e => hcx (Or.inr e)
          have n4 : decide (n = x) = false := decide_eq_false (fun e => hcx (Or.inr e))
          have hci : catchI n x = false := by unfold catchI; rw [n2, n4]; rfl
          have HF1 : Hid ((zs1.take (i + 1)).any (catchI n) = (zs1.take i).any (catchI n)) := by show _ = _; rw [HT.out, List.any_append]; simp [hci]
          have HF2 : Hid ((zs1.take (i + 1)).filter (fun x => !catchI n x) = (zs1.take i).filter (fun x => !catchI n x) ++ [x]) := by show _ = _; rw [HT.out, List.filter_append]; simp [hci]
          obtain ⟨ys, hys⟩ : ∃ ys, Hid ((zs1.take i).filter (fun x => !catchI n x) = ys) := ⟨_, rfl⟩
          rw [hys.out] at HO HF2
          have hyl : ys.length ≤ 10 := by rw [← hys.out]; exact Nat.le_trans (List.length_filter_le _ _) (Nat.le_trans (by rw [List.length_take]; omega) hl1)
          have hB1 := HB.out.size
          have HOr : Hid (wr.ownsRow w1.heap.size 3 1 u ys.length (ys.map (Value.int .i64))) := HO.out
          generalize (zs1.take i).any (catchI n) = fl at HF1 ⊢
          go_wp2_with (at_builtin; refine wpList_append_own_at _ rfl _ _ 45 rfl w1.heap.size 3 i0 (.int .i64 0) 1 8 Try.underlying45 hi0 hz0 hz1' hz2' rfl (by decide) u ys.length (ys.map (Value.int .i64)) rfl (World.ownsRow.alloc HOr.out _) ⟨wr.heap.size, 0, none⟩ 1 1 [.int .i64 x] rfl rfl (new_one wr x _) (one_of x) ?c3 ?c4 ?c5 ?_)
          case c3 => unfold maxLen; omega
          case c4 => omega
          case c5 => first | omega | (simp; omega)
          intro v' w3 hown hgrow hnil hat
          obtain ⟨q1, q2, q3⟩ := Own.snoc (W := w1) (B := w1.heap.size) HO.out hB1 HB.out hown hgrow
          have O3 : Hid (Own w3 w1.heap.size v' (ys ++ [x])) := q1
          have B3 : Hid (Below w1.heap.size w1 w3) := q2
          clear q1 q2 q3 hown hgrow hnil hat
          go_wp2
          go_roundw
          case rel => exact ⟨i + 1, v', by omega, by go_num, rfl, by rw [HF1.out], by show Own _ _ _ _; rw [HF2.out]; exact O3.out, B3⟩
          case measure => simp [intOf]; omega

/-- The codes of a tree, of none none. -/
def mayL : Option XT → List Int
  | none => []
  | some t => risingTo (mayX t) 10
def MRTo (W : World) (R : Option XT) (e : Ending) (W' : World) : Prop := ∃ v, e = .returned (.tuple #[v, .bool R.isSome]) ∧ LRow W' v (mayL R) ∧ Below W.heap.size W W'
set_option maxHeartbeats 4000000 in
theorem spec_mayraise (a : Option Addr) (len cap : Nat) (zs : List Int) (W : World) (hz : Hid (zs.length = len * 2)) (hlen : len ≤ 1048576) (h : Hid (Ints W a zs)) (R : Option XT) (HR : Hid (treeX (kdX zs) (nnX zs) len = R)) :
    Calls Try.prog 19 #[.slice a len cap] W fun e W' => MRTo W R e W' := by
  have ht := spec_tree a len cap zs W hz hlen h R HR
  cases hr : R with
  | none =>
    rw [hr] at ht
    go_enter Try.func19, Try.ntmps19
    go_wp2_with (go_at_call 25; refine ht.mono ?_; rintro e w2 ⟨hB, k, n, la, l, lc, rfl, hh⟩; have HB : Hid (Below W.heap.size W w2) := hB; clear hB hh)
    go_ret2
    exact ⟨_, rfl, Or.inl ⟨rfl, rfl⟩, HB.out.alloc HB.out.size _⟩
  | some t =>
    have hw : WfX t := treeX_wf (HR.out.trans hr)
    rw [hr] at ht
    go_enter Try.func19, Try.ntmps19
    go_upto_region 2 with (go_at_call 25; refine ht.mono ?_; rintro e w2 ⟨hB, k, n, la, l, lc, rfl, hh⟩; obtain ⟨rfl, rfl, rfl, F, hO, hF⟩ := hh t rfl; have HB : Hid (Below W.heap.size W w2) := hB; have HO : Hid (Holds w2 false (kidsD t) (.slice la t.kids.length lc)) := hO.holds; clear hB hh hO hF)
    obtain ⟨Y, hY⟩ : ∃ Y, Hid (w2.alloc (.cells #[.int .i64 t.kind, .int .i64 t.num, .slice la t.kids.length lc] 53) = Y) := ⟨_, rfl⟩
    have HY : Hid (Below w2.heap.size w2 Y) := by show Below _ _ _; rw [← hY.out]; exact (Below.refl _ _).alloc (Nat.le_refl _) _
    have RY : Hid (Y.rowIs w2.heap.size 53 3 (rowF [.int .i64 t.kind, .int .i64 t.num, .slice la t.kids.length lc])) := by rw [← hY.out]; exact row_of w2 _ _
    have hm := spec_may t hw Y la lc (HO.out.kept HY.out)
    have HBY : Hid (Below W.heap.size W Y) := HB.out.trans (HY.out.mono HB.out.size)
    rw [hY.out]
    clear hY
    have y0 : Y.cell? ⟨w2.heap.size, 0, none⟩ = some (.int .i64 t.kind) := RY.out.cell (i := 0) (by decide)
    have y1 : Y.cell? ⟨w2.heap.size, 1, none⟩ = some (.int .i64 t.num) := RY.out.cell (i := 1) (by decide)
    have y2 : Y.cell? ⟨w2.heap.size, 2, none⟩ = some (.slice la t.kids.length lc) := RY.out.cell (i := 2) (by decide)
    have yl := RY.out.lt
    go_wp2_with (go_at_call 43; refine hm.mono ?_; rintro e w4 ⟨v4, rfl, hL, hB⟩; have L4 : Hid (LRow w4 v4 (risingTo (mayX t) 10)) := hL; have B4 : Hid (Below Y.heap.size Y w4) := hB; clear hL hB)
    go_ret2
    exact ⟨_, rfl, L4.out, HBY.out.trans (B4.out.mono HBY.out.size)⟩
end Go.Proofs.Ytbjfhcbgghpdaaa.walks
