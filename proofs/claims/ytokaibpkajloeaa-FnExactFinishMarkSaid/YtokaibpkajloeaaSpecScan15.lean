/-
  What the specification's l15Step does: a scan.
-/
import Derived.Test.YtokaibpkajloeaaProg
import Derived.Test.YtokaibpkajloeaaInts
import Derived.Test.YtokaibpkajloeaaOwnInts
import Derived.Test.YtokaibpkajloeaaDeep
import Derived.Test.YtokaibpkajloeaaDeepRow
import Derived.Test.YtokaibpkajloeaaDeepM
import Derived.Test.YtokaibpkajloeaaDeepGrow
import Derived.Test.YtokaibpkajloeaaHasIn
import Derived.Test.YtokaibpkajloeaaMarkMath
import Derived.Test.YtokaibpkajloeaaMarkWell
import Derived.Test.YtokaibpkajloeaaMarkData
import Derived.Test.YtokaibpkajloeaaStepMath15
import Derived.Test.YtokaibpkajloeaaMarkRun
import Derived.Test.YtokaibpkajloeaaMarkOut
import Derived.Test.YtokaibpkajloeaaMarkWhere
import Derived.Test.YtokaibpkajloeaaMarkGrey
import Derived.Test.YtokaibpkajloeaaSpecM15
import Derived.Test.YtokaibpkajloeaaSpecStep15
import Derived.WalkKit
import Derived.WalkSpells
import Derived.Below
import Derived.Handy
import Derived.OwnWalk
import Derived.Deep.OwnRows
import Derived.Deep.DeepCutAuto
namespace Go.Proofs.Ytokaibpkajloeaa.walks
open Go.RowKit Go.Proofs.Ytokaibpkajloeaa.math Go.Proofs.Ytokaibpkajloeaa.ints Go.Proofs.Ytokaibpkajloeaa.deep
set_option linter.unusedVariables false
set_option linter.unusedSimpArgs false
set_option maxRecDepth 100000

theorem where_mem15 {p : Nat → Bool} {k : Nat} (hp : p k = true) : ∀ n, k < n → (k : Int) ∈ whereL p n
  | 0, h => by omega
  | n + 1, h => by
    unfold whereL
    by_cases e : k = n
    · subst e
      rw [if_pos hp]; simp
    · have q := where_mem15 hp n (by omega)
      split
      · exact List.mem_append_left _ q
      · exact q
def shadeTo (s : Mst) (k : Nat) : Nat → Mst
  | 0 => s
  | j + 1 => shadeS (shadeTo s k j) (s.lk k j)
theorem shadeTo_kin (s : Mst) (k : Nat) : ∀ j, (shadeTo s k j).lk = s.lk ∧ (shadeTo s k j).on = s.on
  | 0 => ⟨rfl, rfl⟩
  | j + 1 => by
    obtain ⟨a, b⟩ := shadeTo_kin s k j
    obtain ⟨c, _, _, d⟩ := shade_lk (shadeTo s k j) (s.lk k j)
    exact ⟨c.trans a, d.trans b⟩
theorem cellD_mco (s : Mst) (k : Nat) : mco (cellD s) k = s.co k := by
  unfold mco cellD
  rw [if_neg (by omega), if_pos (by omega), show (k * 3 + 1) / 3 = k by omega]; rfl
theorem spec_kind_scan (k : Nat) (W : World) : Calls Try.prog 65 #[.agg #[.int .i64 2, .int .i64 (k : Int), .int .i64 0, .int .i64 0]] W fun e W' => e = .returned (.bool true) ∧ Below W.heap.size W W' := by
  have HB : Hid (Below W.heap.size W (W.alloc (.cells #[.int .i64 2, .int .i64 (k : Int), .int .i64 0, .int .i64 0] 41))) := (Below.refl _ _).alloc (Nat.le_refl _) _
  go_enter Try.func65, Try.ntmps65
  go_wp2
  go_ret
  exact ⟨rfl, HB.out⟩
/-- l15Grey has the grey one among its numbers. -/
theorem spec_grey_has (B g0 d0 n k : Nat) (ra : Option Addr) (rl rc : Nat) (on : Bool) (L C : Nat → Nat) (s : Mst) (g1 : Nat) (W : World) (hn : n ≤ 10) (hk : k < n) (hg : s.co k = 1) (h : Hid (SpecM W B g0 g1 n L C s)) :
    Calls Try.prog 50 #[.agg #[.slice (some ⟨g0, 0, none⟩) n d0, .slice ra rl rc, .bool on]] W fun e W' => ∃ a m cap, ∃ zs : List Int, e = .returned (.slice a m cap) ∧ zs.length = m ∧ m ≤ 10 ∧ Ints W' a zs ∧ inB zs (k : Int) = true ∧ Below W.heap.size W W' := by
  refine (spec_greyl (some ⟨g0, 0, none⟩) n d0 ra rl rc on (cellD s) false W (cell_fits s n) hn (h.out.owns d0).holds).mono ?_
  rintro e w' ⟨v, rfl, hO, hB⟩
  obtain ⟨a, cap, rfl, hM⟩ := hO.mine
  exact ⟨a, _, cap, _, rfl, rfl, Nat.le_trans (whereL_len _ n) hn, hM.ints, in_yes (where_mem15 (by simpa [cellD_mco] using hg) n hk), hB⟩
set_option maxHeartbeats 8000000 in
theorem spec_scan15 (B g0 d0 g1 d1 n : Nat) (L C : Nat → Nat) (s : Mst) (k : Nat) (W : World) (hn : n ≤ 10) (hk : k < n) (hon : s.on = true) (hg : s.co k = 1) (h : Hid (SpecM W B g0 g1 n L C s)) (hr : Hid (∀ j, j < 2 → s.lk k j = -1 ∨ ∃ q : Nat, s.lk k j = (q : Int) ∧ q < n)) :
    Calls Try.prog 43 #[.agg #[.slice (some ⟨g0, 0, none⟩) n d0, .slice (some ⟨g1, 0, none⟩) 2 d1, .bool true], .agg #[.int .i64 2, .int .i64 (k : Int), .int .i64 0, .int .i64 0]] W fun e W' => SStepTo B g0 d0 g1 d1 n L C (scanS s k) true W e W' := by
  obtain ⟨V, hV⟩ : ∃ V, Hid (W.alloc (.cells #[.slice (some ⟨g0, 0, none⟩) n d0, .slice (some ⟨g1, 0, none⟩) 2 d1, .bool true] 25) = V) := ⟨_, rfl⟩
  have hVs : V.heap.size = W.heap.size + 1 := by rw [← hV.out]; simp
  have hVB : Below W.heap.size W V := by rw [← hV.out]; exact (Below.refl _ _).alloc (Nat.le_refl _) _
  have hVR : V.rowIs W.heap.size 25 3 (rowF [.slice (some ⟨g0, 0, none⟩) n d0, .slice (some ⟨g1, 0, none⟩) 2 d1, .bool true]) := by rw [← hV.out]; exact row_of W #[.slice (some ⟨g0, 0, none⟩) n d0, .slice (some ⟨g1, 0, none⟩) 2 d1, .bool true] 25
  obtain ⟨U, hU⟩ : ∃ U, Hid (V.alloc (.cells #[.int .i64 2, .int .i64 (k : Int), .int .i64 0, .int .i64 0] 41) = U) := ⟨_, rfl⟩
  have hUs : U.heap.size = W.heap.size + 2 := by rw [← hU.out]; simp [hVs]
  have hUB : Below V.heap.size V U := by rw [← hU.out]; exact (Below.refl _ _).alloc (Nat.le_refl _) _
  have hUR : U.rowIs (W.heap.size + 1) 41 4 (rowF [.int .i64 2, .int .i64 (k : Int), .int .i64 0, .int .i64 0]) := by rw [← hU.out, ← hVs]; exact row_of V #[.int .i64 2, .int .i64 (k : Int), .int .i64 0, .int .i64 0] 41
  obtain ⟨X, hX⟩ : ∃ X, Hid (U.alloc (.cells #[.slice none 0 0, .slice none 0 0, .bool false] 25) = X) := ⟨_, rfl⟩
  have hXB : Below U.heap.size U X := by rw [← hX.out]; exact (Below.refl _ _).alloc (Nat.le_refl _) _
  have hXR : X.rowIs (W.heap.size + 2) 25 3 (rowF [.slice none 0 0, .slice none 0 0, .bool false]) := by rw [← hX.out, ← hUs]; exact row_of U #[.slice none 0 0, .slice none 0 0, .bool false] 25
  have HXX : Hid (((W.alloc (.cells #[.slice (some ⟨g0, 0, none⟩) n d0, .slice (some ⟨g1, 0, none⟩) 2 d1, .bool true] 25)).alloc (.cells #[.int .i64 2, .int .i64 (k : Int), .int .i64 0, .int .i64 0] 41)).alloc (.cells #[.slice none 0 0, .slice none 0 0, .bool false] 25) = X) := by show _ = _; rw [hV.out, hU.out, hX.out]
  have HX : Hid (Below W.heap.size W X) := hVB.trans ((hUB.trans (hXB.mono hUB.size)).mono hVB.size)
  have RM : Hid (X.rowIs W.heap.size 25 3 (rowF [.slice (some ⟨g0, 0, none⟩) n d0, .slice (some ⟨g1, 0, none⟩) 2 d1, .bool true])) := hVR.of_block ((hUB.trans (hXB.mono hUB.size)).block _ hVR.lt)
  have RS : Hid (X.rowIs (W.heap.size + 1) 41 4 (rowF [.int .i64 2, .int .i64 (k : Int), .int .i64 0, .int .i64 0])) := hUR.of_block (hXB.block _ hUR.lt)
  have RZ : Hid (X.rowIs (W.heap.size + 2) 25 3 (rowF [.slice none 0 0, .slice none 0 0, .bool false])) := hXR
  clear hVs hVB hVR hUs hUB hUR hXB hXR hV hU hX V U
  have HGL : Hid (g0 < W.heap.size ∧ g1 < W.heap.size ∧ ∀ k, k < n → L k < W.heap.size) := ⟨h.out.cells.1, h.out.rts.1, fun k hk => (h.out.lks k hk).1⟩
  have s0 : X.cell? ⟨W.heap.size + 1, 0, none⟩ = some (.int .i64 2) := RS.out.cell (i := 0) (by decide)
  have s1 : X.cell? ⟨W.heap.size + 1, 1, none⟩ = some (.int .i64 (k : Int)) := RS.out.cell (i := 1) (by decide)
  have s2 : X.cell? ⟨W.heap.size + 1, 2, none⟩ = some (.int .i64 0) := RS.out.cell (i := 2) (by decide)
  have s3 : X.cell? ⟨W.heap.size + 1, 3, none⟩ = some (.int .i64 0) := RS.out.cell (i := 3) (by decide)
  have sl := RS.out.lt
  have hkd := spec_kind_scan k X
  have HSX : Hid (SpecM X B g0 g1 n L C s) := h.out.kept HX.out
  go_enter Try.func43, Try.ntmps43
  go_upto_region 1 with fail
  rw [HXX.out]
  clear HXX
  go_upto_region 3 with (go_at_call 65; refine hkd.mono ?_; rintro e w1 ⟨rfl, hB1⟩; have HB1 : Hid (Below X.heap.size X w1) := hB1; clear hB1 s0 s1 s2 s3 sl hkd)
  have RM1 : Hid (w1.rowIs W.heap.size 25 3 (rowF [.slice (some ⟨g0, 0, none⟩) n d0, .slice (some ⟨g1, 0, none⟩) 2 d1, .bool true])) := RM.out.of_block (HB1.out.block _ RM.out.lt)
  have RS1 : Hid (w1.rowIs (W.heap.size + 1) 41 4 (rowF [.int .i64 2, .int .i64 (k : Int), .int .i64 0, .int .i64 0])) := RS.out.of_block (HB1.out.block _ RS.out.lt)
  have m0 : w1.cell? ⟨W.heap.size, 0, none⟩ = some (.slice (some ⟨g0, 0, none⟩) n d0) := RM1.out.cell (i := 0) (by decide)
  have m1 : w1.cell? ⟨W.heap.size, 1, none⟩ = some (.slice (some ⟨g1, 0, none⟩) 2 d1) := RM1.out.cell (i := 1) (by decide)
  have m2 : w1.cell? ⟨W.heap.size, 2, none⟩ = some (.bool true) := RM1.out.cell (i := 2) (by decide)
  have ml := RM1.out.lt
  have s0 : w1.cell? ⟨W.heap.size + 1, 0, none⟩ = some (.int .i64 2) := RS1.out.cell (i := 0) (by decide)
  have sl := RS1.out.lt
  have hgr := spec_grey_has B g0 d0 n k (some ⟨g1, 0, none⟩) 2 d1 true L C s g1 w1 hn hk hg (HSX.out.kept HB1.out)
  go_upto_region 17 with (go_at_call 50; refine hgr.mono ?_; rintro e w2 ⟨ga, gm, gc, zs, rfl, hz, hm, hI, hin, hB2⟩; have HB2 : Hid (Below X.heap.size X w2) := HB1.out.trans (hB2.mono HB1.out.size); have HIZ : Hid (Ints w2 ga zs) := hI; have HIN : Hid (inB zs (k : Int) = true) := hin; have HZL : Hid (zs.length = gm) := hz; have t0 : w2.cell? ⟨W.heap.size + 1, 0, none⟩ = some (.int .i64 2) := (hB2.cell (p := ⟨W.heap.size + 1, 0, none⟩) sl).trans s0; have tl := Nat.lt_of_lt_of_le sl hB2.size; clear hB2 hI hin hz m0 m1 m2 ml s0 sl hgr)
  clear HB1 RM1 RS1
  have RM2 : Hid (w2.rowIs W.heap.size 25 3 (rowF [.slice (some ⟨g0, 0, none⟩) n d0, .slice (some ⟨g1, 0, none⟩) 2 d1, .bool true])) := RM.out.of_block (HB2.out.block _ RM.out.lt)
  have RS2 : Hid (w2.rowIs (W.heap.size + 1) 41 4 (rowF [.int .i64 2, .int .i64 (k : Int), .int .i64 0, .int .i64 0])) := RS.out.of_block (HB2.out.block _ RS.out.lt)
  have RZ2 : Hid (w2.rowIs (W.heap.size + 2) 25 3 (rowF [.slice none 0 0, .slice none 0 0, .bool false])) := RZ.out.of_block (HB2.out.block _ RZ.out.lt)
  have HS2 : Hid (SpecM w2 B g0 g1 n L C s) := HSX.out.kept HB2.out
  have HO2 : Hid (OnlyF W w2 (fun x => x = g0)) := OnlyF.of_below (HX.out.trans (HB2.out.mono HX.out.size))
  have t1 : w2.cell? ⟨W.heap.size + 1, 1, none⟩ = some (.int .i64 (k : Int)) := RS2.out.cell (i := 1) (by decide)
  have hha := spec_in ga gm gc (k : Int) zs w2 HZL (by omega) HIZ
  rw [HIN.out] at hha
  clear RM RS RZ HX HSX HB2 HIZ HIN HZL
  go_upto_region 23 with (go_at_call 69; refine hha.mono ?_; rintro e w' ⟨rfl, hw⟩; rw [hw]; clear hw w' hha)
  have k0 : (0 : Int) ≤ (k : Int) := by omega
  have k1 : (k : Int) < (n : Int) := by omega
  have m0 : w2.cell? ⟨W.heap.size, 0, none⟩ = some (.slice (some ⟨g0, 0, none⟩) n d0) := RM2.out.cell (i := 0) (by decide)
  have ml := RM2.out.lt
  obtain ⟨c0, _, _⟩ := HS2.out.cell hk
  have cl := HS2.out.cells.1
  have HS20 : Hid (SpecM w2 B g0 g1 n L C (shadeTo s k 0)) := HS2
  have RZ20 : Hid (w2.rowIs (W.heap.size + 1 + 1) 25 3 (rowF [.slice none 0 0, .slice none 0 0, .bool false])) := RZ2
  clear HS2 RZ2
  go_wp2
  clear m0 ml c0 cl t0 t1 tl
  go_loopw [77] (fun vj wr => ∃ j : Nat, j ≤ 2 ∧ vj = .int .i64 (j : Int) ∧ Hid (SpecM wr B g0 g1 n L C (shadeTo s k j)) ∧ Hid (wr.rowIs W.heap.size 25 3 (rowF [.slice (some ⟨g0, 0, none⟩) n d0, .slice (some ⟨g1, 0, none⟩) 2 d1, .bool true])) ∧ Hid (wr.rowIs (W.heap.size + 1) 41 4 (rowF [.int .i64 2, .int .i64 (k : Int), .int .i64 0, .int .i64 0])) ∧ Hid (wr.rowIs (W.heap.size + 1 + 1) 25 3 (rowF [.slice none 0 0, .slice none 0 0, .bool false])) ∧ Hid (OnlyF W wr (fun x => x = g0))) (fun vj _ => 2 - (intOf vj).toNat)
  case atStart => exact ⟨0, by decide, rfl, HS20, RM2, RS2, RZ20, HO2⟩
  case round =>
    obtain ⟨j, hj, rfl, HS, RM, RS, RZ, HO⟩ := hrel
    clear HS20 RM2 RS2 RZ20 HO2
    have m0 : wr.cell? ⟨W.heap.size, 0, none⟩ = some (.slice (some ⟨g0, 0, none⟩) n d0) := RM.out.cell (i := 0) (by decide)
    have m1 : wr.cell? ⟨W.heap.size, 1, none⟩ = some (.slice (some ⟨g1, 0, none⟩) 2 d1) := RM.out.cell (i := 1) (by decide)
    have m2 : wr.cell? ⟨W.heap.size, 2, none⟩ = some (.bool true) := RM.out.cell (i := 2) (by decide)
    have ml := RM.out.lt
    by_cases hlt : j < 2
    rotate_left
    · have e : j = 2 := by omega
      have HT : Hid (scanS s k = (shadeTo s k j).setCo k 2) := by show _ = _; rw [e]; rfl
      have hkd : decide ((j : Int) < (2 : Int)) = false := by rw [e]; rfl
      have hj2 : (2 : Int) ≤ (j : Int) := by omega
      clear e hlt hj
      have s1 : wr.cell? ⟨W.heap.size + 1, 1, none⟩ = some (.int .i64 (k : Int)) := RS.out.cell (i := 1) (by decide)
      have sl := RS.out.lt
      obtain ⟨c0, c1, c2⟩ := HS.out.cell hk
      have cl := HS.out.cells.1
      have cf := (HS.out.cells.2 (k * 3 + 1) (by omega)).2
      obtain ⟨w5, hw5⟩ : ∃ w5, Hid (wr.setCell ⟨g0, k * 3 + 1, none⟩ (.int .i64 2) = w5) := ⟨_, rfl⟩
      have HS5 : Hid (SpecM w5 B g0 g1 n L C (scanS s k)) := by show SpecM _ _ _ _ _ _ _ _; rw [← hw5.out, HT.out]; exact HS.out.setCo hk 2
      have hgn : W.heap.size ≠ g0 ∧ W.heap.size + 1 + 1 ≠ g0 := by have := HGL.out; omega
      have RM5 : Hid (w5.rowIs W.heap.size 25 3 (rowF [.slice (some ⟨g0, 0, none⟩) n d0, .slice (some ⟨g1, 0, none⟩) 2 d1, .bool true])) := by show World.rowIs _ _ _ _ _; rw [← hw5.out]; exact RM.out.of_block (Below.heap_setCell _ _ _ _ (by show W.heap.size ≠ g0; exact hgn.1))
      have RZ5 : Hid (w5.rowIs (W.heap.size + 1 + 1) 25 3 (rowF [.slice none 0 0, .slice none 0 0, .bool false])) := by show World.rowIs _ _ _ _ _; rw [← hw5.out]; exact RZ.out.of_block (Below.heap_setCell _ _ _ _ (by show W.heap.size + 1 + 1 ≠ g0; exact hgn.2))
      have HO5 : Hid (OnlyF W w5 (fun x => x = g0)) := by show OnlyF _ _ _; rw [← hw5.out]; exact only_set (F := fun x => x = g0) HO.out rfl _
      go_upto_region 29 with fail
      rw [hw5.out]
      clear hw5 HS RM RS RZ HO m0 m1 m2 ml s1 sl c0 c1 c2 cl cf
      have a0 : w5.cell? ⟨W.heap.size, 0, none⟩ = some (.slice (some ⟨g0, 0, none⟩) n d0) := RM5.out.cell (i := 0) (by decide)
      have a1 : w5.cell? ⟨W.heap.size, 1, none⟩ = some (.slice (some ⟨g1, 0, none⟩) 2 d1) := RM5.out.cell (i := 1) (by decide)
      have a2 : w5.cell? ⟨W.heap.size, 2, none⟩ = some (.bool true) := RM5.out.cell (i := 2) (by decide)
      have al := RM5.out.lt
      have z0 : w5.cell? ⟨W.heap.size + 1 + 1, 0, none⟩ = some (.slice none 0 0) := RZ5.out.cell (i := 0) (by decide)
      have z1 : w5.cell? ⟨W.heap.size + 1 + 1, 1, none⟩ = some (.slice none 0 0) := RZ5.out.cell (i := 1) (by decide)
      have z2 : w5.cell? ⟨W.heap.size + 1 + 1, 2, none⟩ = some (.bool false) := RZ5.out.cell (i := 2) (by decide)
      have f0 := RZ5.out.frozen 0
      have f1 := RZ5.out.frozen 1
      have f2 := RZ5.out.frozen 2
      have zl := RZ5.out.lt
      have HA : Hid (∀ u0 u1 u2, SStepTo B g0 d0 g1 d1 n L C (scanS s k) true W (.returned (.tuple #[.agg #[.slice (some ⟨g0, 0, none⟩) n d0, .slice (some ⟨g1, 0, none⟩) 2 d1, .bool true], .bool true])) (((w5.setCell ⟨W.heap.size + 1 + 1, 0, none⟩ u0).setCell ⟨W.heap.size + 1 + 1, 1, none⟩ u1).setCell ⟨W.heap.size + 1 + 1, 2, none⟩ u2)) := fun u0 u1 u2 => ⟨rfl, HS5.out.far3 ⟨by have := HGL.out; omega, by have := HGL.out; omega, fun k hk => by have := HGL.out.2.2 k hk; omega⟩ _ _ _, only_new3 HO5.out (by omega) _ _ _⟩
      clear HS5 RM5 RZ5 HO5
      go_wp2
      exact bodyPost_ret (v := .tuple #[.agg #[.slice (some ⟨g0, 0, none⟩) n d0, .slice (some ⟨g1, 0, none⟩) 2 d1, .bool true], .bool true]) (by simp only [results, Try.results43]; go_simp) rfl (HA.out _ _ _)
    have hltI : (j : Int) < (2 : Int) := by omega
    have hj0 : (0 : Int) ≤ (j : Int) := by omega
    obtain ⟨kl, kon⟩ := shadeTo_kin s k j
    obtain ⟨x, Hx⟩ : ∃ x, Hid (s.lk k j = x) := ⟨_, rfl⟩
    have q0 : wr.cell? ⟨L k, j, none⟩ = some (.int .i64 x) := by rw [((HS.out.lks k hk).2 j hlt).1, kl]; show some (Value.int .i64 (s.lk k j)) = _; rw [Hx.out]
    have ql := (HS.out.lks k hk).1
    have hrx := hr.out j hlt
    rw [Hx.out] at hrx
    have HT : Hid (shadeTo s k (j + 1) = shadeS (shadeTo s k j) x) := by show _ = _; rw [← Hx.out]; rfl
    have hsh := spec_shade B g0 d0 g1 d1 n L C (shadeTo s k j) x wr hn HS hrx
    rw [kon, hon] at hsh
    clear Hx kl kon hrx
    go_wp2_with (first
      | (go_at_call 68; refine hsh.mono ?_; rintro e w3 ⟨rfl, hS3, hO3⟩; have HS3 : Hid (SpecM w3 B g0 g1 n L C (shadeS (shadeTo s k j) x)) := hS3; have HO3 : Hid (OnlyF wr w3 (fun x => x = g0)) := hO3; have RM3 : Hid (w3.rowIs W.heap.size 25 3 (rowF [.slice (some ⟨g0, 0, none⟩) n d0, .slice (some ⟨g1, 0, none⟩) 2 d1, .bool true])) := RM.out.of_block (HO3.out.block _ RM.out.lt (by have := HGL.out; omega)); have t0 : w3.cell? ⟨W.heap.size, 0, none⟩ = some (.slice (some ⟨g0, 0, none⟩) n d0) := RM3.out.cell (i := 0) (by decide); have t1 : w3.cell? ⟨W.heap.size, 1, none⟩ = some (.slice (some ⟨g1, 0, none⟩) 2 d1) := RM3.out.cell (i := 1) (by decide); have t2 : w3.cell? ⟨W.heap.size, 2, none⟩ = some (.bool true) := RM3.out.cell (i := 2) (by decide); have tf0 := RM3.out.frozen 0; have tf1 := RM3.out.frozen 1; have tf2 := RM3.out.frozen 2; have tl := RM3.out.lt; clear hS3 hO3 m0 m1 m2 ml q0 ql hsh))
    have HS4 : Hid (SpecM (set3 w3 W.heap.size (.slice (some ⟨g0, 0, none⟩) n d0) (.slice (some ⟨g1, 0, none⟩) 2 d1) (.bool true)) B g0 g1 n L C (shadeTo s k (j + 1))) := by show SpecM _ _ _ _ _ _ _ _; rw [HT.out]; exact HS3.out.far3 HGL.out _ _ _
    have RM4 := (show Hid _ from set3_row RM3.out (.slice (some ⟨g0, 0, none⟩) n d0) (.slice (some ⟨g1, 0, none⟩) 2 d1) (.bool true))
    have RS4 : Hid ((set3 w3 W.heap.size (.slice (some ⟨g0, 0, none⟩) n d0) (.slice (some ⟨g1, 0, none⟩) 2 d1) (.bool true)).rowIs (W.heap.size + 1) 41 4 (rowF [.int .i64 2, .int .i64 (k : Int), .int .i64 0, .int .i64 0])) := (RS.out.of_block (HO3.out.block _ RS.out.lt (by have := HGL.out; omega))).of_block (set3_block _ _ _ _ (by omega))
    have RZ4 : Hid ((set3 w3 W.heap.size (.slice (some ⟨g0, 0, none⟩) n d0) (.slice (some ⟨g1, 0, none⟩) 2 d1) (.bool true)).rowIs (W.heap.size + 1 + 1) 25 3 (rowF [.slice none 0 0, .slice none 0 0, .bool false])) := (RZ.out.of_block (HO3.out.block _ RZ.out.lt (by have := HGL.out; omega))).of_block (set3_block _ _ _ _ (by omega))
    have HO4 : Hid (OnlyF W (set3 w3 W.heap.size (.slice (some ⟨g0, 0, none⟩) n d0) (.slice (some ⟨g1, 0, none⟩) 2 d1) (.bool true)) (fun x => x = g0)) := only_new3 (HO.out.trans HO3.out) (Nat.le_refl _) _ _ _
    clear HS3 HO3 RM3 t0 t1 t2 tf0 tf1 tf2 tl HS RM RS RZ HO HT
    go_roundw
    case rel => exact ⟨j + 1, by omega, by go_num, HS4, RM4, RS4, RZ4, HO4⟩
    case measure => simp [intOf]; omega
end Go.Proofs.Ytokaibpkajloeaa.walks
