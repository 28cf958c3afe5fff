/-
  What the specification's RunLined answers.
-/
import Derived.Test.YtlocdlgbjjbnoaaProg
import Derived.Test.YtlocdlgbjjbnoaaMagMath
import Derived.Test.YtlocdlgbjjbnoaaInts
import Derived.Test.YtlocdlgbjjbnoaaOwnInts
import Derived.Test.YtlocdlgbjjbnoaaDeep
import Derived.Test.YtlocdlgbjjbnoaaDeepRow
import Derived.Test.YtlocdlgbjjbnoaaLineMath
import Derived.Test.YtlocdlgbjjbnoaaLineStep
import Derived.Test.YtlocdlgbjjbnoaaLineGd
import Derived.Test.YtlocdlgbjjbnoaaLineGood
import Derived.Test.YtlocdlgbjjbnoaaLineGuard
import Derived.Test.YtlocdlgbjjbnoaaRunLMath16
import Derived.Deep.RegionWith
import Derived.Deep.RegionHeld3
import Derived.Deep.OwnRows
import Derived.Deep.DeepFit
import Derived.Deep.DeepCutAuto
import Derived.WalkKit
import Derived.WalkSpells
import Derived.Below
import Derived.Handy
import Derived.OwnWalk
namespace Go.Proofs.Ytlocdlgbjjbnoaa.walks
open Go.RowKit Go.Proofs.Ytlocdlgbjjbnoaa.math Go.Proofs.Ytlocdlgbjjbnoaa.ints Go.Proofs.Ytlocdlgbjjbnoaa.deep
set_option linter.unusedVariables false
set_option maxRecDepth 100000

theorem own_low_r {w : World} {B B' : Nat} {v : Value} {zs : List Int} (h : Own w B v zs) (hB : B' ≤ B) : Own w B' v zs := by
  refine ⟨h.1, ?_⟩
  rcases h.2 with q | ⟨g, cap, cur, e, hg, r⟩
  · exact Or.inl q
  · exact Or.inr ⟨g, cap, cur, e, Nat.le_trans hB hg, r⟩
theorem own_agree_r {w w' : World} {B : Nat} {v : Value} {zs : List Int} (h : Own w B v zs) (hb : ∀ g, B ≤ g → g < w.heap.size → w'.heap[g]? = w.heap[g]?) : Own w' B v zs := by
  refine ⟨h.1, ?_⟩
  rcases h.2 with q | ⟨g, cap, cur, e, hg, hw, r⟩
  · exact Or.inl q
  · have hl := (World.ownsRow.lt h g (by rw [e]; rfl)).2
    exact Or.inr ⟨g, cap, cur, e, hg, (hb g hg hl).trans hw, r⟩
/-- What a run comes to. -/
def RLTo (W : World) (R : Option (List Int × Int × Nat)) (e : Ending) (W' : World) : Prop := Below W.heap.size W W' ∧ (R = none → e = .returned (.tuple #[.slice none 0 0, .int .i64 0, .int .i64 0, .bool false])) ∧ ∀ ts u d, R = some (ts, u, d) → ∃ v, e = .returned (.tuple #[v, .int .i64 u, .int .i64 (d : Int), .bool true]) ∧ Own W' W.heap.size v ts
/-- A run at work in memory, as the specification has it. -/
structure SpecR (W w : World) (T : TypeId) (a : Option Addr) (n cap : Nat) (ga : Option Addr) (g gc gr B : Nat) (v : Value) (s : Rs) : Prop where
  box : w.rowIs W.heap.size T 2 (rowF [.slice a n cap, .slice ga g gc])
  regs : w.rowIs gr 3 40 (fun i => .int .i64 (s.rg i))
  told : Own w B v s.told
  bel : Below W.heap.size W w
  ord : W.heap.size < gr ∧ gr < B ∧ B ≤ w.heap.size
theorem SpecR.kept {W w w' : World} {T : TypeId} {a : Option Addr} {n cap : Nat} {ga : Option Addr} {g gc gr B : Nat} {v : Value} {s : Rs} (h : SpecR W w T a n cap ga g gc gr B v s) (hb : Below w.heap.size w w') : SpecR W w' T a n cap ga g gc gr B v s :=
  ⟨h.box.of_block (hb.block _ h.box.lt), h.regs.of_block (hb.block _ h.regs.lt), own_agree_r h.told (fun x _ hx => hb.block x hx), h.bel.trans (hb.mono h.bel.size), h.ord.1, h.ord.2.1, Nat.le_trans h.ord.2.2 hb.size⟩
/-- .. a register is set. -/
theorem SpecR.set {W w : World} {T : TypeId} {a : Option Addr} {n cap : Nat} {ga : Option Addr} {g gc gr B : Nat} {v : Value} {s s' : Rs} (h : SpecR W w T a n cap ga g gc gr B v s) (k : Nat) (x : Int) (hr : s'.rg = updR s.rg k x) (ht : s'.told = s.told) : SpecR W (w.setCell ⟨gr, k, none⟩ (.int .i64 x)) T a n cap ga g gc gr B v s' := by
  have hne := h.ord
  refine ⟨h.box.setOther (by show W.heap.size ≠ gr; omega) _, ?_, ?_, h.bel.setCell (by show W.heap.size ≤ gr; omega) _, hne.1, hne.2.1, by simpa [World.setCell] using hne.2.2⟩
  · refine World.rowIs.congr (World.rowIs.set h.regs k (.int .i64 x)) (fun i hi => ?_)
    rw [hr]
    unfold updR
    by_cases e : i = k
    · subst e; simp
    · simp only [if_neg e]
  · rw [ht]
    exact own_agree_r h.told (fun y hy _ => Below.heap_setCell _ _ _ _ (by show y ≠ gr; omega))
/-- .. the same registers. -/
theorem SpecR.go {W w : World} {T : TypeId} {a : Option Addr} {n cap : Nat} {ga : Option Addr} {g gc gr B : Nat} {v : Value} {s s' : Rs} (h : SpecR W w T a n cap ga g gc gr B v s) (hr : s'.rg = s.rg) (ht : s'.told = s.told) : SpecR W w T a n cap ga g gc gr B v s' :=
  ⟨h.box, by rw [hr]; exact h.regs, by rw [ht]; exact h.told, h.bel, h.ord⟩
/-- .. a number is told. -/
theorem SpecR.tell {W w w3 : World} {T : TypeId} {a : Option Addr} {n cap : Nat} {ga : Option Addr} {g gc gr B : Nat} {v v' : Value} {s s' : Rs} {x : Int} {o : Obj} (h : SpecR W w T a n cap ga g gc gr B v s) (hown : w3.ownsRow B 3 1 v' (s.told.length + 1) (s.told.map (Value.int .i64) ++ [.int .i64 x])) (hg : (w.alloc o).grownBy w3 v.ownBlock) (hr : s'.rg = s.rg) (ht : s'.told = s.told ++ [x]) : SpecR W w3 T a n cap ga g gc gr B v' s' := by
  have ho := h.ord
  obtain ⟨q1, q2, q3⟩ := Own.snoc (W := w) (B := B) h.told ho.2.2 (Below.refl _ _) hown hg
  refine ⟨h.box.of_block (q2.block _ (by omega)), ?_, by rw [ht]; exact q1, h.bel.trans (q2.mono (by omega)), ho.1, ho.2.1, q3⟩
  rw [hr]
  exact h.regs.of_block (q2.block _ ho.2.1)

set_option maxHeartbeats 16000000 in
theorem spec_runlined (a : Option Addr) (n cap : Nat) (ga : Option Addr) (g gc : Nat) (zs gs : List Int) (fuel : Int) (W : World) (hz : Hid (zs.length = n * 3)) (hn : n ≤ 1048576) (h : Hid (Ints W a zs)) (hgz : Hid (gs.length = g * 4)) (hg : g ≤ 1048576) (hgs : Hid (Ints W ga gs)) (R : Option (List Int × Int × Nat)) (HRA : Hid (lineAns (zf zs) n (zf gs) g fuel = R)) :
    Calls Try.prog 21 #[.agg #[.slice a n cap, .slice ga g gc], .int .i64 fuel] W fun e W' => RLTo W R e W' := by
  obtain ⟨i0, hi0, hz0, hz1, hz2⟩ := parts_of (P := Try.prog) (e := 3) (z := .int .i64 0) (a := 1) (b := 8) (by kernel_rfl)
  obtain ⟨X, hX⟩ : ∃ X, Hid (W.alloc (.cells #[.slice a n cap, .slice ga g gc] 37) = X) := ⟨_, rfl⟩
  have HX : Hid (Below W.heap.size W X) := by show Below _ _ _; rw [← hX.out]; go_grown
  have R0 : Hid (X.rowIs W.heap.size 37 2 (rowF [.slice a n cap, .slice ga g gc])) := by rw [← hX.out]; exact row_of W #[.slice a n cap, .slice ga g gc] _
  obtain ⟨r0, r1, rl0⟩ := cellsL R0
  have hl := spec_lined a n cap ga g gc zs gs X hz hn (h.out.kept HX.out) hgz hg (hgs.out.kept HX.out)
  cases hline : linedB (zf zs) n (zf gs) g
  · have HE : Hid (R = none) := by show _ = _; rw [← HRA.out]; unfold lineAns okRL; rw [hline]; rfl
    rw [hline] at hl
    go_enter Try.func21, Try.ntmps21
    go_upto_region 1 with fail
    rw [hX.out]
    clear hX
    go_wp2_with (go_at_call 31; refine hl.mono ?_; rintro e w1 ⟨rfl, hB⟩; obtain ⟨K0, K1⟩ := keepL HX R0 hB; clear hB hl r0 r1 rl0 HX R0; have HX := K0; have R0 := K1; clear K0 K1; obtain ⟨r0, r1, rl0⟩ := cellsL R0)
    (try simp only [Exit.inBlock, Exit.then])
    refine bodyPost_ret (v := .tuple #[.slice none 0 0, .int .i64 0, .int .i64 0, .bool false]) (by simp only [results, Try.results21]; go_simp) rfl ?_
    exact ⟨HX.out, fun _ => rfl, fun ts u d q => by rw [HE.out] at q; cases q⟩
  rw [hline] at hl
  cases hfu : inR fuel 0 2000
  · have HE : Hid (R = none) := by show _ = _; rw [← HRA.out]; unfold lineAns okRL; rw [hline, hfu]; rfl
    go_enter Try.func21, Try.ntmps21
    go_upto_region 1 with fail
    rw [hX.out]
    clear hX
    go_wp2_with (first | (go_at_call 31; refine hl.mono ?_; rintro e w1 ⟨rfl, hB⟩; obtain ⟨K0, K1⟩ := keepL HX R0 hB; clear hB hl r0 r1 rl0 HX R0; have HX := K0; have R0 := K1; clear K0 K1; obtain ⟨r0, r1, rl0⟩ := cellsL R0) | (go_at_call 42; go_fit (range16 hfu _); rintro e w' ⟨rfl, hw⟩; rw [hw]; clear hw w'))
    (try simp only [Exit.inBlock, Exit.then])
    refine bodyPost_ret (v := .tuple #[.slice none 0 0, .int .i64 0, .int .i64 0, .bool false]) (by simp only [results, Try.results21]; go_simp) rfl ?_
    exact ⟨HX.out, fun _ => rfl, fun ts u d q => by rw [HE.out] at q; cases q⟩
  obtain ⟨hf0, hf1⟩ := inR_out hfu
  obtain ⟨fN, rfl⟩ : ∃ k : Nat, fuel = (k : Int) := ⟨fuel.toNat, by omega⟩
  have HRE : Hid (endR (runR (zf zs) n (zf gs) g fN rs0 0) = R) := by show _ = _; rw [← HRA.out]; unfold lineAns okRL ansR; rw [hline, hfu]; simp
  have hok := lined_out hline
  have hmk : ∀ w : World, (Instr.makeSlice 24 (.int .i64 40) (.int .i64 40)).run Try.prog w = .ok (.slice (some ⟨w.heap.size, 0, none⟩) 40 40) (w.alloc (.cells (madeCells #[.int .i64 0] 40) 3)) := fun w => run_make_row' (P := Try.prog) 24 3 (.int .i64 0) 8 Try.underlying24 row_info rfl .i64 .i64 40 (by omega) (by omega) w
  clear HRA
  go_enter Try.func21, Try.ntmps21
  go_upto_region 1 with fail
  rw [hX.out]
  clear hX
  go_upto_region 3 with (first | (go_at_call 31; refine hl.mono ?_; rintro e w1 ⟨rfl, hB⟩; obtain ⟨K0, K1⟩ := keepL HX R0 hB; clear hB hl r0 r1 rl0 HX R0; have HX := K0; have R0 := K1; clear K0 K1; obtain ⟨r0, r1, rl0⟩ := cellsL R0) | (go_at_call 42; go_fit (range16 hfu _); rintro e w' ⟨rfl, hw⟩; rw [hw]; clear hw w'))
  go_upto_region 4 with fail
  have RG0 : Hid ((w1.alloc (.cells (madeCells #[.int .i64 0] 40) 3)).rowIs w1.heap.size 3 40 (fun i => .int .i64 (rs0.rg i))) := by
    have q := World.rowIs_alloc w1 (madeCells #[.int .i64 0] 40) 3 (fun _ => .int .i64 0) (fun i hi => by
      rw [size_madeCells] at hi
      have hi : i < 40 := by simpa using hi
      simp [madeCells, hi, Nat.mod_one])
    rw [size_madeCells] at q
    exact q
  obtain ⟨Z, hZ⟩ : ∃ Z, Hid (w1.alloc (.cells (madeCells #[.int .i64 0] 40) 3) = Z) := ⟨_, rfl⟩
  have HZ : Hid (Below w1.heap.size w1 Z) := by show Below _ _ _; rw [← hZ.out]; exact (Below.refl _ _).alloc (Nat.le_refl _) _
  rw [hZ.out] at RG0 ⊢
  clear hZ
  obtain ⟨gr, hgr⟩ : ∃ x, w1.heap.size = x := ⟨_, rfl⟩
  obtain ⟨B, hBe⟩ : ∃ x, Z.heap.size = x := ⟨_, rfl⟩
  have S0 : Hid (SpecR W Z 37 a n cap ga g gc gr B (.slice none 0 0) rs0) := by
    rw [← hgr, ← hBe]
    exact ⟨R0.out.of_block (HZ.out.block _ rl0), RG0.out, own_nil _ _, HX.out.trans (HZ.out.mono HX.out.size), rl0, RG0.out.lt, Nat.le_refl _⟩
  rw [hgr]
  clear r0 r1 rl0 HX R0 RG0 HZ hmk hgr hBe
  go_wp2
  go_loopw [9, 10, 11] (fun v9 v10 v11 wr => ∃ (s : Rs) (d : Nat) (v : Value), v = v9 ∧ v10 = .int .i64 (d : Int) ∧ v11 = .int .i64 (s.pc : Int) ∧ Hid (GoodR (zf zs) n (zf gs) g fN s d) ∧ Hid (s.unc = 0) ∧ Hid (s.told.length ≤ 200) ∧ Hid (SpecR W wr 37 a n cap ga g gc gr B v s)) (fun _ v10 _ _ => fN + 1 - (intOf v10).toNat)
  case atStart => exact ⟨rs0, 0, _, rfl, rfl, rfl, goodR_start _ _ _ _ _, rfl, Nat.zero_le _, S0⟩
  case round =>
    clear S0
    obtain ⟨s, d, v, rfl, rfl, rfl, HG, HU, HT, HS⟩ := hrel
    have HRS : Hid (endR (runR (zf zs) n (zf gs) g (fN - d) s d) = R) := by show _ = _; rw [← HG.out.same]; exact HRE.out
    obtain ⟨r0, r1, rl0⟩ := cellsL HS.out.box
    have hbl := HS.out.bel.size
    by_cases hlt : s.pc < n
    rotate_left
    · have hpn : decide (s.pc < n) = false := decide_eq_false hlt
      have hpi : decide ((s.pc : Int) < (n : Int)) = false := decide_eq_false (by omega)
      have HE : Hid (R = some (s.told, 0, d)) := by
        show _ = _
        rw [← HRS.out, runR_end hlt]
        show (if s.told.length ≤ 200 then some (s.told, s.unc, d) else none) = _
        rw [if_pos HT.out, HU.out]
      go_wp2
      (try simp only [Exit.inBlock, Exit.then])
      refine bodyPost_ret (v := .tuple #[v, .int .i64 0, .int .i64 (d : Int), .bool true]) (by simp only [results, Try.results21]; go_simp) rfl ?_
      refine ⟨HS.out.bel, fun q => (by rw [HE.out] at q; cases q), fun ts u d' q => ?_⟩
      rw [HE.out] at q
      simp only [Option.some.injEq, Prod.mk.injEq] at q
      obtain ⟨rfl, rfl, rfl⟩ := q
      exact ⟨v, rfl, own_low_r HS.out.told (by have := HS.out.ord; omega)⟩
    have hpn : decide (s.pc < n) = true := decide_eq_true hlt
    have hpi : decide ((s.pc : Int) < (n : Int)) = true := decide_eq_true (by omega)
    have hpI : (s.pc : Int) < (n : Int) := by omega
    by_cases hdf : d = fN
    · have HE : Hid (R = none) := by
        show _ = _
        rw [← HRS.out, show fN - d = 0 by omega, runR_out hlt]; rfl
      subst hdf
      have e1 : decide ((d : Int) = (d : Int)) = true := by simp
      go_wp2
      (try simp only [Exit.inBlock, Exit.then])
      refine bodyPost_ret (v := .tuple #[.slice none 0 0, .int .i64 0, .int .i64 0, .bool false]) (by simp only [results, Try.results21]; go_simp) rfl ?_
      exact ⟨HS.out.bel, fun _ => rfl, fun ts u d q => by rw [HE.out] at q; cases q⟩
    have hdl : d < fN := by have := HG.out.few; omega
    have e1 : ((d : Int) == (fN : Int)) = false := by simp; omega
    have e2 : decide ((d : Int) = (fN : Int)) = false := decide_eq_false (by omega)
    have e3 : (d == fN) = false := by simp; omega
    have e4 : decide (d = fN) = false := decide_eq_false hdf
    have HN := goodR_step HG.out hok hlt hdl
    have HRN : Hid (endR (runR (zf zs) n (zf gs) g (fN - (d + 1)) (stepR (zf zs) n (zf gs) g s) (d + 1)) = R) := by show _ = _; rw [← HN.same]; exact HRE.out
    have hst := step_cases (hok.1 s.pc hlt)
    obtain ⟨b, o', hab, hb, c0, c1, c2⟩ := lstep_at h.out hz.out HS.out.bel hlt
    subst hab
    have hbw : b < wr.heap.size := by omega
    have HSTEP : Hid (stepR (zf zs) n (zf gs) g s = if codeR s (lop (zf zs) s.pc) (lnn (zf zs) s.pc) = 0 then plainR s (lop (zf zs) s.pc) (lnn (zf zs) s.pc) (lto (zf zs) s.pc) else raiseR n (zf gs) g s (codeR s (lop (zf zs) s.pc) (lnn (zf zs) s.pc))) := rfl
    generalize lop (zf zs) s.pc = o at c0 hst HSTEP
    generalize lnn (zf zs) s.pc = x at c1 hst HSTEP
    generalize lto (zf zs) s.pc = t at c2 hst HSTEP
    obtain ⟨s2, hs2⟩ : ∃ s2, Hid (stepR (zf zs) n (zf gs) g s = s2) := ⟨_, rfl⟩
    rw [hs2.out] at HN HRN HSTEP
    have HN2 : Hid (GoodR (zf zs) n (zf gs) g fN s2 (d + 1)) := HN
    clear HN hs2
    obtain ⟨Y, hY⟩ : ∃ Y, Hid (wr.alloc (.cells #[.int .i64 o, .int .i64 x, .int .i64 t] 90) = Y) := ⟨_, rfl⟩
    have HY : Hid (Below wr.heap.size wr Y) := by show Below _ _ _; rw [← hY.out]; exact (Below.refl _ _).alloc (Nat.le_refl _) _
    have SY : Hid (SpecR W Y 37 (some ⟨b, o', none⟩) n cap ga g gc gr B v s) := HS.out.kept HY.out
    have RY : Hid (Y.rowIs wr.heap.size 90 3 (rowF [.int .i64 o, .int .i64 x, .int .i64 t])) := by rw [← hY.out]; exact row_of wr _ _
    have y0 : Y.cell? ⟨wr.heap.size, 0, none⟩ = some (.int .i64 o) := RY.out.cell (i := 0) (by decide)
    have y1 : Y.cell? ⟨wr.heap.size, 1, none⟩ = some (.int .i64 x) := RY.out.cell (i := 1) (by decide)
    have y2 : Y.cell? ⟨wr.heap.size, 2, none⟩ = some (.int .i64 t) := RY.out.cell (i := 2) (by decide)
    have yl := RY.out.lt
    go_upto_region 12 with fail
    rw [hY.out]
    clear hY
    rcases hst with ⟨rfl, hx0, hx1⟩ | ⟨rfl, hx0, hx1⟩ | ⟨rfl, hx0, hx1⟩ | ⟨rfl, ht0, ht1⟩ | ⟨rfl, hx0, hx1⟩ | ⟨rfl, hx0, hx1, ht0, ht1⟩
    · have HS2 : Hid (s2 = ⟨s.pc + 1, s.rg, s.told ++ [x], s.unc⟩) := by show _ = _; rw [HSTEP.out, if_pos (show codeR s 1 x = 0 from rfl)]; rfl
      obtain ⟨ta, tc, rfl, _⟩ := HS.out.told.mine
      obtain ⟨tl, htl⟩ : ∃ k, Hid (s.told.length = k) := ⟨_, rfl⟩
      rw [htl.out] at SY ⊢
      have HT2 : Hid (tl ≤ 200) := by show _ ≤ _; rw [← htl.out]; exact HT.out
      by_cases h200 : tl = 200
      · have HE : Hid (R = none) := by
          show _ = _
          rw [← HRN.out]
          refine ans_many ?_
          rw [HS2.out]; show 200 < (s.told ++ [x]).length; rw [List.length_append, htl.out, h200]; simp
        subst h200
        go_wp2
        (try simp only [Exit.inBlock, Exit.then])
        refine bodyPost_ret (v := .tuple #[.slice none 0 0, .int .i64 0, .int .i64 0, .bool false]) (by simp only [results, Try.results21]; go_simp) rfl ?_
        exact ⟨SY.out.bel, fun _ => rfl, fun ts u d q => by rw [HE.out] at q; cases q⟩
      · have k1 : ((tl : Int) == 200) = false := by simp; omega
        have k2 : decide ((tl : Int) = 200) = false := decide_eq_false (by omega)
        have k3 : (tl == 200) = false := by simpa using h200
        have k4 : decide (tl = 200) = false := decide_eq_false h200
        have hord := SY.out.ord
        have HOr : Hid (Y.ownsRow B 3 1 (.slice ta tl tc) tl (s.told.map (Value.int .i64))) := by have q := SY.out.told; unfold Own at q; rw [htl.out] at q; exact q
        have ht200 := HT2.out
        go_wp2_with (at_builtin; refine wpList_append_own_at _ rfl _ _ 24 rfl B 3 i0 (.int .i64 0) 1 8 Try.underlying24 hi0 hz0 hz1 hz2 rfl (by decide) (.slice ta tl tc) tl (s.told.map (Value.int .i64)) rfl (World.ownsRow.alloc HOr.out _) ⟨Y.heap.size, 0, none⟩ 1 1 [.int .i64 x] rfl rfl (new_one Y x _) (one_of x) ?c3 ?c4 ?c5 ?_)
        case c3 => unfold maxLen; omega
        case c4 => omega
        case c5 => first | omega | (simp; omega)
        intro v' w3 hown hgrow hnil hat
        have S3 : Hid (SpecR W w3 37 (some ⟨b, o', none⟩) n cap ga g gc gr B v' s2) := SY.out.tell (x := x) (by rw [htl.out]; exact hown) hgrow (by rw [HS2.out]) (by rw [HS2.out])
        have HTN : Hid (s2.told.length ≤ 200) := by show _ ≤ _; rw [HS2.out]; show (s.told ++ [x]).length ≤ 200; rw [List.length_append, htl.out]; show tl + 1 ≤ 200; omega
        clear hown hgrow hnil hat
        go_wp2
        go_roundw
        case rel => exact ⟨s2, d + 1, v', rfl, by go_num, by rw [HS2.out]; go_num, HN2, by rw [HS2.out]; exact HU, HTN, S3⟩
        case measure => simp [intOf]; omega
    · have hcn : ¬ x = 0 := by omega
      have HS2 : Hid (s2 = raiseR n (zf gs) g s x) := by show _ = _; rw [HSTEP.out]; exact if_neg hcn
      obtain ⟨c, hcx⟩ : ∃ c, x = c := ⟨_, rfl⟩
      rw [hcx] at HS2 hcn
      have n1 : (c == 0) = false := by simpa using hcn
      have n2 : decide (c = 0) = false := decide_eq_false hcn
      have n3 : (c != 0) = true := by simpa using hcn
      have n4 : decide (c ≠ 0) = true := decide_eq_true hcn
      obtain ⟨K, HP⟩ : ∃ K, Hid (firstG (zf gs) g (s.pc : Int) c = K) := ⟨_, rfl⟩
      have hfg := spec_firstg (some ⟨b, o', none⟩) n cap ga g gc gs (s.pc : Int) c Y hn hgz hg (hgs.out.kept SY.out.bel) K HP
      obtain ⟨v0, v1, vl⟩ := cellsL SY.out.box
      by_cases hK : K < 0
      · have HS3 : Hid (s2 = ⟨n, s.rg, s.told, c⟩) := by show _ = _; rw [HS2.out]; unfold raiseR; rw [HP.out]; exact if_pos hK
        have HE : Hid (R = some (s.told, c, d + 1)) := by
          show _ = _
          rw [← HRN.out, HS3.out, runR_end (Nat.lt_irrefl n)]
          show (if s.told.length ≤ 200 then some (s.told, c, d + 1) else none) = _
          rw [if_pos HT.out]
        have k1 : decide (K < 0) = true := decide_eq_true hK
        go_wp2_with (go_at_call 43; refine hfg.mono ?_; rintro e w5 ⟨rfl, hB⟩; have B5 : Hid (Below Y.heap.size Y w5) := hB; clear hB)
        (try simp only [Exit.inBlock, Exit.then])
        refine bodyPost_ret (v := .tuple #[v, .int .i64 c, .int .i64 ((d + 1 : Nat) : Int), .bool true]) (by simp only [results, Try.results21]; go_simp) rfl ?_
        have S5 := SY.out.kept B5.out
        refine ⟨S5.bel, fun q => (by rw [HE.out] at q; cases q), fun ts u d' q => ?_⟩
        rw [HE.out] at q
        simp only [Option.some.injEq, Prod.mk.injEq] at q
        obtain ⟨rfl, rfl, rfl⟩ := q
        exact ⟨v, rfl, own_low_r S5.told (by have := S5.ord; omega)⟩
      · have k1 : decide (K < 0) = false := decide_eq_false hK
        obtain ⟨kk, hkg, hkk⟩ := firstG_at (gs := zf gs) (g := g) (a := (s.pc : Int)) (c := c) (by rw [HP.out]; exact hK)
        rw [HP.out] at hkk
        subst hkk
        have hg20 := hok.2.2.2
        have hgk := hok.2.1 kk hkg
        have hga : 0 ≤ gat (zf gs) kk := by
          unfold guardAt guardB at hgk
          simp only [Bool.and_eq_true] at hgk
          have := inR_out hgk.2
          omega
        have HS3 : Hid (s2 = ⟨(gat (zf gs) kk).toNat, updR s.rg kk c, s.told, s.unc⟩) := by show _ = _; rw [HS2.out]; unfold raiseR; rw [HP.out, if_neg hK, Int.toNat_natCast]
        have hpc : ((gat (zf gs) kk).toNat : Int) = gat (zf gs) kk := by omega
        have ki : (0 : Int) ≤ (kk : Int) := by omega
        have kj : (kk : Int) < 40 := by omega
        have kg : (kk : Int) < (g : Int) := by omega
        obtain ⟨bg, og, hgb, hbg, _⟩ := lguard_at hgs.out hgz.out SY.out.bel hkg
        subst hgb
        clear hK k1 hgk hga
        have k1 : decide ((kk : Int) < 0) = false := decide_eq_false (by omega)
        go_upto_region 33 with (go_at_call 43; refine hfg.mono ?_; rintro e w5 ⟨rfl, hB⟩; have B5 : Hid (Below Y.heap.size Y w5) := hB; clear hB)
        have S5 : Hid (SpecR W w5 37 (some ⟨b, o', none⟩) n cap (some ⟨bg, og, none⟩) g gc gr B v s) := SY.out.kept B5.out
        have S6 : Hid (SpecR W (w5.setCell ⟨gr, kk, none⟩ (.int .i64 c)) 37 (some ⟨b, o', none⟩) n cap (some ⟨bg, og, none⟩) g gc gr B v s2) := S5.out.set kk c (by rw [HS3.out]) (by rw [HS3.out])
        have q0 := S5.out.regs.cell (i := kk) (by omega)
        have qf := S5.out.regs.frozen kk
        have ql := S5.out.regs.lt
        obtain ⟨p0, p1, pl⟩ := cellsL S6.out.box
        obtain ⟨bg2, og2, hgb2, _, _, _, _, j3⟩ := lguard_at hgs.out hgz.out S6.out.bel hkg
        simp only [Option.some.injEq, Addr.mk.injEq, and_true] at hgb2
        obtain ⟨rfl, rfl⟩ := hgb2
        have jl : bg < (w5.setCell ⟨gr, kk, none⟩ (.int .i64 c)).heap.size := Nat.lt_of_lt_of_le hbg S6.out.bel.size
        generalize gat (zf gs) kk = gg at j3 hpc HS3
        clear hfg v0 v1 vl
        go_upto_region 36 with fail
        obtain ⟨V, hV⟩ : ∃ V, Hid (w5.setCell ⟨gr, kk, none⟩ (.int .i64 c) = V) := ⟨_, rfl⟩
        rw [hV.out] at S6 p0 p1 pl j3 jl ⊢
        go_wp2
        go_roundw
        case rel => exact ⟨s2, d + 1, v, rfl, by go_num, by rw [HS3.out]; show _ = Value.int .i64 (gg.toNat : Int); rw [hpc], HN2, by rw [HS3.out]; exact HU, by rw [HS3.out]; exact HT, S6⟩
        case measure => simp [intOf]; omega
    · obtain ⟨xk, rfl⟩ : ∃ k : Nat, x = (k : Int) := ⟨x.toNat, by omega⟩
      have hxk : xk < 40 := by omega
      have gi : (0 : Int) ≤ (xk : Int) := by omega
      have gj : (xk : Int) < 40 := by omega
      have g0 := SY.out.regs.cell (i := xk) hxk
      have gl := SY.out.regs.lt
      have HST3 : Hid (s2 = if s.rg xk = 0 then plainR s 3 (xk : Int) t else raiseR n (zf gs) g s (s.rg xk)) := by show _ = _; rw [HSTEP.out]; rfl
      obtain ⟨c, hcx⟩ : ∃ c, s.rg xk = c := ⟨_, rfl⟩
      rw [hcx] at HST3 g0
      by_cases hcn : c = 0
      · have HS2 : Hid (s2 = ⟨s.pc + 1, s.rg, s.told, s.unc⟩) := by show _ = _; rw [HST3.out, if_pos hcn]; rfl
        subst hcn
        go_wp2
        go_roundw
        case rel => exact ⟨s2, d + 1, v, rfl, by go_num, by rw [HS2.out]; go_num, HN2, by rw [HS2.out]; exact HU, by rw [HS2.out]; exact HT, SY.out.go (by rw [HS2.out]) (by rw [HS2.out])⟩
        case measure => simp [intOf]; omega
      · have HS2 : Hid (s2 = raiseR n (zf gs) g s c) := by show _ = _; rw [HST3.out, if_neg hcn]
        have n1 : (c == 0) = false := by simpa using hcn
        have n2 : decide (c = 0) = false := decide_eq_false hcn
        have n3 : (c != 0) = true := by simpa using hcn
        have n4 : decide (c ≠ 0) = true := decide_eq_true hcn
        obtain ⟨K, HP⟩ : ∃ K, Hid (firstG (zf gs) g (s.pc : Int) c = K) := ⟨_, rfl⟩
        have hfg := spec_firstg (some ⟨b, o', none⟩) n cap ga g gc gs (s.pc : Int) c Y hn hgz hg (hgs.out.kept SY.out.bel) K HP
        obtain ⟨v0, v1, vl⟩ := cellsL SY.out.box
        by_cases hK : K < 0
        · have HS3 : Hid (s2 = ⟨n, s.rg, s.told, c⟩) := by show _ = _; rw [HS2.out]; unfold raiseR; rw [HP.out]; exact if_pos hK
          have HE : Hid (R = some (s.told, c, d + 1)) := by
            show _ = _
            rw [← HRN.out, HS3.out, runR_end (Nat.lt_irrefl n)]
            show (if s.told.length ≤ 200 then some (s.told, c, d + 1) else none) = _
            rw [if_pos HT.out]
          have k1 : decide (K < 0) = true := decide_eq_true hK
          go_wp2_with (go_at_call 43; refine hfg.mono ?_; rintro e w5 ⟨rfl, hB⟩; have B5 : Hid (Below Y.heap.size Y w5) := hB; clear hB)
          (try simp only [Exit.inBlock, Exit.then])
          refine bodyPost_ret (v := .tuple #[v, .int .i64 c, .int .i64 ((d + 1 : Nat) : Int), .bool true]) (by simp only [results, Try.results21]; go_simp) rfl ?_
          have S5 := SY.out.kept B5.out
          refine ⟨S5.bel, fun q => (by rw [HE.out] at q; cases q), fun ts u d' q => ?_⟩
          rw [HE.out] at q
          simp only [Option.some.injEq, Prod.mk.injEq] at q
          obtain ⟨rfl, rfl, rfl⟩ := q
          exact ⟨v, rfl, own_low_r S5.told (by have := S5.ord; omega)⟩
        · have k1 : decide (K < 0) = false := decide_eq_false hK
          obtain ⟨kk, hkg, hkk⟩ := firstG_at (gs := zf gs) (g := g) (a := (s.pc : Int)) (c := c) (by rw [HP.out]; exact hK)
          rw [HP.out] at hkk
          subst hkk
          have hg20 := hok.2.2.2
          have hgk := hok.2.1 kk hkg
          have hga : 0 ≤ gat (zf gs) kk := by
            unfold guardAt guardB at hgk
            simp only [Bool.and_eq_true] at hgk
            have := inR_out hgk.2
            omega
          have HS3 : Hid (s2 = ⟨(gat (zf gs) kk).toNat, updR s.rg kk c, s.told, s.unc⟩) := by show _ = _; rw [HS2.out]; unfold raiseR; rw [HP.out, if_neg hK, Int.toNat_natCast]
          have hpc : ((gat (zf gs) kk).toNat : Int) = gat (zf gs) kk := by omega
          have ki : (0 : Int) ≤ (kk : Int) := by omega
          have kj : (kk : Int) < 40 := by omega
          have kg : (kk : Int) < (g : Int) := by omega
          obtain ⟨bg, og, hgb, hbg, _⟩ := lguard_at hgs.out hgz.out SY.out.bel hkg
          subst hgb
          clear hK k1 hgk hga
          have k1 : decide ((kk : Int) < 0) = false := decide_eq_false (by omega)
          go_upto_region 33 with (go_at_call 43; refine hfg.mono ?_; rintro e w5 ⟨rfl, hB⟩; have B5 : Hid (Below Y.heap.size Y w5) := hB; clear hB)
          have S5 : Hid (SpecR W w5 37 (some ⟨b, o', none⟩) n cap (some ⟨bg, og, none⟩) g gc gr B v s) := SY.out.kept B5.out
          have S6 : Hid (SpecR W (w5.setCell ⟨gr, kk, none⟩ (.int .i64 c)) 37 (some ⟨b, o', none⟩) n cap (some ⟨bg, og, none⟩) g gc gr B v s2) := S5.out.set kk c (by rw [HS3.out]) (by rw [HS3.out])
          have q0 := S5.out.regs.cell (i := kk) (by omega)
          have qf := S5.out.regs.frozen kk
          have ql := S5.out.regs.lt
          obtain ⟨p0, p1, pl⟩ := cellsL S6.out.box
          obtain ⟨bg2, og2, hgb2, _, _, _, _, j3⟩ := lguard_at hgs.out hgz.out S6.out.bel hkg
          simp only [Option.some.injEq, Addr.mk.injEq, and_true] at hgb2
          obtain ⟨rfl, rfl⟩ := hgb2
          have jl : bg < (w5.setCell ⟨gr, kk, none⟩ (.int .i64 c)).heap.size := Nat.lt_of_lt_of_le hbg S6.out.bel.size
          generalize gat (zf gs) kk = gg at j3 hpc HS3
          clear hfg v0 v1 vl
          go_upto_region 36 with fail
          obtain ⟨V, hV⟩ : ∃ V, Hid (w5.setCell ⟨gr, kk, none⟩ (.int .i64 c) = V) := ⟨_, rfl⟩
          rw [hV.out] at S6 p0 p1 pl j3 jl ⊢
          go_wp2
          go_roundw
          case rel => exact ⟨s2, d + 1, v, rfl, by go_num, by rw [HS3.out]; show _ = Value.int .i64 (gg.toNat : Int); rw [hpc], HN2, by rw [HS3.out]; exact HU, by rw [HS3.out]; exact HT, S6⟩
          case measure => simp [intOf]; omega
    · have HS2 : Hid (s2 = ⟨t.toNat, s.rg, s.told, s.unc⟩) := by show _ = _; rw [HSTEP.out, if_pos (show codeR s 4 x = 0 from rfl)]; rfl
      have hpc : (t.toNat : Int) = t := by omega
      go_wp2
      go_roundw
      case rel => exact ⟨s2, d + 1, v, rfl, by go_num, by rw [HS2.out]; show _ = Value.int .i64 (t.toNat : Int); rw [hpc], HN2, by rw [HS2.out]; exact HU, by rw [HS2.out]; exact HT, SY.out.go (by rw [HS2.out]) (by rw [HS2.out])⟩
      case measure => simp [intOf]; omega
    · obtain ⟨xk, rfl⟩ : ∃ k : Nat, x = (k : Int) := ⟨x.toNat, by omega⟩
      have hxk : xk < 40 := by omega
      have HS2 : Hid (s2 = ⟨s.pc + 1, updR s.rg xk 0, s.told, s.unc⟩) := by show _ = _; rw [HSTEP.out, if_pos (show codeR s 5 (xk : Int) = 0 from rfl)]; rfl
      have g0 := SY.out.regs.cell (i := xk) hxk
      have gf := SY.out.regs.frozen xk
      have gl := SY.out.regs.lt
      have gi : (0 : Int) ≤ (xk : Int) := by omega
      have gj : (xk : Int) < 40 := by omega
      go_wp2
      go_roundw
      case rel => exact ⟨s2, d + 1, v, rfl, by go_num, by rw [HS2.out]; go_num, HN2, by rw [HS2.out]; exact HU, by rw [HS2.out]; exact HT, SY.out.set xk 0 (by rw [HS2.out]) (by rw [HS2.out])⟩
      case measure => simp [intOf]; omega
    · obtain ⟨xk, rfl⟩ : ∃ k : Nat, x = (k : Int) := ⟨x.toNat, by omega⟩
      have hxk : xk < 40 := by omega
      have gi : (0 : Int) ≤ (xk : Int) := by omega
      have gj : (xk : Int) < 40 := by omega
      have g0 := SY.out.regs.cell (i := xk) hxk
      have gf := SY.out.regs.frozen xk
      have gl := SY.out.regs.lt
      have hlow := HG.out.low xk
      have HST6 : Hid (s2 = if s.rg xk = t then ⟨s.pc + 1, s.rg, s.told, s.unc⟩ else ⟨s.pc + 2, updR s.rg xk (s.rg xk + 1), s.told, s.unc⟩) := by show _ = _; rw [HSTEP.out, if_pos (show codeR s 6 (xk : Int) = 0 from rfl)]; rfl
      obtain ⟨c, hcx⟩ : ∃ c, s.rg xk = c := ⟨_, rfl⟩
      rw [hcx] at HST6 g0 hlow
      have hc1 : c ≤ 2009 := by omega
      have hc2 : 0 ≤ c := hlow.1
      clear hlow
      by_cases hct : c = t
      · have HS2 : Hid (s2 = ⟨s.pc + 1, s.rg, s.told, s.unc⟩) := by show _ = _; rw [HST6.out, if_pos hct]
        subst hct
        go_upto_region 28 with fail
        have q1 : Y.drew.cell? ⟨wr.heap.size, 1, none⟩ = some (.int .i64 (xk : Int)) ∧ Y.drew.cell? ⟨wr.heap.size, 2, none⟩ = some (.int .i64 c) ∧ Y.drew.cell? ⟨gr, xk, none⟩ = some (.int .i64 c) := ⟨y1, y2, g0⟩
        go_region_held3 (fun w' => w'.cell? ⟨wr.heap.size, 1, none⟩ = some (.int .i64 (xk : Int)) ∧ w'.cell? ⟨wr.heap.size, 2, none⟩ = some (.int .i64 c) ∧ w'.cell? ⟨gr, xk, none⟩ = some (.int .i64 c)) (first | with_reducible exact q1 | go_keep) (fail)
        go_wp2
        go_roundw
        case rel => exact ⟨s2, d + 1, v, rfl, by go_num, by rw [HS2.out]; go_num, HN2, by rw [HS2.out]; exact HU, by rw [HS2.out]; exact HT, (SY.out.kept (Below.refl _ _).drew).go (by rw [HS2.out]) (by rw [HS2.out])⟩
        case measure => simp [intOf]; omega
      · have HS2 : Hid (s2 = ⟨s.pc + 2, updR s.rg xk (c + 1), s.told, s.unc⟩) := by show _ = _; rw [HST6.out, if_neg hct]
        have n1 : (c == t) = false := by simpa using hct
        have n2 : decide (c = t) = false := decide_eq_false hct
        have n3 : (c != t) = true := by simpa using hct
        have n4 : decide (c ≠ t) = true := decide_eq_true hct
        go_upto_region 28 with fail
        have q1 : Y.drew.cell? ⟨wr.heap.size, 1, none⟩ = some (.int .i64 (xk : Int)) ∧ Y.drew.cell? ⟨wr.heap.size, 2, none⟩ = some (.int .i64 t) ∧ Y.drew.cell? ⟨gr, xk, none⟩ = some (.int .i64 c) := ⟨y1, y2, g0⟩
        go_region_held3 (fun w' => w'.cell? ⟨wr.heap.size, 1, none⟩ = some (.int .i64 (xk : Int)) ∧ w'.cell? ⟨wr.heap.size, 2, none⟩ = some (.int .i64 t) ∧ w'.cell? ⟨gr, xk, none⟩ = some (.int .i64 c)) (first | with_reducible exact q1 | go_keep) (fail)
        go_wp2
        go_roundw
        case rel => exact ⟨s2, d + 1, v, rfl, by go_num, by rw [HS2.out]; go_num, HN2, by rw [HS2.out]; exact HU, by rw [HS2.out]; exact HT, (SY.out.kept (Below.refl _ _).drew).set xk (c + 1) (by rw [HS2.out]) (by rw [HS2.out])⟩
        case measure => simp [intOf]; omega

end Go.Proofs.Ytlocdlgbjjbnoaa.walks
