/-
  What the specification's l3Run answers where something has been told before: what is told goes on behind it.
-/
import Derived.Test.YtgknofbkdgbokaaProg
import Derived.Test.YtgknofbkdgbokaaMagMath
import Derived.Test.YtgknofbkdgbokaaCodeMath
import Derived.Test.YtgknofbkdgbokaaRunMath
import Derived.Test.YtgknofbkdgbokaaInts
import Derived.Test.YtgknofbkdgbokaaOwnInts
import Derived.Test.YtgknofbkdgbokaaRecsInstr
import Derived.Test.YtgknofbkdgbokaaCodeGood
import Derived.Test.YtgknofbkdgbokaaCodeRun
import Derived.WalkKit
import Derived.WalkSpells
import Derived.Below
import Derived.Handy
import Derived.Deep.RegionHeld3
import Derived.Maps.AppendAt
namespace Go.Proofs.Ytgknofbkdgbokaa.walks
open Go.RowKit Go.Proofs.Ytgknofbkdgbokaa.math Go.Proofs.Ytgknofbkdgbokaa.ints
set_option linter.unusedVariables false
set_option linter.unusedSimpArgs false

theorem set_new_box (W : World) (a : Addr) (v : Value) (c : Array Value) (t : TypeId) (i : Nat) : ((W.setCell a v).alloc (.cells c t)).cell? ⟨W.heap.size, i, none⟩ = c[i]? := World.cell?_alloc_at _ _ _ _ (by simp [World.setCell])
theorem ints_low {W wr : World} {B : Nat} {a : Option Addr} {zs : List Int} (h : Ints W a zs) (hb : zs ≠ [] → ∀ b o, a = some ⟨b, o, none⟩ → b < B) (hB : Below B W wr) : Ints wr a zs := by
  by_cases h0 : zs = []
  · exact Or.inl h0
  have hb := hb h0
  rcases h with h | ⟨b, off, rfl, hlt, hc⟩
  · exact Or.inl h
  · exact Or.inr ⟨b, off, rfl, Nat.lt_of_lt_of_le hlt hB.size, fun i hi => (hB.cell (p := ⟨b, off + i, none⟩) (hb b off rfl)).trans (hc i hi)⟩
/-- Nothing that was there has turned but block g and what was told; and what is told lies there, or in new memory. -/
def Keeps (W w : World) (g : Nat) (v0 v : Value) : Prop := (∀ j, j < W.heap.size → j ≠ g → v0.ownBlock ≠ some j → w.heap[j]? = W.heap[j]?) ∧ (v.ownBlock = v0.ownBlock ∨ ∀ j, v.ownBlock = some j → W.heap.size ≤ j)
theorem keeps_refl (W : World) (g : Nat) (v : Value) : Keeps W W g v v := ⟨fun _ _ _ _ => rfl, Or.inl rfl⟩
theorem keeps_drew {W w : World} {g : Nat} {v0 v : Value} (h : Keeps W w g v0 v) : Keeps W w.drew g v0 v := h
theorem keeps_set {W w : World} {g : Nat} {v0 v : Value} (h : Keeps W w g v0 v) (hs : W.heap.size ≤ w.heap.size) (i : Nat) (x : Value) (o : Obj) : Keeps W ((w.setCell ⟨g, i, none⟩ x).alloc o) g v0 v :=
  ⟨fun j hj hg hv => (Below.heap_alloc _ _ _ (by simp [World.setCell]; omega)).trans ((Below.heap_setCell _ _ _ _ (by simpa using hg)).trans (h.1 j hj hg hv)), h.2⟩
theorem keeps_told {W w w1 : World} {g : Nat} {v0 u v' : Value} {X o : Obj} (h : Keeps W w g v0 u) (hs : W.heap.size ≤ w.heap.size) (hgrow : ((w.alloc X).alloc o).grownBy w1 u.ownBlock) (hob : v'.ownBlock = u.ownBlock ∨ v'.ownBlock = some (w.heap.size + 1 + 1)) : Keeps W w1 g v0 v' := by
  refine ⟨fun j hj hg hv => ?_, ?_⟩
  · have hne : some j ≠ u.ownBlock := by
      rcases h.2 with e | e
      · rw [e]; exact fun q => hv q.symm
      · exact fun q => by have := e j q.symm; omega
    rw [hgrow.block j (by simp; omega) hne, Below.heap_alloc _ _ _ (by simp; omega), Below.heap_alloc _ _ _ (by omega)]
    exact h.1 j hj hg hv
  · rcases hob with e | e
    · rw [e]; exact h.2
    · right
      intro j q
      rw [e] at q
      simp at q
      omega
theorem rel_set2 {W wr : World} {B g off j : Nat} {vt : Value} {T V : List Int} (hO : Own wr B vt T) (hM : Mine wr B (some ⟨g, off, none⟩) V) (hG : Below B W wr) (hvg : vt.ownBlock ≠ some g) (hgB : B ≤ g) (hgl : g < wr.heap.size) (hj : j < V.length) (v : Int) (o : Obj) :
    Own ((wr.setCell ⟨g, off + j, none⟩ (.int .i64 v)).alloc o) B vt T ∧ Mine ((wr.setCell ⟨g, off + j, none⟩ (.int .i64 v)).alloc o) B (some ⟨g, off, none⟩) (V.set j v) ∧ Below B W ((wr.setCell ⟨g, off + j, none⟩ (.int .i64 v)).alloc o) ∧ g < ((wr.setCell ⟨g, off + j, none⟩ (.int .i64 v)).alloc o).heap.size :=
  ⟨World.ownsRow.alloc (World.ownsRow.kept hO (grow_set (grow_refl _ _) _ _) (Or.inr hvg)) _, mine_alloc (mine_set hM hj v) _, (hG.setCell hgB _).alloc (by simp [World.setCell]; omega) _, by simp [World.setCell]; omega⟩
theorem rel_told2 {W wr w1 : World} {B g off : Nat} {u v' : Value} {T V : List Int} {x : Int} {X o : Obj} (hO : Own wr B u T) (hM : Mine wr B (some ⟨g, off, none⟩) V) (hG : Below B W wr) (hvg : u.ownBlock ≠ some g) (hgB : B ≤ g) (hgl : g < wr.heap.size)
    (hown' : w1.ownsRow B 3 1 v' (T.length + 1) (T.map (Value.int .i64) ++ [.int .i64 x])) (hgrow : ((wr.alloc X).alloc o).grownBy w1 u.ownBlock) (hob : v'.ownBlock = u.ownBlock ∨ v'.ownBlock = some (wr.heap.size + 1 + 1)) :
    Own w1 B v' (T ++ [x]) ∧ Mine w1 B (some ⟨g, off, none⟩) V ∧ Below B W w1 ∧ v'.ownBlock ≠ some g ∧ g < w1.heap.size := by
  refine ⟨by unfold Own; simpa using hown', mine_grow (mine_alloc (mine_alloc hM X) o) hgrow hvg, ((hG.alloc (by omega) X).alloc (by simp; omega) o).grown hgrow (by simp; omega) (fun j hj => (World.ownsRow.lt hO j hj).1), ?_, ?_⟩
  · rcases hob with e | e
    · rw [e]; exact hvg
    · rw [e]; simp; omega
  · have := hgrow.size
    simp at this
    omega
set_option maxHeartbeats 4000000 in
theorem spec_run2 (a : Option Addr) (len cap cv g off B : Nat) (zs ws T : List Int) (vt0 : Value) (W : World) (hz : Hid (zs.length = len * 5)) (hlen : len ≤ 30) (h : Hid (Ints W a zs)) (hgood : Hid (∀ k, k < len → stepB zs k = true)) (hw : Hid (wordsB ws = true))
    (hv : Hid (Mine W B (some ⟨g, off, none⟩) ws)) (hgB : B ≤ g) (hgl : g < W.heap.size) (hne : Hid (zs ≠ [] → ∀ b o, a = some ⟨b, o, none⟩ → b < B)) (hO : Hid (Own W B vt0 T)) (hvg : Hid (vt0.ownBlock ≠ some g)) (hT : Hid (T.length ≤ 100000)) :
    Calls Try.prog 49 #[.slice a len cap, .slice (some ⟨g, off, none⟩) 8 cv, vt0] W fun e W' => ∃ v', e = .returned v' ∧ Own W' B v' (T ++ toldTo zs ws len) ∧ v'.ownBlock ≠ some g ∧ Mine W' B (some ⟨g, off, none⟩) (runW zs ws len) ∧ g < W'.heap.size ∧ Below B W W' ∧ Keeps W W' g vt0 v' := by
  obtain ⟨i0, hi, hz0, hz1, hz2⟩ := info_parts row_info
  go_enter Try.func49, Try.ntmps49
  go_wp2
  go_loopw [2, 11] (fun vt vi wr => ∃ k : Nat, k ≤ len ∧ vi = .int .i64 k ∧ Hid (Own wr B vt (T ++ toldTo zs ws k)) ∧ Hid (Mine wr B (some ⟨g, off, none⟩) (runW zs ws k)) ∧ Hid (Below B W wr) ∧ Hid (vt.ownBlock ≠ some g) ∧ Hid (g < wr.heap.size) ∧ Hid (Keeps W wr g vt0 vt)) (fun _ vi _ => len - (intOf vi).toNat)
  case atStart => exact ⟨0, Nat.zero_le _, rfl, by show Own _ _ _ _; simpa [toldTo] using hO.out, hv, Below.refl _ _, hvg, hgl, keeps_refl _ _ _⟩
  case round =>
    obtain ⟨k, hk, rfl, HO, HM, HG, HV, HL, HP⟩ := hrel
    by_cases hlt : k < len
    · have HI : Hid (Ints wr a zs) := ints_low h.out hne.out HG.out
      obtain ⟨b, o', ha, hb, c0, c1, c2, c3, c4⟩ := Instr_at HI.out hz.out (Below.refl _ _) hlt
      subst ha
      have hgr : g < wr.heap.size := HL.out
      have HW : Hid (wordsB (runW zs ws k) = true) := run_words hw.out hgood.out k hk
      have hg := hgood.out k hlt
      unfold stepB at hg
      have HS : Hid (runW zs ws (k + 1) = stepW (runW zs ws k) (zs.getD (k * 5) 0) (zs.getD (k * 5 + 1) 0) (zs.getD (k * 5 + 2) 0) (zs.getD (k * 5 + 3) 0) (zs.getD (k * 5 + 4) 0)) := rfl
      have HT : Hid (toldTo zs ws (k + 1) = toldTo zs ws k ++ toldBy (runW zs ws k) (zs.getD (k * 5) 0) (zs.getD (k * 5 + 2) 0)) := rfl
      generalize zs.getD (k * 5) 0 = o at c0 hg HS HT
      generalize zs.getD (k * 5 + 1) 0 = d at c1 hg HS
      generalize zs.getD (k * 5 + 2) 0 = x at c2 hg HS HT
      generalize zs.getD (k * 5 + 3) 0 = y at c3 hg HS
      generalize zs.getD (k * 5 + 4) 0 = n at c4 hg HS
      have hl8 : (runW zs ws k).length = 8 := (words_out HW.out).1
      have HC : Hid (∀ i, i < 8 → wr.cell? ⟨g, off + i, none⟩ = some (.int .i64 ((runW zs ws k).getD i 0)) ∧ wr.frozen? ⟨g, off + i, none⟩ = false) := by
        rcases HM.out with e | ⟨g', off', e, _, _, hc⟩
        · rw [e] at hl8; simp at hl8
        · simp only [Option.some.injEq, Addr.mk.injEq] at e
          obtain ⟨rfl, rfl, _⟩ := e
          intro i hi
          exact hc i (by omega)
      have HL8 : Hid ((runW zs ws k).length = 8) := hl8
      clear hl8
      rcases good_cases hg with ⟨rfl, ⟨d0, d1⟩, n0, n1⟩ | ⟨rfl, ⟨d0, d1⟩, x0, x1⟩ | ⟨rfl, x0, x1⟩ | ⟨⟨o3, o7⟩, ⟨d0, d1⟩, ⟨x0, x1⟩, y0, y1⟩
      · obtain ⟨dn, rfl⟩ := Int.eq_ofNat_of_zero_le d0
        obtain ⟨e0, f0⟩ := HC.out dn (by omega)
        have HN : Hid (runW zs ws (k + 1) = (runW zs ws k).set dn n) := HS.out
        have HU : Hid (toldTo zs ws (k + 1) = toldTo zs ws k) := by show toldTo zs ws (k + 1) = toldTo zs ws k; rw [HT.out]; simp [toldBy]
        clear hg HS HT
        go_wp2
        go_roundw
        case rel =>
          obtain ⟨q0, q1, q2, q3⟩ := rel_set2 HO.out HM.out HG.out HV.out hgB HL.out (j := dn) (by have := HL8.out; omega) n (.cells #[.int .i64 1, .int .i64 (dn : Int), .int .i64 x, .int .i64 y, .int .i64 n] 93)
          exact ⟨k + 1, by omega, by go_num, by rw [HU.out]; exact q0, by rw [HN.out]; exact q1, q2, HV, q3, keeps_set HP.out HG.out.size _ _ _⟩
        case measure => simp [intOf]; omega
      · obtain ⟨dn, rfl⟩ := Int.eq_ofNat_of_zero_le d0
        obtain ⟨xn, rfl⟩ := Int.eq_ofNat_of_zero_le x0
        obtain ⟨e0, f0⟩ := HC.out dn (by omega)
        obtain ⟨e1, _⟩ := HC.out xn (by omega)
        have HN : Hid (runW zs ws (k + 1) = (runW zs ws k).set dn ((runW zs ws k).getD xn 0)) := HS.out
        have HU : Hid (toldTo zs ws (k + 1) = toldTo zs ws k) := by show toldTo zs ws (k + 1) = toldTo zs ws k; rw [HT.out]; simp [toldBy]
        clear hg HS HT
        go_wp2
        go_region
        go_wp2
        go_roundw
        case rel =>
          obtain ⟨q0, q1, q2, q3⟩ := rel_set2 HO.out HM.out HG.out HV.out hgB HL.out (j := dn) (by have := HL8.out; omega) ((runW zs ws k).getD xn 0) (.cells #[.int .i64 2, .int .i64 (dn : Int), .int .i64 (xn : Int), .int .i64 y, .int .i64 n] 93)
          rw [List.getD_eq_getElem?_getD] at q0 q1 q2 q3 HN
          exact ⟨k + 1, by omega, by go_num, by rw [HU.out]; exact World.ownsRow.drew q0, by rw [HN.out]; exact q1.kept (Below.drew (Below.refl _ _)), q2.drew, HV, q3, keeps_drew (keeps_set HP.out HG.out.size _ _ _)⟩
        case measure => simp [intOf]; omega
      · obtain ⟨xn, rfl⟩ := Int.eq_ofNat_of_zero_le x0
        obtain ⟨e1, _⟩ := HC.out xn (by omega)
        have HN : Hid (runW zs ws (k + 1) = runW zs ws k) := HS.out
        have HU : Hid (toldTo zs ws (k + 1) = toldTo zs ws k ++ [(runW zs ws k).getD xn 0]) := HT.out
        generalize (runW zs ws k).getD xn 0 = tv at e1 HU
        have htl : (T ++ toldTo zs ws k).length ≤ 100030 := by have h1 := told_len zs ws k; have h2 := hT.out; rw [List.length_append]; omega
        clear hg HS HT
        go_wp2_with (first
          | (at_builtin; refine wpList_append_own_at _ rfl _ _ 38 rfl B 3 i0 (.int .i64 0) 1 8 Try.underlying38 hi hz0 hz1 hz2 rfl (by decide) _ _ _ rfl (World.ownsRow.alloc (World.ownsRow.alloc HO.out _) _) ⟨wr.heap.size + 1, 0, none⟩ 1 1 [.int .i64 tv] rfl rfl ?c1 ?c2 ?c3 ?c4 ?c5 ?_)
          | go_in)
        case c1 =>
          intro j u hj
          match j, hj with
          | 0, hj => simp at hj; subst hj; simp [Addr.add]
        case c2 => exact one_of _
        case c3 => unfold maxLen; omega
        case c4 => omega
        case c5 => simp; omega
        · intro v' w1 hown' hgrow _ hob
          obtain ⟨q0, q1, q2, q3, q4⟩ := rel_told2 HO.out HM.out HG.out HV.out hgB HL.out (x := tv) (by simpa using hown') hgrow hob
          have Q0 : Hid (Own w1 B v' (T ++ toldTo zs ws k ++ [tv])) := q0
          have Q1 : Hid (Mine w1 B (some ⟨g, off, none⟩) (runW zs ws k)) := q1
          have Q2 : Hid (Below B W w1) := q2
          have Q3 : Hid (v'.ownBlock ≠ some g) := q3
          have Q4 : Hid (g < w1.heap.size) := q4
          have Q5 : Hid (Keeps W w1 g vt0 v') := keeps_told HP.out HG.out.size hgrow hob
          clear hown' hgrow q0 q1 q2 q3 q4 hob
          go_wp2
          go_roundw
          case rel => exact ⟨k + 1, by omega, by go_num, by rw [HU.out, ← List.append_assoc]; exact Q0, by rw [HN.out]; exact Q1, Q2, Q3, Q4, Q5⟩
          case measure => simp [intOf]; omega
      · obtain ⟨dn, rfl⟩ := Int.eq_ofNat_of_zero_le d0
        obtain ⟨xn, rfl⟩ := Int.eq_ofNat_of_zero_le x0
        obtain ⟨yn, rfl⟩ := Int.eq_ofNat_of_zero_le y0
        obtain ⟨e0, f0⟩ := HC.out dn (by omega)
        obtain ⟨e1, _⟩ := HC.out xn (by omega)
        obtain ⟨e2, _⟩ := HC.out yn (by omega)
        obtain ⟨p0, p1⟩ := word_at HW.out (i := xn) (by omega)
        obtain ⟨r0, r1⟩ := word_at HW.out (i := yn) (by omega)
        have HN : Hid (runW zs ws (k + 1) = (runW zs ws k).set dn (doV o ((runW zs ws k).getD xn 0) ((runW zs ws k).getD yn 0))) := by
          rw [HS.out]; unfold stepW; rw [if_neg (by omega), if_neg (by omega), if_neg (by omega)]; rfl
        have HU : Hid (toldTo zs ws (k + 1) = toldTo zs ws k) := by show toldTo zs ws (k + 1) = toldTo zs ws k; rw [HT.out]; unfold toldBy; rw [if_neg (by omega)]; simp
        generalize (runW zs ws k).getD xn 0 = p at e1 p0 p1 HN
        generalize (runW zs ws k).getD yn 0 = q at e2 r0 r1 HN
        have s1 : (o == 1) = false := by simp; omega
        have s2 : (o == 2) = false := by simp; omega
        have s8 : (o == 8) = false := by simp; omega
        clear hg HS HT
        have dl : (dn : Int) < 8 := by omega
        have xl : (xn : Int) < 8 := by omega
        have yl : (yn : Int) < 8 := by omega
        go_wp2
        refine wp_region_noPanic ?_
        refine wp_region_held_drew (S := fun w' => w'.cell? ⟨wr.heap.size, 0, none⟩ = some (.int .i64 o) ∧ w'.cell? ⟨wr.heap.size, 1, none⟩ = some (.int .i64 (dn : Int)) ∧ w'.cell? ⟨wr.heap.size, 2, none⟩ = some (.int .i64 (xn : Int)) ∧ w'.cell? ⟨wr.heap.size, 3, none⟩ = some (.int .i64 (yn : Int))) (by kernel_rfl) ?_ (fun hHeld => ?_)
        · (try dsimp only); go_keep
        refine wpAnyH_take (i := 0) (v := ?v1) rfl (by kernel_rfl) (by kernel_rfl) (by kernel_rfl) (fun _ _ _ h => h) (Or.inl ⟨by rfl, ?hy1⟩) (by assumption) ?_
        case hy1 => (intro w hSw; (try dsimp only at hSw); go_simp; try with_reducible rfl)
        try simp only [Act.put, List.setIfInBounds_toArray, List.set_cons_zero, List.set_cons_succ]
        refine wpAnyH_take (i := 1) (v := ?v2) rfl (by kernel_rfl) (by kernel_rfl) (by kernel_rfl) (fun _ _ _ h => h) (Or.inl ⟨by rfl, ?hy2⟩) (by assumption) ?_
        case hy2 => (intro w hSw; (try dsimp only at hSw); go_simp; try with_reducible rfl)
        try simp only [Act.put, List.setIfInBounds_toArray, List.set_cons_zero, List.set_cons_succ]
        refine wpAnyH_take (i := 2) (v := ?v3) rfl (by kernel_rfl) (by kernel_rfl) (by kernel_rfl) (fun _ _ _ h => h) (Or.inl ⟨by rfl, ?hy3⟩) (by assumption) ?_
        case hy3 => (intro w hSw; (try dsimp only at hSw); go_simp; try with_reducible rfl)
        try simp only [Act.put, List.setIfInBounds_toArray, List.set_cons_zero, List.set_cons_succ]
        refine wpAnyH_take (i := 3) (v := ?v4) rfl (by kernel_rfl) (by kernel_rfl) (by kernel_rfl) (fun _ _ _ h => h) (Or.inl ⟨by rfl, ?hy4⟩) (by assumption) ?_
        case hy4 => (intro w hSw; (try dsimp only at hSw); go_simp; try with_reducible rfl)
        try simp only [Act.put, List.setIfInBounds_toArray, List.set_cons_zero, List.set_cons_succ]
        refine wpAnyH_take (i := 4) (v := ?v5) rfl (by kernel_rfl) (by kernel_rfl) (by kernel_rfl) (fun _ _ _ h => h) (Or.inl ⟨by rfl, ?hy5⟩) (by assumption) ?_
        case hy5 => (intro w hSw; (try dsimp only at hSw); go_simp; try with_reducible rfl)
        try simp only [Act.put, List.setIfInBounds_toArray, List.set_cons_zero, List.set_cons_succ]
        refine wpAnyH_take (i := 5) (v := ?v6) rfl (by kernel_rfl) (by kernel_rfl) (by kernel_rfl) (fun _ _ _ h => h) (Or.inl ⟨by rfl, ?hy6⟩) (by assumption) ?_
        case hy6 => (intro w hSw; (try dsimp only at hSw); go_simp; try with_reducible rfl)
        try simp only [Act.put, List.setIfInBounds_toArray, List.set_cons_zero, List.set_cons_succ]
        refine wpAnyH_take (i := 6) (v := ?v7) rfl (by kernel_rfl) (by kernel_rfl) (by kernel_rfl) (fun _ _ _ h => h) (Or.inl ⟨by rfl, ?hy7⟩) (by assumption) ?_
        case hy7 => (intro w hSw; (try dsimp only at hSw); go_simp; try with_reducible rfl)
        try simp only [Act.put, List.setIfInBounds_toArray, List.set_cons_zero, List.set_cons_succ]
        refine wpAnyH_take (i := 7) (v := ?v8) rfl (by kernel_rfl) (by kernel_rfl) (by kernel_rfl) (fun _ _ _ h => h) (Or.inl ⟨by rfl, ?hy8⟩) (by assumption) ?_
        case hy8 => (intro w hSw; (try dsimp only at hSw); go_simp; try with_reducible rfl)
        try simp only [Act.put, List.setIfInBounds_toArray, List.set_cons_zero, List.set_cons_succ]
        refine wpAnyH_take (i := 8) (v := ?v9) rfl (by kernel_rfl) (by kernel_rfl) (by kernel_rfl) (fun _ _ _ h => h) (Or.inl ⟨by rfl, ?hy9⟩) (by assumption) ?_
        case hy9 => (intro w hSw; (try dsimp only at hSw); go_simp; try with_reducible rfl)
        try simp only [Act.put, List.setIfInBounds_toArray, List.set_cons_zero, List.set_cons_succ]
        refine wpAnyH_take (i := 10) (v := ?v10) rfl (by kernel_rfl) (by kernel_rfl) (by kernel_rfl) (fun _ _ _ h => h) (Or.inl ⟨by rfl, ?hy10⟩) (by assumption) ?_
        case hy10 => (intro w hSw; (try dsimp only at hSw); go_simp; try with_reducible rfl)
        try simp only [Act.put, List.setIfInBounds_toArray, List.set_cons_zero, List.set_cons_succ]
        refine wpAnyH_take (i := 11) (v := ?v11) rfl (by kernel_rfl) (by kernel_rfl) (by kernel_rfl) (fun _ _ _ h => h) (Or.inl ⟨by rfl, ?hy11⟩) (by assumption) ?_
        case hy11 => (intro w hSw; (try dsimp only at hSw); go_simp; try with_reducible rfl)
        try simp only [Act.put, List.setIfInBounds_toArray, List.set_cons_zero, List.set_cons_succ]
        refine wpAnyH_take (i := 12) (v := ?v12) rfl (by kernel_rfl) (by kernel_rfl) (by kernel_rfl) (fun _ _ _ h => h) (Or.inl ⟨by rfl, ?hy12⟩) (by assumption) ?_
        case hy12 => (intro w hSw; (try dsimp only at hSw); go_simp; try with_reducible rfl)
        try simp only [Act.put, List.setIfInBounds_toArray, List.set_cons_zero, List.set_cons_succ]
        refine wpAnyH_take (i := 13) (v := ?v13) rfl (by kernel_rfl) (by kernel_rfl) (by kernel_rfl) (fun _ _ _ h => h) (Or.inl ⟨by rfl, ?hy13⟩) (by assumption) ?_
        case hy13 => (intro w hSw; (try dsimp only at hSw); go_simp; try with_reducible rfl)
        try simp only [Act.put, List.setIfInBounds_toArray, List.set_cons_zero, List.set_cons_succ]
        refine wpAnyH_ready (rs := [9, 14]) (by kernel_rfl) (by simp) ?_
        refine AllReadyH.cons rfl (fun K hK => ?_) ?_
        · go_simp
          refine hK.out _ _ ?_ (fun hHeld => ?_)
          · (try dsimp only); first | assumption | (refine ⟨?_, ?_, ?_, ?_⟩ <;> exact set_new_box _ _ _ _ _ _)
          clear hK K
          try simp only [Act.put, List.setIfInBounds_toArray, List.set_cons_zero, List.set_cons_succ]
          refine wpAnyH_ready (rs := [14]) (by kernel_rfl) (by simp) ?_
          refine AllReadyH.cons rfl (fun K hK => ?_) AllReadyH.nil
          go_simp
          refine hK.out _ _ ?_ (fun hHeld => ?_)
          · (try dsimp only); first | assumption | (refine ⟨?_, ?_, ?_, ?_⟩ <;> exact set_new_box _ _ _ _ _ _)
          clear hK K
          try simp only [Act.put, List.setIfInBounds_toArray, List.set_cons_zero, List.set_cons_succ]
          refine wpAnyH_ready (rs := [15]) (by kernel_rfl) (by simp) ?_
          refine AllReadyH.cons rfl (fun K hK => ?_) AllReadyH.nil
          go_simp
          (go_at_call 63; refine (spec_do2 _ _ _ _ o3 o7 p0 p1 r0 r1).mono ?_; rintro e w' ⟨rfl, rfl⟩; go_wp2_with fail)
          refine hK.out _ _ ?_ (fun hHeld => ?_)
          · (try dsimp only); first | assumption | (refine ⟨?_, ?_, ?_, ?_⟩ <;> exact set_new_box _ _ _ _ _ _)
          clear hK K
          try simp only [Act.put, List.setIfInBounds_toArray, List.set_cons_zero, List.set_cons_succ]
          refine wpAnyH_take (i := 16) (v := ?v14) rfl (by kernel_rfl) (by kernel_rfl) (by kernel_rfl) (fun _ _ _ h => h) (Or.inl ⟨by rfl, ?hy14⟩) (by assumption) ?_
          case hy14 => (intro w hSw; (try dsimp only at hSw); go_simp; try with_reducible rfl)
          try simp only [Act.put, List.setIfInBounds_toArray, List.set_cons_zero, List.set_cons_succ]
          refine wpAnyH_ready (rs := [17]) (by kernel_rfl) (by simp) ?_
          refine AllReadyH.cons rfl (fun K hK => ?_) AllReadyH.nil
          go_simp
          refine hK.out _ _ ?_ (fun hHeld => ?_)
          · (try dsimp only); first | assumption | (refine ⟨?_, ?_, ?_, ?_⟩ <;> exact set_new_box _ _ _ _ _ _)
          clear hK K
          try simp only [Act.put, List.setIfInBounds_toArray, List.set_cons_zero, List.set_cons_succ]
          refine wpAnyH_done (by kernel_rfl) ?_ _
          refine NoPanic.normal ?_
          (go_wp2; go_roundw; (case rel => (obtain ⟨q0, q1, q2, q3⟩ := rel_set2 HO.out HM.out HG.out HV.out hgB HL.out (j := dn) (by have := HL8.out; omega) (doV o p q) (.cells #[.int .i64 o, .int .i64 (dn : Int), .int .i64 (xn : Int), .int .i64 (yn : Int), .int .i64 n] 93); exact ⟨k + 1, by omega, by go_num, by rw [HU.out]; exact World.ownsRow.drew q0, by rw [HN.out]; exact q1.kept (Below.drew (Below.refl _ _)), q2.drew, HV, q3, keeps_drew (keeps_set HP.out HG.out.size _ _ _)⟩)); (case measure => (simp [intOf]; omega)))
        refine AllReadyH.cons rfl (fun K hK => ?_) AllReadyH.nil
        go_simp
        refine hK.out _ _ ?_ (fun hHeld => ?_)
        · (try dsimp only); first | assumption | (refine ⟨?_, ?_, ?_, ?_⟩ <;> exact set_new_box _ _ _ _ _ _)
        clear hK K
        try simp only [Act.put, List.setIfInBounds_toArray, List.set_cons_zero, List.set_cons_succ]
        refine wpAnyH_ready (rs := [9]) (by kernel_rfl) (by simp) ?_
        refine AllReadyH.cons rfl (fun K hK => ?_) AllReadyH.nil
        go_simp
        refine hK.out _ _ ?_ (fun hHeld => ?_)
        · (try dsimp only); first | assumption | (refine ⟨?_, ?_, ?_, ?_⟩ <;> exact set_new_box _ _ _ _ _ _)
        clear hK K
        try simp only [Act.put, List.setIfInBounds_toArray, List.set_cons_zero, List.set_cons_succ]
        refine wpAnyH_ready (rs := [15]) (by kernel_rfl) (by simp) ?_
        refine AllReadyH.cons rfl (fun K hK => ?_) AllReadyH.nil
        go_simp
        (go_at_call 63; refine (spec_do2 _ _ _ _ o3 o7 p0 p1 r0 r1).mono ?_; rintro e w' ⟨rfl, rfl⟩; go_wp2_with fail)
        refine hK.out _ _ ?_ (fun hHeld => ?_)
        · (try dsimp only); first | assumption | (refine ⟨?_, ?_, ?_, ?_⟩ <;> exact set_new_box _ _ _ _ _ _)
        clear hK K
        try simp only [Act.put, List.setIfInBounds_toArray, List.set_cons_zero, List.set_cons_succ]
        refine wpAnyH_take (i := 16) (v := ?v15) rfl (by kernel_rfl) (by kernel_rfl) (by kernel_rfl) (fun _ _ _ h => h) (Or.inl ⟨by rfl, ?hy15⟩) (by assumption) ?_
        case hy15 => (intro w hSw; (try dsimp only at hSw); go_simp; try with_reducible rfl)
        try simp only [Act.put, List.setIfInBounds_toArray, List.set_cons_zero, List.set_cons_succ]
        refine wpAnyH_ready (rs := [17]) (by kernel_rfl) (by simp) ?_
        refine AllReadyH.cons rfl (fun K hK => ?_) AllReadyH.nil
        go_simp
        refine hK.out _ _ ?_ (fun hHeld => ?_)
        · (try dsimp only); first | assumption | (refine ⟨?_, ?_, ?_, ?_⟩ <;> exact set_new_box _ _ _ _ _ _)
        clear hK K
        try simp only [Act.put, List.setIfInBounds_toArray, List.set_cons_zero, List.set_cons_succ]
        refine wpAnyH_done (by kernel_rfl) ?_ _
        refine NoPanic.normal ?_
        (go_wp2; go_roundw; (case rel => (obtain ⟨q0, q1, q2, q3⟩ := rel_set2 HO.out HM.out HG.out HV.out hgB HL.out (j := dn) (by have := HL8.out; omega) (doV o p q) (.cells #[.int .i64 o, .int .i64 (dn : Int), .int .i64 (xn : Int), .int .i64 (yn : Int), .int .i64 n] 93); exact ⟨k + 1, by omega, by go_num, by rw [HU.out]; exact World.ownsRow.drew q0, by rw [HN.out]; exact q1.kept (Below.drew (Below.refl _ _)), q2.drew, HV, q3, keeps_drew (keeps_set HP.out HG.out.size _ _ _)⟩)); (case measure => (simp [intOf]; omega)))
    · have HE : Hid (k = len) := by show k = len; omega
      go_wp2
      go_ret
      rw [HE.out] at HO HM
      exact ⟨_, rfl, HO.out, HV.out, HM.out, HL.out, HG.out, HP.out⟩
end Go.Proofs.Ytgknofbkdgbokaa.walks
