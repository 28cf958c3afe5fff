/-
  One step of the program's run of a line.
-/
import Derived.Test.YtlocdlgbjjbnoaaProg
import Derived.Test.YtlocdlgbjjbnoaaMagMath
import Derived.Test.YtlocdlgbjjbnoaaInts
import Derived.Test.YtlocdlgbjjbnoaaOwnInts
import Derived.Test.YtlocdlgbjjbnoaaDeep
import Derived.Test.YtlocdlgbjjbnoaaDeepRow
import Derived.Test.YtlocdlgbjjbnoaaOwnMath
import Derived.Test.YtlocdlgbjjbnoaaLineMath
import Derived.Test.YtlocdlgbjjbnoaaLineStep
import Derived.Test.YtlocdlgbjjbnoaaLineGd
import Derived.Test.YtlocdlgbjjbnoaaLineGood
import Derived.Test.YtlocdlgbjjbnoaaLineGuard
import Derived.Test.YtlocdlgbjjbnoaaRunLMath16
import Derived.Test.YtlocdlgbjjbnoaaRunLSpec16
import Derived.Test.YtlocdlgbjjbnoaaRunLImpl16
import Derived.Deep.RegionWith
import Derived.Deep.RegionHeld3
import Derived.Deep.OwnRows
import Derived.Deep.DeepFit
import Derived.Deep.DeepCutAuto
import Derived.WalkKit
import Derived.WalkSpells
import Derived.Below
import Derived.Handy
import Derived.OwnWalk
namespace Go.Proofs.Ytlocdlgbjjbnoaa.walks
open Go.RowKit Go.Proofs.Ytlocdlgbjjbnoaa.math Go.Proofs.Ytlocdlgbjjbnoaa.ints Go.Proofs.Ytlocdlgbjjbnoaa.deep
set_option linter.unusedVariables false
set_option maxRecDepth 100000

set_option linter.unusedSimpArgs false
theorem row43 {sl gl v v' : Value} {s s' : Rs} (hp : s'.pc = s.pc) (hr : s'.rg = s.rg) (hu : s'.unc = s.unc) (i : Nat) (hi : i < 45) : (if i = 43 then v' else rowR sl gl v s i) = rowR sl gl v' s' i := by
  unfold rowR
  rw [hp, hr, hu]
  by_cases e0 : i = 0
  · rw [if_neg (by omega), if_pos e0, if_pos e0]
  by_cases e1 : i = 1
  · rw [if_neg (by omega), if_neg e0, if_pos e1, if_neg e0, if_pos e1]
  by_cases e2 : i = 2
  · rw [if_neg (by omega), if_neg e0, if_neg e1, if_pos e2, if_neg e0, if_neg e1, if_pos e2]
  by_cases e3 : i < 43
  · rw [if_neg (by omega), if_neg e0, if_neg e1, if_neg e2, if_pos e3, if_neg e0, if_neg e1, if_neg e2, if_pos e3]
  by_cases e4 : i = 43
  · rw [if_pos e4]; simp only [if_neg e0, if_neg e1, if_neg e2, if_neg e3, if_pos e4]
  · rw [if_neg e4]; simp only [if_neg e0, if_neg e1, if_neg e2, if_neg e3, if_neg e4]
/-- One number more is told. -/
theorem told_next {W0 W X w3 : World} {a : Option Addr} {n cap : Nat} {ga : Option Addr} {g gc gl B tl : Nat} {v v' : Value} {s : Rs} {x : Int} (htq : s.told.length = tl) (_ : True = True) (h : Hid (ProgR W0 W a n cap ga g gc gl B v s)) (PX : Hid (ProgR W0 X a n cap ga g gc gl B v s)) (HX : Hid (Below W.heap.size W X))
    (hown : w3.ownsRow B 3 1 v' (tl + 1) (s.told.map (Value.int .i64) ++ [.int .i64 x])) (hg : ((X.alloc (.cells #[.int .i64 x] 3)).drew).grownBy w3 v.ownBlock) (x1 : X.cell? ⟨W.heap.size, 1, none⟩ = some (.int .i64 x)) :
    Hid (∀ s', s'.pc = s.pc → s'.rg = s.rg → s'.unc = s.unc → s'.told = s.told ++ [x] → ProgR W0 ((w3.setCell ⟨gl, 43, none⟩ v')) a n cap ga g gc gl B v' s') ∧ w3.cell? ⟨W.heap.size, 1, none⟩ = some (.int .i64 x) ∧ (∀ u, (w3.setCell ⟨gl, 43, none⟩ u).cell? ⟨W.heap.size, 1, none⟩ = some (.int .i64 x)) ∧ w3.cell? ⟨gl, 43, none⟩ = some v ∧ w3.frozen? ⟨gl, 43, none⟩ = false ∧ gl < w3.heap.size ∧ ∃ g3 c3, v' = .slice (some ⟨g3, 0, none⟩) (tl + 1) c3 := by
  have ho := PX.out.ord
  have hglW := h.out.box.lt
  have hxl : W.heap.size < X.heap.size := by
    have := World.block_lt_of_cell? X _ x1
    exact this
  have hbl : ∀ y, v.ownBlock = some y → B ≤ y ∧ y < W.heap.size := fun y e => World.ownsRow.lt h.out.told y e
  have bl : ∀ y, y < X.heap.size → v.ownBlock ≠ some y → w3.heap[y]? = X.heap[y]? := fun y hy hne => (hg.block y (by show y < (X.alloc (.cells #[.int .i64 x] 3)).heap.size; simp; omega) (fun e => hne e.symm)).trans ((((Below.refl X.heap.size X).alloc (Nat.le_refl _) (.cells #[.int .i64 x] 3)).drew).block y hy)
  have bgl := bl gl (by omega) (fun e => by have := (hbl _ e).1; omega)
  have bst := bl W.heap.size hxl (fun e => by have := (hbl _ e).2; omega)
  have BX3 : Below B X w3 := (((Below.refl B X).alloc ho.2.2 (.cells #[.int .i64 x] 3)).drew).grown hg (by show B ≤ (X.alloc (.cells #[.int .i64 x] 3)).heap.size; simp; omega) (fun y hy => (hbl y hy).1)
  have box3 := PX.out.box.of_block bgl
  have c1 : w3.cell? ⟨W.heap.size, 1, none⟩ = some (.int .i64 x) := (World.cell?_of_block (a := ⟨W.heap.size, 1, none⟩) bst).trans x1
  refine ⟨fun s' hp hr hu ht => ?_, c1, fun u => (World.cell?_of_block (a := ⟨W.heap.size, 1, none⟩) (Below.heap_setCell _ _ _ _ (by show W.heap.size ≠ gl; omega))).trans c1, box3.cell (i := 43) (by decide), box3.frozen 43, box3.lt, ?_⟩
  · refine ⟨World.rowIs.congr (World.rowIs.set box3 43 v') (fun i hi => row43 hp hr hu i hi), ?_, (PX.out.bel.trans (BX3.mono (by omega))).setCell (by show W0.heap.size ≤ gl; omega) _, ho.1, ho.2.1, by have := BX3.size; simp [World.setCell]; omega⟩
    rw [ht]
    have q : Own w3 B v' (s.told ++ [x]) := by unfold Own; rw [List.length_append, htq, List.map_append]; exact hown
    exact own_agree_r q (fun y hy _ => Below.heap_setCell _ _ _ _ (by show y ≠ gl; omega))
  · rcases hown.2 with ⟨_, e⟩ | ⟨g3, c3, cur, e, _⟩
    · omega
    · exact ⟨g3, c3, e⟩
/-- What a step comes to. -/
def DoTo (W0 : World) (a : Option Addr) (n cap : Nat) (ga : Option Addr) (g gc gl B : Nat) (p : Nat) (s2 : Rs) (e : Ending) (W' : World) : Prop := ∃ v', e = .returned (.int .i64 (s2.pc : Int)) ∧ ProgR W0 W' a n cap ga g gc gl B v' { s2 with pc := p }
set_option maxHeartbeats 16000000 in
theorem impl_dostep (W0 : World) (a : Option Addr) (n cap : Nat) (ga : Option Addr) (g gc gl B : Nat) (v : Value) (zs gs : List Int) (s : Rs) (W : World) (hn : n ≤ 1048576) (hgz : Hid (gs.length = g * 4)) (hg : g ≤ 1048576) (hgs : Hid (Ints W0 ga gs)) (hok : LinedOk (zf zs) n (zf gs) g) (hp : s.pc < n) (hrb : Hid (∀ i, 0 ≤ s.rg i ∧ s.rg i ≤ 5000)) (htl : s.told.length ≤ 5000) (h : Hid (ProgR W0 W a n cap ga g gc gl B v s)) :
    Calls Try.prog 65 #[.pointer (some ⟨gl, 0, none⟩), .agg #[.int .i64 (lop (zf zs) s.pc), .int .i64 (lnn (zf zs) s.pc), .int .i64 (lto (zf zs) s.pc)]] W fun e W' => DoTo W0 a n cap ga g gc gl B s.pc (stepR (zf zs) n (zf gs) g s) e W' := by
  obtain ⟨i0, hi0, hz0, hz1, hz2⟩ := parts_of (P := Try.prog) (e := 3) (z := .int .i64 0) (a := 1) (b := 8) (by kernel_rfl)
  have hst := step_cases (hok.1 s.pc hp)
  have hpI : (s.pc : Int) < 1048576 := by omega
  have hpJ : (0 : Int) ≤ (s.pc : Int) := by omega
  have HSTEP : Hid (stepR (zf zs) n (zf gs) g s = if codeR s (lop (zf zs) s.pc) (lnn (zf zs) s.pc) = 0 then plainR s (lop (zf zs) s.pc) (lnn (zf zs) s.pc) (lto (zf zs) s.pc) else raiseR n (zf gs) g s (codeR s (lop (zf zs) s.pc) (lnn (zf zs) s.pc))) := rfl
  generalize lop (zf zs) s.pc = o at hst HSTEP ⊢
  generalize lnn (zf zs) s.pc = x at hst HSTEP ⊢
  generalize lto (zf zs) s.pc = t at hst HSTEP ⊢
  obtain ⟨s2, hs2⟩ : ∃ s2, Hid (stepR (zf zs) n (zf gs) g s = s2) := ⟨_, rfl⟩
  rw [hs2.out] at HSTEP ⊢
  clear hs2
  obtain ⟨X, hX⟩ : ∃ X, Hid (W.alloc (.cells #[.int .i64 o, .int .i64 x, .int .i64 t] 90) = X) := ⟨_, rfl⟩
  have HX : Hid (Below W.heap.size W X) := by show Below _ _ _; rw [← hX.out]; exact (Below.refl _ _).alloc (Nat.le_refl _) _
  have RX : Hid (X.rowIs W.heap.size 90 3 (rowF [.int .i64 o, .int .i64 x, .int .i64 t])) := by rw [← hX.out]; exact row_of W _ _
  have PX : Hid (ProgR W0 X a n cap ga g gc gl B v s) := h.out.kept HX.out
  have hglW : gl < W.heap.size := h.out.box.lt
  have x0 : X.cell? ⟨W.heap.size, 0, none⟩ = some (.int .i64 o) := RX.out.cell (i := 0) (by decide)
  have x1 : X.cell? ⟨W.heap.size, 1, none⟩ = some (.int .i64 x) := RX.out.cell (i := 1) (by decide)
  have x2 : X.cell? ⟨W.heap.size, 2, none⟩ = some (.int .i64 t) := RX.out.cell (i := 2) (by decide)
  have xl := RX.out.lt
  have cp : X.cell? ⟨gl, 2, none⟩ = some (.int .i64 (s.pc : Int)) := PX.out.box.cell (i := 2) (by decide)
  have cl := PX.out.box.lt
  have BD : Hid (Below X.heap.size X X.drew) := (Below.refl _ _).drew
  have PD : Hid (ProgR W0 X.drew a n cap ga g gc gl B v s) := PX.out.kept BD.out
  have hreg : ∀ k, k < 40 → X.cell? ⟨gl, 3 + k, none⟩ = some (.int .i64 (s.rg k)) := fun k hk => by
    have q := PX.out.box.cell (i := 3 + k) (by omega)
    unfold rowR at q
    rw [if_neg (by omega), if_neg (by omega), if_neg (by omega), if_pos (by omega), show 3 + k - 3 = k by omega] at q
    exact q
  go_enter Try.func65, Try.ntmps65
  go_upto_region 1 with fail
  rw [hX.out]
  clear hX
  rcases hst with ⟨rfl, hx0, hx1⟩ | ⟨rfl, hx0, hx1⟩ | ⟨rfl, hx0, hx1⟩ | ⟨rfl, ht0, ht1⟩ | ⟨rfl, hx0, hx1⟩ | ⟨rfl, hx0, hx1, ht0, ht1⟩
  · have HS2 : Hid (s2 = ⟨s.pc + 1, s.rg, s.told ++ [x], s.unc⟩) := by show _ = _; rw [HSTEP.out, if_pos (show codeR s 1 x = 0 from rfl)]; rfl
    obtain ⟨ta, tc, hve, _⟩ := PX.out.told.mine
    obtain ⟨tl, htq⟩ : ∃ k, Hid (s.told.length = k) := ⟨_, rfl⟩
    rw [htq.out] at hve htl
    have hord := PX.out.ord
    have v43 : X.cell? ⟨gl, 43, none⟩ = some v := PX.out.box.cell (i := 43) (by decide)
    have HOr : Hid (X.ownsRow B 3 1 v tl (s.told.map (Value.int .i64))) := by have q := PX.out.told; unfold Own at q; rw [htq.out] at q; exact q
    have q1 : X.drew.cell? ⟨W.heap.size, 1, none⟩ = some (.int .i64 x) := x1
    have q2 : (X.alloc (.cells #[.int .i64 x] 3)).drew.cell? ⟨W.heap.size, 1, none⟩ = some (.int .i64 x) := (((Below.refl X.heap.size X).alloc (Nat.le_refl _) _).cell (p := ⟨W.heap.size, 1, none⟩) xl).trans x1
    have v43E : (X.alloc (.cells #[.int .i64 x] 3)).drew.cell? ⟨gl, 43, none⟩ = some v := (((Below.refl X.heap.size X).alloc (Nat.le_refl _) _).cell (p := ⟨gl, 43, none⟩) cl).trans v43
    have HOE : Hid (((X.alloc (.cells #[.int .i64 x] 3)).drew).ownsRow B 3 1 v tl (s.told.map (Value.int .i64))) := World.ownsRow.alloc HOr.out _
    have HNE : Hid (∀ (j : Nat) (u : Value), [Value.int .i64 x][j]? = some u → ((X.alloc (.cells #[.int .i64 x] 3)).drew).cell? ((⟨X.heap.size, 0, none⟩ : Addr).add j) = some u) := new_one X x _
    have hsE : B ≤ ((X.alloc (.cells #[.int .i64 x] 3)).drew).heap.size := by show B ≤ (X.alloc (.cells #[.int .i64 x] 3)).heap.size; simp; omega
    subst hve
    go_upto_region 3 with fail
    refine wp_region_noPanic ?_
    refine wp_region_held_drew (S := (fun w' => w'.cell? ⟨W.heap.size, 1, none⟩ = some (.int .i64 x))) (by kernel_rfl) ?_ (fun hHeld => ?_)
    · (try dsimp only); exact q1
    refine wpAnyH_take (i := 0) (v := ?v11) rfl (by kernel_rfl) (by kernel_rfl) (by kernel_rfl) (fun _ _ _ h => h) (Or.inl ⟨by rfl, ?hy11⟩) (by assumption) ?_
    case hy11 => (intro w hSw; (try dsimp only at hSw); go_simp; try with_reducible rfl)
    try simp only [Act.put, List.setIfInBounds_toArray, List.set_cons_zero, List.set_cons_succ, List.getElem_toArray, List.getElem_cons_zero, List.getElem_cons_succ]
    refine wpAnyH_take (i := 1) (v := ?v12) rfl (by kernel_rfl) (by kernel_rfl) (by kernel_rfl) (fun _ _ _ h => h) (Or.inl ⟨by rfl, ?hy12⟩) (by assumption) ?_
    case hy12 => (intro w hSw; (try dsimp only at hSw); go_simp; try with_reducible rfl)
    try simp only [Act.put, List.setIfInBounds_toArray, List.set_cons_zero, List.set_cons_succ, List.getElem_toArray, List.getElem_cons_zero, List.getElem_cons_succ]
    refine wpAnyH_take (i := 2) (v := ?v13) rfl (by kernel_rfl) (by kernel_rfl) (by kernel_rfl) (fun _ _ _ h => h) (Or.inl ⟨by rfl, ?hy13⟩) (by assumption) ?_
    case hy13 => (intro w hSw; (try dsimp only at hSw); go_simp; try with_reducible rfl)
    try simp only [Act.put, List.setIfInBounds_toArray, List.set_cons_zero, List.set_cons_succ, List.getElem_toArray, List.getElem_cons_zero, List.getElem_cons_succ]
    refine wpAnyH_take (i := 3) (v := ?v14) rfl (by kernel_rfl) (by kernel_rfl) (by kernel_rfl) (fun _ _ _ h => h) (Or.inl ⟨by rfl, ?hy14⟩) (by assumption) ?_
    case hy14 => (intro w hSw; (try dsimp only at hSw); go_simp; try with_reducible rfl)
    try simp only [Act.put, List.setIfInBounds_toArray, List.set_cons_zero, List.set_cons_succ, List.getElem_toArray, List.getElem_cons_zero, List.getElem_cons_succ]
    refine wpAnyH_take (i := 5) (v := ?v15) rfl (by kernel_rfl) (by kernel_rfl) (by kernel_rfl) (fun _ _ _ h => h) (Or.inl ⟨by rfl, ?hy15⟩) (by assumption) ?_
    case hy15 => (intro w hSw; (try dsimp only at hSw); go_simp; try with_reducible rfl)
    try simp only [Act.put, List.setIfInBounds_toArray, List.set_cons_zero, List.set_cons_succ, List.getElem_toArray, List.getElem_cons_zero, List.getElem_cons_succ]
    refine wpAnyH_take (i := 6) (v := ?v16) rfl (by kernel_rfl) (by kernel_rfl) (by kernel_rfl) (fun _ _ _ h => h) (Or.inl ⟨by rfl, ?hy16⟩) (by assumption) ?_
    case hy16 => (intro w hSw; (try dsimp only at hSw); go_simp; try with_reducible rfl)
    try simp only [Act.put, List.setIfInBounds_toArray, List.set_cons_zero, List.set_cons_succ, List.getElem_toArray, List.getElem_cons_zero, List.getElem_cons_succ]
    refine wpAnyH_ready (rs := [4, 7]) (by kernel_rfl) (by simp) ?_
    refine AllReadyH.cons rfl (fun K hK => ?_) ?_
    · go_simp
      refine hK.out _ _ ?_ (fun hHeld => ?_)
      · (try dsimp only); exact q1
      clear hK K
      try simp only [Act.put, List.setIfInBounds_toArray, List.set_cons_zero, List.set_cons_succ, List.getElem_toArray, List.getElem_cons_zero, List.getElem_cons_succ]
      refine wpAnyH_ready (rs := [7]) (by kernel_rfl) (by simp) ?_
      refine AllReadyH.cons rfl (fun K hK => ?_) AllReadyH.nil
      go_simp
      refine hK.out _ _ ?_ (fun hHeld => ?_)
      · (try dsimp only); exact q2
      clear hK K
      try simp only [Act.put, List.setIfInBounds_toArray, List.set_cons_zero, List.set_cons_succ, List.getElem_toArray, List.getElem_cons_zero, List.getElem_cons_succ]
      refine wpAnyH_ready (rs := [8]) (by kernel_rfl) (by simp) ?_
      refine AllReadyH.cons rfl (fun K hK => ?_) AllReadyH.nil
      refine step_append_at ((X.alloc (.cells #[.int .i64 x] 3)).drew) (by rfl) _ _ 24 (by rfl) B 3 i0 (.int .i64 0) 1 8 Try.underlying24 hi0 hz0 hz1 hz2 rfl (by decide) (.slice ta tl tc) tl (s.told.map (Value.int .i64)) (by rfl) HOE.out ⟨X.heap.size, 0, none⟩ 1 1 [.int .i64 x] (by rfl) rfl HNE.out (one_of x) (by unfold maxLen; omega) (by omega) hsE ?_
      intro v' w3 hown hgrow hnil hat
      obtain ⟨P3, q6, q7, e43, f43, l43, hslice⟩ := told_next (x := x) (tl := tl) htq.out rfl h PX HX hown hgrow x1
      obtain ⟨g3, c3, rfl⟩ := hslice
      refine hK.out _ _ ?_ (fun hHeld => ?_)
      · (try dsimp only); exact q6
      clear hK K
      try simp only [Act.put, List.setIfInBounds_toArray, List.set_cons_zero, List.set_cons_succ, List.getElem_toArray, List.getElem_cons_zero, List.getElem_cons_succ]
      refine wpAnyH_take (i := 9) (v := ?v17) rfl (by kernel_rfl) (by kernel_rfl) (by kernel_rfl) (fun _ _ _ h => h) (Or.inl ⟨by rfl, ?hy17⟩) (by assumption) ?_
      case hy17 => (intro w hSw; (try dsimp only at hSw); go_simp; try with_reducible rfl)
      try simp only [Act.put, List.setIfInBounds_toArray, List.set_cons_zero, List.set_cons_succ, List.getElem_toArray, List.getElem_cons_zero, List.getElem_cons_succ]
      refine wpAnyH_take (i := 10) (v := ?v18) rfl (by kernel_rfl) (by kernel_rfl) (by kernel_rfl) (fun _ _ _ h => h) (Or.inl ⟨by rfl, ?hy18⟩) (by assumption) ?_
      case hy18 => (intro w hSw; (try dsimp only at hSw); go_simp; try with_reducible rfl)
      try simp only [Act.put, List.setIfInBounds_toArray, List.set_cons_zero, List.set_cons_succ, List.getElem_toArray, List.getElem_cons_zero, List.getElem_cons_succ]
      refine wpAnyH_ready (rs := [11]) (by kernel_rfl) (by simp) ?_
      refine AllReadyH.cons rfl (fun K hK => ?_) AllReadyH.nil
      go_simp
      refine hK.out _ _ ?_ (fun hHeld => ?_)
      · (try dsimp only); exact q7 _
      clear hK K
      try simp only [Act.put, List.setIfInBounds_toArray, List.set_cons_zero, List.set_cons_succ, List.getElem_toArray, List.getElem_cons_zero, List.getElem_cons_succ]
      refine wpAnyH_done (by kernel_rfl) ?_ _
      refine NoPanic.normal ?_
      have P4 : Hid (ProgR W0 (w3.setCell ⟨gl, 43, none⟩ (.slice (some ⟨g3, 0, none⟩) (tl + 1) c3)) a n cap ga g gc gl B (.slice (some ⟨g3, 0, none⟩) (tl + 1) c3) { (⟨s.pc + 1, s.rg, s.told ++ [x], s.unc⟩ : Rs) with pc := s.pc }) := P3.out _ rfl rfl rfl rfl
      have cp2 : (w3.setCell ⟨gl, 43, none⟩ (.slice (some ⟨g3, 0, none⟩) (tl + 1) c3)).cell? ⟨gl, 2, none⟩ = some (.int .i64 (s.pc : Int)) := P4.out.box.cell (i := 2) (by decide)
      obtain ⟨U, hU⟩ : ∃ U, Hid (w3.setCell ⟨gl, 43, none⟩ (.slice (some ⟨g3, 0, none⟩) (tl + 1) c3) = U) := ⟨_, rfl⟩
      rw [hU.out] at P4 cp2 ⊢
      have pl := P4.out.box.lt
      go_wp2
      go_ret
      exact ⟨_, by rw [HS2.out]; go_num, by rw [HS2.out]; exact P4.out⟩
    refine AllReadyH.cons rfl (fun K hK => ?_) AllReadyH.nil
    go_simp
    refine hK.out _ _ ?_ (fun hHeld => ?_)
    · (try dsimp only); exact q2
    clear hK K
    try simp only [Act.put, List.setIfInBounds_toArray, List.set_cons_zero, List.set_cons_succ, List.getElem_toArray, List.getElem_cons_zero, List.getElem_cons_succ]
    refine wpAnyH_ready (rs := [4]) (by kernel_rfl) (by simp) ?_
    refine AllReadyH.cons rfl (fun K hK => ?_) AllReadyH.nil
    go_simp
    refine hK.out _ _ ?_ (fun hHeld => ?_)
    · (try dsimp only); exact q2
    clear hK K
    try simp only [Act.put, List.setIfInBounds_toArray, List.set_cons_zero, List.set_cons_succ, List.getElem_toArray, List.getElem_cons_zero, List.getElem_cons_succ]
    refine wpAnyH_ready (rs := [8]) (by kernel_rfl) (by simp) ?_
    refine AllReadyH.cons rfl (fun K hK => ?_) AllReadyH.nil
    refine step_append_at ((X.alloc (.cells #[.int .i64 x] 3)).drew) (by rfl) _ _ 24 (by rfl) B 3 i0 (.int .i64 0) 1 8 Try.underlying24 hi0 hz0 hz1 hz2 rfl (by decide) (.slice ta tl tc) tl (s.told.map (Value.int .i64)) (by rfl) HOE.out ⟨X.heap.size, 0, none⟩ 1 1 [.int .i64 x] (by rfl) rfl HNE.out (one_of x) (by unfold maxLen; omega) (by omega) hsE ?_
    intro v' w3 hown hgrow hnil hat
    obtain ⟨P3, q6, q7, e43, f43, l43, hslice⟩ := told_next (x := x) (tl := tl) htq.out rfl h PX HX hown hgrow x1
    obtain ⟨g3, c3, rfl⟩ := hslice
    refine hK.out _ _ ?_ (fun hHeld => ?_)
    · (try dsimp only); exact q6
    clear hK K
    try simp only [Act.put, List.setIfInBounds_toArray, List.set_cons_zero, List.set_cons_succ, List.getElem_toArray, List.getElem_cons_zero, List.getElem_cons_succ]
    refine wpAnyH_take (i := 9) (v := ?v19) rfl (by kernel_rfl) (by kernel_rfl) (by kernel_rfl) (fun _ _ _ h => h) (Or.inl ⟨by rfl, ?hy19⟩) (by assumption) ?_
    case hy19 => (intro w hSw; (try dsimp only at hSw); go_simp; try with_reducible rfl)
    try simp only [Act.put, List.setIfInBounds_toArray, List.set_cons_zero, List.set_cons_succ, List.getElem_toArray, List.getElem_cons_zero, List.getElem_cons_succ]
    refine wpAnyH_take (i := 10) (v := ?v20) rfl (by kernel_rfl) (by kernel_rfl) (by kernel_rfl) (fun _ _ _ h => h) (Or.inl ⟨by rfl, ?hy20⟩) (by assumption) ?_
    case hy20 => (intro w hSw; (try dsimp only at hSw); go_simp; try with_reducible rfl)
    try simp only [Act.put, List.setIfInBounds_toArray, List.set_cons_zero, List.set_cons_succ, List.getElem_toArray, List.getElem_cons_zero, List.getElem_cons_succ]
    refine wpAnyH_ready (rs := [11]) (by kernel_rfl) (by simp) ?_
    refine AllReadyH.cons rfl (fun K hK => ?_) AllReadyH.nil
    go_simp
    refine hK.out _ _ ?_ (fun hHeld => ?_)
    · (try dsimp only); exact q7 _
    clear hK K
    try simp only [Act.put, List.setIfInBounds_toArray, List.set_cons_zero, List.set_cons_succ, List.getElem_toArray, List.getElem_cons_zero, List.getElem_cons_succ]
    refine wpAnyH_done (by kernel_rfl) ?_ _
    refine NoPanic.normal ?_
    have P4 : Hid (ProgR W0 (w3.setCell ⟨gl, 43, none⟩ (.slice (some ⟨g3, 0, none⟩) (tl + 1) c3)) a n cap ga g gc gl B (.slice (some ⟨g3, 0, none⟩) (tl + 1) c3) { (⟨s.pc + 1, s.rg, s.told ++ [x], s.unc⟩ : Rs) with pc := s.pc }) := P3.out _ rfl rfl rfl rfl
    have cp2 : (w3.setCell ⟨gl, 43, none⟩ (.slice (some ⟨g3, 0, none⟩) (tl + 1) c3)).cell? ⟨gl, 2, none⟩ = some (.int .i64 (s.pc : Int)) := P4.out.box.cell (i := 2) (by decide)
    obtain ⟨U, hU⟩ : ∃ U, Hid (w3.setCell ⟨gl, 43, none⟩ (.slice (some ⟨g3, 0, none⟩) (tl + 1) c3) = U) := ⟨_, rfl⟩
    rw [hU.out] at P4 cp2 ⊢
    have pl := P4.out.box.lt
    go_wp2
    go_ret
    exact ⟨_, by rw [HS2.out]; go_num, by rw [HS2.out]; exact P4.out⟩
  · have HS2 : Hid (s2 = raiseR n (zf gs) g s x) := by show _ = _; rw [HSTEP.out]; exact if_neg (show ¬ codeR s 2 x = 0 by show ¬ x = 0; omega)
    have hb := impl_behind W0 a n cap ga g gc gl B v zs gs s x X hn hgz hg hgs hok PX
    rw [← HS2.out] at hb
    go_wp2_with (go_at_call 82; refine hb.mono ?_; rintro e w5 ⟨rfl, hP, hsz⟩; have P5 : Hid (ProgR W0 w5 a n cap ga g gc gl B v { s2 with pc := s.pc }) := hP; clear hP hsz)
    go_ret
    exact ⟨v, rfl, P5.out⟩
  · obtain ⟨xk, rfl⟩ : ∃ k : Nat, x = (k : Int) := ⟨x.toNat, by omega⟩
    have hxk : xk < 40 := by omega
    have gi : (0 : Int) ≤ (xk : Int) := by omega
    have gj : (xk : Int) < 40 := by omega
    have g0 := hreg xk hxk
    have HST3 : Hid (s2 = if s.rg xk = 0 then plainR s 3 (xk : Int) t else raiseR n (zf gs) g s (s.rg xk)) := by show _ = _; rw [HSTEP.out]; rfl
    obtain ⟨c, hcx⟩ : ∃ c, s.rg xk = c := ⟨_, rfl⟩
    rw [hcx] at HST3 g0
    have q1 : X.drew.cell? ⟨W.heap.size, 1, none⟩ = some (.int .i64 (xk : Int)) ∧ X.drew.cell? ⟨gl, 3 + xk, none⟩ = some (.int .i64 c) := ⟨x1, g0⟩
    by_cases hcn : c = 0
    · have HS2 : Hid (s2 = ⟨s.pc + 1, s.rg, s.told, s.unc⟩) := by show _ = _; rw [HST3.out, if_pos hcn]; rfl
      subst hcn
      go_upto_region 7 with fail
      go_region_held3 (fun w' => w'.cell? ⟨W.heap.size, 1, none⟩ = some (.int .i64 (xk : Int)) ∧ w'.cell? ⟨gl, 3 + xk, none⟩ = some (.int .i64 0)) (first | with_reducible exact q1 | go_keep) (fail)
      go_wp2
      go_ret
      exact ⟨v, by rw [HS2.out]; go_num, by rw [HS2.out]; exact PD.out⟩
    · have HS2 : Hid (s2 = raiseR n (zf gs) g s c) := by show _ = _; rw [HST3.out, if_neg hcn]
      have n1 : (c == 0) = false := by simpa using hcn
      have n2 : decide (c = 0) = false := decide_eq_false hcn
      have n3 : (c != 0) = true := by simpa using hcn
      have n4 : decide (c ≠ 0) = true := decide_eq_true hcn
      have hb := impl_behind W0 a n cap ga g gc gl B v zs gs s c X.drew hn hgz hg hgs hok PD
      rw [← HS2.out] at hb
      go_upto_region 7 with fail
      go_region_held3 (fun w' => w'.cell? ⟨W.heap.size, 1, none⟩ = some (.int .i64 (xk : Int)) ∧ w'.cell? ⟨gl, 3 + xk, none⟩ = some (.int .i64 c)) (first | with_reducible exact q1 | go_keep) (fail)
      go_wp2_with (go_at_call 82; refine hb.mono ?_; rintro e w5 ⟨rfl, hP, hsz⟩; have P5 : Hid (ProgR W0 w5 a n cap ga g gc gl B v { s2 with pc := s.pc }) := hP; clear hP hsz)
      go_ret
      exact ⟨v, rfl, P5.out⟩
  · have HS2 : Hid (s2 = ⟨t.toNat, s.rg, s.told, s.unc⟩) := by show _ = _; rw [HSTEP.out, if_pos (show codeR s 4 x = 0 from rfl)]; rfl
    have hpc : (t.toNat : Int) = t := by omega
    go_wp2
    go_ret
    exact ⟨v, by rw [HS2.out]; show _ = Ending.returned (.int .i64 (t.toNat : Int)); rw [hpc]; rfl, by rw [HS2.out]; exact PX.out⟩
  · obtain ⟨xk, rfl⟩ : ∃ k : Nat, x = (k : Int) := ⟨x.toNat, by omega⟩
    have hxk : xk < 40 := by omega
    have gi : (0 : Int) ≤ (xk : Int) := by omega
    have gj : (xk : Int) < 40 := by omega
    have g0 := hreg xk hxk
    have gf := PX.out.box.frozen (3 + xk)
    have HS2 : Hid (s2 = ⟨s.pc + 1, updR s.rg xk 0, s.told, s.unc⟩) := by show _ = _; rw [HSTEP.out, if_pos (show codeR s 5 (xk : Int) = 0 from rfl)]; rfl
    have P6 : Hid (ProgR W0 ((X.setCell ⟨gl, 3 + xk, none⟩ (.int .i64 0)).drew) a n cap ga g gc gl B v { (⟨s.pc + 1, updR s.rg xk 0, s.told, s.unc⟩ : Rs) with pc := s.pc }) := ProgR.kept (PX.out.reg xk hxk 0 rfl rfl rfl rfl) (Below.refl _ _).drew
    have q1 : X.drew.cell? ⟨W.heap.size, 1, none⟩ = some (.int .i64 (xk : Int)) := x1
    have q2 : (X.setCell ⟨gl, 3 + xk, none⟩ (.int .i64 0)).drew.cell? ⟨W.heap.size, 1, none⟩ = some (.int .i64 (xk : Int)) := (World.cell?_of_block (show _ = X.heap[W.heap.size]? from Below.heap_setCell _ _ _ _ (by show W.heap.size ≠ gl; omega))).trans x1
    have cp2 : (X.setCell ⟨gl, 3 + xk, none⟩ (.int .i64 0)).drew.cell? ⟨gl, 2, none⟩ = some (.int .i64 (s.pc : Int)) := P6.out.box.cell (i := 2) (by decide)
    go_upto_region 13 with fail
    go_region_held3 (fun w' => w'.cell? ⟨W.heap.size, 1, none⟩ = some (.int .i64 (xk : Int))) (first | with_reducible exact q1 | exact q2 | go_keep) (fail)
    obtain ⟨U, hU⟩ : ∃ U, Hid ((X.setCell ⟨gl, 3 + xk, none⟩ (.int .i64 0)).drew = U) := ⟨_, rfl⟩
    rw [hU.out] at P6 cp2 ⊢
    have pl := P6.out.box.lt
    go_wp2
    go_ret
    exact ⟨v, by rw [HS2.out]; go_num, by rw [HS2.out]; exact P6.out⟩
  · obtain ⟨xk, rfl⟩ : ∃ k : Nat, x = (k : Int) := ⟨x.toNat, by omega⟩
    have hxk : xk < 40 := by omega
    have gi : (0 : Int) ≤ (xk : Int) := by omega
    have gj : (xk : Int) < 40 := by omega
    have g0 := hreg xk hxk
    have gf := PX.out.box.frozen (3 + xk)
    have hb2 := hrb.out xk
    have HST6 : Hid (s2 = if s.rg xk = t then ⟨s.pc + 1, s.rg, s.told, s.unc⟩ else ⟨s.pc + 2, updR s.rg xk (s.rg xk + 1), s.told, s.unc⟩) := by show _ = _; rw [HSTEP.out, if_pos (show codeR s 6 (xk : Int) = 0 from rfl)]; rfl
    obtain ⟨c, hcx⟩ : ∃ c, s.rg xk = c := ⟨_, rfl⟩
    rw [hcx] at HST6 g0 hb2
    by_cases hct : c = t
    · have HS2 : Hid (s2 = ⟨s.pc + 1, s.rg, s.told, s.unc⟩) := by show _ = _; rw [HST6.out, if_pos hct]
      subst hct
      have q1 : X.drew.cell? ⟨W.heap.size, 1, none⟩ = some (.int .i64 (xk : Int)) ∧ X.drew.cell? ⟨W.heap.size, 2, none⟩ = some (.int .i64 c) ∧ X.drew.cell? ⟨gl, 3 + xk, none⟩ = some (.int .i64 c) := ⟨x1, x2, g0⟩
      go_upto_region 15 with fail
      go_region_held3 (fun w' => w'.cell? ⟨W.heap.size, 1, none⟩ = some (.int .i64 (xk : Int)) ∧ w'.cell? ⟨W.heap.size, 2, none⟩ = some (.int .i64 c) ∧ w'.cell? ⟨gl, 3 + xk, none⟩ = some (.int .i64 c)) (first | with_reducible exact q1 | go_keep) (fail)
      go_wp2
      go_ret
      exact ⟨v, by rw [HS2.out]; go_num, by rw [HS2.out]; exact PD.out⟩
    · have HS2 : Hid (s2 = ⟨s.pc + 2, updR s.rg xk (c + 1), s.told, s.unc⟩) := by show _ = _; rw [HST6.out, if_neg hct]
      have n1 : (c == t) = false := by simpa using hct
      have n2 : decide (c = t) = false := decide_eq_false hct
      have n3 : (c != t) = true := by simpa using hct
      have n4 : decide (c ≠ t) = true := decide_eq_true hct
      have hwr : IntKind.i64.wrap (c + 1) = c + 1 := wrap_in (by omega) (by omega)
      have q1 : X.drew.cell? ⟨W.heap.size, 1, none⟩ = some (.int .i64 (xk : Int)) ∧ X.drew.cell? ⟨W.heap.size, 2, none⟩ = some (.int .i64 t) ∧ X.drew.cell? ⟨gl, 3 + xk, none⟩ = some (.int .i64 c) := ⟨x1, x2, g0⟩
      go_upto_region 15 with fail
      go_region_held3 (fun w' => w'.cell? ⟨W.heap.size, 1, none⟩ = some (.int .i64 (xk : Int)) ∧ w'.cell? ⟨W.heap.size, 2, none⟩ = some (.int .i64 t) ∧ w'.cell? ⟨gl, 3 + xk, none⟩ = some (.int .i64 c)) (first | with_reducible exact q1 | go_keep) (fail)
      go_upto_region 16 with fail
      obtain ⟨D, hD⟩ : ∃ D, Hid (X.drew = D) := ⟨_, rfl⟩
      have PDD : Hid (ProgR W0 D a n cap ga g gc gl B v s) := by rw [← hD.out]; exact PD.out
      have d1 : D.cell? ⟨W.heap.size, 1, none⟩ = some (.int .i64 (xk : Int)) := by rw [← hD.out]; exact x1
      have d3 : D.cell? ⟨gl, 3 + xk, none⟩ = some (.int .i64 c) := by rw [← hD.out]; exact g0
      have df := PDD.out.box.frozen (3 + xk)
      have dl := PDD.out.box.lt
      rw [hD.out]
      have q3 : D.drew.cell? ⟨W.heap.size, 1, none⟩ = some (.int .i64 (xk : Int)) := d1
      have q4 : (D.setCell ⟨gl, 3 + xk, none⟩ (.int .i64 (c + 1))).drew.cell? ⟨W.heap.size, 1, none⟩ = some (.int .i64 (xk : Int)) := (World.cell?_of_block (show _ = D.heap[W.heap.size]? from Below.heap_setCell _ _ _ _ (by show W.heap.size ≠ gl; omega))).trans d1
      have P6 : Hid (ProgR W0 ((D.setCell ⟨gl, 3 + xk, none⟩ (.int .i64 (c + 1))).drew) a n cap ga g gc gl B v { (⟨s.pc + 2, updR s.rg xk (c + 1), s.told, s.unc⟩ : Rs) with pc := s.pc }) := ProgR.kept (PDD.out.reg xk hxk (c + 1) rfl rfl rfl rfl) (Below.refl _ _).drew
      have cp2 : (D.setCell ⟨gl, 3 + xk, none⟩ (.int .i64 (c + 1))).drew.cell? ⟨gl, 2, none⟩ = some (.int .i64 (s.pc : Int)) := P6.out.box.cell (i := 2) (by decide)
      refine wp_region_noPanic ?_
      refine wp_region_held_drew (S := (fun w' => w'.cell? ⟨W.heap.size, 1, none⟩ = some (.int .i64 (xk : Int)))) (by kernel_rfl) ?_ (fun hHeld => ?_)
      · (try dsimp only); exact q3
      refine wpAnyH_take (i := 0) (v := ?v1) rfl (by kernel_rfl) (by kernel_rfl) (by kernel_rfl) (fun _ _ _ h => h) (Or.inl ⟨by rfl, ?hy1⟩) (by assumption) ?_
      case hy1 => (intro w hSw; (try dsimp only at hSw); go_simp; try with_reducible rfl)
      try simp only [Act.put, List.setIfInBounds_toArray, List.set_cons_zero, List.set_cons_succ, List.getElem_toArray, List.getElem_cons_zero, List.getElem_cons_succ]
      refine wpAnyH_take (i := 1) (v := ?v2) rfl (by kernel_rfl) (by kernel_rfl) (by kernel_rfl) (fun _ _ _ h => h) (Or.inl ⟨by rfl, ?hy2⟩) (by assumption) ?_
      case hy2 => (intro w hSw; (try dsimp only at hSw); go_simp; try with_reducible rfl)
      try simp only [Act.put, List.setIfInBounds_toArray, List.set_cons_zero, List.set_cons_succ, List.getElem_toArray, List.getElem_cons_zero, List.getElem_cons_succ]
      refine wpAnyH_take (i := 2) (v := ?v3) rfl (by kernel_rfl) (by kernel_rfl) (by kernel_rfl) (fun _ _ _ h => h) (Or.inl ⟨by rfl, ?hy3⟩) (by assumption) ?_
      case hy3 => (intro w hSw; (try dsimp only at hSw); go_simp; try with_reducible rfl)
      try simp only [Act.put, List.setIfInBounds_toArray, List.set_cons_zero, List.set_cons_succ, List.getElem_toArray, List.getElem_cons_zero, List.getElem_cons_succ]
      refine wpAnyH_take (i := 3) (v := ?v4) rfl (by kernel_rfl) (by kernel_rfl) (by kernel_rfl) (fun _ _ _ h => h) (Or.inl ⟨by rfl, ?hy4⟩) (by assumption) ?_
      case hy4 => (intro w hSw; (try dsimp only at hSw); go_simp; try with_reducible rfl)
      try simp only [Act.put, List.setIfInBounds_toArray, List.set_cons_zero, List.set_cons_succ, List.getElem_toArray, List.getElem_cons_zero, List.getElem_cons_succ]
      refine wpAnyH_take (i := 4) (v := ?v5) rfl (by kernel_rfl) (by kernel_rfl) (by kernel_rfl) (fun _ _ _ h => h) (Or.inl ⟨by rfl, ?hy5⟩) (by assumption) ?_
      case hy5 => (intro w hSw; (try dsimp only at hSw); go_simp; try with_reducible rfl)
      try simp only [Act.put, List.setIfInBounds_toArray, List.set_cons_zero, List.set_cons_succ, List.getElem_toArray, List.getElem_cons_zero, List.getElem_cons_succ]
      refine wpAnyH_take (i := 5) (v := ?v6) rfl (by kernel_rfl) (by kernel_rfl) (by kernel_rfl) (fun _ _ _ h => h) (Or.inl ⟨by rfl, ?hy6⟩) (by assumption) ?_
      case hy6 => (intro w hSw; (try dsimp only at hSw); go_simp; try with_reducible rfl)
      try simp only [Act.put, List.setIfInBounds_toArray, List.set_cons_zero, List.set_cons_succ, List.getElem_toArray, List.getElem_cons_zero, List.getElem_cons_succ]
      refine wpAnyH_take (i := 8) (v := ?v7) rfl (by kernel_rfl) (by kernel_rfl) (by kernel_rfl) (fun _ _ _ h => h) (Or.inl ⟨by rfl, ?hy7⟩) (by assumption) ?_
      case hy7 => (intro w hSw; (try dsimp only at hSw); go_simp; try with_reducible rfl)
      try simp only [Act.put, List.setIfInBounds_toArray, List.set_cons_zero, List.set_cons_succ, List.getElem_toArray, List.getElem_cons_zero, List.getElem_cons_succ]
      refine wpAnyH_take (i := 9) (v := ?v8) rfl (by kernel_rfl) (by kernel_rfl) (by kernel_rfl) (fun _ _ _ h => h) (Or.inl ⟨by rfl, ?hy8⟩) (by assumption) ?_
      case hy8 => (intro w hSw; (try dsimp only at hSw); go_simp; try with_reducible rfl)
      try simp only [Act.put, List.setIfInBounds_toArray, List.set_cons_zero, List.set_cons_succ, List.getElem_toArray, List.getElem_cons_zero, List.getElem_cons_succ]
      refine wpAnyH_ready (rs := [6]) (by kernel_rfl) (by simp) ?_
      refine AllReadyH.cons rfl (fun K hK => ?_) AllReadyH.nil
      go_simp
      refine hK.out _ _ ?_ (fun hHeld => ?_)
      · (try dsimp only); exact q3
      clear hK K
      try simp only [Act.put, List.setIfInBounds_toArray, List.set_cons_zero, List.set_cons_succ, List.getElem_toArray, List.getElem_cons_zero, List.getElem_cons_succ]
      refine wpAnyH_take (i := 7) (v := ?v9) rfl (by kernel_rfl) (by kernel_rfl) (by kernel_rfl) (fun _ _ _ h => h) (Or.inl ⟨by rfl, ?hy9⟩) (by assumption) ?_
      case hy9 => (intro w hSw; (try dsimp only at hSw); go_simp; try with_reducible rfl)
      try simp only [Act.put, List.setIfInBounds_toArray, List.set_cons_zero, List.set_cons_succ, List.getElem_toArray, List.getElem_cons_zero, List.getElem_cons_succ]
      refine wpAnyH_take (i := 10) (v := ?v10) rfl (by kernel_rfl) (by kernel_rfl) (by kernel_rfl) (fun _ _ _ h => h) (Or.inl ⟨by rfl, ?hy10⟩) (by assumption) ?_
      case hy10 => (intro w hSw; (try dsimp only at hSw); go_simp; try with_reducible rfl)
      try simp only [Act.put, List.setIfInBounds_toArray, List.set_cons_zero, List.set_cons_succ, List.getElem_toArray, List.getElem_cons_zero, List.getElem_cons_succ]
      refine wpAnyH_ready (rs := [11]) (by kernel_rfl) (by simp) ?_
      refine AllReadyH.cons rfl (fun K hK => ?_) AllReadyH.nil
      go_simp
      refine hK.out _ _ ?_ (fun hHeld => ?_)
      · (try dsimp only); exact q4
      clear hK K
      try simp only [Act.put, List.setIfInBounds_toArray, List.set_cons_zero, List.set_cons_succ, List.getElem_toArray, List.getElem_cons_zero, List.getElem_cons_succ]
      refine wpAnyH_done (by kernel_rfl) ?_ _
      refine NoPanic.normal ?_
      obtain ⟨U, hU⟩ : ∃ U, Hid ((D.setCell ⟨gl, 3 + xk, none⟩ (.int .i64 (c + 1))).drew = U) := ⟨_, rfl⟩
      rw [hU.out] at P6 cp2 ⊢
      have pl := P6.out.box.lt
      go_wp2
      go_ret
      exact ⟨v, by rw [HS2.out]; go_num, by rw [HS2.out]; exact P6.out⟩

end Go.Proofs.Ytlocdlgbjjbnoaa.walks
