/-
  The program's run of a line, in memory.
-/
import Derived.Test.YtlocdlgbjjbnoaaProg
import Derived.Test.YtlocdlgbjjbnoaaMagMath
import Derived.Test.YtlocdlgbjjbnoaaInts
import Derived.Test.YtlocdlgbjjbnoaaOwnInts
import Derived.Test.YtlocdlgbjjbnoaaDeep
import Derived.Test.YtlocdlgbjjbnoaaDeepRow
import Derived.Test.YtlocdlgbjjbnoaaLineMath
import Derived.Test.YtlocdlgbjjbnoaaLineStep
import Derived.Test.YtlocdlgbjjbnoaaLineGd
import Derived.Test.YtlocdlgbjjbnoaaLineGood
import Derived.Test.YtlocdlgbjjbnoaaLineGuard
import Derived.Test.YtlocdlgbjjbnoaaRunLMath16
import Derived.Test.YtlocdlgbjjbnoaaRunLSpec16
import Derived.Deep.RegionWith
import Derived.Deep.RegionHeld3
import Derived.Deep.OwnRows
import Derived.Deep.DeepFit
import Derived.Deep.DeepCutAuto
import Derived.WalkKit
import Derived.WalkSpells
import Derived.Below
import Derived.Handy
import Derived.OwnWalk
namespace Go.Proofs.Ytlocdlgbjjbnoaa.walks
open Go.RowKit Go.Proofs.Ytlocdlgbjjbnoaa.math Go.Proofs.Ytlocdlgbjjbnoaa.ints Go.Proofs.Ytlocdlgbjjbnoaa.deep
set_option linter.unusedVariables false
set_option maxRecDepth 100000


/-- The cells of a run: the line's two lists, the place, forty registers, what was told, the code that none caught. -/
def rowR (sl gl v : Value) (s : Rs) (i : Nat) : Value := if i = 0 then sl else if i = 1 then gl else if i = 2 then .int .i64 (s.pc : Int) else if i < 43 then .int .i64 (s.rg (i - 3)) else if i = 43 then v else .int .i64 s.unc
structure ProgR (W w : World) (a : Option Addr) (n cap : Nat) (ga : Option Addr) (g gc gl B : Nat) (v : Value) (s : Rs) : Prop where
  box : w.rowIs gl 99 45 (rowR (.slice a n cap) (.slice ga g gc) v s)
  told : Own w B v s.told
  bel : Below W.heap.size W w
  ord : W.heap.size ≤ gl ∧ gl < B ∧ B ≤ w.heap.size
theorem ProgR.kept {W w w' : World} {a : Option Addr} {n cap : Nat} {ga : Option Addr} {g gc gl B : Nat} {v : Value} {s : Rs} (h : ProgR W w a n cap ga g gc gl B v s) (hb : Below w.heap.size w w') : ProgR W w' a n cap ga g gc gl B v s :=
  ⟨h.box.of_block (hb.block _ h.box.lt), own_agree_r h.told (fun x _ hx => hb.block x hx), h.bel.trans (hb.mono h.bel.size), h.ord.1, h.ord.2.1, Nat.le_trans h.ord.2.2 hb.size⟩
/-- One cell is set. -/
theorem ProgR.cell {W w : World} {a : Option Addr} {n cap : Nat} {ga : Option Addr} {g gc gl B : Nat} {v : Value} {s s' : Rs} (h : ProgR W w a n cap ga g gc gl B v s) (k : Nat) (x : Value) (hk : ∀ i, i < 45 → (if i = k then x else rowR (.slice a n cap) (.slice ga g gc) v s i) = rowR (.slice a n cap) (.slice ga g gc) v s' i) (ht : s'.told = s.told) : ProgR W (w.setCell ⟨gl, k, none⟩ x) a n cap ga g gc gl B v s' := by
  have ho := h.ord
  refine ⟨World.rowIs.congr (World.rowIs.set h.box k x) (fun i hi => hk i hi), ?_, h.bel.setCell (by show W.heap.size ≤ gl; omega) _, ho.1, ho.2.1, by simpa [World.setCell] using ho.2.2⟩
  rw [ht]
  exact own_agree_r h.told (fun y hy _ => Below.heap_setCell _ _ _ _ (by show y ≠ gl; omega))
/-- .. a register. -/
theorem ProgR.reg {W w : World} {a : Option Addr} {n cap : Nat} {ga : Option Addr} {g gc gl B : Nat} {v : Value} {s s' : Rs} (h : ProgR W w a n cap ga g gc gl B v s) (k : Nat) (hk : k < 40) (x : Int) (hr : s'.rg = updR s.rg k x) (ht : s'.told = s.told) (hp : s'.pc = s.pc) (hu : s'.unc = s.unc) : ProgR W (w.setCell ⟨gl, 3 + k, none⟩ (.int .i64 x)) a n cap ga g gc gl B v s' :=
  h.cell _ _ (fun i hi => by
    unfold rowR
    rw [hp, hu, hr]
    by_cases e0 : i = 0
    · rw [if_neg (by omega), if_pos e0, if_pos e0]
    by_cases e1 : i = 1
    · rw [if_neg (by omega), if_neg e0, if_pos e1, if_neg e0, if_pos e1]
    by_cases e2 : i = 2
    · rw [if_neg (by omega), if_neg e0, if_neg e1, if_pos e2, if_neg e0, if_neg e1, if_pos e2]
    by_cases e3 : i < 43
    · rw [if_neg e0, if_neg e1, if_neg e2, if_pos e3, if_neg e0, if_neg e1, if_neg e2, if_pos e3]
      unfold updR
      by_cases e : i = 3 + k
      · rw [if_pos e, if_pos (by omega)]
      · rw [if_neg e, if_neg (by omega)]
    · rw [if_neg (by omega)]
      simp only [if_neg e0, if_neg e1, if_neg e2, if_neg e3]) ht
/-- .. the code that none caught. -/
theorem ProgR.put {W w : World} {a : Option Addr} {n cap : Nat} {ga : Option Addr} {g gc gl B : Nat} {v : Value} {s s' : Rs} (h : ProgR W w a n cap ga g gc gl B v s) (x : Int) (hr : s'.rg = s.rg) (ht : s'.told = s.told) (hp : s'.pc = s.pc) (hu : s'.unc = x) : ProgR W (w.setCell ⟨gl, 44, none⟩ (.int .i64 x)) a n cap ga g gc gl B v s' :=
  h.cell _ _ (fun i hi => by
    unfold rowR
    rw [hp, hu, hr]
    by_cases e : i = 44
    · subst e; rfl
    · rw [if_neg e]
      by_cases e3 : i = 43 ∨ i < 43
      · by_cases e0 : i = 0
        · rw [if_pos e0, if_pos e0]
        by_cases e1 : i = 1
        · rw [if_neg e0, if_pos e1, if_neg e0, if_pos e1]
        by_cases e2 : i = 2
        · rw [if_neg e0, if_neg e1, if_pos e2, if_neg e0, if_neg e1, if_pos e2]
        rcases e3 with e3 | e3
        · simp only [if_neg e0, if_neg e1, if_neg e2, if_neg (show ¬ i < 43 by omega), if_pos e3]
        · simp only [if_neg e0, if_neg e1, if_neg e2, if_pos e3]
      · omega) ht
/-- .. the place. -/
theorem ProgR.to {W w : World} {a : Option Addr} {n cap : Nat} {ga : Option Addr} {g gc gl B : Nat} {v : Value} {s s' : Rs} (h : ProgR W w a n cap ga g gc gl B v s) (hr : s'.rg = s.rg) (ht : s'.told = s.told) (hu : s'.unc = s.unc) : ProgR W (w.setCell ⟨gl, 2, none⟩ (.int .i64 (s'.pc : Int))) a n cap ga g gc gl B v s' :=
  h.cell _ _ (fun i hi => by
    unfold rowR
    rw [hu, hr]
    by_cases e : i = 2
    · subst e; rfl
    · rw [if_neg e]
      by_cases e0 : i = 0
      · rw [if_pos e0, if_pos e0]
      by_cases e1 : i = 1
      · rw [if_neg e0, if_pos e1, if_neg e0, if_pos e1]
      simp only [if_neg e0, if_neg e1, if_neg e]) ht

set_option maxHeartbeats 8000000 in
theorem impl_behind (W0 : World) (a : Option Addr) (n cap : Nat) (ga : Option Addr) (g gc gl B : Nat) (v : Value) (zs gs : List Int) (s : Rs) (c : Int) (W : World) (hn : n ≤ 1048576) (hgz : Hid (gs.length = g * 4)) (hg : g ≤ 1048576) (hgs : Hid (Ints W0 ga gs)) (hok : LinedOk (zf zs) n (zf gs) g) (h : Hid (ProgR W0 W a n cap ga g gc gl B v s)) :
    Calls Try.prog 82 #[.pointer (some ⟨gl, 0, none⟩), .int .i64 c] W fun e W' => e = .returned (.int .i64 ((raiseR n (zf gs) g s c).pc : Int)) ∧ ProgR W0 W' a n cap ga g gc gl B v { raiseR n (zf gs) g s c with pc := s.pc } ∧ W.heap.size ≤ W'.heap.size := by
  have c0 : W.cell? ⟨gl, 0, none⟩ = some (.slice a n cap) := h.out.box.cell (i := 0) (by decide)
  have c1 : W.cell? ⟨gl, 1, none⟩ = some (.slice ga g gc) := h.out.box.cell (i := 1) (by decide)
  have c2 : W.cell? ⟨gl, 2, none⟩ = some (.int .i64 (s.pc : Int)) := h.out.box.cell (i := 2) (by decide)
  have q1 : W.drew.cell? ⟨gl, 0, none⟩ = some (.slice a n cap) ∧ W.drew.cell? ⟨gl, 1, none⟩ = some (.slice ga g gc) ∧ W.drew.cell? ⟨gl, 2, none⟩ = some (.int .i64 (s.pc : Int)) := ⟨c0, c1, c2⟩
  have hlt := h.out.box.lt
  have BD : Hid (Below W.heap.size W W.drew) := (Below.refl _ _).drew
  obtain ⟨K, HP⟩ : ∃ K, Hid (firstG (zf gs) g (s.pc : Int) c = K) := ⟨_, rfl⟩
  obtain ⟨V, HV⟩ : ∃ V, Hid ((if K < 0 then 0 else K) = V) := ⟨_, rfl⟩
  obtain ⟨Bb, HB0⟩ : ∃ b, Hid (decide (0 ≤ K) = b) := ⟨_, rfl⟩
  have hfg := impl_firstg a n cap ga g gc gs (s.pc : Int) c W.drew hn hgz hg ((hgs.out.kept h.out.bel).kept BD.out) K HP V Bb HV HB0
  obtain ⟨s2, hs2⟩ : ∃ s2, Hid (raiseR n (zf gs) g s c = s2) := ⟨_, rfl⟩
  rw [hs2.out]
  by_cases hK : K < 0
  · have HS3 : Hid (s2 = ⟨n, s.rg, s.told, c⟩) := by show _ = _; rw [← hs2.out]; unfold raiseR; rw [HP.out]; exact if_pos hK
    have hV : V = 0 := by rw [← HV.out]; exact if_pos hK
    have hB : Bb = false := by rw [← HB0.out]; exact decide_eq_false (by omega)
    rw [hV, hB] at hfg
    rw [HS3.out]
    go_enter Try.func82, Try.ntmps82
    go_upto_region 1 with fail
    go_region_held3 (fun w' => w'.cell? ⟨gl, 0, none⟩ = some (.slice a n cap) ∧ w'.cell? ⟨gl, 1, none⟩ = some (.slice ga g gc) ∧ w'.cell? ⟨gl, 2, none⟩ = some (.int .i64 (s.pc : Int))) (first | with_reducible exact q1 | exact q5 | go_keep) (first | (go_at_call 84; refine hfg.mono ?_; rintro e w5 ⟨rfl, hB5⟩; have B5 : Hid (Below W.heap.size W w5) := BD.out.trans (hB5.mono BD.out.size); have q5 : w5.cell? ⟨gl, 0, none⟩ = some (.slice a n cap) ∧ w5.cell? ⟨gl, 1, none⟩ = some (.slice ga g gc) ∧ w5.cell? ⟨gl, 2, none⟩ = some (.int .i64 (s.pc : Int)) := ⟨(B5.out.cell (p := ⟨gl, 0, none⟩) hlt).trans c0, (B5.out.cell (p := ⟨gl, 1, none⟩) hlt).trans c1, (B5.out.cell (p := ⟨gl, 2, none⟩) hlt).trans c2⟩; clear hB5))
    have P5 : Hid (ProgR W0 w5 a n cap ga g gc gl B v s) := h.out.kept B5.out
    have e44 : w5.cell? ⟨gl, 44, none⟩ = some (.int .i64 s.unc) := P5.out.box.cell (i := 44) (by decide)
    have f44 := P5.out.box.frozen 44
    have l44 := P5.out.box.lt
    obtain ⟨p0, p1, p2⟩ := q5
    have P6 : Hid (ProgR W0 (w5.setCell ⟨gl, 44, none⟩ (.int .i64 c)) a n cap ga g gc gl B v { (⟨n, s.rg, s.told, c⟩ : Rs) with pc := s.pc }) := P5.out.put c rfl rfl rfl rfl
    have hsz := B5.out.size
    clear q1 hfg
    go_wp2
    go_ret
    exact ⟨rfl, P6.out, by simpa [World.setCell] using hsz⟩
  · obtain ⟨kk, hkg, hkk⟩ := firstG_at (gs := zf gs) (g := g) (a := (s.pc : Int)) (c := c) (by rw [HP.out]; exact hK)
    rw [HP.out] at hkk
    subst hkk
    have hg20 := hok.2.2.2
    have hgk := hok.2.1 kk hkg
    have hga : 0 ≤ gat (zf gs) kk := by
      unfold guardAt guardB at hgk
      simp only [Bool.and_eq_true] at hgk
      have := inR_out hgk.2
      omega
    have hpc : ((gat (zf gs) kk).toNat : Int) = gat (zf gs) kk := by omega
    have HS3 : Hid (s2 = ⟨(gat (zf gs) kk).toNat, updR s.rg kk c, s.told, s.unc⟩) := by show _ = _; rw [← hs2.out]; unfold raiseR; rw [HP.out, if_neg hK, Int.toNat_natCast]
    have hV : V = (kk : Int) := by rw [← HV.out]; exact if_neg hK
    have hB : Bb = true := by rw [← HB0.out]; exact decide_eq_true (by omega)
    rw [hV, hB] at hfg
    rw [HS3.out]
    show Calls _ _ _ W fun e W' => e = .returned (.int .i64 ((gat (zf gs) kk).toNat : Int)) ∧ _
    rw [hpc]
    obtain ⟨bg, og, hgb, hbg, _⟩ := lguard_at hgs.out hgz.out h.out.bel hkg
    subst hgb
    have ki : (0 : Int) ≤ (kk : Int) := by omega
    have kj : (kk : Int) < 40 := by omega
    have kg : (kk : Int) < (g : Int) := by omega
    clear hK hgk hga HV HB0 hV hB
    go_enter Try.func82, Try.ntmps82
    go_upto_region 1 with fail
    go_region_held3 (fun w' => w'.cell? ⟨gl, 0, none⟩ = some (.slice a n cap) ∧ w'.cell? ⟨gl, 1, none⟩ = some (.slice (some ⟨bg, og, none⟩) g gc) ∧ w'.cell? ⟨gl, 2, none⟩ = some (.int .i64 (s.pc : Int))) (first | with_reducible exact q1 | exact q5 | go_keep) (first | (go_at_call 84; refine hfg.mono ?_; rintro e w5 ⟨rfl, hB5⟩; have B5 : Hid (Below W.heap.size W w5) := BD.out.trans (hB5.mono BD.out.size); have q5 : w5.cell? ⟨gl, 0, none⟩ = some (.slice a n cap) ∧ w5.cell? ⟨gl, 1, none⟩ = some (.slice (some ⟨bg, og, none⟩) g gc) ∧ w5.cell? ⟨gl, 2, none⟩ = some (.int .i64 (s.pc : Int)) := ⟨(B5.out.cell (p := ⟨gl, 0, none⟩) hlt).trans c0, (B5.out.cell (p := ⟨gl, 1, none⟩) hlt).trans c1, (B5.out.cell (p := ⟨gl, 2, none⟩) hlt).trans c2⟩; clear hB5))
    have P5 : Hid (ProgR W0 w5 a n cap (some ⟨bg, og, none⟩) g gc gl B v s) := h.out.kept B5.out
    have e3 : w5.cell? ⟨gl, 3 + kk, none⟩ = some (.int .i64 (s.rg kk)) := by
      have q := P5.out.box.cell (i := 3 + kk) (by omega)
      unfold rowR at q
      rw [if_neg (by omega), if_neg (by omega), if_neg (by omega), if_pos (by omega), show 3 + kk - 3 = kk by omega] at q
      exact q
    have f3 := P5.out.box.frozen (3 + kk)
    have l3 := P5.out.box.lt
    have P6 : Hid (ProgR W0 (w5.setCell ⟨gl, 3 + kk, none⟩ (.int .i64 c)) a n cap (some ⟨bg, og, none⟩) g gc gl B v { (⟨(gat (zf gs) kk).toNat, updR s.rg kk c, s.told, s.unc⟩ : Rs) with pc := s.pc }) := P5.out.reg kk (by omega) c rfl rfl rfl rfl
    obtain ⟨bg2, og2, hgb2, _, _, _, _, j3⟩ := lguard_at hgs.out hgz.out P6.out.bel hkg
    simp only [Option.some.injEq, Addr.mk.injEq, and_true] at hgb2
    obtain ⟨rfl, rfl⟩ := hgb2
    have p1 : (w5.setCell ⟨gl, 3 + kk, none⟩ (.int .i64 c)).cell? ⟨gl, 1, none⟩ = some (.slice (some ⟨bg, og, none⟩) g gc) := P6.out.box.cell (i := 1) (by decide)
    have pl := P6.out.box.lt
    have jl : bg < (w5.setCell ⟨gl, 3 + kk, none⟩ (.int .i64 c)).heap.size := Nat.lt_of_lt_of_le hbg P6.out.bel.size
    have hsz := B5.out.size
    obtain ⟨gg, hgg⟩ : ∃ gg, Hid (gat (zf gs) kk = gg) := ⟨_, rfl⟩
    rw [hgg.out] at j3
    clear q1 q5 hfg
    go_upto_region 6 with fail
    obtain ⟨U, hU⟩ : ∃ U, Hid (w5.setCell ⟨gl, 3 + kk, none⟩ (.int .i64 c) = U) := ⟨_, rfl⟩
    have hsU : W.heap.size ≤ U.heap.size := by rw [← hU.out]; simpa [World.setCell] using hsz
    rw [hU.out] at P6 p1 pl j3 jl ⊢
    go_wp2
    go_ret
    exact ⟨by rw [hgg.out]; rfl, P6.out, hsU⟩

end Go.Proofs.Ytlocdlgbjjbnoaa.walks
