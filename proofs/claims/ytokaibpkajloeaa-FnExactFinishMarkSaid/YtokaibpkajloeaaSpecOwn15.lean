/-
  What the specification's l15Own answers: a marker of its own.
-/
import Derived.Test.YtokaibpkajloeaaProg
import Derived.Test.YtokaibpkajloeaaInts
import Derived.Test.YtokaibpkajloeaaOwnInts
import Derived.Test.YtokaibpkajloeaaDeep
import Derived.Test.YtokaibpkajloeaaDeepRow
import Derived.Test.YtokaibpkajloeaaDeepM
import Derived.Test.YtokaibpkajloeaaDeepGrow
import Derived.Test.YtokaibpkajloeaaOwnMath
import Derived.Test.YtokaibpkajloeaaCloneOwn
import Derived.Test.YtokaibpkajloeaaMarkMath
import Derived.Test.YtokaibpkajloeaaMarkWell
import Derived.Test.YtokaibpkajloeaaMarkSpec
import Derived.Test.YtokaibpkajloeaaMarkRun
import Derived.Test.YtokaibpkajloeaaMarkOut
import Derived.Test.YtokaibpkajloeaaMarkMake2
import Derived.Test.YtokaibpkajloeaaSpecM15
import Derived.WalkKit
import Derived.WalkSpells
import Derived.Below
import Derived.Handy
import Derived.OwnWalk
import Derived.Maps.AppendAt
import Derived.Deep.OwnRows
import Derived.Deep.RegionHeld3
import Derived.Deep.DeepFit
import Derived.Deep.DeepCutAuto
namespace Go.Proofs.Ytokaibpkajloeaa.walks
open Go.RowKit Go.Proofs.Ytokaibpkajloeaa.math Go.Proofs.Ytokaibpkajloeaa.ints Go.Proofs.Ytokaibpkajloeaa.deep
set_option linter.unusedVariables false
set_option linter.unusedSimpArgs false
set_option maxRecDepth 100000

/-- The marker that is being made: in the box gm, its roots in gr; the result's box gz. -/
structure OwnG (W X w : World) (s : Mst) (gz gm gr c k : Nat) (v : Value) (L C : Nat → Nat) : Prop where
  box : w.rowIs gm 25 3 (rowF [v, .slice (some ⟨gr, 0, none⟩) 2 c, .bool s.on])
  zero : w.rowIs gz 25 3 (rowF [.slice none 0 0, .slice none 0 0, .bool false])
  rts : CellsAt w gr 2 (fun j => .int .i64 (s.rt j))
  rows : w.ownsRow X.heap.size 52 3 v k ((List.range (k * 3)).map (scV L C s))
  lks : ∀ i, i < k → CellsAt w (L i) 2 (fun j => .int .i64 (s.lk i j))
  sep : (∀ i, i < k → X.heap.size ≤ L i) ∧ (∀ g, v.ownBlock = some g → ∀ i, i < k → L i ≠ g) ∧ ∀ i j, i < k → j < k → i ≠ j → L i ≠ L j
  bel : Below W.heap.size W w
  ord : W.heap.size ≤ gz ∧ W.heap.size ≤ gm ∧ W.heap.size ≤ gr ∧ gz ≠ gm ∧ gz ≠ gr ∧ gm ≠ gr ∧ gz < X.heap.size ∧ gm < X.heap.size ∧ gr < X.heap.size ∧ X.heap.size ≤ w.heap.size
theorem OwnG.step {W X Y w1 w3 : World} {s : Mst} {gz gm gr c k g1 c1 : Nat} {v v' : Value} {L C : Nat → Nat} (h : OwnG W X Y s gz gm gr c k v L C)
    (h1 : CellsAt w1 g1 2 (fun j => .int .i64 (s.lk k j))) (hg1 : Y.heap.size ≤ g1) (b1 : Below Y.heap.size Y w1)
    (h2 : w3.ownsRow X.heap.size 52 3 v' (k + 1) ((List.range (k * 3)).map (scV L C s) ++ [.slice (some ⟨g1, 0, none⟩) 2 c1, .int .i64 (s.co k), .bool (s.fr k)])) (o2 : Obj) (g2 : (w1.alloc o2).grownBy w3 v.ownBlock) (hv : v'.ownBlock = v.ownBlock ∨ v'.ownBlock = some (w1.alloc o2).heap.size) :
    ∃ L' C', OwnG W X (w3.setCell ⟨gm, 0, none⟩ v') s gz gm gr c (k + 1) v' L' C' := by
  obtain ⟨p1, p2, p3, p4, p5, p6, p7, p8, p9, p10⟩ := h.ord
  have b2 : Below Y.heap.size Y (w1.alloc o2) := b1.alloc b1.size _
  have s2 : (w1.alloc o2).heap.size = w1.heap.size + 1 := by simp
  have s1 := b1.size
  have s3 := g2.size
  have hl1 := h1.1
  have hown : ∀ g, v.ownBlock = some g → X.heap.size ≤ g ∧ g < Y.heap.size := fun g e => World.ownsRow.lt h.rows g e
  have gb2 : ∀ x, x < (w1.alloc o2).heap.size → v.ownBlock ≠ some x → w3.heap[x]? = (w1.alloc o2).heap[x]? := fun x hx hne => g2.block x hx (fun e => hne e.symm)
  have gb : ∀ x, x < Y.heap.size → v.ownBlock ≠ some x → w3.heap[x]? = Y.heap[x]? := fun x hx hne => (gb2 x (by omega) hne).trans (b2.block x hx)
  have gbX : ∀ x, x < X.heap.size → w3.heap[x]? = Y.heap[x]? := fun x hx => gb x (by omega) (fun e => by have := hown x e; omega)
  have hL : ∀ i, i < k → X.heap.size ≤ L i ∧ L i < Y.heap.size := fun i hi => ⟨h.sep.1 i hi, (h.lks i hi).1⟩
  have up : ∀ i, i < k → upN L k g1 i = L i := fun i hi => upN_other _ _ (by omega)
  refine ⟨upN L k g1, upN C k c1, ?_, (h.zero.of_block (gbX _ (by omega))).setOther (by show gz ≠ gm; exact p4) _, (h.rts.of_block (gbX _ (by omega))).far (by omega) _, ?_, fun i hi => ?_, ⟨fun i hi => ?_, fun g e i hi => ?_, fun i j hi hj hne => ?_⟩, ?_, ⟨p1, p2, p3, p4, p5, p6, p7, p8, p9, by simp [World.setCell]; omega⟩⟩
  · refine ((h.box.of_block (gbX _ (by omega))).set 0 v').congr (fun i hi => ?_)
    match i, hi with
    | 0, _ => rfl
    | 1, _ => rfl
    | 2, _ => rfl
    | i + 3, h => exact absurd h (by omega)
  · refine row_set ?_ (by omega) _
    have e1 : (List.range (k * 3)).map (scV (upN L k g1) (upN C k c1) s) = (List.range (k * 3)).map (scV L C s) := by
      refine List.map_congr_left (fun i hi => ?_)
      have hi := List.mem_range.1 hi
      unfold scV
      rw [upN_other L g1 (show i / 3 ≠ k by omega), upN_other C c1 (show i / 3 ≠ k by omega)]
    obtain ⟨q0, q1, q2⟩ := scV_three (upN L k g1) (upN C k c1) s k
    rw [range3, e1, q0, q1, q2, upN_same, upN_same]
    exact h2
  · by_cases e : i = k
    · subst e
      rw [upN_same]
      have q := (h1.kept ((Below.refl w1.heap.size w1).alloc (Nat.le_refl _) o2)).of_block (gb2 g1 (by omega) (fun e => by have := hown g1 e; omega))
      exact q.far (by omega) _
    · have hi' : i < k := by omega
      rw [up i hi']
      exact ((h.lks i hi').of_block (gb _ (hL i hi').2 (fun e => h.sep.2.1 _ e i hi' rfl))).far (by have := hL i hi'; omega) _
  · by_cases e : i = k
    · subst e; rw [upN_same]; omega
    · rw [up i (by omega)]; exact h.sep.1 i (by omega)
  · by_cases e2 : i = k
    · subst e2
      rw [upN_same]
      rcases hv with r | r
      · have := hown g (by rw [← r]; exact e); omega
      · rw [r] at e
        have := Option.some.inj e
        omega
    · rw [up i (by omega)]
      rcases hv with r | r
      · exact h.sep.2.1 g (by rw [← r]; exact e) i (by omega)
      · rw [r] at e
        have := Option.some.inj e
        have := hL i (by omega)
        omega
  · by_cases e1 : i = k
    · subst e1
      rw [upN_same, up j (by omega)]
      have := hL j (by omega); omega
    · by_cases e2 : j = k
      · subst e2
        rw [upN_same, up i (by omega)]
        have := hL i (by omega); omega
      · rw [up i (by omega), up j (by omega)]
        exact h.sep.2.2 i j (by omega) (by omega) hne
  · refine Below.setCell ?_ (by show W.heap.size ≤ gm; omega) _
    exact h.bel.trans ⟨g2.os.trans b2.os, g2.tape.trans b2.tape, g2.output.trans b2.output, by omega, fun x hx => gb x (by omega) (fun e => by have := hown x e; have := h.bel.size; omega)⟩
theorem OwnG.end_ {W X w : World} {s : Mst} {gz gm gr c n g d : Nat} {L C : Nat → Nat} (h : OwnG W X w s gz gm gr c n (.slice (some ⟨g, 0, none⟩) n d) L C) (u0 u1 u2 : Value) : SpecM (((w.setCell ⟨gz, 0, none⟩ u0).setCell ⟨gz, 1, none⟩ u1).setCell ⟨gz, 2, none⟩ u2) W.heap.size g gr n L C s ∧ Below W.heap.size W (((w.setCell ⟨gz, 0, none⟩ u0).setCell ⟨gz, 1, none⟩ u1).setCell ⟨gz, 2, none⟩ u2) := by
  obtain ⟨p1, p2, p3, p4, p5, p6, p7, p8, p9, p10⟩ := h.ord
  have hg := World.ownsRow.lt h.rows g rfl
  have hb : ∀ x, x ≠ gz → (((w.setCell ⟨gz, 0, none⟩ u0).setCell ⟨gz, 1, none⟩ u1).setCell ⟨gz, 2, none⟩ u2).heap[x]? = w.heap[x]? := fun x hx => by
    rw [Below.heap_setCell _ _ _ _ (by show x ≠ gz; exact hx), Below.heap_setCell _ _ _ _ (by show x ≠ gz; exact hx), Below.heap_setCell _ _ _ _ (by show x ≠ gz; exact hx)]
  refine ⟨⟨?_, fun k hk => (h.lks k hk).of_block (hb _ (by have := h.sep.1 k hk; omega)), h.rts.of_block (hb _ (by omega)), ⟨by omega, p3, fun k hk => by have := h.sep.1 k hk; omega⟩, ⟨by omega, fun k hk => ⟨h.sep.2.1 g rfl k hk, by have := h.sep.1 k hk; omega⟩, h.sep.2.2⟩⟩, ?_⟩
  · exact (own_cells h.rows (fun i hi => by simp [hi])).of_block (hb _ (by omega))
  · iterate 3 refine Below.setCell ?_ (by show W.heap.size ≤ gz; exact p1) _
    exact h.bel
theorem far_two15 {w : World} {A b : Nat} {x y : Value} (h : w.cell? ⟨b, 1, none⟩ = some x ∧ w.cell? ⟨b, 2, none⟩ = some y) (hne : b ≠ A) (u0 u1 u2 : Value) : (((w.setCell ⟨A, 0, none⟩ u0).setCell ⟨A, 1, none⟩ u1).setCell ⟨A, 2, none⟩ u2).cell? ⟨b, 1, none⟩ = some x ∧ (((w.setCell ⟨A, 0, none⟩ u0).setCell ⟨A, 1, none⟩ u1).setCell ⟨A, 2, none⟩ u2).cell? ⟨b, 2, none⟩ = some y := ⟨far_three h.1 hne u0 u1 u2, far_three h.2 hne u0 u1 u2⟩
/-- What l15Own answers. -/
def OwnTo (W : World) (n : Nat) (s : Mst) (e : Ending) (W' : World) : Prop := ∃ g0 d0 g1 d1 L C, e = .returned (.agg #[.slice (some ⟨g0, 0, none⟩) n d0, .slice (some ⟨g1, 0, none⟩) 2 d1, .bool s.on]) ∧ SpecM W' W.heap.size g0 g1 n L C s ∧ Below W.heap.size W W'
theorem ints_news15 {W w : World} {a : Option Addr} {zs : List Int} (h : Ints W a zs) (hb : Below W.heap.size W w) {b o : Nat} (ha : a = some ⟨b, o, none⟩) : ∀ j u, (zs.map (Value.int .i64))[j]? = some u → w.cell? ((⟨b, o, none⟩ : Addr).add j) = some u := by
  subst ha
  intro j u hj
  exact (ints_news (h.kept hb) j u hj).1
/-- Behind the roots' copy and the box. -/
theorem own_first {W X Z w : World} {s : Mst} {gz gm gr c : Nat} (hbox : w.rowIs gm 25 3 (rowF [.slice none 0 0, .slice (some ⟨gr, 0, none⟩) 2 c, .bool s.on])) (hz : w.rowIs gz 25 3 (rowF [.slice none 0 0, .slice none 0 0, .bool false])) (hr : CellsAt w gr 2 (fun j => .int .i64 (s.rt j))) (hb : Below W.heap.size W w) (o1 : W.heap.size ≤ gz) (o2 : W.heap.size ≤ gm) (o3 : W.heap.size ≤ gr) (n1 : gz ≠ gm) (n2 : gz ≠ gr) (n3 : gm ≠ gr) : OwnG W w w s gz gm gr c 0 (.slice none 0 0) (fun _ => 0) (fun _ => 0) :=
  ⟨hbox, hz, hr, World.ownsRow_nil _ _ _ _, (fun i hi => by omega), ⟨(fun i hi => by omega), (fun g e => by cases e), (fun i j hi => by omega)⟩, hb, ⟨o1, o2, o3, n1, n2, n3, hz.lt, hbox.lt, hr.1, Nat.le_refl _⟩⟩
/-- One order's end. -/
theorem own_end15 {W X w w' : World} {s : Mst} {D : List Value} {rs : List Int} {g gm c : Nat} {on : Bool} (hD : rs.map (Value.int .i64) = D) (hl : rs.length = 2) (hr : ∀ j, s.rt j = rs.getD j 0) (hon : s.on = on) (HX : Below W.heap.size W X) (XS : X.heap.size = W.heap.size + 2) (hZ : X.rowIs (W.heap.size + 1) 25 3 (rowF [.slice none 0 0, .slice none 0 0, .bool false]))
    (O : w.ownsRow X.heap.size 3 1 (.slice (some ⟨g, 0, none⟩) 2 c) 2 D) (hne : g ≠ gm) (hgm : X.heap.size ≤ gm) (hb : ∀ x, x ≠ gm → x < w.heap.size → w'.heap[x]? = w.heap[x]?) (hbox : w'.rowIs gm 25 3 (rowF [.slice none 0 0, .slice (some ⟨g, 0, none⟩) 2 c, .bool on])) (B : Below X.heap.size X w') :
    ∃ gm' gr cr, Value.pointer (some ⟨gm, 0, none⟩) = .pointer (some ⟨gm', 0, none⟩) ∧ OwnG W w' w' s (W.heap.size + 1) gm' gr cr 0 (.slice none 0 0) (fun _ => 0) (fun _ => 0) ∧ Below X.heap.size X w' := by
  have hg := World.ownsRow.lt O g rfl
  refine ⟨gm, g, c, rfl, own_first (X := X) (Z := X) (by rw [hon]; exact hbox) (hZ.of_block (B.block _ hZ.lt)) ?_ (HX.trans (B.mono (by omega))) (by omega) (by omega) (by omega) (by omega) (by omega) (by omega), B⟩
  refine CellsAt.of_block ?_ (hb g hne hg.2)
  refine own_cells O (fun i hi => ?_)
  rw [← hD, List.getElem?_map, List.getElem?_eq_getElem (show i < rs.length by omega), hr i]
  simp [List.getD_eq_getElem?_getD, List.getElem?_eq_getElem (show i < rs.length by omega)]
set_option maxHeartbeats 16000000 in
theorem spec_own15 (a : Option Addr) (n cap : Nat) (ra : Option Addr) (rc : Nat) (on : Bool) (cs : Nat → Dv) (rs : List Int) (c : Bool) (W : World) (hf : Hid (Fits shCellS (.l n 3 cs))) (h : Hid (Holds W c (.l n 3 cs) (.slice a n cap))) (hzr : Hid (rs.length = 2)) (Ir : Hid (Ints W ra rs)) (hn2 : 2 ≤ n) (hn10 : n ≤ 10) (HML : Hid (∀ k, k < n → mln cs k = 2)) :
    Calls Try.prog 44 #[.agg #[.slice a n cap, .slice ra 2 rc, .bool on]] W fun e W' => OwnTo W n (stM cs rs on) e W' := by
  obtain ⟨i3, hi3, hz30, hz31, hz32⟩ := parts_of (P := Try.prog) (e := 3) (z := .int .i64 0) (a := 1) (b := 8) (by kernel_rfl)
  obtain ⟨i5, hi5, hz50, hz51, hz52⟩ := parts_of (P := Try.prog) (e := 52) (z := .agg #[.slice none 0 0, .int .i64 0, .bool false]) (a := 3) (b := 40) (by kernel_rfl)
  obtain ⟨X, hX⟩ : ∃ X, Hid ((W.alloc (.cells #[.slice a n cap, .slice ra 2 rc, .bool on] 25)).alloc (.cells #[.slice none 0 0, .slice none 0 0, .bool false] 25) = X) := ⟨_, rfl⟩
  have HX : Hid (Below W.heap.size W X) := by show Below _ _ _; rw [← hX.out]; exact ((Below.refl _ _).alloc (Nat.le_refl _) _).alloc (by simp) _
  have e1 : (W.alloc (.cells #[.slice a n cap, .slice ra 2 rc, .bool on] 25)).heap.size = W.heap.size + 1 := by simp
  have hRX := (row_of W #[.slice a n cap, .slice ra 2 rc, .bool on] 25).alloc (.cells #[.slice none 0 0, .slice none 0 0, .bool false] 25)
  have hZX := row_of (W.alloc (.cells #[.slice a n cap, .slice ra 2 rc, .bool on] 25)) #[.slice none 0 0, .slice none 0 0, .bool false] 25
  rw [hX.out] at hRX
  rw [e1, hX.out] at hZX
  have XS : Hid (X.heap.size = W.heap.size + 2) := by show _ = _; rw [← hX.out]; simp
  have HRX : Hid (X.rowIs W.heap.size 25 3 (rowF [.slice a n cap, .slice ra 2 rc, .bool on])) := hRX
  have HZX : Hid (X.rowIs (W.heap.size + 1) 25 3 (rowF [.slice none 0 0, .slice none 0 0, .bool false])) := hZX
  clear hRX hZX e1
  obtain ⟨s, HS⟩ : ∃ s, Hid (stM cs rs on = s) := ⟨_, rfl⟩
  have HSR : Hid (∀ j, s.rt j = rs.getD j 0) := fun j => by rw [← HS.out]; rfl
  have HSO : Hid (s.on = on) := by show _ = _; rw [← HS.out]; rfl
  have HSC : Hid (∀ k, (∀ j, s.lk k j = (mls cs k).getD j 0) ∧ s.co k = mco cs k ∧ s.fr k = mfr cs k) := fun k => by rw [← HS.out]; exact ⟨fun _ => rfl, rfl, rfl⟩
  rw [HS.out]
  clear HS
  obtain ⟨rb, ro, hra, _⟩ := Ir.out.at (Below.refl _ _) (k := 0) (by rw [hzr.out]; decide)
  subst hra
  obtain ⟨ab, ao, _, _, ha, _⟩ := mcell_at h.out hf.out (Below.refl _ _) (k := 0) (by omega)
  subst ha
  go_enter Try.func44, Try.ntmps44
  go_upto_region 1 with fail
  rw [hX.out]
  clear hX
  go_cut [3] (fun v3 wx => ∃ gm gr cr, v3 = .pointer (some ⟨gm, 0, none⟩) ∧ OwnG W wx wx s (W.heap.size + 1) gm gr cr 0 (.slice none 0 0) (fun _ => 0) (fun _ => 0) ∧ Below X.heap.size X wx)
  case first =>
    have q1 : X.drew.cell? ⟨W.heap.size, 1, none⟩ = some (.slice (some ⟨rb, ro, none⟩) 2 rc) ∧ X.drew.cell? ⟨W.heap.size, 2, none⟩ = some (.bool on) := ⟨HRX.out.cell (i := 1) (by decide), HRX.out.cell (i := 2) (by decide)⟩
    have HQ : Hid (∀ w, Below X.heap.size X w → w.cell? ⟨W.heap.size, 1, none⟩ = some (.slice (some ⟨rb, ro, none⟩) 2 rc) ∧ w.cell? ⟨W.heap.size, 2, none⟩ = some (.bool on)) := fun w q => ⟨(HRX.out.of_block (q.block _ HRX.out.lt)).cell (i := 1) (by decide), (HRX.out.of_block (q.block _ HRX.out.lt)).cell (i := 2) (by decide)⟩
    have HN : Hid (∀ w, Below X.heap.size X w → ∀ j u, (rs.map (Value.int .i64))[j]? = some u → w.cell? ((⟨rb, ro, none⟩ : Addr).add j) = some u) := fun w q => ints_news15 (Ir.out.kept HX.out) q rfl
    obtain ⟨D, HD⟩ : ∃ D, Hid (rs.map (Value.int .i64) = D) := ⟨_, rfl⟩
    rw [HD.out] at HN
    have hDl : D.length = 2 * 1 := by rw [← HD.out, List.length_map]; exact hzr.out
    have h1D : ∀ u ∈ D, u.oneCell' = true := by rw [← HD.out]; exact one_cells rs
    have BA : Hid (Below X.heap.size X (X.alloc (.cells #[] 3)).drew) := ((Below.refl _ _).alloc (Nat.le_refl _) _).drew
    have BB : Hid (Below X.heap.size X ((X.alloc (.cells #[] 3)).alloc (.cells #[.slice none 0 0, .slice none 0 0, .bool false] 25)).drew) := (((Below.refl _ _).alloc (Nat.le_refl _) _).alloc (by simp) _).drew
    have BC : Hid (Below X.heap.size X (X.alloc (.cells #[.slice none 0 0, .slice none 0 0, .bool false] 25)).drew) := ((Below.refl _ _).alloc (Nat.le_refl _) _).drew
    have BD : Hid (Below X.heap.size X ((X.alloc (.cells #[.slice none 0 0, .slice none 0 0, .bool false] 25)).alloc (.cells #[] 3)).drew) := (((Below.refl _ _).alloc (Nat.le_refl _) _).alloc (by simp) _).drew
    have qa := HQ.out _ BA.out
    have qb := HQ.out _ BB.out
    have qc := HQ.out _ BC.out
    have qd := HQ.out _ BD.out
    have OA : Hid (((X.alloc (.cells #[] 3)).drew).ownsRow X.heap.size 3 1 (.slice (some ⟨X.heap.size, 0, none⟩) 0 0) 0 []) := World.ownsRow_made X #[] 0 (Nat.le_refl _) (Nat.zero_le _) rfl
    have OB : Hid ((((X.alloc (.cells #[] 3)).alloc (.cells #[.slice none 0 0, .slice none 0 0, .bool false] 25)).drew).ownsRow X.heap.size 3 1 (.slice (some ⟨X.heap.size, 0, none⟩) 0 0) 0 []) := World.ownsRow.alloc (World.ownsRow_made X #[] 0 (Nat.le_refl _) (Nat.zero_le _) rfl) _
    have sC : (X.alloc (.cells #[.slice none 0 0, .slice none 0 0, .bool false] 25)).heap.size = X.heap.size + 1 := by simp
    have sE : (X.alloc (.cells #[] 3)).heap.size = X.heap.size + 1 := by simp
    have OD : Hid ((((X.alloc (.cells #[.slice none 0 0, .slice none 0 0, .bool false] 25)).alloc (.cells #[] 3)).drew).ownsRow X.heap.size 3 1 (.slice (some ⟨X.heap.size + 1, 0, none⟩) 0 0) 0 []) := by
      have q := World.ownsRow_made (base := X.heap.size) (e := 3) (size := 1) (X.alloc (.cells #[.slice none 0 0, .slice none 0 0, .bool false] 25)) #[] 0 (by simp) (Nat.zero_le _) rfl
      rw [sC] at q
      exact q
    have RZB : Hid ((((X.alloc (.cells #[] 3)).alloc (.cells #[.slice none 0 0, .slice none 0 0, .bool false] 25)).drew).rowIs (X.heap.size + 1) 25 3 (rowF [.slice none 0 0, .slice none 0 0, .bool false])) := by
      have q := row_of (X.alloc (.cells #[] 3)) #[.slice none 0 0, .slice none 0 0, .bool false] 25
      rw [sE] at q
      exact q
    have RZD : Hid ((((X.alloc (.cells #[.slice none 0 0, .slice none 0 0, .bool false] 25)).alloc (.cells #[] 3)).drew).rowIs X.heap.size 25 3 (rowF [.slice none 0 0, .slice none 0 0, .bool false])) := (row_of X #[.slice none 0 0, .slice none 0 0, .bool false] 25).alloc _
    have HB1 : Hid (∀ (w w1 : World) (g : Nat), Below X.heap.size X w → w.grownBy w1 (some g) → X.heap.size ≤ g → Below X.heap.size X w1) := fun w w1 g q1 q2 q3 => ⟨q2.os.trans q1.os, q2.tape.trans q1.tape, q2.output.trans q1.output, Nat.le_trans q1.size q2.size, fun x hx => (q2.block x (Nat.lt_of_lt_of_le hx q1.size) (fun e => by simp only [Option.some.injEq] at e; omega)).trans (q1.block x hx)⟩
    have xlt := HRX.out.lt
    go_region_held3 (fun w' => w'.cell? ⟨W.heap.size, 1, none⟩ = some (.slice (some ⟨rb, ro, none⟩) 2 rc) ∧ w'.cell? ⟨W.heap.size, 2, none⟩ = some (.bool on)) (first | with_reducible exact q1 | with_reducible exact qa | with_reducible exact qb | with_reducible exact qc | with_reducible exact qd | with_reducible exact q5a | with_reducible exact q5b | with_reducible exact q5c | with_reducible exact q6a | exact q7b _ _ _ | exact q7c _ _ _ | go_keep) (first
      | (refine step_append_at (X.alloc (.cells #[] 3)).drew (by rfl) _ _ 23 (by rfl) X.heap.size 3 i3 _ 1 8 Try.underlying23 hi3 hz30 hz31 hz32 rfl (by decide) (.slice (some ⟨X.heap.size, 0, none⟩) 0 0) 0 [] (by rfl) OA.out ⟨rb, ro, none⟩ 2 rc D (by rfl) hDl (HN.out _ BA.out) h1D (by unfold maxLen; omega) (by omega) BA.out.size ?_; intro v1 w1a hown1 hgrow1 hnil1 hat1; obtain ⟨g1, c1, rfl⟩ := row_some15 hown1 (Nat.succ_pos 1); have B1a := (show Hid (Below X.heap.size X w1a) from HB1.out _ _ _ BA.out hgrow1 (Nat.le_refl _)); have q5a := HQ.out w1a B1a.out; have q6a := HQ.out (w1a.alloc (.cells #[.slice none 0 0, .slice none 0 0, .bool false] 25)) (B1a.out.alloc B1a.out.size _); have O1a := (show Hid (w1a.ownsRow X.heap.size 3 1 (.slice (some ⟨g1, 0, none⟩) 2 c1) 2 D) from hown1); have GNa := (show Hid (∀ x, (Value.slice (some ⟨X.heap.size, 0, none⟩) 0 0).ownBlock = some x → (Value.slice (some ⟨g1, 0, none⟩) 2 c1).ownBlock = (Value.slice (some ⟨X.heap.size, 0, none⟩) 0 0).ownBlock ∨ (Value.slice (some ⟨g1, 0, none⟩) 2 c1).ownBlock = some ((X.alloc (.cells #[] 3)).drew).heap.size) from fun _ _ => hat1); clear hown1 hgrow1 hnil1 hat1)
      | (refine step_append_at ((X.alloc (.cells #[] 3)).alloc (.cells #[.slice none 0 0, .slice none 0 0, .bool false] 25)).drew (by rfl) _ _ 23 (by rfl) X.heap.size 3 i3 _ 1 8 Try.underlying23 hi3 hz30 hz31 hz32 rfl (by decide) (.slice (some ⟨X.heap.size, 0, none⟩) 0 0) 0 [] (by rfl) OB.out ⟨rb, ro, none⟩ 2 rc D (by rfl) hDl (HN.out _ BB.out) h1D (by unfold maxLen; omega) (by omega) BB.out.size ?_; intro v1 w1b hown1 hgrow1 hnil1 hat1; obtain ⟨g1, c1, rfl⟩ := row_some15 hown1 (Nat.succ_pos 1); have B1b := (show Hid (Below X.heap.size X w1b) from HB1.out _ _ _ BB.out hgrow1 (Nat.le_refl _)); have q5b := HQ.out w1b B1b.out; have q6b := HQ.out (w1b.alloc (.cells #[.slice none 0 0, .slice none 0 0, .bool false] 25)) (B1b.out.alloc B1b.out.size _); have O1b := (show Hid (w1b.ownsRow X.heap.size 3 1 (.slice (some ⟨g1, 0, none⟩) 2 c1) 2 D) from hown1); have GNb := (show Hid (∀ x, (Value.slice (some ⟨X.heap.size, 0, none⟩) 0 0).ownBlock = some x → (Value.slice (some ⟨g1, 0, none⟩) 2 c1).ownBlock = (Value.slice (some ⟨X.heap.size, 0, none⟩) 0 0).ownBlock ∨ (Value.slice (some ⟨g1, 0, none⟩) 2 c1).ownBlock = some (((X.alloc (.cells #[] 3)).alloc (.cells #[.slice none 0 0, .slice none 0 0, .bool false] 25)).drew).heap.size) from fun _ _ => hat1); have RZb := (show Hid (w1b.rowIs (X.heap.size + 1) 25 3 (rowF [.slice none 0 0, .slice none 0 0, .bool false])) from RZB.out.of_block (hgrow1.block _ RZB.out.lt (fun e => by have h : X.heap.size + 1 = X.heap.size := Option.some.inj e; omega))); have t0 := (show w1b.cell? ⟨X.heap.size + 1, 0, none⟩ = some (.slice none 0 0) from RZb.out.cell (i := 0) (by decide)); have t1 := (show w1b.cell? ⟨X.heap.size + 1, 1, none⟩ = some (.slice none 0 0) from RZb.out.cell (i := 1) (by decide)); have t2 := (show w1b.cell? ⟨X.heap.size + 1, 2, none⟩ = some (.bool false) from RZb.out.cell (i := 2) (by decide)); have u0 := RZb.out.frozen 0; have u1 := RZb.out.frozen 1; have u2 := RZb.out.frozen 2; have ul := RZb.out.lt; have q7b := (fun x0 x1 x2 => far_two15 (A := (X.heap.size + 1)) q5b (by omega) x0 x1 x2); clear hown1 hgrow1 hnil1 hat1)
      | (refine step_append_at ((X.alloc (.cells #[.slice none 0 0, .slice none 0 0, .bool false] 25)).alloc (.cells #[] 3)).drew (by rfl) _ _ 23 (by rfl) X.heap.size 3 i3 _ 1 8 Try.underlying23 hi3 hz30 hz31 hz32 rfl (by decide) (.slice (some ⟨X.heap.size + 1, 0, none⟩) 0 0) 0 [] (by rfl) OD.out ⟨rb, ro, none⟩ 2 rc D (by rfl) hDl (HN.out _ BD.out) h1D (by unfold maxLen; omega) (by omega) BD.out.size ?_; intro v1 w1c hown1 hgrow1 hnil1 hat1; obtain ⟨g1, c1, rfl⟩ := row_some15 hown1 (Nat.succ_pos 1); have B1c := (show Hid (Below X.heap.size X w1c) from HB1.out _ _ _ BD.out hgrow1 (Nat.le_succ _)); have q5c := HQ.out w1c B1c.out; have q6c := HQ.out (w1c.alloc (.cells #[.slice none 0 0, .slice none 0 0, .bool false] 25)) (B1c.out.alloc B1c.out.size _); have O1c := (show Hid (w1c.ownsRow X.heap.size 3 1 (.slice (some ⟨g1, 0, none⟩) 2 c1) 2 D) from hown1); have GNc := (show Hid (∀ x, (Value.slice (some ⟨X.heap.size + 1, 0, none⟩) 0 0).ownBlock = some x → (Value.slice (some ⟨g1, 0, none⟩) 2 c1).ownBlock = (Value.slice (some ⟨X.heap.size + 1, 0, none⟩) 0 0).ownBlock ∨ (Value.slice (some ⟨g1, 0, none⟩) 2 c1).ownBlock = some (((X.alloc (.cells #[.slice none 0 0, .slice none 0 0, .bool false] 25)).alloc (.cells #[] 3)).drew).heap.size) from fun _ _ => hat1); have RZc := (show Hid (w1c.rowIs X.heap.size 25 3 (rowF [.slice none 0 0, .slice none 0 0, .bool false])) from RZD.out.of_block (hgrow1.block _ RZD.out.lt (fun e => by have h : X.heap.size = X.heap.size + 1 := Option.some.inj e; omega))); have t0 := (show w1c.cell? ⟨X.heap.size, 0, none⟩ = some (.slice none 0 0) from RZc.out.cell (i := 0) (by decide)); have t1 := (show w1c.cell? ⟨X.heap.size, 1, none⟩ = some (.slice none 0 0) from RZc.out.cell (i := 1) (by decide)); have t2 := (show w1c.cell? ⟨X.heap.size, 2, none⟩ = some (.bool false) from RZc.out.cell (i := 2) (by decide)); have u0 := RZc.out.frozen 0; have u1 := RZc.out.frozen 1; have u2 := RZc.out.frozen 2; have ul := RZc.out.lt; have q7c := (fun x0 x1 x2 => far_two15 (A := X.heap.size) q5c (by omega) x0 x1 x2); clear hown1 hgrow1 hnil1 hat1))
    -- ENDS
    all_goals go_wp2_with fail
    all_goals go_meet
    · have hg := World.ownsRow.lt O1a.out g1 rfl
      have hB := B1a.out
      refine own_end15 (w := w1a) (gm := w1a.heap.size) HD.out hzr.out HSR.out HSO.out HX.out XS.out HZX.out O1a.out (by omega) (by have := hB.size; omega) (fun x _ hx => ?_) (row_of _ _ _) (hB.alloc hB.size _)
      exact ((Below.refl w1a.heap.size w1a).alloc (Nat.le_refl _) _).block x hx
    · have hg := World.ownsRow.lt O1b.out g1 rfl
      have hB := B1b.out
      have hN : g1 ≠ X.heap.size + 1 := fun e => by rcases GNb.out X.heap.size rfl with r | r <;> (have r := Option.some.inj r; simp at r; omega)
      refine own_end15 (w := w1b) HD.out hzr.out HSR.out HSO.out HX.out XS.out HZX.out O1b.out hN (by omega) (fun x hx _ => ?_) ?_ ?_
      · rw [Below.heap_setCell _ _ _ _ (by show x ≠ X.heap.size + 1; exact hx), Below.heap_setCell _ _ _ _ (by show x ≠ X.heap.size + 1; exact hx), Below.heap_setCell _ _ _ _ (by show x ≠ X.heap.size + 1; exact hx)]
      · exact (((RZb.out.set 0 (.slice none 0 0)).set 1 (.slice (some ⟨g1, 0, none⟩) 2 c1)).set 2 (.bool on)).congr (fun i hi => by
          match i, hi with
          | 0, _ => rfl
          | 1, _ => rfl
          | 2, _ => rfl
          | i + 3, h => exact absurd h (by omega))
      · iterate 3 refine Below.setCell ?_ (by show X.heap.size ≤ X.heap.size + 1; omega) _
        exact hB
    · have hg := World.ownsRow.lt O1c.out g1 rfl
      have hB := B1c.out
      have hN : g1 ≠ X.heap.size := fun e => by rcases GNc.out (X.heap.size + 1) rfl with r | r <;> (have r := Option.some.inj r; simp at r; omega)
      refine own_end15 (w := w1c) HD.out hzr.out HSR.out HSO.out HX.out XS.out HZX.out O1c.out hN (by omega) (fun x hx _ => ?_) ?_ ?_
      · rw [Below.heap_setCell _ _ _ _ (by show x ≠ X.heap.size; exact hx), Below.heap_setCell _ _ _ _ (by show x ≠ X.heap.size; exact hx), Below.heap_setCell _ _ _ _ (by show x ≠ X.heap.size; exact hx)]
      · exact (((RZc.out.set 0 (.slice none 0 0)).set 1 (.slice (some ⟨g1, 0, none⟩) 2 c1)).set 2 (.bool on)).congr (fun i hi => by
          match i, hi with
          | 0, _ => rfl
          | 1, _ => rfl
          | 2, _ => rfl
          | i + 3, h => exact absurd h (by omega))
      · iterate 3 refine Below.setCell ?_ (by show X.heap.size ≤ X.heap.size; omega) _
        exact hB
  case rest =>
    obtain ⟨gm, gr, cr, rfl, hO, hB⟩ := hcut
    have HO : Hid (OwnG W wc wc s (W.heap.size + 1) gm gr cr 0 (.slice none 0 0) (fun _ => 0) (fun _ => 0)) := hO
    have r0 : wc.cell? ⟨W.heap.size, 0, none⟩ = some (.slice (some ⟨ab, ao, none⟩) n cap) := (HRX.out.of_block (hB.block _ HRX.out.lt)).cell (i := 0) (by decide)
    have rl : W.heap.size < wc.heap.size := Nat.lt_of_lt_of_le HRX.out.lt hB.size
    clear hO hB HRX HZX HX XS
    go_wp2
    clear r0 rl
    go_loopw [16] (fun vi wr => ∃ (k : Nat) (v : Value) (L C : Nat → Nat), k ≤ n ∧ vi = .int .i64 k ∧ Hid (OwnG W wc wr s (W.heap.size + 1) gm gr cr k v L C)) (fun vi _ => n - (intOf vi).toNat)
    case atStart => exact ⟨0, _, _, _, Nat.zero_le _, rfl, HO⟩
    case round =>
      obtain ⟨k, v, L, C, hk, rfl, HA⟩ := hrel
      by_cases hlt : k < n
      rotate_left
      · have e : k = n := by omega
        subst e
        obtain ⟨g, d, rfl⟩ := row_some15 HA.out.rows (by omega)
        have x0 : wr.cell? ⟨gm, 0, none⟩ = some (.slice (some ⟨g, 0, none⟩) k d) := HA.out.box.cell (i := 0) (by decide)
        have x1 : wr.cell? ⟨gm, 1, none⟩ = some (.slice (some ⟨gr, 0, none⟩) 2 cr) := HA.out.box.cell (i := 1) (by decide)
        have x2 : wr.cell? ⟨gm, 2, none⟩ = some (.bool s.on) := HA.out.box.cell (i := 2) (by decide)
        have z0 : wr.cell? ⟨W.heap.size + 1, 0, none⟩ = some (.slice none 0 0) := HA.out.zero.cell (i := 0) (by decide)
        have z1 : wr.cell? ⟨W.heap.size + 1, 1, none⟩ = some (.slice none 0 0) := HA.out.zero.cell (i := 1) (by decide)
        have z2 : wr.cell? ⟨W.heap.size + 1, 2, none⟩ = some (.bool false) := HA.out.zero.cell (i := 2) (by decide)
        have f0 := HA.out.zero.frozen 0
        have f1 := HA.out.zero.frozen 1
        have f2 := HA.out.zero.frozen 2
        have zl := HA.out.zero.lt
        have lM := HA.out.box.lt
        have hkd : decide ((k : Int) < (k : Int)) = false := by simp
        have HRS : Hid (∀ u0 u1 u2, OwnTo W k s (.returned (.agg #[.slice (some ⟨g, 0, none⟩) k d, .slice (some ⟨gr, 0, none⟩) 2 cr, .bool s.on])) (((wr.setCell ⟨W.heap.size + 1, 0, none⟩ u0).setCell ⟨W.heap.size + 1, 1, none⟩ u1).setCell ⟨W.heap.size + 1, 2, none⟩ u2)) := fun u0 u1 u2 => ⟨g, d, gr, cr, L, C, rfl, HA.out.end_ u0 u1 u2⟩
        go_wp2
        exact bodyPost_ret (v := .agg #[.slice (some ⟨g, 0, none⟩) k d, .slice (some ⟨gr, 0, none⟩) 2 cr, .bool s.on]) (by simp only [results, Try.results44]; go_simp) rfl (HRS.out _ _ _)
      have hltI : (k : Int) < (n : Int) := by omega
      have hk0 : (0 : Int) ≤ (k : Int) := by omega
      obtain ⟨b', o', la, lc, ha, hbW, q0, q1, q2, hI⟩ := mcell_at h.out hf.out HA.out.bel hlt
      obtain ⟨rfl, rfl⟩ : ab = b' ∧ ao = o' := by simpa using ha
      have hbw : ab < wr.heap.size := by have := HA.out.bel.size; omega
      rw [HML.out k hlt] at q0
      have hmll : (mls cs k).length = 2 := by rw [mls_len]; exact HML.out k hlt
      obtain ⟨lb, lo, hla, _⟩ := hI.at (Below.refl _ _) (k := 0) (by rw [hmll]; decide)
      subst hla
      obtain ⟨y, Hy⟩ : ∃ y, Hid (s.co k = y) := ⟨_, rfl⟩
      obtain ⟨z, Hz⟩ : ∃ z, Hid (s.fr k = z) := ⟨_, rfl⟩
      rw [← (HSC.out k).2.1, Hy.out] at q1
      rw [← (HSC.out k).2.2, Hz.out] at q2
      obtain ⟨Y, hY⟩ : ∃ Y, Hid (wr.alloc (.cells #[.slice (some ⟨lb, lo, none⟩) 2 lc, .int .i64 y, .bool z] 52) = Y) := ⟨_, rfl⟩
      have HYB : Hid (Below wr.heap.size wr Y) := by show Below _ _ _; rw [← hY.out]; exact (Below.refl _ _).alloc (Nat.le_refl _) _
      have HYR : Hid (Y.rowIs wr.heap.size 52 3 (rowF [.slice (some ⟨lb, lo, none⟩) 2 lc, .int .i64 y, .bool z])) := by show World.rowIs _ _ _ _ _; rw [← hY.out]; exact row_of wr #[.slice (some ⟨lb, lo, none⟩) 2 lc, .int .i64 y, .bool z] 52
      have HIY : Hid (Ints Y (some ⟨lb, lo, none⟩) (mls cs k)) := hI.kept HYB.out
      go_upto_region 5 with fail
      rw [hY.out]
      clear q0 q1 q2 hI hbw hY
      have yl : wr.heap.size < Y.heap.size := HYR.out.lt
      have y0 : Y.cell? ⟨wr.heap.size, 0, none⟩ = some (.slice (some ⟨lb, lo, none⟩) 2 lc) := HYR.out.cell (i := 0) (by decide)
      obtain ⟨D, HD⟩ : ∃ D, Hid ((mls cs k).map (Value.int .i64) = D) := ⟨_, rfl⟩
      have hDl : D.length = 2 * 1 := by rw [← HD.out, List.length_map]; exact hmll
      have h1D : ∀ u ∈ D, u.oneCell' = true := by rw [← HD.out]; exact one_cells (mls cs k)
      have HN : Hid (∀ w, Below Y.heap.size Y w → ∀ j u, D[j]? = some u → w.cell? ((⟨lb, lo, none⟩ : Addr).add j) = some u) := by
        have q := fun w (q : Below Y.heap.size Y w) => ints_news15 (W := Y) HIY.out q rfl
        rw [HD.out] at q
        exact q
      have HB1 : Hid (∀ w1, (Y.alloc (.cells #[] 3)).grownBy w1 (some Y.heap.size) → Below Y.heap.size Y w1) := fun w1 q => by
        have q1 : Below Y.heap.size Y (Y.alloc (.cells #[] 3)) := (Below.refl _ _).alloc (Nat.le_refl _) _
        exact ⟨q.os.trans q1.os, q.tape.trans q1.tape, q.output.trans q1.output, Nat.le_trans q1.size q.size, fun x hx => (q.block x (Nat.lt_of_lt_of_le hx q1.size) (fun e => by simp only [Option.some.injEq] at e; omega)).trans (q1.block x hx)⟩
      have OYE : Hid ((Y.alloc (.cells #[] 3)).ownsRow Y.heap.size 3 1 (.slice (some ⟨Y.heap.size, 0, none⟩) 0 0) 0 []) := World.ownsRow_made Y #[] 0 (Nat.le_refl _) (Nat.zero_le _) rfl
      go_upto_region 6 with (at_builtin; refine wpList_append_own_at _ rfl _ _ 23 rfl Y.heap.size 3 i3 _ 1 8 Try.underlying23 hi3 hz30 hz31 hz32 rfl (by decide) (.slice (some ⟨Y.heap.size, 0, none⟩) 0 0) 0 [] rfl OYE.out ⟨lb, lo, none⟩ 2 lc D rfl hDl (HN.out _ ((Below.refl _ _).alloc (Nat.le_refl _) _)) h1D (by unfold maxLen; omega) (by omega) (by simp) ?_; intro v1 w1 hown1 hgrow1 hnil1 hat1; obtain ⟨g1, c1, rfl⟩ := row_some15 hown1 (Nat.succ_pos 1); have B1 := (show Hid (Below Y.heap.size Y w1) from HB1.out w1 hgrow1); have O1 := (show Hid (w1.ownsRow Y.heap.size 3 1 (.slice (some ⟨g1, 0, none⟩) 2 c1) 2 D) from hown1); have R1 := (show Hid (w1.rowIs wr.heap.size 52 3 (rowF [.slice (some ⟨lb, lo, none⟩) 2 lc, .int .i64 y, .bool z])) from HYR.out.of_block (B1.out.block _ yl)); have fz1 := (show w1.frozen? ⟨wr.heap.size, 0, none⟩ = false from R1.out.frozen 0); have l1 := R1.out.lt; have t1 := (show w1.cell? ⟨wr.heap.size, 0, none⟩ = some (.slice (some ⟨lb, lo, none⟩) 2 lc) from R1.out.cell (i := 0) (by decide)); clear hown1 hgrow1 hnil1 hat1)
      obtain ⟨w2, hw2⟩ : ∃ w2, Hid (w1.setCell ⟨wr.heap.size, 0, none⟩ (.slice (some ⟨g1, 0, none⟩) 2 c1) = w2) := ⟨_, rfl⟩
      rw [hw2.out]
      have B2 : Hid (Below wr.heap.size wr w2) := by
        show Below _ _ _
        rw [← hw2.out]
        exact Below.setCell (HYB.out.trans (B1.out.mono HYB.out.size)) (by show wr.heap.size ≤ wr.heap.size; omega) _
      have R2 : Hid (w2.rowIs wr.heap.size 52 3 (rowF [.slice (some ⟨g1, 0, none⟩) 2 c1, .int .i64 y, .bool z])) := by
        show World.rowIs _ _ _ _ _
        rw [← hw2.out]
        refine (R1.out.set 0 _).congr (fun i hi => ?_)
        match i, hi with
        | 0, _ => rfl
        | 1, _ => rfl
        | 2, _ => rfl
        | i + 3, h => exact absurd h (by omega)
      have hg1 := World.ownsRow.lt O1.out g1 rfl
      have C2 : Hid (CellsAt w2 g1 2 (fun j => .int .i64 (s.lk k j))) := by
        show CellsAt _ _ _ _
        rw [← hw2.out]
        refine CellsAt.far ?_ (by omega) _
        refine own_cells (sz := 1) (n := 2) O1.out (fun i hi => ?_)
        rw [← HD.out, List.getElem?_map, List.getElem?_eq_getElem (show i < (mls cs k).length by omega), (HSC.out k).1 i]
        simp [List.getD_eq_getElem?_getD, List.getElem?_eq_getElem (show i < (mls cs k).length by omega)]
      have hgw : wr.heap.size ≤ g1 := by omega
      have a0 : w2.cell? ⟨wr.heap.size, 0, none⟩ = some (.slice (some ⟨g1, 0, none⟩) 2 c1) := R2.out.cell (i := 0) (by decide)
      have a1 : w2.cell? ⟨wr.heap.size, 1, none⟩ = some (.int .i64 y) := R2.out.cell (i := 1) (by decide)
      have a2 : w2.cell? ⟨wr.heap.size, 2, none⟩ = some (.bool z) := R2.out.cell (i := 2) (by decide)
      have al := R2.out.lt
      have lM := HA.out.box.lt
      have v0 : w2.cell? ⟨gm, 0, none⟩ = some v := (B2.out.cell (p := ⟨gm, 0, none⟩) lM).trans (HA.out.box.cell (i := 0) (by decide))
      have lM2 : gm < w2.heap.size := Nat.lt_of_lt_of_le lM B2.out.size
      clear y0 yl fz1 l1 t1 R1 hw2 HN HB1 OYE HIY HYR HYB B1 O1 hg1 R2 hDl h1D hmll
      have B3 : Hid (Below wr.heap.size wr (w2.alloc (.cells #[.slice (some ⟨g1, 0, none⟩) 2 c1, .int .i64 y, .bool z] 52))) := B2.out.alloc B2.out.size _
      obtain ⟨xs, HXS⟩ : ∃ xs, Hid ((List.range (k * 3)).map (scV L C s) = xs) := ⟨_, rfl⟩
      have GR : Hid (wr.ownsRow wc.heap.size 52 3 v k xs) := by show World.ownsRow _ _ _ _ _ _ _; rw [← HXS.out]; exact HA.out.rows
      have HSTEP : Hid (∀ (w3 : World) (v' : Value), w3.ownsRow wc.heap.size 52 3 v' (k + 1) (xs ++ [.slice (some ⟨g1, 0, none⟩) 2 c1, .int .i64 y, .bool z]) → (w2.alloc (.cells #[.slice (some ⟨g1, 0, none⟩) 2 c1, .int .i64 y, .bool z] 52)).grownBy w3 v.ownBlock → (v'.ownBlock = v.ownBlock ∨ v'.ownBlock = some (w2.alloc (.cells #[.slice (some ⟨g1, 0, none⟩) 2 c1, .int .i64 y, .bool z] 52)).heap.size) → ∃ v L C, OwnG W wc (w3.setCell ⟨gm, 0, none⟩ v') s (W.heap.size + 1) gm gr cr (k + 1) v L C) := fun w3 v' q3 q4 q5 => by
        rw [← HXS.out, ← Hy.out, ← Hz.out] at q3
        rw [← Hy.out, ← Hz.out] at q4 q5
        obtain ⟨L', C', r⟩ := HA.out.step C2.out hgw B2.out q3 _ q4 q5
        exact ⟨v', L', C', r⟩
      have HM : Hid (∀ w' : World, (w2.alloc (.cells #[.slice (some ⟨g1, 0, none⟩) 2 c1, .int .i64 y, .bool z] 52)).grownBy w' v.ownBlock → w'.cell? ⟨gm, 0, none⟩ = some v ∧ w'.frozen? ⟨gm, 0, none⟩ = false ∧ gm < w'.heap.size) := fun w' g => by
        have e := g.block gm (by have := B3.out.size; omega) (fun e => by have := World.ownsRow.lt HA.out.rows _ e.symm; have := HA.out.ord; omega)
        exact ⟨(World.cell?_of_block (a := ⟨gm, 0, none⟩) e).trans ((B3.out.cell (p := ⟨gm, 0, none⟩) lM).trans (HA.out.box.cell (i := 0) (by decide))), (World.frozen?_of_block (a := ⟨gm, 0, none⟩) e).trans ((World.frozen?_of_block (a := ⟨gm, 0, none⟩) (B3.out.block _ lM)).trans (HA.out.box.frozen 0)), by have := g.size; have := B3.out.size; omega⟩
      have wcl : wc.heap.size ≤ wr.heap.size := HA.out.ord.2.2.2.2.2.2.2.2.2
      clear HXS Hz Hy HA C2 lM
      go_wp2_with (first
        | (at_builtin; refine wpList_append_own_at _ rfl _ _ 22 rfl wc.heap.size 52 i5 _ 3 40 Try.underlying22 hi5 hz50 hz51 hz52 rfl (by decide) v k xs rfl (row_keep GR.out B3.out) ⟨w2.heap.size, 0, none⟩ 1 1 [.slice (some ⟨g1, 0, none⟩) 2 c1, .int .i64 y, .bool z] rfl rfl (new_three w2 _ _ _ _) (one_three _ _ _ rfl rfl rfl) (by unfold maxLen; omega) (by omega) (Nat.le_trans wcl B3.out.size) ?_))
      intro v5 w5 hown hgrow _ hat
      have HRES := HSTEP.out w5 v5 hown hgrow (by rw [World.size_alloc]; exact hat)
      have HR2 : Hid (∃ v L C, OwnG W wc (w5.setCell ⟨gm, 0, none⟩ v5) s (W.heap.size + 1) gm gr cr (k + 1) v L C) := HRES
      obtain ⟨m5, fz5, l5⟩ := HM.out w5 hgrow
      obtain ⟨g5, c5, rfl⟩ := row_some15 hown (Nat.succ_pos _)
      clear hown hgrow hat HRES v0 lM2 HM HSTEP a0 a1 a2 al
      go_wp2
      go_roundw
      case rel =>
        obtain ⟨v', L', C', r⟩ := HR2.out
        exact ⟨k + 1, v', L', C', by omega, by go_num, r⟩
      case measure => simp [intOf]; omega
end Go.Proofs.Ytokaibpkajloeaa.walks
