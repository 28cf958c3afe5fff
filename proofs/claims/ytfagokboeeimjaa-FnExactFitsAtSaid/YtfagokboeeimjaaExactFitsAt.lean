/-
  Of every tree, place and pattern: the program tells whether it fits and which places it leaves as the specification does, each time in memory of its own; it writes into nothing that was there.
-/
import Derived.Test.YtfagokboeeimjaaRows
import Derived.WalkKit
import Derived.ProofKit
import Derived.OpenShut
import Derived.ShutString
import Derived.ChangeOld
import Derived.Below
import Derived.Carry
import Derived.Lib.SmallJoins
import Derived.SizedLaws
import Derived.Test.YtfagokboeeimjaaMagMath
import Derived.Test.YtfagokboeeimjaaTreeMath
import Derived.Test.YtfagokboeeimjaaInts
import Derived.Test.YtfagokboeeimjaaOwnInts
import Derived.Test.YtfagokboeeimjaaPats
import Derived.Test.YtfagokboeeimjaaOpenPats
import Derived.Test.YtfagokboeeimjaaFitMath
import Derived.Test.YtfagokboeeimjaaFitSpec
import Derived.Test.YtfagokboeeimjaaFitsAt9
import Derived.Test.YtfagokboeeimjaaFitsImpl9
import Derived.Test.YtfagokboeeimjaaMarks
namespace Go.Proofs.Ytfagokboeeimjaa.fnExactFitsAt
open Go.ChangeShapes Go.WideShapes Go.ChangeAt Go.RowKit
open Go.ChangeMaps (open_string shut_string)
open Go.Proofs.Ytfagokboeeimjaa.math
open Go.Proofs.Ytfagokboeeimjaa.ints
open Go.Proofs.Ytfagokboeeimjaa.walks
set_option linter.unusedVariables false

theorem own : ownKnob Try.prog.godebug = none := by kernel_rfl
theorem laidOut : laidOutB Try.prog = true := by kernel_rfl

/-- What is known of a slice of integers that came in: it is nil, or leads to a row of cells, the numbers zs, each fitting its kind. -/
def IsRow (k : IntKind) (w : World) (a : Option Addr) (len cap : Nat) (zs : List Int) : Prop :=
  (a = none ∧ len = 0 ∧ cap = 0 ∧ zs = []) ∨
  ∃ x, a = some x ∧ len ≤ cap ∧ cap ≤ maxLen ∧ zs.length = cap ∧ (∀ i, i < zs.length → w.cell? (x.add i) = some (.int k (zs.getD i 0))) ∧ ∀ n ∈ zs, (Lit.int k n).wf = true

theorem to_patN (ca : Option Addr) (len cc : Nat) (t : Int) (zs : List Int) (W : World) (hz : Hid (zs.length = len)) (hlen : len ≤ 1048576) (h : Hid (Ints W ca zs)) :
    Calls Try.prog 20 #[.agg #[.slice ca len cc, .int .i64 t]] W fun e W' => ∃ g, e = .returned (.agg #[.slice (some ⟨g, 0, none⟩) len len, .int .i64 t]) ∧ W.heap.size ≤ g ∧ Mine W' W.heap.size (some ⟨g, 0, none⟩) zs ∧ Below W.heap.size W W' := by
  obtain rfl := hz.out
  exact to_pat ca cc t zs W hlen h
theorem eq_patN (ca cb : Option Addr) (len cc cd : Nat) (t : Int) (zs : List Int) (W : World) (hz : Hid (zs.length = len)) (hlen : len ≤ 1048576) (h : Hid (Ints W ca zs)) (h' : Hid (Ints W cb zs)) :
    Calls Try.prog 22 #[.agg #[.slice ca len cc, .int .i64 t], .agg #[.slice cb len cd, .int .i64 t]] W fun e W' => e = .returned (.bool true) ∧ Below W.heap.size W W' := by
  obtain rfl := hz.out
  exact eq_pat ca cb cc cd t zs W hlen h h'
theorem only_cell {W W' : World} {B x o len b i : Nat} {v : Value} (hO : Only W W' B (some ⟨x, o, none⟩) len) (hb : b < W.heap.size) (hne : 0 < len → b ≠ x) (hc : W.cell? ⟨b, i, none⟩ = some v) : W'.cell? ⟨b, i, none⟩ = some v := by
  rcases hO.2 with rfl | ⟨h0, b', off, e, _, hg⟩
  · exact hc
  · simp only [Option.some.injEq, Addr.mk.injEq] at e
    obtain ⟨rfl, _⟩ := e
    exact hg.cell hc (by simpa using hne h0)
set_option maxHeartbeats 1000000 in
theorem mark_pat (s : Int) (hs0 : 0 ≤ s) (hs1 : s ≤ 100000000000) (g len cc : Nat) (c : Int) (zs : List Int) (W : World) (B : Nat) (hz : Hid (zs.length = len)) (hlen : len ≤ 1048576) (h : Hid (Mine W B (some ⟨g, 0, none⟩) zs)) :
    Calls Try.prog 24 #[.agg #[.slice (some ⟨g, 0, none⟩) len cc, .int .i64 c], .int .i64 s] W fun e W' => e = .returned (.int .i64 (s + (len : Int))) ∧ ∃ U, Below W.heap.size W U ∧ Only U W' B (some ⟨g, 0, none⟩) len := by
  go_enter Try.func24, Try.ntmps24
  go_wp2_with fail
  refine (mark_from s hs0 (by omega) _ _ _ zs _ B hz hlen (h.out.kept ((Below.refl _ _).alloc (Nat.le_refl _) _))).mono ?_
  rintro e w1 ⟨rfl, _, hO⟩
  have HO : Hid (Only (W.alloc (.cells #[.slice (some ⟨g, 0, none⟩) len cc, .int .i64 c] 38)) w1 B (some ⟨g, 0, none⟩) len) := hO
  clear hO
  go_wp2
  go_ret
  exact ⟨rfl, _, (Below.refl _ _).alloc (Nat.le_refl _) _, HO.out⟩
/-- Two boxes' cells. -/
def Bx (w : World) (b : Nat) (a : Option Addr) (len cc : Nat) (c : Int) : Prop := b < w.heap.size ∧ w.cell? ⟨b, 0, none⟩ = some (.slice a len cc) ∧ w.cell? ⟨b, 1, none⟩ = some (.int .i64 c)
theorem Bx.kept {w w' : World} {b : Nat} {a : Option Addr} {len cc : Nat} {c : Int} (h : Bx w b a len cc c) (hb : Below w.heap.size w w') : Bx w' b a len cc c :=
  ⟨Nat.lt_of_lt_of_le h.1 hb.size, (hb.cell (p := ⟨b, 0, none⟩) h.1).trans h.2.1, (hb.cell (p := ⟨b, 1, none⟩) h.1).trans h.2.2⟩
theorem Bx.only {w w' : World} {b : Nat} {a : Option Addr} {len cc : Nat} {c : Int} {B x o n : Nat} (h : Bx w b a len cc c) (hO : Only w w' B (some ⟨x, o, none⟩) n) (hne : 0 < n → b ≠ x) : Bx w' b a len cc c :=
  ⟨by rw [hO.1]; exact h.1, only_cell hO h.1 hne h.2.1, only_cell hO h.1 hne h.2.2⟩
theorem Bx.low {w w' : World} {b : Nat} {a : Option Addr} {len cc : Nat} {c : Int} {B : Nat} (h : Bx w b a len cc c) (hb : Below B w w') (hB : b < B) : Bx w' b a len cc c :=
  ⟨Nat.lt_of_lt_of_le h.1 hb.size, (World.cell?_of_block (hb.block _ hB)).trans h.2.1, (World.cell?_of_block (hb.block _ hB)).trans h.2.2⟩
theorem bx_new (w : World) (a : Option Addr) (len cc : Nat) (c : Int) (ty : TypeId) : Bx (w.alloc (.cells #[.slice a len cc, .int .i64 c] ty)) w.heap.size a len cc c := ⟨by simp, by simp, by simp⟩
theorem Bx.drew {w : World} {b : Nat} {a : Option Addr} {len cc : Nat} {c : Int} (h : Bx w b a len cc c) : Bx w.drew b a len cc c := h
set_option maxHeartbeats 16000000 in
set_option maxRecDepth 100000 in
theorem walk_of (a0 : Option Addr) (len0 cap0 : Nat) (t : List Int) (at0 : Int) (pa : Option Addr) (p : List Int) (pl pc : Nat) (c : Int) (ok : Bool) (hs : List Nat) (nl : Nat) (gd : Bool) (w : World) (hz : Hid (t.length = len0)) (hlen : len0 ≤ 1048576) (h : Hid (Ints w a0 t)) (hp : Hid (Ints w pa p)) (HZP : Hid (p.length = pl)) (hpm : pl ≤ 9223372036854775807) (HR : Hid (fitsR t p c at0 = ⟨ok, hs, gd⟩)) (hnl : Hid ((asI hs).length = nl)) :
    Calls Try.prog 5 #[.slice a0 len0 cap0, .int .i64 at0, .agg #[.slice pa pl pc, .int .i64 c]] w fun e w' => e = .returned (.bool true) ∧ Below w.heap.size w w' := by
  have hl1 : (len0 : Int) ≤ 1048576 := by omega
  have HNL : Hid (hs.length = nl) := by show _ = _; rw [← hnl.out, asI_len]
  obtain ⟨E, hE⟩ : ∃ E, Hid (w.alloc (.cells #[.slice pa pl pc, .int .i64 c] 34) = E) := ⟨_, rfl⟩
  have B0 : Hid (Below w.heap.size w E) := by show Below _ _ _; rw [← hE.out]; exact (Below.refl _ _).alloc (Nat.le_refl _) _
  have bp : Hid (Bx E w.heap.size pa pl pc c) := by show Bx _ _ _ _ _ _; rw [← hE.out]; exact bx_new _ _ _ _ _ _
  have p0 := bp.out.2.1
  have p1 := bp.out.2.2
  have lt0 := bp.out.1
  go_enter Try.func5, Try.ntmps5
  go_wp2_with fail
  rw [hE.out]
  refine (sz_pat _ _ _ _ _ _ (by omega) (by omega) (by omega)).mono ?_
  by_cases hps : (pl : Int) ≤ 1048576
  rotate_left
  · rw [if_neg hps]
    rintro e w1 ⟨rfl, hB⟩
    have B1 : Hid (Below w.heap.size w w1) := bel2P B0.out hB
    clear hB
    go_wp2
    go_ret
    exact ⟨rfl, B1.out⟩
  rw [if_pos hps]
  have hpl : pl ≤ 1048576 := by omega
  rintro e w1 ⟨rfl, hB⟩
  have B1 : Hid (Below w.heap.size w w1) := bel2P B0.out hB
  have bp1 : Hid (Bx w1 w.heap.size pa pl pc c) := bp.out.kept hB
  have p0 := bp1.out.2.1
  have p1 := bp1.out.2.2
  have lt0 := bp1.out.1
  have hleft : 0 ≤ (1048576 : Int) - (pl : Int) := by omega
  clear hB hE bp
  go_wp2_with fail
  have BD1 : Hid (Below w.heap.size w w1.drew) := B1.out.drew
  have q1 := bp1.out.2
  have qd1 : w1.drew.cell? ⟨w.heap.size, 0, none⟩ = some (.slice pa pl pc) ∧ w1.drew.cell? ⟨w.heap.size, 1, none⟩ = some (.int .i64 c) := bp1.out.drew.2
  go_region_held3 (fun w' => w'.cell? ⟨w.heap.size, 0, none⟩ = some (.slice pa pl pc) ∧ w'.cell? ⟨w.heap.size, 1, none⟩ = some (.int .i64 c)) (first | assumption | exact q1 | exact qd1 | exact q2 | exact q3 | exact q4 | go_keep) (first
    | (go_at_call 10; refine (to_ints _ _ _ t _ hz hlen (h.out.kept BD1.out)).mono ?_; rintro e w2 ⟨rfl, hM, hB⟩; have B2 : Hid (Below w.heap.size w w2) := BD1.out.trans (hB.mono BD1.out.size); have bp2 : Hid (Bx w2 w.heap.size pa pl pc c) := (Bx.drew bp1.out).kept hB; have q2 := bp2.out.2; have A0_2 : Hid (Mine w2 w1.drew.heap.size (some ⟨w1.drew.heap.size, 0, none⟩) t) := hM; clear hM hB)
    | (go_at_call 20; refine (to_patN _ _ _ _ p _ HZP hpl (hp.out.kept B2.out)).mono ?_; rintro e w3 ⟨g3, rfl, hg, hM, hB⟩; have B3 : Hid (Below w.heap.size w w3) := B2.out.trans (hB.mono B2.out.size); have bp3 : Hid (Bx w3 w.heap.size pa pl pc c) := bp2.out.kept hB; have q3 := bp3.out.2; have A0_3 := A0_2.out.kept hB; have P_3 : Hid (Mine w3 w2.heap.size (some ⟨g3, 0, none⟩) p) := hM; clear hM hB hg)
    | (go_at_call 19; refine (spec_fitsat _ _ _ _ t _ _ _ _ p _ hz hlen HZP hpl A0_3.ints P_3.out.ints).mono ?_; rw [HR.out]; rintro e w4 ⟨sa4, sc4, rfl, hl10, hM, hB⟩; have B4 : Hid (Below w.heap.size w w4) := B3.out.trans (hB.mono B3.out.size); have bp4 : Hid (Bx w4 w.heap.size pa pl pc c) := bp3.out.kept hB; have q4 := bp4.out.2; have S_4 : Hid (Mine w4 w3.heap.size sa4 (asI hs)) := hM; clear hM hB A0_3 P_3))
  have S0 : Hid (Ints w4 sa4 (asI hs)) := S_4.out.ints
  have BS4 : Hid (Below w4.heap.size w4 w4) := Below.refl _ _
  have p0 := bp4.out.2.1
  have p1 := bp4.out.2.2
  have lt0 := bp4.out.1
  rw [HNL.out]
  go_wp2_with fail
  refine (to_ints _ _ _ t _ hz hlen (h.out.kept B4.out)).mono ?_
  rintro e w5 ⟨rfl, hM, hB⟩
  have B5 : Hid (Below w.heap.size w w5) := B4.out.trans (hB.mono B4.out.size)
  have bp5 : Hid (Bx w5 w.heap.size pa pl pc c) := bp4.out.kept hB
  have BS5 : Hid (Below w4.heap.size w4 w5) := BS4.out.trans (hB.mono BS4.out.size)
  have SZ5 : Hid (w4.heap.size ≤ w5.heap.size) := hB.size
  have X0_5 : Hid (Mine w5 w4.heap.size (some ⟨w4.heap.size, 0, none⟩) t) := hM
  have HX0 : Hid (0 < len0 → w4.heap.size < w5.heap.size) := fun h0 => mine_lt hM (by have := hz.out; omega)
  have p0 := bp5.out.2.1
  have p1 := bp5.out.2.2
  have lt0 := bp5.out.1
  clear hM hB
  go_wp2_with fail
  refine (to_patN _ _ _ _ p _ HZP hpl (hp.out.kept B5.out)).mono ?_
  rintro e w6 ⟨gx, rfl, hg, hM, hB⟩
  have B6 : Hid (Below w.heap.size w w6) := B5.out.trans (hB.mono B5.out.size)
  have bp6 : Hid (Bx w6 w.heap.size pa pl pc c) := bp5.out.kept hB
  have BS6 : Hid (Below w4.heap.size w4 w6) := BS5.out.trans (hB.mono BS5.out.size)
  have X0_6 : Hid (Mine w6 w4.heap.size (some ⟨w4.heap.size, 0, none⟩) t) := X0_5.out.kept hB
  have SZ6 : Hid (w5.heap.size ≤ w6.heap.size) := hB.size
  have X2_6 : Hid (Mine w6 w5.heap.size (some ⟨gx, 0, none⟩) p) := hM
  have HG : Hid (w5.heap.size ≤ gx) := hg
  have HX2 : Hid (0 < pl → gx < w6.heap.size) := fun h0 => mine_lt hM (by have := HZP.out; omega)
  have p0 := bp6.out.2.1
  have p1 := bp6.out.2.2
  have lt0 := bp6.out.1
  clear hM hB hg
  obtain ⟨w7, hw7⟩ : ∃ w7, Hid (w6.alloc (.cells #[.slice (some ⟨gx, 0, none⟩) pl pl, .int .i64 c] 38) = w7) := ⟨_, rfl⟩
  have HB7 : Hid (Below w6.heap.size w6 w7) := by show Below _ _ _; rw [← hw7.out]; exact (Below.refl _ _).alloc (Nat.le_refl _) _
  have hs7 : w7.heap.size = w6.heap.size + 1 := by rw [← hw7.out]; simp
  have bx_7 : Hid (Bx w7 w6.heap.size (some ⟨gx, 0, none⟩) pl pl c) := by show Bx _ _ _ _ _ _; rw [← hw7.out]; exact bx_new _ _ _ _ _ _
  have B7 : Hid (Below w.heap.size w w7) := B6.out.trans (HB7.out.mono B6.out.size)
  have bp7 : Hid (Bx w7 w.heap.size pa pl pc c) := bp6.out.kept HB7.out
  have BS7 : Hid (Below w4.heap.size w4 w7) := BS6.out.trans (HB7.out.mono BS6.out.size)
  have X0_7 : Hid (Mine w7 w4.heap.size (some ⟨w4.heap.size, 0, none⟩) t) := X0_6.out.kept HB7.out
  have X2_7 : Hid (Mine w7 w5.heap.size (some ⟨gx, 0, none⟩) p) := X2_6.out.kept HB7.out
  have p0 := bp7.out.2.1
  have p1 := bp7.out.2.2
  have lt0 := bp7.out.1
  have x0 := bx_7.out.2.1
  have x1 := bx_7.out.2.2
  have ltx := bx_7.out.1
  go_wp2_with fail
  rw [hw7.out]
  clear hw7
  refine (impl_fitsat _ _ _ _ t _ _ _ _ p _ hz hlen (Nat.le_refl _) (by unfold maxLen; omega) HZP hpl X0_7.out.ints X2_7.out.ints).mono ?_
  rw [HR.out]
  rintro e w8 ⟨ga, gc, rfl, hl10, hM, hB⟩
  have B8 : Hid (Below w.heap.size w w8) := B7.out.trans (hB.mono B7.out.size)
  have bp8 : Hid (Bx w8 w.heap.size pa pl pc c) := bp7.out.kept hB
  have BS8 : Hid (Below w4.heap.size w4 w8) := BS7.out.trans (hB.mono BS7.out.size)
  have X0_8 : Hid (Mine w8 w4.heap.size (some ⟨w4.heap.size, 0, none⟩) t) := X0_7.out.kept hB
  have X2_8 : Hid (Mine w8 w5.heap.size (some ⟨gx, 0, none⟩) p) := X2_7.out.kept hB
  have bx_8 : Hid (Bx w8 w6.heap.size (some ⟨gx, 0, none⟩) pl pl c) := bx_7.out.kept hB
  have G_8 : Hid (Mine w8 w7.heap.size ga (asI hs)) := hM
  have SZ8 : Hid (w7.heap.size ≤ w8.heap.size) := hB.size
  have hn10 : nl ≤ 10 := by have := HNL.out; simp only at hl10; omega
  have hnI : (nl : Int) ≤ 10 := by omega
  have p0 := bp8.out.2.1
  have p1 := bp8.out.2.2
  have lt0 := bp8.out.1
  have x0 := bx_8.out.2.1
  have x1 := bx_8.out.2.2
  have ltx := bx_8.out.1
  clear hM hB hl10
  have e0 : ∀ b : Bool, (b != b) = false := fun b => by cases b <;> rfl
  have e1 := e0 ok
  have e2 := e0 gd
  simp only [HNL.out]
  go_wp2_with fail
  refine (eq_ints _ _ _ _ _ (asI hs) _ hnl (by omega) G_8.out.ints (S0.out.kept BS8.out)).mono ?_
  rintro e w9 ⟨rfl, hB⟩
  have B9 : Hid (Below w.heap.size w w9) := B8.out.trans (hB.mono B8.out.size)
  have bp9 : Hid (Bx w9 w.heap.size pa pl pc c) := bp8.out.kept hB
  have BS9 : Hid (Below w4.heap.size w4 w9) := BS8.out.trans (hB.mono BS8.out.size)
  have X0_9 : Hid (Mine w9 w4.heap.size (some ⟨w4.heap.size, 0, none⟩) t) := X0_8.out.kept hB
  have X2_9 : Hid (Mine w9 w5.heap.size (some ⟨gx, 0, none⟩) p) := X2_8.out.kept hB
  have bx_9 : Hid (Bx w9 w6.heap.size (some ⟨gx, 0, none⟩) pl pl c) := bx_8.out.kept hB
  have G_9 : Hid (Mine w9 w7.heap.size ga (asI hs)) := G_8.out.kept hB
  have p0 := bp9.out.2.1
  have p1 := bp9.out.2.2
  have lt0 := bp9.out.1
  have x0 := bx_9.out.2.1
  have x1 := bx_9.out.2.2
  have ltx := bx_9.out.1
  clear hB
  go_wp2_with fail
  refine (to_ints _ _ _ t _ hz hlen (h.out.kept B9.out)).mono ?_
  rintro e w10 ⟨rfl, hM, hB⟩
  have B10 : Hid (Below w.heap.size w w10) := B9.out.trans (hB.mono B9.out.size)
  have bp10 : Hid (Bx w10 w.heap.size pa pl pc c) := bp9.out.kept hB
  have BS10 : Hid (Below w4.heap.size w4 w10) := BS9.out.trans (hB.mono BS9.out.size)
  have X0_10 : Hid (Mine w10 w4.heap.size (some ⟨w4.heap.size, 0, none⟩) t) := X0_9.out.kept hB
  have X2_10 : Hid (Mine w10 w5.heap.size (some ⟨gx, 0, none⟩) p) := X2_9.out.kept hB
  have bx_10 : Hid (Bx w10 w6.heap.size (some ⟨gx, 0, none⟩) pl pl c) := bx_9.out.kept hB
  have G_10 : Hid (Mine w10 w7.heap.size ga (asI hs)) := G_9.out.kept hB
  have Z0_10 : Hid (Mine w10 w9.heap.size (some ⟨w9.heap.size, 0, none⟩) t) := hM
  have p0 := bp10.out.2.1
  have p1 := bp10.out.2.2
  have lt0 := bp10.out.1
  have x0 := bx_10.out.2.1
  have x1 := bx_10.out.2.2
  have ltx := bx_10.out.1
  clear hM hB
  go_wp2_with fail
  refine (eq_ints _ _ _ _ _ t _ hz hlen X0_10.out.ints Z0_10.out.ints).mono ?_
  rintro e w11 ⟨rfl, hB⟩
  have B11 : Hid (Below w.heap.size w w11) := B10.out.trans (hB.mono B10.out.size)
  have bp11 : Hid (Bx w11 w.heap.size pa pl pc c) := bp10.out.kept hB
  have BS11 : Hid (Below w4.heap.size w4 w11) := BS10.out.trans (hB.mono BS10.out.size)
  have X0_11 : Hid (Mine w11 w4.heap.size (some ⟨w4.heap.size, 0, none⟩) t) := X0_10.out.kept hB
  have X2_11 : Hid (Mine w11 w5.heap.size (some ⟨gx, 0, none⟩) p) := X2_10.out.kept hB
  have bx_11 : Hid (Bx w11 w6.heap.size (some ⟨gx, 0, none⟩) pl pl c) := bx_10.out.kept hB
  have G_11 : Hid (Mine w11 w7.heap.size ga (asI hs)) := G_10.out.kept hB
  have p0 := bp11.out.2.1
  have p1 := bp11.out.2.2
  have lt0 := bp11.out.1
  have x0 := bx_11.out.2.1
  have x1 := bx_11.out.2.2
  have ltx := bx_11.out.1
  clear hB
  go_wp2_with fail
  have BD11 : Hid (Below w.heap.size w w11.drew) := B11.out.drew
  have q11 := And.intro bp11.out.2 bp11.out.drew.2
  have q11 := And.intro bp11.out.2 bx_11.out.2
  have qd11 := And.intro bp11.out.drew.2 bx_11.out.drew.2
  go_region_held3 (fun w' => (w'.cell? ⟨w.heap.size, 0, none⟩ = some (.slice pa pl pc) ∧ w'.cell? ⟨w.heap.size, 1, none⟩ = some (.int .i64 c)) ∧ (w'.cell? ⟨w6.heap.size, 0, none⟩ = some (.slice (some ⟨gx, 0, none⟩) pl pl) ∧ w'.cell? ⟨w6.heap.size, 1, none⟩ = some (.int .i64 c))) (first | assumption | exact q11 | exact qd11 | exact q12 | exact q13 | go_keep) (first
    | (go_at_call 20; refine (to_patN _ _ _ _ p _ HZP hpl (hp.out.kept BD11.out)).mono ?_; rintro e w12 ⟨g12, rfl, hg, hM, hB⟩; have B12 : Hid (Below w.heap.size w w12) := BD11.out.trans (hB.mono BD11.out.size); have bp12 : Hid (Bx w12 w.heap.size pa pl pc c) := bp11.out.drew.kept hB; have BS12 : Hid (Below w4.heap.size w4 w12) := BS11.out.drew.trans (hB.mono BS11.out.drew.size); have X0_12 : Hid (Mine w12 w4.heap.size (some ⟨w4.heap.size, 0, none⟩) t) := (X0_11.out.kept ((Below.refl _ _).drew)).kept hB; have X2_12 : Hid (Mine w12 w5.heap.size (some ⟨gx, 0, none⟩) p) := (X2_11.out.kept ((Below.refl _ _).drew)).kept hB; have bx_12 : Hid (Bx w12 w6.heap.size (some ⟨gx, 0, none⟩) pl pl c) := (bx_11.out.kept ((Below.refl _ _).drew)).kept hB; have G_12 : Hid (Mine w12 w7.heap.size ga (asI hs)) := (G_11.out.kept ((Below.refl _ _).drew)).kept hB; have P_12 : Hid (Mine w12 w11.drew.heap.size (some ⟨g12, 0, none⟩) p) := hM; have q12 := And.intro bp12.out.2 bx_12.out.2; clear hM hB hg)
    | (go_at_call 22; refine (eq_patN _ _ _ _ _ _ p _ HZP hpl X2_12.out.ints P_12.out.ints).mono ?_; rintro e w13 ⟨rfl, hB⟩; have B13 : Hid (Below w.heap.size w w13) := B12.out.trans (hB.mono B12.out.size); have bp13 : Hid (Bx w13 w.heap.size pa pl pc c) := bp12.out.kept hB; have BS13 : Hid (Below w4.heap.size w4 w13) := BS12.out.trans (hB.mono BS12.out.size); have X0_13 : Hid (Mine w13 w4.heap.size (some ⟨w4.heap.size, 0, none⟩) t) := X0_12.out.kept hB; have X2_13 : Hid (Mine w13 w5.heap.size (some ⟨gx, 0, none⟩) p) := X2_12.out.kept hB; have bx_13 : Hid (Bx w13 w6.heap.size (some ⟨gx, 0, none⟩) pl pl c) := bx_12.out.kept hB; have G_13 : Hid (Mine w13 w7.heap.size ga (asI hs)) := G_12.out.kept hB; have q13 := And.intro bp13.out.2 bx_13.out.2; clear hB))
  have p0 := bp13.out.2.1
  have p1 := bp13.out.2.2
  have lt0 := bp13.out.1
  have x0 := bx_13.out.2.1
  have x1 := bx_13.out.2.2
  have ltx := bx_13.out.1
  have LT4 : Hid (w.heap.size < w4.heap.size) := bp4.out.1
  go_wp2_with fail
  refine (mark_from 1 (by omega) (by omega) _ _ _ t _ _ hz hlen X0_13).mono ?_
  rintro e w14 ⟨rfl, _, hO⟩
  have B14 : Hid (Below w.heap.size w w14) := B13.out.trans (hO.below.mono B4.out.size)
  have BS14 : Hid (Below w4.heap.size w4 w14) := BS13.out.trans (hO.below.mono (Nat.le_refl _))
  have bp14 : Hid (Bx w14 w.heap.size pa pl pc c) := bp13.out.only hO (fun h0 => by have := LT4.out; omega)
  have bx_14 : Hid (Bx w14 w6.heap.size (some ⟨gx, 0, none⟩) pl pl c) := bx_13.out.only hO (fun h0 => by have := HX0.out h0; have := SZ6.out; omega)
  have X2_14 : Hid (Mine w14 w5.heap.size (some ⟨gx, 0, none⟩) p) := hO.new (fun h0 => HX0.out h0) X2_13.out
  have G_14 : Hid (Mine w14 w7.heap.size ga (asI hs)) := hO.new (fun h0 => by have := HX0.out h0; have := SZ6.out; omega) G_13.out
  have p0 := bp14.out.2.1
  have p1 := bp14.out.2.2
  have lt0 := bp14.out.1
  have x0 := bx_14.out.2.1
  have x1 := bx_14.out.2.2
  have ltx := bx_14.out.1
  clear hO
  have hk0 : (0 : Int) ≤ 1 + (len0 : Int) := by omega
  go_wp2_with fail
  refine (mark_pat (1 + (len0 : Int)) hk0 (by omega) _ _ _ _ p _ _ HZP hpl X2_14).mono ?_
  rintro e w15 ⟨rfl, U, hU, hO⟩
  have B15 : Hid (Below w.heap.size w w15) := (B14.out.trans (hU.mono B14.out.size)).trans (hO.below.mono B5.out.size)
  have BS15 : Hid (Below w4.heap.size w4 w15) := (BS14.out.trans (hU.mono BS14.out.size)).trans (hO.below.mono BS5.out.size)
  have bp15 : Hid (Bx w15 w.heap.size pa pl pc c) := (bp14.out.kept hU).only hO (fun h0 => by have := LT4.out; have := SZ5.out; have := HG.out; omega)
  have G_15 : Hid (Mine w15 w7.heap.size ga (asI hs)) := hO.new (fun h0 => by have := HX2.out h0; omega) (G_14.out.kept hU)
  have hk1 : (0 : Int) ≤ 1 + (len0 : Int) + (pl : Int) := by omega
  have p0 := bp15.out.2.1
  have p1 := bp15.out.2.2
  have lt0 := bp15.out.1
  clear hO hU x0 x1 ltx
  go_wp2_with fail
  refine (eq_ints _ _ _ _ _ (asI hs) _ hnl (by omega) G_15.out.ints (S0.out.kept BS15.out)).mono ?_
  rintro e w16 ⟨rfl, hB⟩
  have B16 : Hid (Below w.heap.size w w16) := B15.out.trans (hB.mono B15.out.size)
  have bp16 : Hid (Bx w16 w.heap.size pa pl pc c) := bp15.out.kept hB
  have BS16 : Hid (Below w4.heap.size w4 w16) := BS15.out.trans (hB.mono BS15.out.size)
  have G_16 : Hid (Mine w16 w7.heap.size ga (asI hs)) := G_15.out.kept hB
  have p0 := bp16.out.2.1
  have p1 := bp16.out.2.2
  have lt0 := bp16.out.1
  clear hB
  go_wp2_with fail
  refine (mark_from 1 (by omega) (by omega) _ _ _ (asI hs) _ _ hnl (by omega) G_16).mono ?_
  rintro e w17 ⟨rfl, hM, hO⟩
  have B17 : Hid (Below w.heap.size w w17) := B16.out.trans (hO.below.mono B7.out.size)
  have S0_17 : Hid (Ints w17 sa4 (asI hs)) := S0.out.kept (BS16.out.trans (hO.below.mono BS7.out.size))
  have bp17 : Hid (Bx w17 w.heap.size pa pl pc c) := bp16.out.low hO.below (by have := bp7.out.1; omega)
  have G_17 : Hid (Mine w17 w7.heap.size ga (upFrom 1 nl)) := hM
  have p0 := bp17.out.2.1
  have p1 := bp17.out.2.2
  have lt0 := bp17.out.1
  clear hM hO
  go_wp2_with fail
  refine (held_from 1 (by omega) (by omega) _ _ _ _ (by omega) G_17.out.ints).mono ?_
  rintro e w' ⟨rfl, hw⟩
  rw [hw]
  clear hw w'
  have hq0 : (0 : Int) ≤ 1 + (nl : Int) := by omega
  go_wp2_with fail
  have BD17 : Hid (Below w.heap.size w w17.drew) := B17.out.drew
  have q17 := bp17.out.2
  have qd17 : w17.drew.cell? ⟨w.heap.size, 0, none⟩ = some (.slice pa pl pc) ∧ w17.drew.cell? ⟨w.heap.size, 1, none⟩ = some (.int .i64 c) := bp17.out.drew.2
  go_region_held3 (fun w' => w'.cell? ⟨w.heap.size, 0, none⟩ = some (.slice pa pl pc) ∧ w'.cell? ⟨w.heap.size, 1, none⟩ = some (.int .i64 c)) (first | assumption | exact q17 | exact qd17 | exact q18 | exact q19 | exact q20 | go_keep) (first
    | (go_at_call 10; refine (to_ints _ _ _ t _ hz hlen (h.out.kept BD17.out)).mono ?_; rintro e w18 ⟨rfl, hM, hB⟩; have B18 : Hid (Below w.heap.size w w18) := BD17.out.trans (hB.mono BD17.out.size); have bp18 : Hid (Bx w18 w.heap.size pa pl pc c) := (Bx.drew bp17.out).kept hB; have q18 := bp18.out.2; have A0_18 : Hid (Mine w18 w17.drew.heap.size (some ⟨w17.drew.heap.size, 0, none⟩) t) := hM; have G_18 : Hid (Mine w18 w7.heap.size ga (upFrom 1 nl)) := (G_17.out.kept ((Below.refl _ _).drew)).kept hB; have S0_18 : Hid (Ints w18 sa4 (asI hs)) := (S0_17.out.kept ((Below.refl _ _).drew)).kept hB; clear hM hB)
    | (go_at_call 20; refine (to_patN _ _ _ _ p _ HZP hpl (hp.out.kept B18.out)).mono ?_; rintro e w19 ⟨g19, rfl, hg, hM, hB⟩; have B19 : Hid (Below w.heap.size w w19) := B18.out.trans (hB.mono B18.out.size); have bp19 : Hid (Bx w19 w.heap.size pa pl pc c) := bp18.out.kept hB; have q19 := bp19.out.2; have A0_19 := A0_18.out.kept hB; have P_19 : Hid (Mine w19 w18.heap.size (some ⟨g19, 0, none⟩) p) := hM; have G_19 : Hid (Mine w19 w7.heap.size ga (upFrom 1 nl)) := G_18.out.kept hB; have S0_19 : Hid (Ints w19 sa4 (asI hs)) := S0_18.out.kept hB; clear hM hB hg)
    | (go_at_call 21; refine (impl_fitsat _ _ _ _ t _ _ _ _ p _ hz hlen (Nat.le_refl _) (by unfold maxLen; omega) HZP hpl A0_19.ints P_19.out.ints).mono ?_; rw [HR.out]; rintro e w20 ⟨sa20, sc20, rfl, hl10, hM, hB⟩; have B20 : Hid (Below w.heap.size w w20) := B19.out.trans (hB.mono B19.out.size); have bp20 : Hid (Bx w20 w.heap.size pa pl pc c) := bp19.out.kept hB; have q20 := bp20.out.2; have S_20 : Hid (Mine w20 w19.heap.size sa20 (asI hs)) := hM; have G_20 : Hid (Mine w20 w7.heap.size ga (upFrom 1 nl)) := G_19.out.kept hB; have S0_20 : Hid (Ints w20 sa4 (asI hs)) := S0_19.out.kept hB; clear hM hB A0_19 P_19))
  have p0 := bp20.out.2.1
  have p1 := bp20.out.2.2
  have lt0 := bp20.out.1
  simp only [HNL.out]
  go_wp2_with fail
  refine (eq_ints _ _ _ _ _ (asI hs) _ hnl (by omega) S_20.out.ints S0_20.out).mono ?_
  rintro e w21 ⟨rfl, hB⟩
  have B21 : Hid (Below w.heap.size w w21) := B20.out.trans (hB.mono B20.out.size)
  have G_21 : Hid (Mine w21 w7.heap.size ga (upFrom 1 nl)) := G_20.out.kept hB
  clear hB
  go_wp2_with fail
  refine (held_from 1 (by omega) (by omega) _ _ _ _ (by omega) G_21.out.ints).mono ?_
  rintro e w' ⟨rfl, hw⟩
  rw [hw]
  clear hw w'
  go_wp2
  go_ret
  exact ⟨rfl, B21.out⟩
theorem row_ints {W : World} {a : Option Addr} {len cap : Nat} {z : List Int} (h : IsRow .i64 W a len cap z) : ∃ zs : List Int, zs.length = len ∧ Ints W a zs := by
  rcases h with ⟨rfl, rfl, rfl, rfl⟩ | ⟨x, rfl, hl, hm, hz, hc, _⟩
  · exact ⟨[], rfl, Or.inl rfl⟩
  · refine ⟨z.take len, by rw [List.length_take]; omega, ?_⟩
    by_cases h0 : len = 0
    · subst h0; exact Or.inl (by simp)
    · obtain ⟨b, off, spot⟩ := x
      have c0 := hc 0 (by omega)
      have hs : spot = none := by simpa [Addr.add] using World.cell?_spot c0
      subst hs
      have ha : ∀ i, (⟨b, off, none⟩ : Addr).add i = ⟨b, off + i, none⟩ := fun i => by
        unfold Addr.add
        split
        · rename_i h; subst h; rfl
        · rfl
      have hb : b < W.heap.size := by simpa [Addr.add] using World.block_lt_of_cell? W _ c0
      refine Or.inr ⟨b, off, rfl, hb, fun i hi => ?_⟩
      rw [List.length_take] at hi
      rw [← ha, hc i (by omega)]
      simp [List.getD, show i < len by omega]
theorem walk (a0 : Option Addr) (len0 cap0 : Nat) (z0 : List Int) (a1 : Int) (w1 : (Lit.int .i64 a1).wf = true) (a2 : Option Addr) (z2 : List Int) (c2 : Nat) (n2 : Int) (w : World) (w0 : IsRow .i64 w a0 len0 cap0 z0) (b0 : len0 ≤ 140737488351232) (w2 : Ints w a2 z2) (b2 : z2.length ≤ maxLen) :
    Calls Try.prog 5 #[.slice a0 len0 cap0, .int .i64 a1, .agg #[.slice a2 z2.length c2, .int .i64 n2]] w fun e w' => e = .returned (.bool true) ∧ Below w.heap.size w w' := by
  by_cases h1 : len0 ≤ 1048576
  · obtain ⟨zs, hz, hi⟩ := row_ints w0
    obtain ⟨⟨ok, hs, gd⟩, hr⟩ : ∃ r, fitsR zs z2 n2 a1 = r := ⟨_, rfl⟩
    exact walk_of a0 len0 cap0 zs a1 a2 z2 z2.length c2 n2 ok hs _ gd w hz h1 hi w2 rfl (Nat.le_trans b2 (by unfold maxLen; omega)) hr rfl
  · have hno : 1048576 < (len0 : Int) := by omega
    go_enter Try.func5, Try.ntmps5
    go_wp2
    go_ret
    exact ⟨rfl, (Below.refl _ _).alloc (Nat.le_refl _) _⟩

set_option maxRecDepth 100000 in
theorem lifted (os : Os) (started : os.Started) (H : Type) (enc : TypeId × Value → H) :
    ReturnsInHanded {} Try.checked os 5 .any (Rows.fnExactFitsAtSpec.pre6 enc Try.prog Try.f5 Rows.fnExactFitsAtRow.domain false) (Rows.fnExactFitsAtSpec.post enc Try.prog Try.f5 false true false false) := by
  refine returnsInHanded_of_change_sized (C := Try.checked) own started (by kernel_rfl) Try.func5
    (ChangeSpec.witness6 (enc := enc) (C := Try.checked) false ⟨#[], #[.slice none 0 0, .int .i64 0, .agg #[.slice none 0 0, .int .i64 0]], []⟩ 8 (by kernel_rfl) (by kernel_rfl) (by kernel_rfl) (by kernel_rfl)) ?_
  intro W base args ds gs before hval0 hW hcnd hsz0 _
  have hval : ∀ (j : Nat) t v, Try.f5.params[j]? = some t → args[j]? = some v → Value.okWide Try.prog W .any base t v := hval0
  have hW' := hW
  obtain ⟨p, q, hA0, hV, rfl, hfz, hnd⟩ := hW
  have hsz : (DataW.weightsEach Try.prog (Try.f5.params.toList ++ Rows.fnExactFitsAtSpec.plain.varTypes Try.prog) (ds ++ gs)).all (· ≤ reachBytes) = true := hsz0
  have hA : DataW.TrodAll enc Try.prog W 0 (fun _ => true) true Try.f5.params.toList args.toList ds p := hA0
  rw [Try.params5] at hA hval hsz
  obtain ⟨v0, vs0, d0, ds0, p0, q0, hargs, rfl, rfl, h0, r0⟩ := trodAll_cons hA
  obtain ⟨v1, vs1, d1, ds1, p1, q1, rfl, rfl, rfl, h1, r1⟩ := trodAll_cons r0
  obtain ⟨v2, vs2, d2, ds2, p2, q2, rfl, rfl, rfl, h2, r2⟩ := trodAll_cons r1
  obtain ⟨rfl, rfl, rfl⟩ := trodAll_nil r2
  obtain rfl : args = #[v0, v1, v2] := by cases args; simp_all
  obtain ⟨rfl, rfl⟩ := trodVars_none hV
  obtain ⟨a0, len0, cap0, rfl⟩ := okWide_slice Try.underlying22 (hval 0 22 v0 rfl rfl)
  have k0 := h0
  have lt0 : ∀ x ∈ p0, x.block < W.heap.size := by obtain ⟨m, hm⟩ := k0; exact DataW.trod_lt m _ _ _ hm
  obtain ⟨z0, w0, b0⟩ : ∃ zs, IsRow .i64 W a0 len0 cap0 zs ∧ len0 ≤ 140737488351232 := by
    obtain ⟨fuel, hf⟩ := h0
    rcases open_ints Try.underlying22 Try.underlying3 (by kernel_rfl) hf with ⟨hcs, _⟩ | ⟨x, l, c, zs, hcs, _, hl, hm, hz, hx, hcell, hwz⟩
    · simp [Value.cells] at hcs
      obtain ⟨rfl, rfl, rfl⟩ := hcs
      exact ⟨[], .inl ⟨rfl, rfl, rfl, rfl⟩, by omega⟩
    · simp [Value.cells] at hcs
      obtain ⟨rfl, rfl, rfl⟩ := hcs
      have hz' : zs.length = cap0 := by simpa using hz
      have hd : d0 = .slice (lits .i64 (zs.take len0)) (lits .i64 (zs.drop len0)) := congrArg Prod.fst hx
      have hs := sized_slice hsz (j := 0) (t := 22) (e := 3) rfl (by rw [hd]; rfl) Try.underlying22
      rw [show Try.prog.bytesOf 3 = 8 by kernel_rfl] at hs
      simp only [lits, List.length_map, List.length_take, List.length_drop, reachBytes] at hs
      exact ⟨zs, .inr ⟨_, rfl, hl, hm, hz', hcell, hwz⟩, by omega⟩
  have k1 := h1
  have lt1 : ∀ x ∈ p1, x.block < W.heap.size := by obtain ⟨m, hm⟩ := k1; exact DataW.trod_lt m _ _ _ hm
  obtain ⟨a1, rfl, rfl, rfl, w1⟩ := open_int Try.underlying3 (hval 1 3 v1 rfl rfl) h1
  have k2 := h2
  have lt2 : ∀ x ∈ p2, x.block < W.heap.size := by obtain ⟨m, hm⟩ := k2; exact DataW.trod_lt m _ _ _ hm
  obtain ⟨g2_0, g2_1, y2_0, y2_1, m2, rfl, rfl, rfl, hy2_0, hy2_1⟩ := Go.Joins.open_agg2 Try.underlying34 (by kernel_rfl) (show Try.prog.cellsOf 34 = 2 by kernel_rfl) (hval 2 34 v2 rfl rfl) h2
  obtain ⟨n2, e2_1, _, _⟩ := DataW.trod_int Try.underlying3 hy2_1
  obtain ⟨a2, z2, c2, e2_0, w2, b2⟩ := ints_in Try.underlying22 Try.underlying3 (show Try.prog.cellsOf 3 = 1 by kernel_rfl) hy2_0
  simp at e2_0 e2_1
  subst e2_0 e2_1
  clear hA0 hval0
  refine (walk a0 len0 cap0 z0 a1 w1 a2 z2 c2 n2 W w0 b0 w2 b2).mono fun e W' ⟨he, bel⟩ => ?_
  subst he
  exact ⟨_, rfl, _, _, _, [], _, [], hW', trodAll_mk1 (shut_bool Try.underlying4 _), (trodAll_cons_mk (Below.trod laidOut (by kernel_rfl) (of_decide_eq_true (by kernel_rfl)) k0 bel lt0) (trodAll_cons_mk (Below.trod laidOut (by kernel_rfl) (of_decide_eq_true (by kernel_rfl)) k1 bel lt1) (trodAll_cons_mk (Below.trod laidOut (by kernel_rfl) (of_decide_eq_true (by kernel_rfl)) k2 bel lt2) trodAll_mk0))), rfl, bel.frame _, fun h => by cases h⟩

theorem over : Rows.fnExactFitsAtRow.holds Try.pinned (OpenSpec.ofChange Rows.fnExactFitsAtSpec) :=
  OpenClaim.holds_of_wide 5 Try.f5 rfl rfl rfl rfl rfl rfl rfl ⟨rfl, rfl, rfl, rfl, rfl⟩ rfl rfl rfl rfl rfl (by kernel_rfl) Try.func5 (by kernel_rfl)
    (of_decide_eq_true (by kernel_rfl)) (by unfold Func.isWrapper; first | (rw [if_pos (by decide +kernel)]; kernel_rfl) | (rw [if_neg (by decide +kernel)]; exact ⟨rfl, rfl⟩))
    (fun os started H enc _ => lifted os started H enc)

theorem proved : Rows.FnExactFitsAtSaid :=
  over
#print axioms proved
end Go.Proofs.Ytfagokboeeimjaa.fnExactFitsAt
