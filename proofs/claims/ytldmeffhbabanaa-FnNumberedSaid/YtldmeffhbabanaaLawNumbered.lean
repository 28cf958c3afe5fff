/-
  Whatever bytes are handed in: of the code drawn the program's numbered code is the specification's, tells and leaves what the code did and costs no more; of the other code drawn cost and numbered code are the specification's; the bytes read as before.
-/
import Derived.Test.YtldmeffhbabanaaRows
import Derived.WalkKit
import Derived.ProofKit
import Derived.OpenShut
import Derived.ShutString
import Derived.ChangeOld
import Derived.Below
import Derived.Carry
import Derived.SizedLaws
import Derived.Test.YtldmeffhbabanaaMagMath
import Derived.Test.YtldmeffhbabanaaCodeMath
import Derived.Test.YtldmeffhbabanaaRunMath
import Derived.Test.YtldmeffhbabanaaInts
import Derived.Test.YtldmeffhbabanaaOwnInts
import Derived.Test.YtldmeffhbabanaaRecsInstr
import Derived.Test.YtldmeffhbabanaaCodeGood
import Derived.Test.YtldmeffhbabanaaStepsOf
import Derived.Test.YtldmeffhbabanaaRunImpl
import Derived.Test.YtldmeffhbabanaaCost
import Derived.Test.YtldmeffhbabanaaNumKeys
import Derived.Test.YtldmeffhbabanaaNumMath
import Derived.Test.YtldmeffhbabanaaNumCode
import Derived.Test.YtldmeffhbabanaaNumSpec
import Derived.Test.YtldmeffhbabanaaNumSpecW
import Derived.Test.YtldmeffhbabanaaNumSound
import Derived.Test.YtldmeffhbabanaaNumRight
import Derived.Test.YtldmeffhbabanaaCur
import Derived.Test.YtldmeffhbabanaaCurDraw
import Derived.Test.YtldmeffhbabanaaSameCode
namespace Go.Proofs.Ytldmeffhbabanaa.fnNumbered
open Go.ChangeShapes Go.WideShapes Go.ChangeAt Go.RowKit
open Go.ChangeMaps (open_string shut_string)
open Go.Proofs.Ytldmeffhbabanaa.math
open Go.Proofs.Ytldmeffhbabanaa.ints
open Go.Proofs.Ytldmeffhbabanaa.walks
open Go.Proofs.Ytldmeffhbabanaa.nums
open Go.Proofs.Ytldmeffhbabanaa.cur
set_option linter.unusedVariables false

theorem own : ownKnob Try.prog.godebug = none := by kernel_rfl
theorem laidOut : laidOutB Try.prog = true := by kernel_rfl

/-- What is known of a slice of integers that came in: it is nil, or leads to a row of cells, the numbers zs, each fitting its kind. -/
def IsRow (k : IntKind) (w : World) (a : Option Addr) (len cap : Nat) (zs : List Int) : Prop :=
  (a = none ∧ len = 0 ∧ cap = 0 ∧ zs = []) ∨
  ∃ x, a = some x ∧ len ≤ cap ∧ cap ≤ maxLen ∧ zs.length = cap ∧ (∀ i, i < zs.length → w.cell? (x.add i) = some (.int k (zs.getD i 0))) ∧ ∀ n ∈ zs, (Lit.int k n).wf = true

theorem src_of {w : World} {a : Option Addr} {len cap : Nat} {zs : List Int} (h : IsRow .u8 w a len cap zs) : Src w.heap.size a len w := by
  rcases h with ⟨_, rfl, _, _⟩ | ⟨x, rfl, hl, hm, hz, hcell, hwz⟩
  · exact Or.inl rfl
  · obtain ⟨b, off, spot⟩ := x
    by_cases h0 : len = 0
    · exact Or.inl h0
    · have hc := hcell 0 (by omega)
      have hspot : spot = none := by simpa [Addr.add] using World.cell?_spot hc
      subst hspot
      have hb : b < w.heap.size := by simpa [Addr.add] using World.block_lt_of_cell? w _ hc
      refine Or.inr ⟨b, off, rfl, hb, hb, fun i hi => ?_⟩
      have hi' : i < zs.length := by omega
      have e : zs.getD i 0 = zs[i] := by simp [List.getD, hi']
      have hbd := bounds_u8 (hwz zs[i] (List.getElem_mem hi'))
      have ha : (⟨b, off, none⟩ : Addr).add i = ⟨b, off + i, none⟩ := by
        unfold Addr.add
        split
        · rename_i h; subst h; rfl
        · rfl
      have hc1 := hcell i hi'
      rw [e, ha] at hc1
      exact ⟨zs[i], by omega, by omega, hc1⟩
theorem src_kept {w w' : World} {a : Option Addr} {len : Nat} (h : Src w.heap.size a len w) (hb : Below w.heap.size w w') : Src w'.heap.size a len w' := by
  rcases h with h | ⟨x, off, rfl, hx, hs, hc⟩
  · exact Or.inl h
  · refine Or.inr ⟨x, off, rfl, Nat.lt_of_lt_of_le hx hb.size, Nat.lt_of_lt_of_le hs hb.size, fun i hi => ?_⟩
    obtain ⟨z, z0, z1, hz⟩ := hc i hi
    exact ⟨z, z0, z1, (hb.cell (p := ⟨x, off + i, none⟩) hx).trans hz⟩

def ImplTells (k : Nat) (y r : List Int) (t : Nat) (c : Bool) : Prop := ∀ (W : World) (a : Option Addr) (cap : Nat), Ints W a y → Calls Try.prog 6 #[.slice a k cap] W fun e W' => ∃ g d, e = .returned (.tuple #[.slice g t d, .bool c]) ∧ Ints W' g r ∧ Below W.heap.size W W'
def SpecTells (k : Nat) (y r : List Int) (t : Nat) (c : Bool) : Prop := ∀ (W : World) (a : Option Addr) (cap : Nat), Ints W a y → Calls Try.prog 7 #[.slice a k cap] W fun e W' => ∃ g d, e = .returned (.tuple #[.slice g t d, .bool c]) ∧ Ints W' g r ∧ Below W.heap.size W W'
def RunTells (k : Nat) (y ws r1 : List Int) (t1 : Nat) (r2 : List Int) (t2 : Nat) (c : Bool) : Prop := ∀ (W : World) (a v : Option Addr) (cap cv : Nat), Ints W a y → Ints W v ws → Calls Try.prog 9 #[.slice a k cap, .slice v 8 cv] W fun e W' => ∃ g1 d1 g2 d2, e = .returned (.tuple #[.slice g1 t1 d1, .slice g2 t2 d2, .bool c]) ∧ Ints W' g1 r1 ∧ Ints W' g2 r2 ∧ Below W.heap.size W W'
def CostTells (k : Nat) (y : List Int) (v : Int) (c : Bool) : Prop := ∀ (W : World) (a : Option Addr) (cap : Nat), Ints W a y → Calls Try.prog 10 #[.slice a k cap] W fun e W' => e = .returned (.tuple #[.int .i64 v, .bool c]) ∧ Below W.heap.size W W'
def CostSaid (k : Nat) (y : List Int) (v : Int) (c : Bool) : Prop := ∀ (W : World) (a : Option Addr) (cap : Nat), Ints W a y → Calls Try.prog 13 #[.slice a k cap] W fun e W' => e = .returned (.tuple #[.int .i64 v, .bool c]) ∧ Below W.heap.size W W'
theorem told_out {c : Bool} {k : Nat} {fl : List Int} {W W' : World} {e : Ending} (h : CodeTold c k fl W e W') : ∃ g d, e = .returned (.tuple #[.slice g (if c then k else 0) d, .bool c]) ∧ Ints W' g (if c then fl else []) ∧ Below W.heap.size W W' := by
  rcases h with ⟨rfl, ⟨a, cap, rfl, hM⟩, hB⟩ | ⟨rfl, rfl, hB⟩
  · exact ⟨a, cap, rfl, hM.ints, hB⟩
  · exact ⟨none, 0, rfl, Or.inl rfl, hB⟩
theorem impl_num {k : Nat} {fl : List Int} (hz : fl.length = k * 5) (hk : k ≤ 31) : ImplTells k fl (if codeB fl k then outTo fl k else []) (if codeB fl k then k else 0) (codeB fl k) :=
  fun W a cap h => (impl_number a k cap fl W hz (by omega) h).mono fun e W' h => told_out h
theorem spec_num {k : Nat} {fl : List Int} (hz : fl.length = k * 5) (hk : k ≤ 31) : SpecTells k fl (if codeB fl k then outTo fl k else []) (if codeB fl k then k else 0) (codeB fl k) :=
  fun W a cap h => (spec_number a k cap fl W hz (by omega) h).mono fun e W' h => told_out h
theorem num_both (k : Nat) (fl : List Int) (hz : fl.length = k * 5) (hk : k ≤ 31) : ∃ (t : Nat) (c : Bool) (r : List Int), Hid (r.length = t * 5) ∧ t ≤ 31 ∧ Hid (ImplTells k fl r t c) ∧ Hid (SpecTells k fl r t c) := by
  refine ⟨_, _, _, ?_, ?_, impl_num hz hk, spec_num hz hk⟩
  · show _ = _
    cases codeB fl k
    · rfl
    · exact out_len _ _
  · cases codeB fl k
    · exact Nat.zero_le _
    · exact hk
theorem cost_told {k : Nat} {fl : List Int} {W W' : World} {e : Ending} (h : CostAns fl k W e W') : e = .returned (.tuple #[.int .i64 (if codeB fl k then costTo fl k else 0), .bool (codeB fl k)]) ∧ Below W.heap.size W W' := by
  obtain ⟨⟨hc, rfl⟩ | ⟨hc, rfl⟩, hB⟩ := h
  · rw [hc]; exact ⟨rfl, hB⟩
  · rw [hc]; exact ⟨rfl, hB⟩
theorem cost_impl {k : Nat} {fl : List Int} (hz : fl.length = k * 5) (hk : k ≤ 31) : CostTells k fl (if codeB fl k then costTo fl k else 0) (codeB fl k) :=
  fun W a cap h => (impl_cost a k cap fl W hz (by omega) h).mono fun e W' h => cost_told h
theorem cost_spec {k : Nat} {fl : List Int} (hz : fl.length = k * 5) (hk : k ≤ 31) : CostSaid k fl (if codeB fl k then costTo fl k else 0) (codeB fl k) :=
  fun W a cap h => (spec_cost a k cap fl W hz (by omega) h).mono fun e W' h => cost_told h
theorem cost_both (k : Nat) (fl : List Int) (hz : fl.length = k * 5) (hk : k ≤ 31) : ∃ (v : Int) (c : Bool), Hid (CostTells k fl v c) ∧ Hid (CostSaid k fl v c) := ⟨_, _, cost_impl hz hk, cost_spec hz hk⟩
theorem run_told {k : Nat} {fl ws : List Int} {W W' : World} {e : Ending} (hc : codeB fl k = true) (h : RunAns fl ws k W e W') : ∃ g1 d1 g2 d2, e = .returned (.tuple #[.slice g1 (if wordsB ws then (toldTo fl ws k).length else 0) d1, .slice g2 (if wordsB ws then 8 else 0) d2, .bool (wordsB ws)]) ∧ Ints W' g1 (if wordsB ws then toldTo fl ws k else []) ∧ Ints W' g2 (if wordsB ws then runW fl ws k else []) ∧ Below W.heap.size W W' := by
  rcases h with ⟨hcw, a1, c1, a2, c2, rfl, hM1, hM2, _, hB⟩ | ⟨hcw, rfl, hB⟩
  · rw [hc, Bool.true_and] at hcw
    rw [hcw]
    exact ⟨a1, c1, a2, c2, rfl, hM1.ints, hM2.ints, hB⟩
  · rw [hc, Bool.true_and] at hcw
    rw [hcw]
    exact ⟨none, 0, none, 0, rfl, Or.inl rfl, Or.inl rfl, hB⟩
theorem run_both (k : Nat) (fl ws : List Int) (hz : fl.length = k * 5) (hk : k ≤ 31) (hw : ws.length = 8) (hc : codeB fl k = true) : ∃ (t1 t2 : Nat) (r1 r2 : List Int) (c : Bool), Hid (r1.length = t1) ∧ t1 ≤ 31 ∧ Hid (r2.length = t2) ∧ t2 ≤ 8 ∧ Hid (RunTells k fl ws r1 t1 r2 t2 c) ∧ Hid (RunTells k (outTo fl k) ws r1 t1 r2 t2 c) := by
  have h1 : RunTells k fl ws (if wordsB ws then toldTo fl ws k else []) (if wordsB ws then (toldTo fl ws k).length else 0) (if wordsB ws then runW fl ws k else []) (if wordsB ws then 8 else 0) (wordsB ws) :=
    fun W a v cap cv h h' => (impl_run a v k cap 8 cv fl ws W hz (by omega) h hw (by omega) h').mono fun e W' h => run_told hc h
  have h2 : RunTells k (outTo fl k) ws (if wordsB ws then toldTo (outTo fl k) ws k else []) (if wordsB ws then (toldTo (outTo fl k) ws k).length else 0) (if wordsB ws then runW (outTo fl k) ws k else []) (if wordsB ws then 8 else 0) (wordsB ws) :=
    fun W a v cap cv h h' => (impl_run a v k cap 8 cv (outTo fl k) ws W (out_len _ _) (by omega) h hw (by omega) h').mono fun e W' h => run_told (out_good hc) h
  cases hww : wordsB ws
  · rw [hww] at h1 h2
    exact ⟨0, 0, [], [], false, rfl, by omega, rfl, by omega, h1, h2⟩
  · rw [hww] at h1 h2
    obtain ⟨e1, e2⟩ := out_run hc hww k (Nat.le_refl _)
    rw [e1, e2] at h2
    refine ⟨_, 8, _, _, true, rfl, ?_, ?_, by omega, h1, h2⟩
    · have := told_len fl ws k
      show (toldTo fl ws k).length ≤ 31
      omega
    · exact (words_out (run_words hww (code_out hc).2 k (Nat.le_refl _))).1
set_option maxRecDepth 100000 in
set_option maxHeartbeats 20000000 in
theorem walk (a0 : Option Addr) (len0 cap0 : Nat) (z0 : List Int) (a1 : Option Addr) (len1 cap1 : Nat) (z1 : List Int) (w : World) (w0 : IsRow .u8 w a0 len0 cap0 z0) (b0 : len0 ≤ 140737488351232) (w1 : IsRow .u8 w a1 len1 cap1 z1) (b1 : len1 ≤ 140737488351232) :
    Calls Try.prog 3 #[.slice a0 len0 cap0, .slice a1 len1 cap1] w fun e w' => e = .returned (.bool true) ∧ Below w.heap.size w w' := by
  by_cases hbig : 1048576 < len0 + len1
  · have hb1 : (1048576 : Int) < (len0 : Int) + (len1 : Int) := by omega
    clear hbig w0 w1
    go_enter Try.func3, Try.ntmps3
    go_wp2
    go_ret
    exact ⟨rfl, Below.refl _ _⟩
  have hs1 : (len0 : Int) + (len1 : Int) ≤ 1048576 := by omega
  have hlen0 : len0 ≤ 1048576 := by omega
  have hlen1 : len1 ≤ 1048576 := by omega
  have C0 : Hid (Src w.heap.size a0 len0 w) := src_of w0
  have C1 : Hid (Src w.heap.size a1 len1 w) := src_of w1
  clear hbig w0 w1 b0 b1
  go_enter Try.func3, Try.ntmps3
  go_wp2_with fail
  refine (drawRun_any C0.out hlen0).mono ?_
  rintro e w2 ⟨k, fl, zs, a2, a3, c2, c3, hk, hz, hzs, rfl, hI1, hI2, hB⟩
  have I2 : Hid (Ints w2 a2 fl) := hI1
  have V2 : Hid (Ints w2 a3 zs) := hI2
  have B2 : Hid (Below w.heap.size w w2) := hB
  clear hB hI1 hI2
  cases hc : codeB fl k
  · have NI : Hid (ImplTells k fl [] 0 false) := by
      have := impl_num hz hk
      rw [hc] at this
      exact this
    have NS : Hid (SpecTells k fl [] 0 false) := by
      have := spec_num hz hk
      rw [hc] at this
      exact this
    clear hc hz hzs V2
    go_wp2_with fail
    refine (NI.out _ _ _ I2.out).mono ?_
    rintro e w3 ⟨g3, d3, rfl, hI, hB⟩
    have I3 : Hid (Ints w3 a2 fl) := I2.out.kept hB
    have N3 : Hid (Ints w3 g3 []) := hI
    have B3 : Hid (Below w.heap.size w w3) := B2.out.trans (hB.mono B2.out.size)
    clear hB hI
    go_wp2_with fail
    refine (NS.out _ _ _ I3.out).mono ?_
    rintro e w4 ⟨g4, d4, rfl, hI, hB⟩
    have N4 : Hid (Ints w4 g3 []) := N3.out.kept hB
    have S4 : Hid (Ints w4 g4 []) := hI
    have B4 : Hid (Below w.heap.size w w4) := B3.out.trans (hB.mono B3.out.size)
    clear hB hI
    go_wp2_with fail
    have HZ : Hid (([] : List Int).length = 0 * 5) := rfl
    refine (same_code _ _ _ _ _ [] _ HZ (by omega) N4 S4).mono ?_
    rintro e w5 ⟨rfl, hB⟩
    have B5 : Hid (Below w.heap.size w w5) := B4.out.trans (hB.mono B4.out.size)
    clear hB
    go_wp2_with fail
    refine (drawCost_any (src_kept C1.out B5.out) hlen1).mono ?_
    rintro e x1 ⟨k', fl', p1, q1, hk', hz', rfl, hI, hB⟩
    obtain ⟨t', c', r', HR', ht', NI, NS⟩ := num_both k' fl' hz' hk'
    obtain ⟨v', o', CI, CS⟩ := cost_both k' fl' hz' hk'
    have J1 : Hid (Ints x1 p1 fl') := hI
    have X1 : Hid (Below w.heap.size w x1) := B5.out.trans (hB.mono B5.out.size)
    clear hI hB hz'
    go_wp2_with fail
    refine (CI.out _ _ _ J1.out).mono ?_
    rintro e x2 ⟨rfl, hB⟩
    have J2 : Hid (Ints x2 p1 fl') := J1.out.kept hB
    have X2 : Hid (Below w.heap.size w x2) := X1.out.trans (hB.mono X1.out.size)
    clear hB
    go_wp2_with fail
    refine (CS.out _ _ _ J2.out).mono ?_
    rintro e x3 ⟨rfl, hB⟩
    have J3 : Hid (Ints x3 p1 fl') := J2.out.kept hB
    have X3 : Hid (Below w.heap.size w x3) := X2.out.trans (hB.mono X2.out.size)
    clear hB
    go_wp2_with fail
    refine (NI.out _ _ _ J3.out).mono ?_
    rintro e x4 ⟨g4, d4, rfl, hI, hB⟩
    have J4 : Hid (Ints x4 p1 fl') := J3.out.kept hB
    have K4 : Hid (Ints x4 g4 r') := hI
    have X4 : Hid (Below w.heap.size w x4) := X3.out.trans (hB.mono X3.out.size)
    clear hB hI
    go_wp2_with fail
    refine (NS.out _ _ _ J4.out).mono ?_
    rintro e x5 ⟨g5, d5, rfl, hI, hB⟩
    have K5 : Hid (Ints x5 g4 r') := K4.out.kept hB
    have L5 : Hid (Ints x5 g5 r') := hI
    have X5 : Hid (Below w.heap.size w x5) := X4.out.trans (hB.mono X4.out.size)
    clear hB hI
    go_wp2_with fail
    refine (same_code _ _ _ _ _ r' _ HR' (by omega) K5 L5).mono ?_
    rintro e x6 ⟨rfl, hB⟩
    have X6 : Hid (Below w.heap.size w x6) := X5.out.trans (hB.mono X5.out.size)
    clear hB
    go_wp2
    go_ret
    exact ⟨by simp, X6.out⟩
  · have NI : Hid (ImplTells k fl (outTo fl k) k true) := by
      have := impl_num hz hk
      rw [hc] at this
      exact this
    have NS : Hid (SpecTells k fl (outTo fl k) k true) := by
      have := spec_num hz hk
      rw [hc] at this
      exact this
    have HL : Hid ((outTo fl k).length = k * 5) := out_len _ _
    obtain ⟨t1, t2, r1, r2, c, HR1, ht1, HR2, ht2, RL, RN⟩ := run_both k fl zs hz hk hzs hc
    obtain ⟨v1, v2, hv, HC1, HC2⟩ : ∃ v1 v2 : Int, v2 ≤ v1 ∧ Hid (CostTells k fl v1 true) ∧ Hid (CostTells k (outTo fl k) v2 true) := by
      refine ⟨costTo fl k, costTo (outTo fl k) k, out_cost hc k (Nat.le_refl _), ?_, ?_⟩
      · have := cost_impl hz hk
        rw [hc] at this
        exact this
      · have := cost_impl (out_len fl k) hk
        rw [out_good hc] at this
        exact this
    clear hc hz hzs
    generalize outTo fl k = nl at NI NS HL RN HC2
    go_wp2_with fail
    refine (NI.out _ _ _ I2.out).mono ?_
    rintro e w3 ⟨g3, d3, rfl, hI, hB⟩
    have I3 : Hid (Ints w3 a2 fl) := I2.out.kept hB
    have V3 : Hid (Ints w3 a3 zs) := V2.out.kept hB
    have N3 : Hid (Ints w3 g3 nl) := hI
    have B3 : Hid (Below w.heap.size w w3) := B2.out.trans (hB.mono B2.out.size)
    clear hB hI
    go_wp2_with fail
    refine (NS.out _ _ _ I3.out).mono ?_
    rintro e w4 ⟨g4, d4, rfl, hI, hB⟩
    have I4 : Hid (Ints w4 a2 fl) := I3.out.kept hB
    have V4 : Hid (Ints w4 a3 zs) := V3.out.kept hB
    have N4 : Hid (Ints w4 g3 nl) := N3.out.kept hB
    have S4 : Hid (Ints w4 g4 nl) := hI
    have B4 : Hid (Below w.heap.size w w4) := B3.out.trans (hB.mono B3.out.size)
    clear hB hI
    go_wp2_with fail
    refine (same_code _ _ _ _ _ nl _ HL (by omega) N4 S4).mono ?_
    rintro e w5 ⟨rfl, hB⟩
    have I5 : Hid (Ints w5 a2 fl) := I4.out.kept hB
    have V5 : Hid (Ints w5 a3 zs) := V4.out.kept hB
    have N5 : Hid (Ints w5 g3 nl) := N4.out.kept hB
    have B5 : Hid (Below w.heap.size w w5) := B4.out.trans (hB.mono B4.out.size)
    clear hB
    go_wp2_with fail
    refine (RL.out _ _ _ _ _ I5.out V5.out).mono ?_
    rintro e w6 ⟨g5, d5, g6, d6, rfl, hT, hV, hB⟩
    have I6 : Hid (Ints w6 a2 fl) := I5.out.kept hB
    have V6 : Hid (Ints w6 a3 zs) := V5.out.kept hB
    have N6 : Hid (Ints w6 g3 nl) := N5.out.kept hB
    have T6 : Hid (Ints w6 g5 r1) := hT
    have U6 : Hid (Ints w6 g6 r2) := hV
    have B6 : Hid (Below w.heap.size w w6) := B5.out.trans (hB.mono B5.out.size)
    clear hB hT hV
    go_wp2_with fail
    refine (RN.out _ _ _ _ _ N6.out V6.out).mono ?_
    rintro e w7 ⟨g7, d7, g8, d8, rfl, hT, hV, hB⟩
    have I7 : Hid (Ints w7 a2 fl) := I6.out.kept hB
    have N7 : Hid (Ints w7 g3 nl) := N6.out.kept hB
    have T7 : Hid (Ints w7 g5 r1) := T6.out.kept hB
    have U7 : Hid (Ints w7 g6 r2) := U6.out.kept hB
    have P7 : Hid (Ints w7 g7 r1) := hT
    have Q7 : Hid (Ints w7 g8 r2) := hV
    have B7 : Hid (Below w.heap.size w w7) := B6.out.trans (hB.mono B6.out.size)
    clear hB hT hV
    go_wp2_with fail
    refine (HC1.out _ _ _ I7.out).mono ?_
    rintro e w8 ⟨rfl, hB⟩
    have N8 : Hid (Ints w8 g3 nl) := N7.out.kept hB
    have T8 : Hid (Ints w8 g5 r1) := T7.out.kept hB
    have U8 : Hid (Ints w8 g6 r2) := U7.out.kept hB
    have P8 : Hid (Ints w8 g7 r1) := P7.out.kept hB
    have Q8 : Hid (Ints w8 g8 r2) := Q7.out.kept hB
    have B8 : Hid (Below w.heap.size w w8) := B7.out.trans (hB.mono B7.out.size)
    clear hB
    go_wp2_with fail
    refine (HC2.out _ _ _ N8.out).mono ?_
    rintro e w9 ⟨rfl, hB⟩
    have T9 : Hid (Ints w9 g5 r1) := T8.out.kept hB
    have U9 : Hid (Ints w9 g6 r2) := U8.out.kept hB
    have P9 : Hid (Ints w9 g7 r1) := P8.out.kept hB
    have Q9 : Hid (Ints w9 g8 r2) := Q8.out.kept hB
    have B9 : Hid (Below w.heap.size w w9) := B8.out.trans (hB.mono B8.out.size)
    clear hB
    have qc : (c != c) = false := by cases c <;> rfl
    go_wp2_with fail
    refine (same_list _ _ _ _ _ r1 _ HR1 (by omega) T9 P9).mono ?_
    rintro e w10 ⟨rfl, hB⟩
    have U10 : Hid (Ints w10 g6 r2) := U9.out.kept hB
    have Q10 : Hid (Ints w10 g8 r2) := Q9.out.kept hB
    have B10 : Hid (Below w.heap.size w w10) := B9.out.trans (hB.mono B9.out.size)
    clear hB
    go_wp2_with fail
    refine (same_list _ _ _ _ _ r2 _ HR2 (by omega) U10 Q10).mono ?_
    rintro e w11 ⟨rfl, hB⟩
    have B11 : Hid (Below w.heap.size w w11) := B10.out.trans (hB.mono B10.out.size)
    clear hB
    go_wp2_with fail
    refine (drawCost_any (src_kept C1.out B11.out) hlen1).mono ?_
    rintro e x1 ⟨k', fl', p1, q1, hk', hz', rfl, hI, hB⟩
    obtain ⟨t', c', r', HR', ht', NI, NS⟩ := num_both k' fl' hz' hk'
    obtain ⟨v', o', CI, CS⟩ := cost_both k' fl' hz' hk'
    have J1 : Hid (Ints x1 p1 fl') := hI
    have X1 : Hid (Below w.heap.size w x1) := B11.out.trans (hB.mono B11.out.size)
    clear hI hB hz'
    go_wp2_with fail
    refine (CI.out _ _ _ J1.out).mono ?_
    rintro e x2 ⟨rfl, hB⟩
    have J2 : Hid (Ints x2 p1 fl') := J1.out.kept hB
    have X2 : Hid (Below w.heap.size w x2) := X1.out.trans (hB.mono X1.out.size)
    clear hB
    go_wp2_with fail
    refine (CS.out _ _ _ J2.out).mono ?_
    rintro e x3 ⟨rfl, hB⟩
    have J3 : Hid (Ints x3 p1 fl') := J2.out.kept hB
    have X3 : Hid (Below w.heap.size w x3) := X2.out.trans (hB.mono X2.out.size)
    clear hB
    go_wp2_with fail
    refine (NI.out _ _ _ J3.out).mono ?_
    rintro e x4 ⟨g4, d4, rfl, hI, hB⟩
    have J4 : Hid (Ints x4 p1 fl') := J3.out.kept hB
    have K4 : Hid (Ints x4 g4 r') := hI
    have X4 : Hid (Below w.heap.size w x4) := X3.out.trans (hB.mono X3.out.size)
    clear hB hI
    go_wp2_with fail
    refine (NS.out _ _ _ J4.out).mono ?_
    rintro e x5 ⟨g5, d5, rfl, hI, hB⟩
    have K5 : Hid (Ints x5 g4 r') := K4.out.kept hB
    have L5 : Hid (Ints x5 g5 r') := hI
    have X5 : Hid (Below w.heap.size w x5) := X4.out.trans (hB.mono X4.out.size)
    clear hB hI
    go_wp2_with fail
    refine (same_code _ _ _ _ _ r' _ HR' (by omega) K5 L5).mono ?_
    rintro e x6 ⟨rfl, hB⟩
    have X6 : Hid (Below w.heap.size w x6) := X5.out.trans (hB.mono X5.out.size)
    clear hB
    go_wp2
    go_ret
    exact ⟨by simp, X6.out⟩

set_option maxRecDepth 100000 in
theorem lifted (os : Os) (started : os.Started) (H : Type) (enc : TypeId × Value → H) :
    ReturnsInHanded {} Try.checked os 3 .any (Rows.fnNumberedSpec.pre6 enc Try.prog Try.f3 Rows.fnNumberedRow.domain false) (Rows.fnNumberedSpec.post enc Try.prog Try.f3 false true false false) := by
  refine returnsInHanded_of_change_sized (C := Try.checked) own started (by kernel_rfl) Try.func3
    (ChangeSpec.witness6 (enc := enc) (C := Try.checked) false ⟨#[], #[.slice none 0 0, .slice none 0 0], []⟩ 8 (by kernel_rfl) (by kernel_rfl) (by kernel_rfl) (by kernel_rfl)) ?_
  intro W base args ds gs before hval0 hW hcnd hsz0 _
  have hval : ∀ (j : Nat) t v, Try.f3.params[j]? = some t → args[j]? = some v → Value.okWide Try.prog W .any base t v := hval0
  have hW' := hW
  obtain ⟨p, q, hA0, hV, rfl, hfz, hnd⟩ := hW
  have hsz : (DataW.weightsEach Try.prog (Try.f3.params.toList ++ Rows.fnNumberedSpec.plain.varTypes Try.prog) (ds ++ gs)).all (· ≤ reachBytes) = true := hsz0
  have hA : DataW.TrodAll enc Try.prog W 0 (fun _ => true) true Try.f3.params.toList args.toList ds p := hA0
  rw [Try.params3] at hA hval hsz
  obtain ⟨v0, vs0, d0, ds0, p0, q0, hargs, rfl, rfl, h0, r0⟩ := trodAll_cons hA
  obtain ⟨v1, vs1, d1, ds1, p1, q1, rfl, rfl, rfl, h1, r1⟩ := trodAll_cons r0
  obtain ⟨rfl, rfl, rfl⟩ := trodAll_nil r1
  obtain rfl : args = #[v0, v1] := by cases args; simp_all
  obtain ⟨rfl, rfl⟩ := trodVars_none hV
  obtain ⟨a0, len0, cap0, rfl⟩ := okWide_slice Try.underlying22 (hval 0 22 v0 rfl rfl)
  have k0 := h0
  have lt0 : ∀ x ∈ p0, x.block < W.heap.size := by obtain ⟨m, hm⟩ := k0; exact DataW.trod_lt m _ _ _ hm
  obtain ⟨z0, w0, b0⟩ : ∃ zs, IsRow .u8 W a0 len0 cap0 zs ∧ len0 ≤ 140737488351232 := by
    obtain ⟨fuel, hf⟩ := h0
    rcases open_ints Try.underlying22 Try.underlying5 (by kernel_rfl) hf with ⟨hcs, _⟩ | ⟨x, l, c, zs, hcs, _, hl, hm, hz, hx, hcell, hwz⟩
    · simp [Value.cells] at hcs
      obtain ⟨rfl, rfl, rfl⟩ := hcs
      exact ⟨[], .inl ⟨rfl, rfl, rfl, rfl⟩, by omega⟩
    · simp [Value.cells] at hcs
      obtain ⟨rfl, rfl, rfl⟩ := hcs
      have hz' : zs.length = cap0 := by simpa using hz
      have hd : d0 = .slice (lits .u8 (zs.take len0)) (lits .u8 (zs.drop len0)) := congrArg Prod.fst hx
      have hs := sized_slice hsz (j := 0) (t := 22) (e := 5) rfl (by rw [hd]; rfl) Try.underlying22
      rw [show Try.prog.bytesOf 5 = 1 by kernel_rfl] at hs
      simp only [lits, List.length_map, List.length_take, List.length_drop, reachBytes] at hs
      exact ⟨zs, .inr ⟨_, rfl, hl, hm, hz', hcell, hwz⟩, by omega⟩
  obtain ⟨a1, len1, cap1, rfl⟩ := okWide_slice Try.underlying22 (hval 1 22 v1 rfl rfl)
  have k1 := h1
  have lt1 : ∀ x ∈ p1, x.block < W.heap.size := by obtain ⟨m, hm⟩ := k1; exact DataW.trod_lt m _ _ _ hm
  obtain ⟨z1, w1, b1⟩ : ∃ zs, IsRow .u8 W a1 len1 cap1 zs ∧ len1 ≤ 140737488351232 := by
    obtain ⟨fuel, hf⟩ := h1
    rcases open_ints Try.underlying22 Try.underlying5 (by kernel_rfl) hf with ⟨hcs, _⟩ | ⟨x, l, c, zs, hcs, _, hl, hm, hz, hx, hcell, hwz⟩
    · simp [Value.cells] at hcs
      obtain ⟨rfl, rfl, rfl⟩ := hcs
      exact ⟨[], .inl ⟨rfl, rfl, rfl, rfl⟩, by omega⟩
    · simp [Value.cells] at hcs
      obtain ⟨rfl, rfl, rfl⟩ := hcs
      have hz' : zs.length = cap1 := by simpa using hz
      have hd : d1 = .slice (lits .u8 (zs.take len1)) (lits .u8 (zs.drop len1)) := congrArg Prod.fst hx
      have hs := sized_slice hsz (j := 1) (t := 22) (e := 5) rfl (by rw [hd]; rfl) Try.underlying22
      rw [show Try.prog.bytesOf 5 = 1 by kernel_rfl] at hs
      simp only [lits, List.length_map, List.length_take, List.length_drop, reachBytes] at hs
      exact ⟨zs, .inr ⟨_, rfl, hl, hm, hz', hcell, hwz⟩, by omega⟩
  clear hA0 hval0
  refine (walk a0 len0 cap0 z0 a1 len1 cap1 z1 W w0 b0 w1 b1).mono fun e W' ⟨he, bel⟩ => ?_
  subst he
  exact ⟨_, rfl, _, _, _, [], _, [], hW', trodAll_mk1 (shut_bool Try.underlying4 _), (trodAll_cons_mk (Below.trod laidOut (by kernel_rfl) (of_decide_eq_true (by kernel_rfl)) k0 bel lt0) (trodAll_cons_mk (Below.trod laidOut (by kernel_rfl) (of_decide_eq_true (by kernel_rfl)) k1 bel lt1) trodAll_mk0)), rfl, bel.frame _, fun h => by cases h⟩

theorem over : Rows.fnNumberedRow.holds Try.pinned (OpenSpec.ofChange Rows.fnNumberedSpec) :=
  OpenClaim.holds_of_wide 3 Try.f3 rfl rfl rfl rfl rfl rfl rfl ⟨rfl, rfl, rfl, rfl, rfl⟩ rfl rfl rfl rfl rfl (by kernel_rfl) Try.func3 (by kernel_rfl)
    (of_decide_eq_true (by kernel_rfl)) (by unfold Func.isWrapper; first | (rw [if_pos (by decide +kernel)]; kernel_rfl) | (rw [if_neg (by decide +kernel)]; exact ⟨rfl, rfl⟩))
    (fun os started H enc _ => lifted os started H enc)

theorem proved : Rows.FnNumberedSaid :=
  over
#print axioms proved
end Go.Proofs.Ytldmeffhbabanaa.fnNumbered
