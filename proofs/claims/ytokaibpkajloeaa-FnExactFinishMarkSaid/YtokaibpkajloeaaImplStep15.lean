/-
  What the program's slices.Index of the colors, begin, scan, sweep, finish do.
-/
import Derived.Test.YtokaibpkajloeaaProg
import Derived.Test.YtokaibpkajloeaaInts
import Derived.Test.YtokaibpkajloeaaDeep
import Derived.Test.YtokaibpkajloeaaDeepRow
import Derived.Test.YtokaibpkajloeaaMarkMath
import Derived.Test.YtokaibpkajloeaaStepMath15
import Derived.Test.YtokaibpkajloeaaMarkRun
import Derived.Test.YtokaibpkajloeaaNewRun
import Derived.Test.YtokaibpkajloeaaMarkAsk
import Derived.WalkKit
import Derived.WalkSpells
import Derived.Below
import Derived.Handy
import Derived.OwnWalk
import Derived.Laws.IdiomCopy
import Derived.Deep.OwnRows
import Derived.Deep.RegionHeld3
import Derived.Deep.DeepCutAuto
namespace Go.Proofs.Ytokaibpkajloeaa.walks
open Go.RowKit Go.Proofs.Ytokaibpkajloeaa.math Go.Proofs.Ytokaibpkajloeaa.ints Go.Proofs.Ytokaibpkajloeaa.deep
set_option linter.unusedVariables false
set_option linter.unusedSimpArgs false
set_option maxRecDepth 100000

theorem RunM.congr {w : World} {B rp cp op n c1 c2 : Nat} {s t : Mst} (h : RunM w B rp cp op n c1 c2 s) (hk : ∀ k, k < n → (∀ j, j < 2 → s.lk k j = t.lk k j) ∧ s.fr k = t.fr k ∧ s.co k = t.co k) (hr : ∀ j, j < 2 → s.rt j = t.rt j) (ho : s.on = t.on) : RunM w B rp cp op n c1 c2 t := by
  refine ⟨h.row.congr (fun i hi => ?_), h.cells.congr (fun i hi => ?_), h.cols.congr (fun i hi => by rw [(hk i hi).2.2]), h.low, h.dif⟩
  · match i, hi with
    | 0, _ => rfl
    | 1, _ => rfl
    | 2, _ => show Value.int .i64 (s.rt 0) = .int .i64 (t.rt 0); rw [hr 0 (by decide)]
    | 3, _ => show Value.int .i64 (s.rt 1) = .int .i64 (t.rt 1); rw [hr 1 (by decide)]
    | 4, _ => show Value.bool s.on = .bool t.on; rw [ho]
  · unfold cellV
    by_cases q : i % 3 = 2
    · rw [if_pos q, if_pos q, (hk (i / 3) (by omega)).2.1]
    · rw [if_neg q, if_neg q, (hk (i / 3) (by omega)).1 (i % 3) (by omega)]
/-- The colors cleared. -/
theorem CellsAt.clear {w : World} {g n : Nat} {f : Nat → Value} (h : CellsAt w g n f) : CellsAt (w.setCells g 0 (List.replicate n (.int .i64 0))) g n (fun _ => .int .i64 0) := by
  have sz : ∀ (vs : List Value) (o : Nat) (u : World), (u.setCells g o vs).heap.size = u.heap.size := by
    intro vs
    induction vs with
    | nil => intro o u; rfl
    | cons v r ih => intro o u; rw [World.setCells, ih]; simp [World.setCell]
  refine ⟨by rw [sz]; exact h.1, fun i hi => ⟨?_, by rw [World.frozen?_setCells]; exact (h.2 i hi).2⟩⟩
  have q := World.cell?_setCells_in g (List.replicate n (.int .i64 0)) 0 w (fun j hj => by
    rw [List.length_replicate] at hj
    rw [Nat.zero_add, (h.2 j hj).1]; rfl) i (by rw [List.length_replicate]; exact hi)
  rw [Nat.zero_add] at q
  rw [q]; simp
theorem only_clear {W w : World} {F : Nat → Prop} {g : Nat} (h : OnlyF W w F) (hg : F g) (vs : List Value) : OnlyF W (w.setCells g 0 vs) F := by
  have key : ∀ (vs : List Value) (o : Nat) (u : World), OnlyF W u F → OnlyF W (u.setCells g o vs) F := by
    intro vs
    induction vs with
    | nil => intro o u q; exact q
    | cons v r ih => intro o u q; rw [World.setCells]; exact ih _ _ (only_set q hg v)
  exact key vs 0 w h
theorem block_clear {w : World} {g b : Nat} (vs : List Value) (hne : b ≠ g) : (w.setCells g 0 vs).heap[b]? = w.heap[b]? := by
  have key : ∀ (vs : List Value) (o : Nat) (u : World), (u.setCells g o vs).heap[b]? = u.heap[b]? := by
    intro vs
    induction vs with
    | nil => intro o u; rfl
    | cons v r ih => intro o u; rw [World.setCells, ih, Below.heap_setCell _ _ _ _ (by show b ≠ g; exact hne)]
  exact key vs 0 w
theorem RunM.clear {w : World} {B rp cp op n c1 c2 : Nat} {s : Mst} (h : RunM w B rp cp op n c1 c2 s) : RunM (w.setCells op 0 (List.replicate n (.int .i64 0))) B rp cp op n c1 c2 ⟨s.lk, s.fr, fun k => if k < n then 0 else s.co k, s.rt, s.on⟩ :=
  ⟨h.row.of_block (block_clear _ h.dif.2.1), h.cells.of_block (block_clear _ h.dif.2.2), h.cols.clear.congr (fun i hi => by show _ = Value.int .i64 (if i < n then 0 else s.co i); rw [if_pos hi]), h.low, h.dif⟩
theorem run_clear15 (w : World) (ty : TypeId) (g n c : Nat) (f : Nat → Value) (hn : 0 < n) (h : CellsAt w g n f) : (Builtin.clear_ #[23] ty #[.slice (some ⟨g, 0, none⟩) n c]).run Try.prog w = .ok (.tuple #[]) (w.setCells g 0 (List.replicate n (.int .i64 0))) := by
  obtain ⟨m, rfl⟩ : ∃ m, n = m + 1 := ⟨n - 1, by omega⟩
  have hz : (zeroValue 3).run Try.prog w = .ok (.int .i64 0) w := by kernel_rfl
  have hl : (Builtin.zeroCells (Value.int .i64 0).cells (m + 1)).toList = List.replicate (m + 1) (.int .i64 0) := by
    apply List.ext_getElem?
    intro i
    unfold Builtin.zeroCells
    by_cases hi : i < m + 1
    · simp [hi, Value.cells, Nat.mod_one]
    · rw [List.getElem?_eq_none (by simp [Value.cells]; omega), List.getElem?_eq_none (by simp; omega)]
  have hst := run_storeCells_cells (P := Try.prog) g 0 (List.replicate (m + 1) (.int .i64 0)) 0 w (fun j hj => by
    rw [List.length_replicate] at hj
    rw [Nat.zero_add, (h.2 j hj).1]; rfl) (fun j hj => by
    rw [List.length_replicate] at hj
    rw [Nat.zero_add]; exact (h.2 j hj).2) (fun v hv => by rw [(List.mem_replicate.1 hv).2]; rfl)
  have hu : Try.prog.underlying 23 = some (.slice 3) := Try.underlying23
  simp [Builtin.clear_, run_underlying hu, hz, hl, hst]
theorem wpList_clear15 {w : World} {ops : Array Oper} {rest : List Oper} {o : Oper} {a : Act} {Q : Exit → Act → World → Prop} (hgd : o.guard = none) (x : Operand) (ho : o.op = .call { callee := .builtin .clear, args := #[x], argTypes := #[23] }) (g n c : Nat) (f : Nat → Value) (hx : a.eval x = .slice (some ⟨g, 0, none⟩) n c) (hn : 0 < n) (hc : CellsAt w g n f)
    (h : wpList Try.prog ops Q rest (a.put o.dst (.tuple #[])) (w.setCells g 0 (List.replicate n (.int .i64 0)))) : wpList Try.prog ops Q (o :: rest) a w := by
  refine wpList_plain hgd fun K hK => ?_
  have hrun := run_clear15 w o.type g n c f hn hc
  unfold Oper.wp
  simp [execOp, ho, resolve, invoke, builtin, hx, hrun, Result.andThen]
  exact hK _ _ h
def greyI (s : Mst) (n : Nat) : Int := match greyT s n with
  | none => -1
  | some k => (k : Int)
theorem impl_indexg (B rp cp op n c1 c2 : Nat) (s : Mst) (W : World) (hn : n ≤ 10) (h : Hid (RunM W B rp cp op n c1 c2 s)) :
    Calls Try.prog 78 #[.slice (some ⟨op, 0, none⟩) n c2, .int .i64 1] W fun e W' => e = .returned (.int .i64 (greyI s n)) ∧ W' = W := by
  obtain ⟨R, HR⟩ : ∃ R, Hid (greyI s n = R) := ⟨_, rfl⟩
  rw [HR.out]
  have ol := h.out.cols.1
  go_enter Try.func78, Try.ntmps78
  go_wp2
  go_loop [8] (fun vi => ∃ k : Nat, k ≤ n ∧ vi = .int .i64 (k : Int) ∧ Hid (∀ j, j < k → s.co j ≠ 1)) (fun vi => n - (intOf vi).toNat)
  case atStart => exact ⟨0, Nat.zero_le _, rfl, fun j hj => by omega⟩
  case round =>
    obtain ⟨k, hk, rfl, HG⟩ := hrel
    by_cases hlt : k < n
    rotate_left
    · have HE : Hid (R = -1) := by show _ = _; rw [← HR.out]; unfold greyI; rw [grey_no (fun j hj => HG.out j (by omega))]
      go_wp2
      go_ret
      exact ⟨by rw [HE.out]; rfl, rfl⟩
    have hltI : (k : Int) < (n : Int) := by omega
    have c0 := h.out.color hlt
    have HYES : Hid (s.co k = 1 → R = (k : Int)) := fun q => by rw [← HR.out]; unfold greyI; rw [grey_at hlt q HG.out]
    have HNX : Hid (s.co k ≠ 1 → ∀ j, j < k + 1 → s.co j ≠ 1) := fun q j hj => by
      by_cases e : j = k
      · rw [e]; exact q
      · exact HG.out j (by omega)
    obtain ⟨y, Hy⟩ : ∃ y, Hid (s.co k = y) := ⟨_, rfl⟩
    rw [Hy.out] at c0 HYES HNX
    by_cases hy : y = 1
    · have HE : Hid (R = (k : Int)) := HYES.out hy
      subst hy
      clear HYES HNX
      go_wp2
      go_ret
      exact ⟨by rw [HE.out]; rfl, rfl⟩
    · have HN2 : Hid (∀ j, j < k + 1 → s.co j ≠ 1) := HNX.out hy
      have d0 : (y == 1) = false := by simpa using hy
      have d1 : decide (y = 1) = false := decide_eq_false hy
      have d2 : ((1 : Int) == y) = false := by simpa using fun e : (1 : Int) = y => hy e.symm
      have d3 : decide ((1 : Int) = y) = false := decide_eq_false (fun e => hy e.symm)
      clear HYES HNX
      go_wp2
      go_round
      case rel => exact ⟨k + 1, by omega, by go_num, HN2⟩
      case measure => simp [intOf]; omega
theorem impl_containsg (B rp cp op n c1 c2 : Nat) (s : Mst) (W : World) (hn : n ≤ 10) (h : Hid (RunM W B rp cp op n c1 c2 s)) :
    Calls Try.prog 86 #[.slice (some ⟨op, 0, none⟩) n c2, .int .i64 1] W fun e W' => e = .returned (.bool (decide (greyI s n ≥ 0))) ∧ W' = W := by
  have hc := impl_indexg B rp cp op n c1 c2 s W hn h
  generalize greyI s n = R at hc ⊢
  go_enter Try.func86, Try.ntmps86
  go_wp2_with fail
  refine hc.mono ?_
  rintro e w' ⟨rfl, hw⟩
  rw [hw]
  clear hw w' hc
  go_wp2
  go_ret
  exact ⟨rfl, rfl⟩
def DidTo (B rp cp op n c1 c2 : Nat) (s : Mst) (b : Bool) (W : World) (e : Ending) (W' : World) : Prop := e = .returned (.bool b) ∧ RunM W' B rp cp op n c1 c2 s ∧ OnlyF W W' (ofM rp cp op)
def StageB (s : Mst) (x0 x1 : Int) (k : Nat) (t : Mst) : Prop := (k = 0 → t = s.setMk true) ∧ (k = 1 → t = shadeS (s.setMk true) x0) ∧ (k = 2 → t = shadeS (shadeS (s.setMk true) x0) x1)
set_option maxHeartbeats 4000000 in
theorem impl_begin (B rp cp op n c1 c2 : Nat) (s : Mst) (W : World) (hn : n ≤ 10) (h : Hid (RunM W B rp cp op n c1 c2 s)) (hr : Hid (∀ j, j < 2 → s.rt j = -1 ∨ ∃ k : Nat, s.rt j = (k : Int) ∧ k < n)) :
    Calls Try.prog 72 #[.pointer (some ⟨rp, 0, none⟩)] W fun e W' => DidTo B rp cp op n c1 c2 (if s.on = true then s else beginS s) (!s.on) W e W' := by
  have r4 : W.cell? ⟨rp, 4, none⟩ = some (.bool s.on) := h.out.row.cell (i := 4) (by decide)
  have f4 := h.out.row.frozen 4
  have rl := h.out.row.lt
  cases hon : s.on
  rotate_left
  · have HA : Hid (DidTo B rp cp op n c1 c2 (if true = true then s else beginS s) (!true) W (.returned (.bool false)) W) := ⟨rfl, by rw [if_pos rfl]; exact h.out, OnlyF.refl _ _⟩
    rw [hon] at r4
    clear hon
    go_enter Try.func72, Try.ntmps72
    go_wp2
    go_ret
    exact HA.out
  rw [hon] at r4
  obtain ⟨w1, hw1⟩ : ∃ w1, Hid (W.setCell ⟨rp, 4, none⟩ (.bool true) = w1) := ⟨_, rfl⟩
  have R1 : Hid (RunM w1 B rp cp op n c1 c2 (s.setMk true)) := by show RunM _ _ _ _ _ _ _ _ _; rw [← hw1.out]; exact h.out.setMk true
  have O1 : Hid (OnlyF W w1 (ofM rp cp op)) := by show OnlyF _ _ _; rw [← hw1.out]; exact only_set (OnlyF.refl _ _) (Or.inl rfl) _
  have r2 : w1.cell? ⟨rp, 2, none⟩ = some (.int .i64 (s.rt 0)) := R1.out.row.cell (i := 2) (by decide)
  have r3 : w1.cell? ⟨rp, 3, none⟩ = some (.int .i64 (s.rt 1)) := R1.out.row.cell (i := 3) (by decide)
  have rl1 := R1.out.row.lt
  have HSH : Hid (∀ (t : Mst) (j : Nat) (w : World), j < 2 → Hid (RunM w B rp cp op n c1 c2 t) → Calls Try.prog 81 #[.pointer (some ⟨rp, 0, none⟩), .int .i64 (s.rt j)] w fun e W' => ShadeTo B rp cp op n c1 c2 (shadeS t (s.rt j)) w e W') := fun t j w hj q => impl_shade B rp cp op n c1 c2 t (s.rt j) w hn q (hr.out j hj)
  have HS0 := fun t w q => HSH.out t 0 w (by decide) q
  have HS1 := fun t w q => HSH.out t 1 w (by decide) q
  have HSH0 : Hid (∀ (t : Mst) (w : World), Hid (RunM w B rp cp op n c1 c2 t) → _) := HS0
  have HSH1 : Hid (∀ (t : Mst) (w : World), Hid (RunM w B rp cp op n c1 c2 t) → _) := HS1
  clear HS0 HS1 HSH
  have HBG : Hid (beginS s = shadeS (shadeS (s.setMk true) (s.rt 0)) (s.rt 1)) := rfl
  rw [if_neg (by decide), HBG.out]
  obtain ⟨x0, HX0⟩ : ∃ x, Hid (s.rt 0 = x) := ⟨_, rfl⟩
  obtain ⟨x1, HX1⟩ : ∃ x, Hid (s.rt 1 = x) := ⟨_, rfl⟩
  rw [HX0.out] at HSH0 r2
  rw [HX1.out] at HSH1 r3
  rw [HX0.out, HX1.out]
  have ix0 : ∀ w : World, (Instr.index 72 (.agg #[.int .i64 x0, .int .i64 x1]) (.int .i64 0)).run Try.prog w = .ok (.int .i64 x0) w := fun _ => by kernel_rfl
  have ix1 : ∀ w : World, (Instr.index 72 (.agg #[.int .i64 x0, .int .i64 x1]) (.int .i64 1)).run Try.prog w = .ok (.int .i64 x1) w := fun _ => by kernel_rfl
  go_enter Try.func72, Try.ntmps72
  go_upto_region 4 with fail
  rw [hw1.out]
  clear r4 f4 rl hw1
  go_wp2
  clear r2 r3 rl1
  go_loopw [16] (fun vi wr => ∃ (k : Nat) (t : Mst), k ≤ 2 ∧ vi = .int .i64 (k : Int) ∧ Hid (StageB s x0 x1 k t) ∧ Hid (RunM wr B rp cp op n c1 c2 t) ∧ Hid (OnlyF W wr (ofM rp cp op))) (fun vi _ => 2 - (intOf vi).toNat)
  case atStart => exact ⟨0, _, by omega, rfl, ⟨fun _ => rfl, (fun q => by cases q), (fun q => by cases q)⟩, R1, O1⟩
  case round =>
    obtain ⟨k, t, hk, rfl, HT, HR, HO⟩ := hrel
    rcases (show k = 0 ∨ k = 1 ∨ k = 2 by omega) with r | r | r
    · subst r
      have hc := HSH0.out t wr HR
      rw [HT.out.1 rfl] at hc
      go_wp2_with fail
      refine hc.mono ?_
      rintro e w3 ⟨rfl, hR3, hO3⟩
      have HT3 : Hid (StageB s x0 x1 1 (shadeS (s.setMk true) x0)) := ⟨(fun q => by cases q), fun _ => rfl, (fun q => by cases q)⟩
      have HR3 : Hid (RunM w3 B rp cp op n c1 c2 (shadeS (s.setMk true) x0)) := hR3
      have HO3 : Hid (OnlyF W w3 (ofM rp cp op)) := HO.out.trans hO3
      clear hR3 hO3 hc
      go_wp2
      go_roundw
      case rel => exact ⟨1, _, by omega, by go_num, HT3, HR3, HO3⟩
      case measure => simp [intOf]
    · subst r
      have hc := HSH1.out t wr HR
      rw [HT.out.2.1 rfl] at hc
      go_wp2_with fail
      refine hc.mono ?_
      rintro e w3 ⟨rfl, hR3, hO3⟩
      have HT3 : Hid (StageB s x0 x1 2 (shadeS (shadeS (s.setMk true) x0) x1)) := ⟨(fun q => by cases q), (fun q => by cases q), fun _ => rfl⟩
      have HR3 : Hid (RunM w3 B rp cp op n c1 c2 (shadeS (shadeS (s.setMk true) x0) x1)) := hR3
      have HO3 : Hid (OnlyF W w3 (ofM rp cp op)) := HO.out.trans hO3
      clear hR3 hO3 hc
      go_wp2
      go_roundw
      case rel => exact ⟨2, _, by omega, by go_num, HT3, HR3, HO3⟩
      case measure => simp [intOf]
    · subst r
      have HA : Hid (DidTo B rp cp op n c1 c2 (shadeS (shadeS (s.setMk true) x0) x1) (!false) W (.returned (.bool true)) wr) := ⟨rfl, by rw [← HT.out.2.2 rfl]; exact HR.out, HO.out⟩
      go_wp2
      go_ret
      exact HA.out
def StageC (s : Mst) (x0 x1 : Int) (k : Nat) (t : Mst) : Prop := (k = 0 → t = s) ∧ (k = 1 → t = shadeS s x0) ∧ (k = 2 → t = shadeS (shadeS s x0) x1)
theorem impl_scan_no (B rp cp op n c1 c2 : Nat) (s : Mst) (x : Int) (W : World) (hn : n ≤ 10) (h : Hid (RunM W B rp cp op n c1 c2 s)) (hx : ¬ ∃ k : Nat, x = (k : Int) ∧ k < n ∧ s.co k = 1) :
    Calls Try.prog 73 #[.pointer (some ⟨rp, 0, none⟩), .int .i64 x] W fun e W' => e = .returned (.bool false) ∧ W' = W := by
  have hc := impl_iscell B rp cp op n c1 c2 s x W hn h
  by_cases h0 : 0 ≤ x ∧ x < (n : Int)
  rotate_left
  · have e1 : (decide (0 ≤ x) && decide (x < (n : Int))) = false := by
      by_cases q : 0 ≤ x
      · rw [decide_eq_false (show ¬ x < (n : Int) from fun r => h0 ⟨q, r⟩), Bool.and_false]
      · rw [decide_eq_false q]; rfl
    rw [e1] at hc
    clear h0 hx e1
    go_enter Try.func73, Try.ntmps73
    go_wp2_with (go_at_call 84; refine hc.mono ?_; rintro e w' ⟨rfl, hw⟩; rw [hw]; clear hw w')
    go_ret
    exact ⟨rfl, rfl⟩
  obtain ⟨k, rfl⟩ : ∃ k : Nat, x = (k : Int) := ⟨x.toNat, by omega⟩
  have hk : k < n := by omega
  have e1 : (decide (0 ≤ (k : Int)) && decide ((k : Int) < (n : Int))) = true := by rw [decide_eq_true h0.1, decide_eq_true h0.2]; rfl
  rw [e1] at hc
  have hy : s.co k ≠ 1 := fun q => hx ⟨k, rfl, hk, q⟩
  have c0 := h.out.color hk
  have ol := h.out.cols.1
  have r1 : W.cell? ⟨rp, 1, none⟩ = some (.slice (some ⟨op, 0, none⟩) n c2) := h.out.row.cell (i := 1) (by decide)
  have rl := h.out.row.lt
  have k0 : (0 : Int) ≤ (k : Int) := by omega
  have k1 : (k : Int) < (n : Int) := by omega
  clear hx h0 e1
  generalize s.co k = y at c0 hy
  have d0 : (y == 1) = false := by simpa using hy
  have d1 : (y != 1) = true := by simpa using hy
  have d2 : decide (y = 1) = false := decide_eq_false hy
  go_enter Try.func73, Try.ntmps73
  go_wp2_with (go_at_call 84; refine hc.mono ?_; rintro e w' ⟨rfl, hw⟩; rw [hw]; clear hw w')
  go_ret
  exact ⟨rfl, rfl⟩
set_option maxHeartbeats 4000000 in
theorem impl_scan_yes (B rp cp op n c1 c2 : Nat) (s : Mst) (k : Nat) (W : World) (hn : n ≤ 10) (hk : k < n) (h : Hid (RunM W B rp cp op n c1 c2 s)) (h1 : s.co k = 1) (hl : Hid (∀ j, j < 2 → s.lk k j = -1 ∨ ∃ q : Nat, s.lk k j = (q : Int) ∧ q < n)) :
    Calls Try.prog 73 #[.pointer (some ⟨rp, 0, none⟩), .int .i64 (k : Int)] W fun e W' => DidTo B rp cp op n c1 c2 (scanS s k) true W e W' := by
  have hc := impl_iscell B rp cp op n c1 c2 s (k : Int) W hn h
  have k0 : (0 : Int) ≤ (k : Int) := by omega
  have k1 : (k : Int) < (n : Int) := by omega
  rw [show (decide (0 ≤ (k : Int)) && decide ((k : Int) < (n : Int))) = true by rw [decide_eq_true k0, decide_eq_true k1]; rfl] at hc
  have c0 := h.out.color hk
  rw [h1] at c0
  have ol := h.out.cols.1
  have cl := h.out.cells.1
  have r0 : W.cell? ⟨rp, 0, none⟩ = some (.slice (some ⟨cp, 0, none⟩) n c1) := h.out.row.cell (i := 0) (by decide)
  have r1 : W.cell? ⟨rp, 1, none⟩ = some (.slice (some ⟨op, 0, none⟩) n c2) := h.out.row.cell (i := 1) (by decide)
  have rl := h.out.row.lt
  obtain ⟨q0, q1, q2⟩ := h.out.cell hk
  have HSH : Hid (∀ (t : Mst) (j : Nat) (w : World), j < 2 → Hid (RunM w B rp cp op n c1 c2 t) → Calls Try.prog 81 #[.pointer (some ⟨rp, 0, none⟩), .int .i64 (s.lk k j)] w fun e W' => ShadeTo B rp cp op n c1 c2 (shadeS t (s.lk k j)) w e W') := fun t j w hj q => impl_shade B rp cp op n c1 c2 t (s.lk k j) w hn q (hl.out j hj)
  have HS0 := fun t w q => HSH.out t 0 w (by decide) q
  have HS1 := fun t w q => HSH.out t 1 w (by decide) q
  have HSH0 : Hid (∀ (t : Mst) (w : World), Hid (RunM w B rp cp op n c1 c2 t) → _) := HS0
  have HSH1 : Hid (∀ (t : Mst) (w : World), Hid (RunM w B rp cp op n c1 c2 t) → _) := HS1
  clear HS0 HS1 HSH
  have HSC : Hid (scanS s k = (shadeS (shadeS s (s.lk k 0)) (s.lk k 1)).setCo k 2) := rfl
  rw [HSC.out]
  obtain ⟨x0, HX0⟩ : ∃ x, Hid (s.lk k 0 = x) := ⟨_, rfl⟩
  obtain ⟨x1, HX1⟩ : ∃ x, Hid (s.lk k 1 = x) := ⟨_, rfl⟩
  rw [HX0.out] at HSH0 q0
  rw [HX1.out] at HSH1 q1
  rw [HX0.out, HX1.out]
  generalize s.fr k = z at q2
  clear h1 HSC
  have ix0 : ∀ w : World, (Instr.index 72 (.agg #[.int .i64 x0, .int .i64 x1]) (.int .i64 0)).run Try.prog w = .ok (.int .i64 x0) w := fun _ => by kernel_rfl
  have ix1 : ∀ w : World, (Instr.index 72 (.agg #[.int .i64 x0, .int .i64 x1]) (.int .i64 1)).run Try.prog w = .ok (.int .i64 x1) w := fun _ => by kernel_rfl
  go_enter Try.func73, Try.ntmps73
  go_wp2_with (go_at_call 84; refine hc.mono ?_; rintro e w' ⟨rfl, hw⟩; rw [hw]; clear hw w' hc)
  clear c0 ol cl r0 r1 rl q0 q1 q2
  go_loopw [29] (fun vi wr => ∃ (i : Nat) (t : Mst), i ≤ 2 ∧ vi = .int .i64 (i : Int) ∧ Hid (StageC s x0 x1 i t) ∧ Hid (RunM wr B rp cp op n c1 c2 t) ∧ Hid (OnlyF W wr (ofM rp cp op))) (fun vi _ => 2 - (intOf vi).toNat)
  case atStart => exact ⟨0, _, by omega, rfl, ⟨fun _ => rfl, (fun q => by cases q), (fun q => by cases q)⟩, h, OnlyF.refl _ _⟩
  case round =>
    obtain ⟨i, t, hi, rfl, HT, HR, HO⟩ := hrel
    rcases (show i = 0 ∨ i = 1 ∨ i = 2 by omega) with r | r | r
    · subst r
      have hc := HSH0.out t wr HR
      rw [HT.out.1 rfl] at hc
      go_wp2_with fail
      refine hc.mono ?_
      rintro e w3 ⟨rfl, hR3, hO3⟩
      have HT3 : Hid (StageC s x0 x1 1 (shadeS s x0)) := ⟨(fun q => by cases q), fun _ => rfl, (fun q => by cases q)⟩
      have HR3 : Hid (RunM w3 B rp cp op n c1 c2 (shadeS s x0)) := hR3
      have HO3 : Hid (OnlyF W w3 (ofM rp cp op)) := HO.out.trans hO3
      clear hR3 hO3 hc
      go_wp2
      go_roundw
      case rel => exact ⟨1, _, by omega, by go_num, HT3, HR3, HO3⟩
      case measure => simp [intOf]
    · subst r
      have hc := HSH1.out t wr HR
      rw [HT.out.2.1 rfl] at hc
      go_wp2_with fail
      refine hc.mono ?_
      rintro e w3 ⟨rfl, hR3, hO3⟩
      have HT3 : Hid (StageC s x0 x1 2 (shadeS (shadeS s x0) x1)) := ⟨(fun q => by cases q), (fun q => by cases q), fun _ => rfl⟩
      have HR3 : Hid (RunM w3 B rp cp op n c1 c2 (shadeS (shadeS s x0) x1)) := hR3
      have HO3 : Hid (OnlyF W w3 (ofM rp cp op)) := HO.out.trans hO3
      clear hR3 hO3 hc
      go_wp2
      go_roundw
      case rel => exact ⟨2, _, by omega, by go_num, HT3, HR3, HO3⟩
      case measure => simp [intOf]
    · subst r
      have R2 : Hid (RunM wr B rp cp op n c1 c2 (shadeS (shadeS s x0) x1)) := by show RunM _ _ _ _ _ _ _ _ _; rw [← HT.out.2.2 rfl]; exact HR.out
      have HA : Hid (DidTo B rp cp op n c1 c2 ((shadeS (shadeS s x0) x1).setCo k 2) true W (.returned (.bool true)) (wr.setCell ⟨op, k, none⟩ (.int .i64 2))) := ⟨rfl, R2.out.setCo hk 2, only_set HO.out (Or.inr (Or.inr rfl)) _⟩
      have u1 : wr.cell? ⟨rp, 1, none⟩ = some (.slice (some ⟨op, 0, none⟩) n c2) := R2.out.row.cell (i := 1) (by decide)
      have ul := R2.out.row.lt
      have uc := R2.out.color hk
      have uf := (R2.out.cols.2 k hk).2
      have uo := R2.out.cols.1
      generalize (shadeS (shadeS s x0) x1).co k = y at uc
      go_wp2
      go_ret
      exact HA.out
end Go.Proofs.Ytokaibpkajloeaa.walks
