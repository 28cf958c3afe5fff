/-
  A list of steps gone through from the last one to the first: slices.Backward over the program's steps, for every loop body that writes one set alone.
-/
import Derived.RangeFuncNested
import Derived.RangeFuncBound
import Derived.RangeFuncCalls
import Derived.RangeFuncLeaves
import Derived.Shelf.Abstract
import Derived.WalkKit
import Derived.OwnWalkIn
import Derived.TacticsInMore
import Derived.LoopNIn
import Derived.LoopIn
import Derived.Test.YtfmgbalfabpogaaProg
import Derived.Test.YtfmgbalfabpogaaStepsOf
namespace Go.Proofs.Ytfmgbalfabpogaa.walks
open Go.RowKit Go.Shelf Go.Proofs.Ytfmgbalfabpogaa.math Go.Proofs.Ytfmgbalfabpogaa.ints
set_option linter.unusedVariables false
attribute [local go_sem] Oper.semAt_some

/-- What lay below n₀, but for block mb, lies as it lay. -/
structure KeepBut (n₀ mb : Nat) (A B : World) : Prop where
  size : A.heap.size ≤ B.heap.size
  block : ∀ k, k < n₀ → k ≠ mb → B.heap[k]? = A.heap[k]?
theorem KeepBut.refl (n₀ mb : Nat) (A : World) : KeepBut n₀ mb A A := ⟨Nat.le_refl _, fun _ _ _ => rfl⟩
theorem keepBut_t {n₀ mb : Nat} {A B C : World} (h : KeepBut n₀ mb A B) (k : KeepBut n₀ mb B C) : KeepBut n₀ mb A C := ⟨Nat.le_trans h.size k.size, fun i hi hne => (k.block i hi hne).trans (h.block i hi hne)⟩
theorem keepBut_b {n₀ mb : Nat} {w : World} (hn : n₀ ≤ w.heap.size) (W : World) (l : Nat) (o o' : Obj) (hl : w.heap.size ≤ l) (h : W.heap[l]? = some o) (_ : o.isCells = false) (_ : o.isWalk = false) : KeepBut n₀ mb W (W.putObj l o') :=
  ⟨(grownBy_putObj' W l o').size, fun k hk _ => (grownBy_putObj' W l o').block k (by have := (Array.getElem?_eq_some_iff.1 h).1; omega) (fun e => by cases e; omega)⟩
theorem KeepBut.cell {n₀ mb : Nat} {A B : World} (h : KeepBut n₀ mb A B) {p : Addr} (hp : p.block < n₀) (hne : p.block ≠ mb) : B.cell? p = A.cell? p := World.cell?_of_block (h.block _ hp hne)
/-- The numbers below len, from the last one down: the first k of them. -/
def downTo (len k : Nat) : List (Fin len) := (List.range k).filterMap fun j => if h : len - 1 - j < len then some ⟨len - 1 - j, h⟩ else none
theorem downTo_len (len k : Nat) : (downTo len k).length ≤ k := by
  unfold downTo
  exact Nat.le_trans (List.length_filterMap_le _ _) (by simp)
theorem downTo_next {len q : Nat} (h : q < len) : downTo len (len - q) = downTo len (len - (q + 1)) ++ [⟨q, h⟩] := by
  have e : len - q = (len - (q + 1)) + 1 := by omega
  rw [e]
  unfold downTo
  rw [List.range_succ, List.filterMap_append]
  have e2 : len - 1 - (len - (q + 1)) = q := by omega
  simp [e2, h]
set_option maxHeartbeats 1000000 in
theorem backward_in (F : Fence) (n : Nat) (hf : F.fn 47) (hro : F.round = none) (a : Option Addr) (len cap : Nat) (w : World) :
    CallsIn F n Try.prog 47 #[.slice a len cap] w fun e w' => e = .returned (.func (.func 64) #[] #[.pointer (some ⟨w.heap.size, 0, none⟩)]) ∧ w' = w.alloc (.cells #[.slice a len cap] 85) := by
  refine callsIn_of_wp Try.func47 rfl hf ?_ hro
  simp only [Try.ntmps47, List.size_toArray, List.length_cons, List.length_nil, Nat.reduceAdd, Nat.reduceSub, Array.replicate_succ, Array.replicate_zero, List.push_toArray, List.append_toArray, List.nil_append, List.cons_append]
  gi_wp2
  go_ret
  exact ⟨rfl, rfl⟩
set_option maxRecDepth 100000 in
set_option maxHeartbeats 2000000 in
theorem backward1_in (F : Fence) (n : Nat) (hf : F.fn 64) (hro : F.round = none) (hn : 1 ≤ n) (l Bs n₀ mb : Nat) (a : Option Addr) (len cap : Nat) (zs : List Int) (hlen : len ≤ 1048576) (hBs : Bs < n₀) (hBm : Bs ≠ mb) (J Jx : List (Fin len) → World → Prop)
    (hY : ∀ pre x W, J pre W → pre.length < len → YieldAt F (n - 1) Try.prog l #[.int .i64 (x.val : Int), stepAt zs x.val] W fun e W' =>
      (e = .returned (.bool true) ∧ J (pre ++ [x]) W' ∧ KeepBut n₀ mb W W') ∨ (e = .returned (.bool false) ∧ Jx (pre ++ [x]) W'))
    (W : World) (hc : W.cell? ⟨Bs, 0, none⟩ = some (.slice a len cap)) (hS : Hid (Steps W a zs len)) (hab : Hid (∀ b o, a = some ⟨b, o, none⟩ → 0 < len → b < n₀ ∧ b ≠ mb)) (h0 : J [] W) :
    CallsIn F n Try.prog 64 #[.func (.yield l) #[] #[], .pointer (some ⟨Bs, 0, none⟩)] W fun e W' => (∃ v, e = .returned v) ∧
      ((∃ ys, ys = downTo len len ∧ J ys W') ∨ (∃ pre, True ∧ Jx pre W')) := by
  refine callsIn_of_wp Try.func64 rfl hf ?_ hro
  simp only [Try.ntmps64, List.size_toArray, List.length_cons, List.length_nil, Nat.reduceAdd, Nat.reduceSub, Array.replicate_succ, Array.replicate_zero, List.push_toArray, List.append_toArray, List.nil_append, List.cons_append]
  gi_wp2
  gi_loopw [3] (fun vi wr => ∃ m : Nat, m ≤ len ∧ vi = .int .i64 ((m : Int) - 1) ∧ Hid (J (downTo len (len - m)) wr) ∧ Hid (KeepBut n₀ mb W wr)) (fun vi _ => ((Go.RowKit.intOf vi) + 1).toNat)
  case atStart => exact ⟨len, Nat.le_refl _, rfl, by show J _ _; rw [Nat.sub_self]; exact h0, KeepBut.refl _ _ _⟩
  case round =>
    obtain ⟨m, hm, rfl, HJ, HK⟩ := hrel
    rcases m with _ | q
    · gi_wp2
      go_end0
      exact ⟨⟨_, rfl⟩, .inl ⟨_, rfl, HJ.out⟩⟩
    · have hq : ((q + 1 : Nat) : Int) - 1 = (q : Int) := by omega
      rw [hq]
      have hql : q < len := by omega
      have hqI : (q : Int) < (len : Int) := by omega
      obtain ⟨sb, rfl, hsb, hsc⟩ : ∃ b, a = some ⟨b, 0, none⟩ ∧ b < W.heap.size ∧ ∀ i, i < len → W.cell? ⟨b, i, none⟩ = some (stepAt zs i) := by
        rcases hS.out with e | e
        · omega
        · exact e
      obtain ⟨hb1, hb2⟩ := hab.out sb 0 rfl (by omega)
      have k0 : wr.cell? ⟨Bs, 0, none⟩ = some (.slice (some ⟨sb, 0, none⟩) len cap) := (HK.out.cell (p := ⟨Bs, 0, none⟩) hBs hBm).trans hc
      have k1 : wr.cell? ⟨sb, q, none⟩ = some (stepAt zs q) := (HK.out.cell (p := ⟨sb, q, none⟩) hb1 hb2).trans (hsc q hql)
      have HN : Hid (downTo len (len - q) = downTo len (len - (q + 1)) ++ [⟨q, hql⟩]) := downTo_next hql
      obtain ⟨fn, tmps, assign, body, hy, hR⟩ := hY _ ⟨q, hql⟩ wr HJ.out (Nat.lt_of_le_of_lt (downTo_len _ _) (by omega))
      dsimp only at hy
      rw [← HN.out] at hR
      clear hq hsc hc hm
      generalize stepAt zs q = sv at hy k1
      gi_wp2
      refine hR.mono ?_
      rintro e W3 (⟨rfl, hJ3, hk3⟩ | ⟨rfl, hJx3⟩)
      · have HJ3 : Hid (J (downTo len (len - q)) W3) := hJ3
        have HK3 : Hid (KeepBut n₀ mb W W3) := keepBut_t HK.out hk3
        clear hJ3 hk3
        gi_wp2
        go_roundw
        case rel => exact ⟨q, by omega, by simp, HJ3, HK3⟩
        case measure => simp [Go.RowKit.intOf]
      · gi_wp2
        refine bodyPost_ret (results_none rfl _ _ _) rfl ?_
        exact ⟨⟨_, rfl⟩, .inr ⟨_, trivial, hJx3⟩⟩
theorem backward_stops (F : Fence) (n : Nat) (hf : F.fn 64) (hro : F.round = none) (hn : 1 ≤ n) (Bs n₀ mb : Nat) (a : Option Addr) (len cap : Nat) (zs : List Int) (hlen : len ≤ 1048576) (w : World) (hn₀ : n₀ ≤ w.heap.size) (hBs : Bs < n₀) (hBm : Bs ≠ mb)
    (hc : w.cell? ⟨Bs, 0, none⟩ = some (.slice a len cap)) (hS : Steps w a zs len) (hab : ∀ b o, a = some ⟨b, o, none⟩ → 0 < len → b < n₀ ∧ b ≠ mb) :
    SeqStopsK F n Try.prog 64 #[.pointer (some ⟨Bs, 0, none⟩)] (fun x : Fin len => #[Value.int .i64 (x.val : Int), stepAt zs x.val]) (KeepBut n₀ mb) (fun ys => ys = downTo len len) (fun _ => True) len w := fun l J Jx W hW _ _ hY h0 =>
  backward1_in F n hf hro hn l Bs n₀ mb a len cap zs hlen hBs hBm J Jx hY W ((hW.cell (p := ⟨Bs, 0, none⟩) (Nat.lt_of_lt_of_le hBs hn₀)).trans hc) (hS.kept hW) hab h0
end Go.Proofs.Ytfmgbalfabpogaa.walks
