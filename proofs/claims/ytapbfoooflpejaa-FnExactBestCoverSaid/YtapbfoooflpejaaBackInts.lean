/-
  A list of ints gone through from the last one to the first: slices.Backward, for every loop body that leaves the list and its box alone.
-/
import Derived.RangeFuncNested
import Derived.RangeFuncBound
import Derived.RangeFuncCalls
import Derived.RangeFuncLeaves
import Derived.Shelf.Abstract
import Derived.WalkKit
import Derived.OwnWalkIn
import Derived.TacticsInMore
import Derived.LoopNIn
import Derived.LoopIn
import Derived.Test.YtapbfoooflpejaaProg
import Derived.Test.YtapbfoooflpejaaInts
import Derived.Test.YtapbfoooflpejaaTreeMath

namespace Go.Proofs.Ytapbfoooflpejaa.walks
open Go.RowKit Go.Shelf Go.Proofs.Ytapbfoooflpejaa.math Go.Proofs.Ytapbfoooflpejaa.ints
set_option linter.unusedVariables false
attribute [local go_sem] Oper.semAt_some

/-- The blocks below n₁ and the block Bs have not turned. -/
structure KeepLo (n₁ Bs : Nat) (A B : World) : Prop where
  size : A.heap.size ≤ B.heap.size
  block : ∀ k, k < n₁ ∨ k = Bs → B.heap[k]? = A.heap[k]?
theorem KeepLo.refl (n₁ Bs : Nat) (A : World) : KeepLo n₁ Bs A A := ⟨Nat.le_refl _, fun _ _ => rfl⟩
theorem keepLo_t {n₁ Bs : Nat} {A B C : World} (h : KeepLo n₁ Bs A B) (k : KeepLo n₁ Bs B C) : KeepLo n₁ Bs A C := ⟨Nat.le_trans h.size k.size, fun i hi => (k.block i hi).trans (h.block i hi)⟩
theorem keepLo_b {n₁ Bs : Nat} {w : World} (hn : n₁ ≤ w.heap.size) (hB : Bs < w.heap.size) (W : World) (l : Nat) (o o' : Obj) (hl : w.heap.size ≤ l) (h : W.heap[l]? = some o) (_ : o.isCells = false) (_ : o.isWalk = false) : KeepLo n₁ Bs W (W.putObj l o') :=
  ⟨(grownBy_putObj' W l o').size, fun k hk => (grownBy_putObj' W l o').block k (by have := (Array.getElem?_eq_some_iff.1 h).1; omega) (fun e => by cases e; omega)⟩
theorem KeepLo.cell {n₁ Bs : Nat} {A B : World} (h : KeepLo n₁ Bs A B) {p : Addr} (hp : p.block < n₁ ∨ p.block = Bs) : B.cell? p = A.cell? p := World.cell?_of_block (h.block _ hp)
/-- The numbers below len, from the last one down: the first k of them. -/
def downTo (len k : Nat) : List (Fin len) := (List.range k).filterMap fun j => if h : len - 1 - j < len then some ⟨len - 1 - j, h⟩ else none
theorem downTo_len (len k : Nat) : (downTo len k).length ≤ k := by
  unfold downTo
  exact Nat.le_trans (List.length_filterMap_le _ _) (by simp)
theorem downTo_next {len q : Nat} (h : q < len) : downTo len (len - q) = downTo len (len - (q + 1)) ++ [⟨q, h⟩] := by
  have e : len - q = (len - (q + 1)) + 1 := by omega
  rw [e]
  unfold downTo
  rw [List.range_succ, List.filterMap_append]
  have e2 : len - 1 - (len - (q + 1)) = q := by omega
  simp [e2, h]
set_option maxHeartbeats 1000000 in
theorem backward_in (F : Fence) (n : Nat) (hf : F.fn 39) (hro : F.round = none) (a : Option Addr) (len cap : Nat) (w : World) :
    CallsIn F n Try.prog 39 #[.slice a len cap] w fun e w' => e = .returned (.func (.func 48) #[] #[.pointer (some ⟨w.heap.size, 0, none⟩)]) ∧ w' = w.alloc (.cells #[.slice a len cap] 22) := by
  refine callsIn_of_wp Try.func39 rfl hf ?_ hro
  simp only [Try.ntmps39, List.size_toArray, List.length_cons, List.length_nil, Nat.reduceAdd, Nat.reduceSub, Array.replicate_succ, Array.replicate_zero, List.push_toArray, List.append_toArray, List.nil_append, List.cons_append]
  gi_wp2
  go_ret
  exact ⟨rfl, rfl⟩
set_option maxRecDepth 100000 in
set_option maxHeartbeats 2000000 in
theorem backward1_in (F : Fence) (n : Nat) (hf : F.fn 48) (hro : F.round = none) (hn : 1 ≤ n) (l Bs n₁ : Nat) (a : Option Addr) (len cap : Nat) (zs : List Int) (hlen : len ≤ 1048576) (hz : zs.length = len) (J Jx : List (Fin len) → World → Prop)
    (hY : ∀ pre x W, J pre W → pre.length < len → YieldAt F (n - 1) Try.prog l #[.int .i64 (x.val : Int), Value.int .i64 (zs.getD x.val 0)] W fun e W' =>
      (e = .returned (.bool true) ∧ J (pre ++ [x]) W' ∧ KeepLo n₁ Bs W W') ∨ (e = .returned (.bool false) ∧ Jx (pre ++ [x]) W'))
    (W : World) (hc : W.cell? ⟨Bs, 0, none⟩ = some (.slice a len cap)) (hS : Hid (Ints W a zs)) (hab : Hid (∀ b o, a = some ⟨b, o, none⟩ → 0 < len → b < n₁)) (h0 : J [] W) :
    CallsIn F n Try.prog 48 #[.func (.yield l) #[] #[], .pointer (some ⟨Bs, 0, none⟩)] W fun e W' => (∃ v, e = .returned v) ∧
      ((∃ ys, ys = downTo len len ∧ J ys W') ∨ (∃ pre, (∃ k, k ≤ len ∧ pre = downTo len k) ∧ Jx pre W')) := by
  refine callsIn_of_wp Try.func48 rfl hf ?_ hro
  simp only [Try.ntmps48, List.size_toArray, List.length_cons, List.length_nil, Nat.reduceAdd, Nat.reduceSub, Array.replicate_succ, Array.replicate_zero, List.push_toArray, List.append_toArray, List.nil_append, List.cons_append]
  gi_wp2
  gi_loopw [3] (fun vi wr => ∃ m : Nat, m ≤ len ∧ vi = .int .i64 ((m : Int) - 1) ∧ Hid (J (downTo len (len - m)) wr) ∧ Hid (KeepLo n₁ Bs W wr)) (fun vi _ => ((Go.RowKit.intOf vi) + 1).toNat)
  case atStart => exact ⟨len, Nat.le_refl _, rfl, by show J _ _; rw [Nat.sub_self]; exact h0, KeepLo.refl _ _ _⟩
  case round =>
    obtain ⟨m, hm, rfl, HJ, HK⟩ := hrel
    rcases m with _ | q
    · gi_wp2
      go_end0
      exact ⟨⟨_, rfl⟩, .inl ⟨_, rfl, HJ.out⟩⟩
    · have hq : ((q + 1 : Nat) : Int) - 1 = (q : Int) := by omega
      rw [hq]
      have hql : q < len := by omega
      have hqI : (q : Int) < (len : Int) := by omega
      obtain ⟨sb, so, rfl, hsb, hsc⟩ : ∃ b o, a = some ⟨b, o, none⟩ ∧ b < W.heap.size ∧ ∀ i, i < zs.length → W.cell? ⟨b, o + i, none⟩ = some (Value.int .i64 (zs.getD i 0)) := by
        rcases hS.out with e | e
        · rw [e] at hz; simp at hz; omega
        · exact e
      have hb1 := hab.out sb so rfl (by omega)
      have k0 : wr.cell? ⟨Bs, 0, none⟩ = some (.slice (some ⟨sb, so, none⟩) len cap) := (HK.out.cell (p := ⟨Bs, 0, none⟩) (Or.inr rfl)).trans hc
      have k1 : wr.cell? ⟨sb, so + q, none⟩ = some (Value.int .i64 (zs.getD q 0)) := (HK.out.cell (p := ⟨sb, so + q, none⟩) (Or.inl hb1)).trans (hsc q (by omega))
      have HN : Hid (downTo len (len - q) = downTo len (len - (q + 1)) ++ [⟨q, hql⟩]) := downTo_next hql
      obtain ⟨fn, tmps, assign, body, hy, hR⟩ := hY _ ⟨q, hql⟩ wr HJ.out (Nat.lt_of_le_of_lt (downTo_len _ _) (by omega))
      dsimp only at hy
      rw [← HN.out] at hR
      clear hq hsc hc hm
      generalize zs.getD q 0 = sv at hy k1
      gi_wp2
      refine hR.mono ?_
      rintro e W3 (⟨rfl, hJ3, hk3⟩ | ⟨rfl, hJx3⟩)
      · have HJ3 : Hid (J (downTo len (len - q)) W3) := hJ3
        have HK3 : Hid (KeepLo n₁ Bs W W3) := keepLo_t HK.out hk3
        clear hJ3 hk3
        gi_wp2
        go_roundw
        case rel => exact ⟨q, by omega, by simp, HJ3, HK3⟩
        case measure => simp [Go.RowKit.intOf]
      · gi_wp2
        refine bodyPost_ret (results_none rfl _ _ _) rfl ?_
        exact ⟨⟨_, rfl⟩, .inr ⟨_, ⟨_, Nat.sub_le _ _, rfl⟩, hJx3⟩⟩
theorem backward_stops (F : Fence) (n : Nat) (hf : F.fn 48) (hro : F.round = none) (hn : 1 ≤ n) (Bs n₁ : Nat) (a : Option Addr) (len cap : Nat) (zs : List Int) (hlen : len ≤ 1048576) (w : World) (hBs : Bs < w.heap.size) (hz : zs.length = len)
    (hc : w.cell? ⟨Bs, 0, none⟩ = some (.slice a len cap)) (hS : Ints w a zs) (hab : ∀ b o, a = some ⟨b, o, none⟩ → 0 < len → b < n₁) :
    SeqStopsK F n Try.prog 48 #[.pointer (some ⟨Bs, 0, none⟩)] (fun x : Fin len => #[Value.int .i64 (x.val : Int), Value.int .i64 (zs.getD x.val 0)]) (KeepLo n₁ Bs) (fun ys => ys = downTo len len) (fun pre => ∃ k, k ≤ len ∧ pre = downTo len k) len w := fun l J Jx W hW _ _ hY h0 =>
  backward1_in F n hf hro hn l Bs n₁ a len cap zs hlen hz J Jx hY W ((hW.cell (p := ⟨Bs, 0, none⟩) hBs).trans hc) (hS.kept hW) hab h0
end Go.Proofs.Ytapbfoooflpejaa.walks
