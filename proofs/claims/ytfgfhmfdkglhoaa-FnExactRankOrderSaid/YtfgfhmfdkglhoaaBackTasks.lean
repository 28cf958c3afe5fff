/-
  A list of tasks gone through from the last one to the first: slices.Backward, for every loop body that leaves the list and its box alone.
-/
import Derived.RangeFuncNested
import Derived.RangeFuncBound
import Derived.RangeFuncCalls
import Derived.RangeFuncLeaves
import Derived.Shelf.Abstract
import Derived.WalkKit
import Derived.OwnWalkIn
import Derived.TacticsInMore
import Derived.LoopNIn
import Derived.LoopIn
import Derived.Test.YtfgfhmfdkglhoaaProg
import Derived.Test.YtfgfhmfdkglhoaaInts
import Derived.Test.YtfgfhmfdkglhoaaPats
import Derived.Test.YtfgfhmfdkglhoaaRankMath

namespace Go.Proofs.Ytfgfhmfdkglhoaa.walks
open Go.RowKit Go.Shelf Go.Proofs.Ytfgfhmfdkglhoaa.math Go.Proofs.Ytfgfhmfdkglhoaa.ints
set_option linter.unusedVariables false
attribute [local go_sem] Oper.semAt_some

/-- The blocks below n₁ and the block Bs have not turned. -/
structure KeepLo (n₁ Bs : Nat) (A B : World) : Prop where
  size : A.heap.size ≤ B.heap.size
  block : ∀ k, k < n₁ ∨ k = Bs → B.heap[k]? = A.heap[k]?
theorem KeepLo.refl (n₁ Bs : Nat) (A : World) : KeepLo n₁ Bs A A := ⟨Nat.le_refl _, fun _ _ => rfl⟩
theorem keepLo_t {n₁ Bs : Nat} {A B C : World} (h : KeepLo n₁ Bs A B) (k : KeepLo n₁ Bs B C) : KeepLo n₁ Bs A C := ⟨Nat.le_trans h.size k.size, fun i hi => (k.block i hi).trans (h.block i hi)⟩
theorem keepLo_b {n₁ Bs : Nat} {w : World} (hn : n₁ ≤ w.heap.size) (hB : Bs < w.heap.size) (W : World) (l : Nat) (o o' : Obj) (hl : w.heap.size ≤ l) (h : W.heap[l]? = some o) (_ : o.isCells = false) (_ : o.isWalk = false) : KeepLo n₁ Bs W (W.putObj l o') :=
  ⟨(grownBy_putObj' W l o').size, fun k hk => (grownBy_putObj' W l o').block k (by have := (Array.getElem?_eq_some_iff.1 h).1; omega) (fun e => by cases e; omega)⟩
theorem KeepLo.cell {n₁ Bs : Nat} {A B : World} (h : KeepLo n₁ Bs A B) {p : Addr} (hp : p.block < n₁ ∨ p.block = Bs) : B.cell? p = A.cell? p := World.cell?_of_block (h.block _ hp)
/-- A task as it is handed over. -/
def taskV (A : Nat → Option Addr × Nat) (f : Nat → Pv) (k : Nat) : Value := .agg #[.int .i64 (f k).c, .slice (A k).1 (f k).zs.length (A k).2]
set_option maxHeartbeats 1000000 in
theorem backward_in (F : Fence) (n : Nat) (hf : F.fn 50) (hro : F.round = none) (a : Option Addr) (len cap : Nat) (w : World) :
    CallsIn F n Try.prog 50 #[.slice a len cap] w fun e w' => e = .returned (.func (.func 56) #[] #[.pointer (some ⟨w.heap.size, 0, none⟩)]) ∧ w' = w.alloc (.cells #[.slice a len cap] 27) := by
  refine callsIn_of_wp Try.func50 rfl hf ?_ hro
  simp only [Try.ntmps50, List.size_toArray, List.length_cons, List.length_nil, Nat.reduceAdd, Nat.reduceSub, Array.replicate_succ, Array.replicate_zero, List.push_toArray, List.append_toArray, List.nil_append, List.cons_append]
  gi_wp2
  go_ret
  exact ⟨rfl, rfl⟩
set_option maxRecDepth 100000 in
set_option maxHeartbeats 2000000 in
theorem backward1_in (F : Fence) (n : Nat) (hf : F.fn 56) (hro : F.round = none) (hn : 1 ≤ n) (l Bs n₁ : Nat) (a : Option Addr) (len cap : Nat) (A : Nat → Option Addr × Nat) (f : Nat → Pv) (hlen : len ≤ 1048576) (J Jx : List (Fin len) → World → Prop)
    (hY : ∀ pre x W, J pre W → pre.length < len → YieldAt F (n - 1) Try.prog l #[.int .i64 (x.val : Int), taskV A f x.val] W fun e W' =>
      (e = .returned (.bool true) ∧ J (pre ++ [x]) W' ∧ KeepLo n₁ Bs W W') ∨ (e = .returned (.bool false) ∧ Jx (pre ++ [x]) W'))
    (W : World) (hc : W.cell? ⟨Bs, 0, none⟩ = some (.slice a len cap)) (hS : Hid (len = 0 ∨ ∃ b o, a = some ⟨b, o, none⟩ ∧ b < n₁ ∧ ∀ i, i < len * 2 → W.cell? ⟨b, o + i, none⟩ = some (cellP A f i))) (h0 : J [] W) :
    CallsIn F n Try.prog 56 #[.func (.yield l) #[] #[], .pointer (some ⟨Bs, 0, none⟩)] W fun e W' => (∃ v, e = .returned v) ∧
      ((∃ ys, ys = downF len len ∧ J ys W') ∨ (∃ pre, (∃ k, k ≤ len ∧ pre = downF len k) ∧ Jx pre W')) := by
  refine callsIn_of_wp Try.func56 rfl hf ?_ hro
  simp only [Try.ntmps56, List.size_toArray, List.length_cons, List.length_nil, Nat.reduceAdd, Nat.reduceSub, Array.replicate_succ, Array.replicate_zero, List.push_toArray, List.append_toArray, List.nil_append, List.cons_append]
  gi_wp2
  gi_loopw [3] (fun vi wr => ∃ m : Nat, m ≤ len ∧ vi = .int .i64 ((m : Int) - 1) ∧ Hid (J (downF len (len - m)) wr) ∧ Hid (KeepLo n₁ Bs W wr)) (fun vi _ => ((Go.RowKit.intOf vi) + 1).toNat)
  case atStart => exact ⟨len, Nat.le_refl _, rfl, by show J _ _; rw [Nat.sub_self]; exact h0, KeepLo.refl _ _ _⟩
  case round =>
    obtain ⟨m, hm, rfl, HJ, HK⟩ := hrel
    rcases m with _ | q
    · gi_wp2
      go_end0
      exact ⟨⟨_, rfl⟩, .inl ⟨_, rfl, HJ.out⟩⟩
    · have hq : ((q + 1 : Nat) : Int) - 1 = (q : Int) := by omega
      rw [hq]
      have hql : q < len := by omega
      have hqI : (q : Int) < (len : Int) := by omega
      obtain ⟨sb, so, rfl, hb1, hsc⟩ : ∃ b o, a = some ⟨b, o, none⟩ ∧ b < n₁ ∧ ∀ i, i < len * 2 → W.cell? ⟨b, o + i, none⟩ = some (cellP A f i) := by
        rcases hS.out with e | e
        · omega
        · exact e
      have k0 : wr.cell? ⟨Bs, 0, none⟩ = some (.slice (some ⟨sb, so, none⟩) len cap) := (HK.out.cell (p := ⟨Bs, 0, none⟩) (Or.inr rfl)).trans hc
      have k1 : wr.cell? ⟨sb, so + q * 2, none⟩ = some (Value.int .i64 (f q).c) := (HK.out.cell (p := ⟨sb, so + q * 2, none⟩) (Or.inl hb1)).trans (by rw [hsc (q * 2) (by omega), cellP_c])
      have k2 : wr.cell? ⟨sb, so + q * 2 + 1, none⟩ = some (Value.slice (A q).1 (f q).zs.length (A q).2) := (HK.out.cell (p := ⟨sb, so + q * 2 + 1, none⟩) (Or.inl hb1)).trans (by rw [Nat.add_assoc, hsc (q * 2 + 1) (by omega), cellP_s])
      have HN : Hid (downF len (len - q) = downF len (len - (q + 1)) ++ [⟨q, hql⟩]) := downF_next hql
      obtain ⟨fn, tmps, assign, body, hy, hR⟩ := hY _ ⟨q, hql⟩ wr HJ.out (Nat.lt_of_le_of_lt (downF_len _ _) (by omega))
      dsimp only [taskV] at hy
      rw [← HN.out] at hR
      clear hq hsc hc hm
      generalize (f q).c = pc at hy k1
      generalize (f q).zs.length = pl at hy k2
      generalize (A q).1 = pa at hy k2
      generalize (A q).2 = pp at hy k2
      gi_wp2
      refine hR.mono ?_
      rintro e W3 (⟨rfl, hJ3, hk3⟩ | ⟨rfl, hJx3⟩)
      · have HJ3 : Hid (J (downF len (len - q)) W3) := hJ3
        have HK3 : Hid (KeepLo n₁ Bs W W3) := keepLo_t HK.out hk3
        clear hJ3 hk3
        gi_wp2
        go_roundw
        case rel => exact ⟨q, by omega, by simp, HJ3, HK3⟩
        case measure => simp [Go.RowKit.intOf]
      · gi_wp2
        refine bodyPost_ret (results_none rfl _ _ _) rfl ?_
        exact ⟨⟨_, rfl⟩, .inr ⟨_, ⟨_, Nat.sub_le _ _, rfl⟩, hJx3⟩⟩
theorem backward_stops (F : Fence) (n : Nat) (hf : F.fn 56) (hro : F.round = none) (hn : 1 ≤ n) (Bs n₁ : Nat) (a : Option Addr) (len cap : Nat) (A : Nat → Option Addr × Nat) (f : Nat → Pv) (hlen : len ≤ 1048576) (w : World) (hBs : Bs < w.heap.size) (hn₁ : n₁ ≤ w.heap.size)
    (hc : w.cell? ⟨Bs, 0, none⟩ = some (.slice a len cap)) (hS : len = 0 ∨ ∃ b o, a = some ⟨b, o, none⟩ ∧ b < n₁ ∧ ∀ i, i < len * 2 → w.cell? ⟨b, o + i, none⟩ = some (cellP A f i)) :
    SeqStopsK F n Try.prog 56 #[.pointer (some ⟨Bs, 0, none⟩)] (fun x : Fin len => #[Value.int .i64 (x.val : Int), taskV A f x.val]) (KeepLo n₁ Bs) (fun ys => ys = downF len len) (fun pre => ∃ k, k ≤ len ∧ pre = downF len k) len w := fun l J Jx W hW _ _ hY h0 =>
  backward1_in F n hf hro hn l Bs n₁ a len cap A f hlen J Jx hY W ((hW.cell (p := ⟨Bs, 0, none⟩) hBs).trans hc) (by
    rcases hS with e | ⟨b, o, e, hb, q⟩
    · exact Or.inl e
    · exact Or.inr ⟨b, o, e, hb, fun i hi => (hW.cell (p := ⟨b, o + i, none⟩) (show b < w.heap.size by omega)).trans (q i hi)⟩) h0
end Go.Proofs.Ytfgfhmfdkglhoaa.walks
