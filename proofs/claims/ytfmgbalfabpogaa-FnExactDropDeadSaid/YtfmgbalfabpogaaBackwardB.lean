/-
  The blocks of a flow gone through from the last one to the first: slices.Backward over the program's blocks, for every loop body that writes two of the blocks of memory that lay there, and new ones.
-/
import Derived.RangeFuncNested
import Derived.RangeFuncBound
import Derived.RangeFuncCalls
import Derived.RangeFuncLeaves
import Derived.Shelf.Abstract
import Derived.WalkKit
import Derived.OwnWalkIn
import Derived.TacticsInMore
import Derived.LoopNIn
import Derived.LoopIn
import Derived.Test.YtfmgbalfabpogaaProg
import Derived.Test.YtfmgbalfabpogaaBackward
import Derived.Test.YtfmgbalfabpogaaNeedsAt
import Derived.Test.YtfmgbalfabpogaaLoopMaps
namespace Go.Proofs.Ytfmgbalfabpogaa.walks
open Go.RowKit Go.Shelf Go.Proofs.Ytfmgbalfabpogaa.math Go.Proofs.Ytfmgbalfabpogaa.ints
set_option linter.unusedVariables false
attribute [local go_sem] Oper.semAt_some

/-- What lay below n₀, but for two blocks, lies as it lay. -/
structure KeepTwo (n₀ na nc : Nat) (A B : World) : Prop where
  size : A.heap.size ≤ B.heap.size
  block : ∀ k, k < n₀ → k ≠ na → k ≠ nc → B.heap[k]? = A.heap[k]?
theorem KeepTwo.refl (n₀ na nc : Nat) (A : World) : KeepTwo n₀ na nc A A := ⟨Nat.le_refl _, fun _ _ _ _ => rfl⟩
theorem keepTwo_t {n₀ na nc : Nat} {A B C : World} (h : KeepTwo n₀ na nc A B) (k : KeepTwo n₀ na nc B C) : KeepTwo n₀ na nc A C := ⟨Nat.le_trans h.size k.size, fun i hi h1 h2 => (k.block i hi h1 h2).trans (h.block i hi h1 h2)⟩
theorem keepTwo_b {n₀ na nc : Nat} {w : World} (hn : n₀ ≤ w.heap.size) (W : World) (l : Nat) (x : Loop) (o' : Obj) (hl : w.heap.size ≤ l) (h : W.heap[l]? = some (.loop x)) : KeepTwo n₀ na nc W (W.putObj l o') :=
  ⟨(grownBy_putObj' W l o').size, fun k hk _ _ => (grownBy_putObj' W l o').block k (by have := (Array.getElem?_eq_some_iff.1 h).1; omega) (fun e => by cases e; omega)⟩
theorem KeepTwo.cell {n₀ na nc : Nat} {A B : World} (h : KeepTwo n₀ na nc A B) {p : Addr} (hp : p.block < n₀) (h1 : p.block ≠ na) (h2 : p.block ≠ nc) : B.cell? p = A.cell? p := World.cell?_of_block (h.block _ hp h1 h2)
/-- A block as the program holds it. -/
def blkV (A S : Nat → Option Addr × Nat) (f : Nat → Bv) (k : Nat) : Value := .agg #[.slice (A k).1 (f k).len (A k).2, .int .i64 (f k).t, .int .i64 (f k).th, .int .i64 (f k).el, .slice (S k).1 (f k).len (S k).2]
set_option maxHeartbeats 1000000 in
theorem backwardB_in (F : Fence) (n : Nat) (hf : F.fn 60) (hro : F.round = none) (a : Option Addr) (len cap : Nat) (w : World) :
    CallsIn F n Try.prog 60 #[.slice a len cap] w fun e w' => e = .returned (.func (.func 74) #[] #[.pointer (some ⟨w.heap.size, 0, none⟩)]) ∧ w' = w.alloc (.cells #[.slice a len cap] 72) := by
  refine callsIn_of_wp Try.func60 rfl hf ?_ hro
  simp only [Try.ntmps60, List.size_toArray, List.length_cons, List.length_nil, Nat.reduceAdd, Nat.reduceSub, Array.replicate_succ, Array.replicate_zero, List.push_toArray, List.append_toArray, List.nil_append, List.cons_append]
  gi_wp2
  go_ret
  exact ⟨rfl, rfl⟩
set_option maxRecDepth 100000 in
set_option maxHeartbeats 2000000 in
theorem backwardB1_in (F : Fence) (n : Nat) (hf : F.fn 74) (hro : F.round = none) (hn : 1 ≤ n) (l Bs n₀ na nc bb len cap : Nat) (A S : Nat → Option Addr × Nat) (f : Nat → Bv) (hlen : len ≤ 1048576) (hBs : Bs < n₀) (hB1 : Bs ≠ na) (hB2 : Bs ≠ nc) (hbb : bb < n₀) (hb1 : bb ≠ na) (hb2 : bb ≠ nc) (J Jx : List (Fin len) → World → Prop)
    (hY : ∀ pre x W, J pre W → pre.length < len → YieldAt F (n - 1) Try.prog l #[.int .i64 (x.val : Int), blkV A S f x.val] W fun e W' =>
      (e = .returned (.bool true) ∧ J (pre ++ [x]) W' ∧ KeepTwo n₀ na nc W W') ∨ (e = .returned (.bool false) ∧ Jx (pre ++ [x]) W'))
    (W : World) (hc : W.cell? ⟨Bs, 0, none⟩ = some (.slice (some ⟨bb, 0, none⟩) len cap)) (hS : Hid (∀ i, i < len * 5 → W.cell? ⟨bb, i, none⟩ = some (cell5 A S f i))) (h0 : J [] W) :
    CallsIn F n Try.prog 74 #[.func (.yield l) #[] #[], .pointer (some ⟨Bs, 0, none⟩)] W fun e W' => (∃ v, e = .returned v) ∧
      ((∃ ys, ys = downTo len len ∧ J ys W') ∨ (∃ pre, True ∧ Jx pre W')) := by
  refine callsIn_of_wp Try.func74 rfl hf ?_ hro
  simp only [Try.ntmps74, List.size_toArray, List.length_cons, List.length_nil, Nat.reduceAdd, Nat.reduceSub, Array.replicate_succ, Array.replicate_zero, List.push_toArray, List.append_toArray, List.nil_append, List.cons_append]
  gi_wp2
  gi_loopw [3] (fun vi wr => ∃ m : Nat, m ≤ len ∧ vi = .int .i64 ((m : Int) - 1) ∧ Hid (J (downTo len (len - m)) wr) ∧ Hid (KeepTwo n₀ na nc W wr)) (fun vi _ => ((Go.RowKit.intOf vi) + 1).toNat)
  case atStart => exact ⟨len, Nat.le_refl _, rfl, by show J _ _; rw [Nat.sub_self]; exact h0, KeepTwo.refl _ _ _ _⟩
  case round =>
    obtain ⟨m, hm, rfl, HJ, HK⟩ := hrel
    rcases m with _ | q
    · gi_wp2
      go_end0
      exact ⟨⟨_, rfl⟩, .inl ⟨_, rfl, HJ.out⟩⟩
    · have hq : ((q + 1 : Nat) : Int) - 1 = (q : Int) := by omega
      rw [hq]
      have hql : q < len := by omega
      have hqI : (q : Int) < (len : Int) := by omega
      have k0 : wr.cell? ⟨Bs, 0, none⟩ = some (.slice (some ⟨bb, 0, none⟩) len cap) := (HK.out.cell (p := ⟨Bs, 0, none⟩) hBs hB1 hB2).trans hc
      have K : ∀ i, i < 5 → wr.cell? ⟨bb, q * 5 + i, none⟩ = some (cell5 A S f (q * 5 + i)) := fun i hi => (HK.out.cell (p := ⟨bb, q * 5 + i, none⟩) hbb hb1 hb2).trans (hS.out _ (by omega))
      have c0 := K 0 (by omega)
      have c1 := K 1 (by omega)
      have c2 := K 2 (by omega)
      have c3 := K 3 (by omega)
      have c4 := K 4 (by omega)
      rw [Nat.add_zero, cell5_0] at c0
      rw [cell5_1] at c1
      rw [cell5_2] at c2
      rw [cell5_3] at c3
      rw [cell5_4] at c4
      have HN : Hid (downTo len (len - q) = downTo len (len - (q + 1)) ++ [⟨q, hql⟩]) := downTo_next hql
      obtain ⟨fn, tmps, assign, body, hy, hR⟩ := hY _ ⟨q, hql⟩ wr HJ.out (Nat.lt_of_le_of_lt (downTo_len _ _) (by omega))
      dsimp only [blkV] at hy
      rw [← HN.out] at hR
      clear hq hc hm K
      generalize (A q).1 = ca at hy c0
      generalize (A q).2 = cc at hy c0
      generalize (S q).1 = sa at hy c4
      generalize (S q).2 = sc at hy c4
      generalize (f q).len = ln at hy c0 c4
      generalize (f q).t = t at hy c1
      generalize (f q).th = th at hy c2
      generalize (f q).el = el at hy c3
      gi_wp2
      refine hR.mono ?_
      rintro e W3 (⟨rfl, hJ3, hk3⟩ | ⟨rfl, hJx3⟩)
      · have HJ3 : Hid (J (downTo len (len - q)) W3) := hJ3
        have HK3 : Hid (KeepTwo n₀ na nc W W3) := keepTwo_t HK.out hk3
        clear hJ3 hk3
        gi_wp2
        go_roundw
        case rel => exact ⟨q, by omega, by simp, HJ3, HK3⟩
        case measure => simp [Go.RowKit.intOf]
      · gi_wp2
        refine bodyPost_ret (results_none rfl _ _ _) rfl ?_
        exact ⟨⟨_, rfl⟩, .inr ⟨_, trivial, hJx3⟩⟩
theorem backwardB_stops (F : Fence) (n : Nat) (hf : F.fn 74) (hro : F.round = none) (hn : 1 ≤ n) (Bs n₀ na nc bb len cap : Nat) (A S : Nat → Option Addr × Nat) (f : Nat → Bv) (hlen : len ≤ 1048576) (w : World) (hn₀ : n₀ ≤ w.heap.size) (hBs : Bs < n₀) (hB1 : Bs ≠ na) (hB2 : Bs ≠ nc) (hbb : bb < n₀) (hb1 : bb ≠ na) (hb2 : bb ≠ nc)
    (hc : w.cell? ⟨Bs, 0, none⟩ = some (.slice (some ⟨bb, 0, none⟩) len cap)) (hS : ∀ i, i < len * 5 → w.cell? ⟨bb, i, none⟩ = some (cell5 A S f i)) :
    SeqW F n Try.prog 74 #[.pointer (some ⟨Bs, 0, none⟩)] (fun x : Fin len => #[Value.int .i64 (x.val : Int), blkV A S f x.val]) (KeepTwo n₀ na nc) (fun ys => ys = downTo len len) len w := fun l J W hW hY h0 => by
  refine (backwardB1_in F n hf hro hn l Bs n₀ na nc bb len cap A S f hlen hBs hB1 hB2 hbb hb1 hb2 J (fun _ _ => False) (fun pre x W1 q1 q2 => ?_) W ((hW.cell (p := ⟨Bs, 0, none⟩) (Nat.lt_of_lt_of_le hBs hn₀)).trans hc) (fun i hi => (hW.cell (p := ⟨bb, i, none⟩) (Nat.lt_of_lt_of_le hbb hn₀)).trans (hS i hi)) h0).mono ?_
  · obtain ⟨fn, tmps, assign, body, hy, hR⟩ := hY pre x W1 q1 q2
    exact ⟨fn, tmps, assign, body, hy, hR.mono fun e W' q => Or.inl q⟩
  · rintro e W' ⟨he, ⟨ys, rfl, hj⟩ | ⟨_, _, hF⟩⟩
    · exact ⟨he, _, rfl, hj⟩
    · exact hF.elim
end Go.Proofs.Ytfmgbalfabpogaa.walks
