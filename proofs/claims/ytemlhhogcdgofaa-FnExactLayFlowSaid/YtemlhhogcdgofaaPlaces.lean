/-
  The place of each block in a layout (placesIn).
-/
import Derived.Test.YtemlhhogcdgofaaProg
import Derived.Test.YtemlhhogcdgofaaMagMath
import Derived.Test.YtemlhhogcdgofaaEdgeMath
import Derived.Test.YtemlhhogcdgofaaGoneMath
import Derived.Test.YtemlhhogcdgofaaInts
import Derived.WalkKit
import Derived.WalkSpells
import Derived.Below
import Derived.Handy
import Derived.Deep.OwnRows
import Derived.Deep.RegionWith
import Derived.Deep.QuietTactic
import Derived.BigQuiet
namespace Go.Proofs.Ytemlhhogcdgofaa.walks
open Go.RowKit Go.Proofs.Ytemlhhogcdgofaa.math Go.Proofs.Ytemlhhogcdgofaa.ints
set_option linter.unusedVariables false
set_option maxRecDepth 100000

/-- A list of ints that was made: placesIn. -/
theorem impl_places (a : Option Addr) (len cap : Nat) (zs : List Int) (W : World) (hz : Hid (zs.length = len)) (hl8 : len ≤ 8) (ho : Hid (orderB zs (len : Int) = true)) (h : Hid (Ints W a zs)) :
    Calls Try.prog 24 #[.slice a len cap] W fun e W' => ∃ b, e = .returned (.slice (some ⟨b, 0, none⟩) len len) ∧ W'.rowIs b 3 len (fun i => .int .i64 (plcTo zs len (i : Int))) ∧ W.heap.size ≤ b ∧ Below W.heap.size W W' := by
  have hmk := run_make_row' (P := Try.prog) 23 3 (.int .i64 0) 8 Try.underlying23 row_info rfl .i64 .i64 len (by omega) (by omega)
  go_enter Try.func24, Try.ntmps24
  go_wp2
  clear hmk
  go_loopw [11] (fun vi wr => ∃ k : Nat, k ≤ len ∧ vi = .int .i64 k ∧ Hid (wr.rowIs W.heap.size 3 len (fun j => .int .i64 (plcTo zs k (j : Int)))) ∧ Hid (Below W.heap.size W wr)) (fun vi _ => len - (intOf vi).toNat)
  case atStart =>
    refine ⟨0, Nat.zero_le _, rfl, ?_, ?_⟩
    · show World.rowIs _ _ _ _ _
      exact (World.rowIs_made W (.int .i64 0) len 3).congr (fun i hi => by simp [plcTo])
    · show Below _ _ _
      go_grown
  case round =>
    obtain ⟨k, hk, rfl, HC, HB⟩ := hrel
    by_cases hlt : k < len
    rotate_left
    · have HE : Hid (k = len) := by show k = len; omega
      rw [HE.out] at HC
      go_wp2
      go_ret
      exact ⟨W.heap.size, rfl, HC.out, Nat.le_refl _, HB.out⟩
    have hltI : (k : Int) < (len : Int) := by omega
    obtain ⟨b, off, ha, hc⟩ := h.out.at HB.out (k := k) (by rw [hz.out]; exact hlt)
    obtain ⟨x0, x1, _⟩ := (order_out ho.out).2 k (by rw [hz.out]; exact hlt)
    have HST : Hid (∀ i, plcTo zs (k + 1) i = if zs.getD k 0 = i then (k : Int) else plcTo zs k i) := fun i => rfl
    obtain ⟨x, hx⟩ : ∃ x, Hid (zs.getD k 0 = x) := ⟨_, rfl⟩
    rw [hx.out] at hc x0 x1 HST
    obtain ⟨m, rfl⟩ : ∃ m : Nat, x = (m : Int) := ⟨x.toNat, by omega⟩
    have hm : m < len := by omega
    have hmI : (m : Int) < (len : Int) := by omega
    have t0 := HC.out.cell hm
    have t1 := HC.out.frozen m
    subst ha
    go_wp2
    go_roundw
    case rel =>
      refine ⟨k + 1, by omega, by go_num, ?_, ?_⟩
      · show World.rowIs _ _ _ _ _
        refine (HC.out.set m _).congr ?_
        intro j hj
        rw [HST.out]
        by_cases e : j = m
        · subst e; simp
        · rw [if_neg e, if_neg (by omega)]
      · show Below _ _ _
        exact HB.out.setCell (Nat.le_refl _) _
    case measure => simp [intOf]; omega
end Go.Proofs.Ytemlhhogcdgofaa.walks
