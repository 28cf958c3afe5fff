/-
  What the specification's l7Code and BackStep answer, at every list of steps and names.
-/
import Derived.Test.YtfmgbalfabpogaaProg
import Derived.Test.YtfmgbalfabpogaaBackSpecW
import Derived.WalkKit
import Derived.WalkSpells
import Derived.Below
import Derived.Handy
import Derived.Deep.OwnRows
namespace Go.Proofs.Ytfmgbalfabpogaa.walks
open Go.RowKit Go.Proofs.Ytfmgbalfabpogaa.math Go.Proofs.Ytfmgbalfabpogaa.ints
set_option linter.unusedVariables false
set_option maxRecDepth 100000

theorem spec_back7 (o d x y n : Int) (p : Bool) (v : Value) (f : Nat → Bool) (W : World) (hg : goodI o d x y n = true) (hL : LRow W v (risingTo f 8)) :
    Calls Try.prog 55 #[.agg #[.int .i64 o, .int .i64 d, .int .i64 x, .int .i64 y, .int .i64 n], v, .bool p] W fun e W' => PutAns W (risingTo (backAt p o d x y f) 8) e W' := by
  by_cases h8 : o = 8
  · subst h8; exact back_a d x y n p v f W hg hL
  · obtain ⟨d0, d7⟩ := good_dst hg h8
    obtain ⟨dn, rfl⟩ := Int.eq_ofNat_of_zero_le d0
    have hd : dn < 8 := by omega
    cases hf : f dn
    · cases p
      · exact back_d o x y n dn v f W hg h8 hd hf hL
      · exact back_c o x y n dn v f W hg h8 hd hf hL
    · exact back_b o x y n dn p v f W hg h8 hd hf hL
theorem backK_next {p : Bool} {zs : List Int} {len q : Nat} {f : Nat → Bool} (h : q < len) : backK p zs len f (len - q) = backAt p (zs.getD (q * 5) 0) (zs.getD (q * 5 + 1) 0) (zs.getD (q * 5 + 2) 0) (zs.getD (q * 5 + 3) 0) (backK p zs len f (len - (q + 1))) := by
  have e : len - q = (len - (q + 1)) + 1 := by omega
  rw [e]
  show stepBack p zs (len - 1 - (len - (q + 1))) _ = _
  rw [show len - 1 - (len - (q + 1)) = q by omega]
  rfl
set_option maxHeartbeats 4000000 in
theorem spec_code7 (a : Option Addr) (len cap : Nat) (zs : List Int) (p : Bool) (v : Value) (f : Nat → Bool) (W : World) (hz : Hid (zs.length = len * 5)) (hlen : len ≤ 1048576) (hG : Hid (∀ k, k < len → stepB zs k = true)) (h : Hid (Ints W a zs)) (hL : LRow W v (risingTo f 8)) :
    Calls Try.prog 53 #[.slice a len cap, v, .bool p] W fun e W' => PutAns W (risingTo (backK p zs len f len) 8) e W' := by
  have HL0 : Hid (LRow W v (risingTo f 8)) := hL
  clear hL
  go_enter Try.func53, Try.ntmps53
  go_wp2
  go_loopw [1, 7] (fun vt vi wr => ∃ i : Nat, i ≤ len ∧ vi = .int .i64 ((i : Int) - 1) ∧ Hid (LRow wr vt (risingTo (backK p zs len f (len - i)) 8)) ∧ Hid (Below W.heap.size W wr)) (fun _ vi _ => ((intOf vi) + 1).toNat)
  case atStart => exact ⟨len, Nat.le_refl _, rfl, by show LRow _ _ _; rw [Nat.sub_self]; exact HL0.out, Below.refl _ _⟩
  case round =>
    obtain ⟨i, hi, rfl, HL, HB⟩ := hrel
    rcases i with _ | q
    · have HR : Hid (∀ v, LRow wr v (risingTo (backK p zs len f (len - 0)) 8) → PutAns W (risingTo (backK p zs len f len) 8) (.returned v) wr) := fun v hv => ⟨v, rfl, hv, HB.out⟩
      have HR' := HR.out _ HL.out
      have HR2 : Hid (PutAns W (risingTo (backK p zs len f len) 8) (.returned _) wr) := HR'
      clear HR'
      go_wp2
      go_ret
      exact HR2.out
    · have hq : ((q + 1 : Nat) : Int) - 1 = (q : Int) := by omega
      rw [hq]
      have hql : q < len := by omega
      obtain ⟨b, o', ha, hb, c0, c1, c2, c3, c4⟩ := Instr_at h.out hz.out HB.out hql
      subst ha
      have HBK : Hid (backK p zs len f (len - q) = backAt p (zs.getD (q * 5) 0) (zs.getD (q * 5 + 1) 0) (zs.getD (q * 5 + 2) 0) (zs.getD (q * 5 + 3) 0) (backK p zs len f (len - (q + 1)))) := backK_next hql
      have hg := hG.out q hql
      unfold stepB at hg
      have hbs := HB.out.size
      generalize zs.getD (q * 5) 0 = o at c0 hg HBK
      generalize zs.getD (q * 5 + 1) 0 = d at c1 hg HBK
      generalize zs.getD (q * 5 + 2) 0 = x at c2 hg HBK
      generalize zs.getD (q * 5 + 3) 0 = y at c3 hg HBK
      generalize zs.getD (q * 5 + 4) 0 = n at c4 hg
      have Hg : Hid (goodI o d x y n = true) := hg
      clear hg hq
      go_wp2_with fail
      refine (spec_back7 _ _ _ _ _ p _ (backK p zs len f (len - (q + 1))) _ Hg.out HL.out).mono ?_
      rw [← HBK.out]
      rintro e w1 ⟨v1, rfl, hL1, hB1⟩
      have HL1 : Hid (LRow w1 v1 (risingTo (backK p zs len f (len - q)) 8)) := hL1
      have HB1 : Hid (Below W.heap.size W w1) := HB.out.trans (hB1.mono hbs)
      clear hL1 hB1
      go_wp2
      go_roundw
      case rel => exact ⟨q, by omega, by go_num, HL1, HB1⟩
      case measure => simp [intOf]
theorem ints_at {w : World} {b off : Nat} {zs : List Int} (h : Ints w (some ⟨b, off, none⟩) zs) : ∀ i, i < zs.length → w.cell? ⟨b, off + i, none⟩ = some (.int .i64 (zs.getD i 0)) := by
  intro i hi
  rcases h with h | ⟨b', o', e, _, hc⟩
  · rw [h] at hi; simp at hi
  · simp only [Option.some.injEq, Addr.mk.injEq] at e
    obtain ⟨rfl, rfl, _⟩ := e
    exact hc i hi
theorem ints_news {w : World} {b off : Nat} {zs : List Int} (hc : ∀ i, i < zs.length → w.cell? ⟨b, off + i, none⟩ = some (.int .i64 (zs.getD i 0))) : ∀ (j : Nat) (u : Value), (zs.map (Value.int .i64))[j]? = some u → w.cell? ((⟨b, off, none⟩ : Addr).add j) = some u := by
  have := part_news (w := w) (b := b) (off := off) (zs := zs) 0 zs.length (by omega) hc
  simpa using this
theorem names_few {zs : List Int} (h : namesB zs = true) : zs.length ≤ 8 := by
  rw [names_rising h]
  exact rising_len _ 8
end Go.Proofs.Ytfmgbalfabpogaa.walks
