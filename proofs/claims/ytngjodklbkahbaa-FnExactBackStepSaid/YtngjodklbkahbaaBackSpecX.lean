/-
  What the specification's l7Code and BackStep answer, at every list of steps and names.
-/
import Derived.Test.YtngjodklbkahbaaProg
import Derived.Test.YtngjodklbkahbaaBackSpecW
import Derived.WalkKit
import Derived.WalkSpells
import Derived.Below
import Derived.Handy
import Derived.Deep.OwnRows
namespace Go.Proofs.Ytngjodklbkahbaa.walks
open Go.RowKit Go.Proofs.Ytngjodklbkahbaa.math Go.Proofs.Ytngjodklbkahbaa.ints
set_option linter.unusedVariables false
set_option maxRecDepth 100000

theorem spec_back7 (o d x y n : Int) (p : Bool) (v : Value) (f : Nat → Bool) (W : World) (hg : goodI o d x y n = true) (hL : LRow W v (risingTo f 8)) :
    Calls Try.prog 26 #[.agg #[.int .i64 o, .int .i64 d, .int .i64 x, .int .i64 y, .int .i64 n], v, .bool p] W fun e W' => PutAns W (risingTo (backAt p o d x y f) 8) e W' := by
  by_cases h8 : o = 8
  · subst h8; exact back_a d x y n p v f W hg hL
  · obtain ⟨d0, d7⟩ := good_dst hg h8
    obtain ⟨dn, rfl⟩ := Int.eq_ofNat_of_zero_le d0
    have hd : dn < 8 := by omega
    cases hf : f dn
    · cases p
      · exact back_d o x y n dn v f W hg h8 hd hf hL
      · exact back_c o x y n dn v f W hg h8 hd hf hL
    · exact back_b o x y n dn p v f W hg h8 hd hf hL
theorem backK_next {p : Bool} {zs : List Int} {len q : Nat} {f : Nat → Bool} (h : q < len) : backK p zs len f (len - q) = backAt p (zs.getD (q * 5) 0) (zs.getD (q * 5 + 1) 0) (zs.getD (q * 5 + 2) 0) (zs.getD (q * 5 + 3) 0) (backK p zs len f (len - (q + 1))) := by
  have e : len - q = (len - (q + 1)) + 1 := by omega
  rw [e]
  show stepBack p zs (len - 1 - (len - (q + 1))) _ = _
  rw [show len - 1 - (len - (q + 1)) = q by omega]
  rfl
set_option maxHeartbeats 4000000 in
theorem spec_code7 (a : Option Addr) (len cap : Nat) (zs : List Int) (p : Bool) (v : Value) (f : Nat → Bool) (W : World) (hz : Hid (zs.length = len * 5)) (hlen : len ≤ 1048576) (hG : Hid (∀ k, k < len → stepB zs k = true)) (h : Hid (Ints W a zs)) (hL : LRow W v (risingTo f 8)) :
    Calls Try.prog 16 #[.slice a len cap, v, .bool p] W fun e W' => PutAns W (risingTo (backK p zs len f len) 8) e W' := by
  have HL0 : Hid (LRow W v (risingTo f 8)) := hL
  clear hL
  go_enter Try.func16, Try.ntmps16
  go_wp2
  go_loopw [1, 7] (fun vt vi wr => ∃ i : Nat, i ≤ len ∧ vi = .int .i64 ((i : Int) - 1) ∧ Hid (LRow wr vt (risingTo (backK p zs len f (len - i)) 8)) ∧ Hid (Below W.heap.size W wr)) (fun _ vi _ => ((intOf vi) + 1).toNat)
  case atStart => exact ⟨len, Nat.le_refl _, rfl, by show LRow _ _ _; rw [Nat.sub_self]; exact HL0.out, Below.refl _ _⟩
  case round =>
    obtain ⟨i, hi, rfl, HL, HB⟩ := hrel
    rcases i with _ | q
    · have HR : Hid (∀ v, LRow wr v (risingTo (backK p zs len f (len - 0)) 8) → PutAns W (risingTo (backK p zs len f len) 8) (.returned v) wr) := fun v hv => ⟨v, rfl, hv, HB.out⟩
      have HR' := HR.out _ HL.out
      have HR2 : Hid (PutAns W (risingTo (backK p zs len f len) 8) (.returned _) wr) := HR'
      clear HR'
      go_wp2
      go_ret
      exact HR2.out
    · have hq : ((q + 1 : Nat) : Int) - 1 = (q : Int) := by omega
      rw [hq]
      have hql : q < len := by omega
      obtain ⟨b, o', ha, hb, c0, c1, c2, c3, c4⟩ := Instr_at h.out hz.out HB.out hql
      subst ha
      have HBK : Hid (backK p zs len f (len - q) = backAt p (zs.getD (q * 5) 0) (zs.getD (q * 5 + 1) 0) (zs.getD (q * 5 + 2) 0) (zs.getD (q * 5 + 3) 0) (backK p zs len f (len - (q + 1)))) := backK_next hql
      have hg := hG.out q hql
      unfold stepB at hg
      have hbs := HB.out.size
      generalize zs.getD (q * 5) 0 = o at c0 hg HBK
      generalize zs.getD (q * 5 + 1) 0 = d at c1 hg HBK
      generalize zs.getD (q * 5 + 2) 0 = x at c2 hg HBK
      generalize zs.getD (q * 5 + 3) 0 = y at c3 hg HBK
      generalize zs.getD (q * 5 + 4) 0 = n at c4 hg
      have Hg : Hid (goodI o d x y n = true) := hg
      clear hg hq
      go_wp2_with fail
      refine (spec_back7 _ _ _ _ _ p _ (backK p zs len f (len - (q + 1))) _ Hg.out HL.out).mono ?_
      rw [← HBK.out]
      rintro e w1 ⟨v1, rfl, hL1, hB1⟩
      have HL1 : Hid (LRow w1 v1 (risingTo (backK p zs len f (len - q)) 8)) := hL1
      have HB1 : Hid (Below W.heap.size W w1) := HB.out.trans (hB1.mono hbs)
      clear hL1 hB1
      go_wp2
      go_roundw
      case rel => exact ⟨q, by omega, by go_num, HL1, HB1⟩
      case measure => simp [intOf]
theorem ints_at {w : World} {b off : Nat} {zs : List Int} (h : Ints w (some ⟨b, off, none⟩) zs) : ∀ i, i < zs.length → w.cell? ⟨b, off + i, none⟩ = some (.int .i64 (zs.getD i 0)) := by
  intro i hi
  rcases h with h | ⟨b', o', e, _, hc⟩
  · rw [h] at hi; simp at hi
  · simp only [Option.some.injEq, Addr.mk.injEq] at e
    obtain ⟨rfl, rfl, _⟩ := e
    exact hc i hi
theorem ints_news {w : World} {b off : Nat} {zs : List Int} (hc : ∀ i, i < zs.length → w.cell? ⟨b, off + i, none⟩ = some (.int .i64 (zs.getD i 0))) : ∀ (j : Nat) (u : Value), (zs.map (Value.int .i64))[j]? = some u → w.cell? ((⟨b, off, none⟩ : Addr).add j) = some u := by
  have := part_news (w := w) (b := b) (off := off) (zs := zs) 0 zs.length (by omega) hc
  simpa using this
theorem names_few {zs : List Int} (h : namesB zs = true) : zs.length ≤ 8 := by
  rw [names_rising h]
  exact rising_len _ 8
set_option maxHeartbeats 4000000 in
theorem spec_backstep (a : Option Addr) (lb lo len cap len2 cap2 : Nat) (zs ls : List Int) (W : World) (hz : Hid (zs.length = len * 5)) (hlen : len ≤ 1048576) (h : Hid (Ints W a zs)) (hz2 : Hid (ls.length = len2)) (hlen2 : len2 ≤ 1048576) (h2 : Hid (Ints W (some ⟨lb, lo, none⟩) ls)) :
    Calls Try.prog 5 #[.slice a len cap, .slice (some ⟨lb, lo, none⟩) len2 cap2] W fun e W' => NamesAns (codeB zs len && namesB ls) (risingTo (backK false zs len (memS ls) len) 8) W e W' := by
  obtain ⟨i0, hi, hz0, hz1, hz2'⟩ := info_parts row_info
  cases hc : codeB zs len
  · go_enter Try.func5, Try.ntmps5
    go_wp2_with (go_at_call 14; refine (spec_code _ _ _ zs _ hz hlen h).mono ?_; rw [hc]; rintro e w1 ⟨rfl, hb⟩; have HB : Hid (Below W.heap.size W w1) := hb; clear hb)
    go_ret2
    exact Or.inr ⟨rfl, rfl, HB.out⟩
  cases hn : namesB ls
  · go_enter Try.func5, Try.ntmps5
    go_wp2_with (first | (go_at_call 14; refine (spec_code _ _ _ zs _ hz hlen h).mono ?_; rw [hc]; rintro e w1 ⟨rfl, hb⟩; have HB : Hid (Below W.heap.size W w1) := hb; clear hb) | (go_at_call 15; refine (spec_names7 _ _ _ ls _ hz2 hlen2 (h2.out.kept HB.out)).mono ?_; rw [hn]; rintro e w2 ⟨rfl, rfl⟩))
    go_ret2
    exact Or.inr ⟨rfl, rfl, HB.out⟩
  have HG : Hid (∀ k, k < len → stepB zs k = true) := (code_out hc).2
  have HNR : Hid (ls = risingTo (memS ls) 8) := names_rising hn
  have hl8 : len2 ≤ 8 := by rw [← hz2.out]; exact names_few hn
  go_enter Try.func5, Try.ntmps5
  go_wp2_with (first | (go_at_call 14; refine (spec_code _ _ _ zs _ hz hlen h).mono ?_; rw [hc]; rintro e w1 ⟨rfl, hb⟩; have HB : Hid (Below W.heap.size W w1) := hb; clear hb) | (go_at_call 15; refine (spec_names7 _ _ _ ls _ hz2 hlen2 (h2.out.kept HB.out)).mono ?_; rw [hn]; rintro e w2 ⟨rfl, hw2⟩; rw [hw2]; clear hw2 w2) | (at_builtin; refine wpList_append_own _ rfl _ _ 23 rfl W.heap.size 3 i0 (.int .i64 0) 1 8 Try.underlying23 hi hz0 hz1 hz2' rfl (by decide) _ 0 [] rfl (World.ownsRow_made w1 #[] 0 HB.out.size (Nat.zero_le _) rfl) ⟨lb, lo, none⟩ len2 cap2 (ls.map (Value.int .i64)) rfl (by rw [List.length_map, hz2.out]; omega) ?c1 (map_one _) (by unfold maxLen; omega) (by omega) ?c2 ?_))
  case c1 => exact ints_news (ints_at (h2.out.kept (HB.out.alloc HB.out.size _)))
  case c2 => have := HB.out.size; simp; omega
  intro v' w2 hown' hgrow _
  have hO : Own w2 W.heap.size v' ls := by
    unfold Own
    rw [hz2.out]
    simpa using hown'
  have HL2 : Hid (LRow w2 v' (risingTo (memS ls) 8)) := by show LRow _ _ _; rw [← HNR.out]; exact LRow.of_own hO
  have HB2 : Hid (Below W.heap.size W w2) := (HB.out.alloc HB.out.size _).grown hgrow (by have := HB.out.size; simp; omega) (fun k hk => by simp [Value.ownBlock] at hk; have := HB.out.size; omega)
  have HI2 : Hid (Ints w2 a zs) := h.out.kept HB2.out
  clear hown' hgrow hO
  go_wp2_with fail
  refine (spec_code7 _ _ _ zs false _ (memS ls) _ hz hlen HG HI2 HL2.out).mono ?_
  rintro e w3 ⟨v3, rfl, hL3, hB3⟩
  have HR : Hid (NamesAns (true && true) (risingTo (backK false zs len (memS ls) len) 8) W (.returned (.tuple #[v3, .bool true])) w3) := Or.inl ⟨rfl, ⟨v3, rfl, hL3⟩, HB2.out.trans (hB3.mono HB2.out.size)⟩
  clear hL3 hB3
  go_wp2
  go_ret2
  exact HR.out
end Go.Proofs.Ytngjodklbkahbaa.walks
