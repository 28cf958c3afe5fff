/-
  What the laws' own helpers on numbers and lists answer, and the draw of code and words.
-/
import Derived.Test.YtfejfbafoaiidaaCur
import Derived.Test.YtfejfbafoaiidaaInts
import Derived.Test.YtfejfbafoaiidaaCurDraw
import Derived.Test.YtfejfbafoaiidaaPutSpec
import Derived.Test.YtfejfbafoaiidaaSpecRun
import Derived.Test.YtfejfbafoaiidaaCodeLive
import Derived.Maps.AppendAt
import Derived.BigFrame
import Derived.Handy
namespace Go.Proofs.Ytfejfbafoaiidaa.cur
open Go.RowKit Go.Proofs.Ytfejfbafoaiidaa.math Go.Proofs.Ytfejfbafoaiidaa.ints Go.Proofs.Ytfejfbafoaiidaa.walks
set_option linter.unusedVariables false

theorem OwnL.cut {w : World} {B n : Nat} {v : Value} {fl : List Int} (h : OwnL w B v n fl) : ∃ a cap, v = .slice a n cap ∧ Mine w B a fl ∧ n ≤ cap ∧ (a = none ∧ n = 0 ∧ cap = 0 ∨ ∃ g, a = some ⟨g, 0, none⟩) := by
  have h0 := h
  have hlen := h.1
  obtain ⟨a, cap, e, hM⟩ := h.mine
  rcases h.2 with ⟨rfl, hn⟩ | ⟨g, cap', cur, rfl, hg, hw, hle, _, _, hcur⟩
  · simp only [Value.slice.injEq] at e
    obtain ⟨rfl, rfl, rfl⟩ := e
    exact ⟨_, _, rfl, hM, Nat.le_refl _, Or.inl ⟨rfl, rfl, rfl⟩⟩
  · simp only [Value.slice.injEq] at e
    obtain ⟨rfl, _, rfl⟩ := e
    exact ⟨_, _, rfl, hM, by omega, Or.inr ⟨g, rfl⟩⟩
set_option maxRecDepth 100000 in
theorem number_any {len cap : Nat} {a : Option Addr} {w : World} (b : Nat) (hc : Src b a len w) (hlen : len ≤ 1048576) :
    Calls Try.prog 10 #[.slice a len cap] w fun e w' => ∃ r : Int, 0 ≤ r ∧ r ≤ 1000002 ∧ e = .returned (.int .i64 r) ∧ w' = w := by
  have HC : Hid (Src b a len w) := hc
  clear hc
  go_enter Try.func10, Try.ntmps10
  go_wp2
  go_loop [3, 8] (fun vn vi => ∃ (k : Nat) (x : Int), k ≤ len ∧ vi = .int .i64 k ∧ vn = .int .i64 x ∧ 0 ≤ x ∧ x ≤ 1000002) (fun _ vi => len - (intOf vi).toNat)
  case atStart => exact ⟨0, 0, Nat.zero_le _, rfl, rfl, by omega, by omega⟩
  case round =>
    obtain ⟨k, x, hk, rfl, rfl, x0, x1⟩ := hrel
    by_cases hlt : k < len
    · obtain ⟨bb, off, z, ha, z0, z1, hz⟩ : ∃ bb off z, a = some ⟨bb, off, none⟩ ∧ (0 : Int) ≤ z ∧ z ≤ 255 ∧ w.cell? ⟨bb, off + k, none⟩ = some (.int .u8 z) := by
        rcases HC.out with h | ⟨bb, off, rfl, _, _, h⟩
        · omega
        · obtain ⟨z, z0, z1, hz⟩ := h k hlt
          exact ⟨bb, off, z, rfl, z0, z1, hz⟩
      subst ha
      go_wp2
      go_round
      case rel => exact ⟨k + 1, _, by omega, by go_num, rfl, by omega, by omega⟩
      case measure => simp [intOf]; omega
    · go_wp2
      go_ret
      exact ⟨x, x0, x1, rfl, rfl⟩
theorem same_ints (a a' : Option Addr) (len cap cap' : Nat) (zs : List Int) (W : World) (hz : Hid (zs.length = len)) (hlen : len ≤ 1048576) (h : Hid (Ints W a zs)) (h' : Hid (Ints W a' zs)) :
    Calls Try.prog 7 #[.slice a len cap, .slice a' len cap'] W fun e W' => e = .returned (.bool true) ∧ Below W.heap.size W W' := by
  go_enter Try.func7, Try.ntmps7
  go_wp2
  go_loopw [13] (fun vi wr => ∃ k : Nat, k ≤ len ∧ vi = .int .i64 k ∧ Hid (Below W.heap.size W wr)) (fun vi _ => len - (intOf vi).toNat)
  case atStart => exact ⟨0, Nat.zero_le _, rfl, Below.refl _ _⟩
  case round =>
    obtain ⟨k, hk, rfl, HB⟩ := hrel
    by_cases hlt : k < len
    · obtain ⟨b, off, ha, hc⟩ := h.out.at HB.out (k := k) (by have := hz.out; omega)
      obtain ⟨b', off', ha', hc'⟩ := h'.out.at HB.out (k := k) (by have := hz.out; omega)
      subst ha ha'
      go_wp2
      go_region
      go_wp2
      go_roundw
      case rel => exact ⟨k + 1, by omega, by go_num, HB.out.drew⟩
      case measure => simp [intOf]; omega
    · go_wp2
      go_ret
      exact ⟨rfl, HB.out⟩
set_option maxRecDepth 100000 in
theorem has_eq (a : Option Addr) (len cap : Nat) (zs : List Int) (x : Int) (W : World) (hz : Hid (zs.length = len)) (hlen : len ≤ 1048576) (h : Hid (Ints W a zs)) :
    Calls Try.prog 13 #[.slice a len cap, .int .i64 x] W fun e W' => e = .returned (.bool (decide (x ∈ zs))) ∧ W' = W := by
  go_enter Try.func13, Try.ntmps13
  go_wp2
  go_loop [9] (fun vi => ∃ k : Nat, k ≤ len ∧ vi = .int .i64 k ∧ Hid (∀ i, i < k → zs.getD i 0 ≠ x)) (fun vi => len - (intOf vi).toNat)
  case atStart => exact ⟨0, Nat.zero_le _, rfl, fun i hi => by omega⟩
  case round =>
    obtain ⟨k, hk, rfl, HN⟩ := hrel
    by_cases hlt : k < len
    · obtain ⟨b, off, ha, hc⟩ := h.out.at (Below.refl _ _) (k := k) (by have := hz.out; omega)
      subst ha
      by_cases he : zs.getD k 0 = x
      · have HM : Hid (x ∈ zs) := by
          show x ∈ zs
          have hk' : k < zs.length := by have := hz.out; omega
          have e : zs.getD k 0 = zs[k] := by simp [List.getD, hk']
          rw [← he, e]
          exact List.getElem_mem hk'
        rw [he] at hc
        clear he
        go_wp2
        go_ret
        exact ⟨by have hm := HM.out; simp [hm], rfl⟩
      · have HN' : Hid (∀ i, i < k + 1 → zs.getD i 0 ≠ x) := by
          intro i hi
          by_cases e : i = k
          · rw [e]; exact he
          · exact HN.out i (by omega)
        have q : (zs.getD k 0 == x) = false := by simpa using he
        have q' : decide (zs.getD k 0 = x) = false := decide_eq_false he
        generalize zs.getD k 0 = y at hc q q' he
        go_wp2
        go_round
        case rel => exact ⟨k + 1, by omega, by go_num, HN'⟩
        case measure => simp [intOf]; omega
    · have HM : Hid (x ∉ zs) := by
        show x ∉ zs
        intro hm
        obtain ⟨i, hi, e⟩ := List.getElem_of_mem hm
        have := hz.out
        refine HN.out i (by omega) ?_
        simp [List.getD, hi, e]
      go_wp2
      go_ret
      exact ⟨by have hm := HM.out; simp [hm], rfl⟩
theorem drawRun_cut {len cap : Nat} {a : Option Addr} {w : World} (hc : Src w.heap.size a len w) (hlen : len ≤ 1048576) :
    Calls Try.prog 4 #[.slice a len cap] w fun e w' => ∃ (k : Nat) (fl zs : List Int) (a1 a2 : Option Addr) (c1 c2 : Nat), k ≤ 31 ∧ k ≤ c1 ∧ (a1 = none ∧ k = 0 ∧ c1 = 0 ∨ ∃ g, a1 = some ⟨g, 0, none⟩) ∧ fl.length = k * 5 ∧ zs.length = 8 ∧ e = .returned (.tuple #[.slice a1 k c1, .slice a2 8 c2]) ∧ Ints w' a1 fl ∧ Ints w' a2 zs ∧ Below w.heap.size w w' := by
  have HCode : Hid (Src w.heap.size a len w) := hc
  clear hc
  go_enter Try.func4, Try.ntmps4
  go_wp2_with fail
  refine (code3_loop (cur_new _ HCode.out) hlen (by omega)).mono ?_
  rintro e w1 ⟨k, fl, v, hk, rfl, hO, hC, hG⟩
  obtain ⟨a1, c1, rfl, hM, hkc, hform⟩ := hO.cut
  have HL : Hid (fl.length = k * 5) := hO.len
  have H1 : Hid (Cur w.heap.size a len cap (0 + 1000) w1) := hC
  have M1 : Hid (Mine w1 (w.heap.size + 1) a1 fl) := by show Mine _ _ _ _; simpa using hM
  have B1 : Hid (Below w.heap.size w w1) := below_of_grown ((Below.refl _ _).alloc (Nat.le_refl _) _) (by simp) hG
  have z1 : w.heap.size < w1.heap.size := by have := hG.size; simp at this; omega
  have HKC : Hid (k ≤ c1) := hkc
  have HFO : Hid (a1 = none ∧ k = 0 ∧ c1 = 0 ∨ ∃ g, a1 = some ⟨g, 0, none⟩) := hform
  clear hO hC hG hM hkc hform
  go_wp2_with fail
  refine (vars_any H1.out hlen (by omega)).mono ?_
  rintro e w2 ⟨zs, v, hzl, rfl, hO, hC, hG⟩
  obtain ⟨a2, c2, rfl, hM⟩ := hO.mine
  rw [hzl]
  have I1 : Hid (Ints w2 a1 fl) := by
    show Ints _ _ _
    rcases M1.out with e | ⟨g, off, rfl, h0, hlt, hcz⟩
    · exact Or.inl e
    · exact Or.inr ⟨g, off, rfl, Nat.lt_of_lt_of_le hlt hG.size, fun i hi => (World.cell?_of_block (a := ⟨g, off + i, none⟩) (hG.block g hlt (by simp; omega))).trans (hcz i hi).1⟩
  have I2 : Hid (Ints w2 a2 zs) := hM.ints
  have B2 : Hid (Below w.heap.size w w2) := below_of_grown B1.out (by omega) hG
  clear hO hC hG hM
  go_wp2
  go_ret2
  exact ⟨k, fl, zs, a1, a2, c1, c2, hk, HKC.out, HFO.out, HL.out, hzl, rfl, I1.out, I2.out, B2.out⟩
theorem drawNeed_any {len cap : Nat} {a : Option Addr} {w : World} (hc : Src w.heap.size a len w) (hlen : len ≤ 1048576) :
    Calls Try.prog 14 #[.slice a len cap] w fun e w' => ∃ (k : Nat) (fl : List Int) (a1 : Option Addr) (c1 : Nat), k ≤ 31 ∧ fl.length = k * 5 ∧ e = .returned (.slice a1 k c1) ∧ Ints w' a1 fl ∧ Below w.heap.size w w' := by
  have HCode : Hid (Src w.heap.size a len w) := hc
  clear hc
  go_enter Try.func14, Try.ntmps14
  go_wp2_with fail
  refine (drawGood_any HCode.out hlen).mono ?_
  rintro e w1 ⟨k, fl, a1, c1, hk, hl, rfl, hI, hB⟩
  have HL : Hid (fl.length = k * 5) := hl
  have M1 : Hid (Ints w1 a1 fl) := hI
  have B1 : Hid (Below w.heap.size w w1) := hB
  clear hl hI hB
  go_wp2
  go_ret
  exact ⟨k, fl, a1, c1, hk, HL.out, rfl, M1.out, B1.out⟩
/-- A list cut in two. -/
theorem ints_take {w : World} {a : Option Addr} {zs : List Int} (h : Ints w a zs) (m : Nat) : Ints w a (zs.take m) := by
  rcases h with e | ⟨b, off, e, hl, hc⟩
  · exact Or.inl (by rw [e]; simp)
  · exact Or.inr ⟨b, off, e, hl, fun i hi => by
      have h1 : i < m := by simp at hi; omega
      have h2 : i < zs.length := by simp at hi; omega
      rw [hc i h2]; simp [List.getD, h1]⟩
theorem ints_drop {w : World} {b off m : Nat} {zs : List Int} (h : Ints w (some ⟨b, off, none⟩) zs) : Ints w (some ⟨b, off + m, none⟩) (zs.drop m) := by
  rcases h with e | ⟨b', off', e, hl, hc⟩
  · exact Or.inl (by rw [e]; simp)
  · simp only [Option.some.injEq, Addr.mk.injEq] at e
    obtain ⟨rfl, rfl, _⟩ := e
    exact Or.inr ⟨b, off + m, rfl, hl, fun i hi => by
      rw [Nat.add_assoc, hc (m + i) (by simp at hi; omega)]; simp [List.getD, List.getElem?_drop]⟩
theorem app_none {w : World} {B : Nat} {v : Value} {xs : List Int} (c : Nat) (hown : Own w B v xs) : (Builtin.append_ #[24, 24] 24 #[v, .slice none 0 c]).run Try.prog w = .ok v w := by
  obtain ⟨i0, hi, hz0, hz1, hz2⟩ := info_parts row_info
  rcases hown.2 with ⟨rfl, hn⟩ | ⟨g, cap, cur, rfl, _, _, hnc, _⟩
  · simp [Builtin.append_, run_underlying Try.underlying24, sizeOf, typeInfo, hi, Builtin.lenOf, Builtin.firstCells]
  · simp [Builtin.append_, run_underlying Try.underlying24, sizeOf, typeInfo, hi, Builtin.lenOf, Builtin.firstCells, hnc, storeCells]
/-- A list is put behind one of the call's own. -/
theorem own_append {w : World} {B c : Nat} {v : Value} {xs zs : List Int} {a : Option Addr} (hown : Own w B v xs) (h : Ints w a zs) (hB : B ≤ w.heap.size) (hx : xs.length + zs.length ≤ 1000000) :
    ∃ v' w', (Builtin.append_ #[24, 24] 24 #[v, .slice a zs.length c]).run Try.prog w = .ok v' w' ∧ Own w' B v' (xs ++ zs) ∧ w.grownBy w' v.ownBlock := by
  obtain ⟨i0, hi, hz0, hz1, hz2⟩ := info_parts row_info
  rcases a with _ | ad
  · have e : zs = [] := by
      rcases h with e | ⟨b, off, e, _⟩
      · exact e
      · cases e
    subst e
    exact ⟨v, w, app_none c hown, by simpa using hown, grown_refl _ _⟩
  · have hn : ∀ (j : Nat) (u : Value), (zs.map (Value.int .i64))[j]? = some u → w.cell? (ad.add j) = some u := by
      rcases h with e | ⟨b, off, e, hl, hc⟩
      · subst e; intro j u hj; simp at hj
      · cases e; exact ints_news hc
    obtain ⟨v', w', hr, h2, h3, _, _⟩ := run_append_own_at (P := Try.prog) w B 24 24 3 i0 (.int .i64 0) 1 8 Try.underlying24 hi hz0 hz1 hz2 rfl (by decide) v xs.length (xs.map (Value.int .i64)) hown ad zs.length c (zs.map (Value.int .i64)) (by simp) hn (ints_one zs) (by unfold maxLen; omega) (by omega) hB
    exact ⟨v', w', hr, by unfold Own; simpa using h2, h3⟩
theorem own_made (w : World) (B : Nat) (hB : B ≤ w.heap.size) : Own (w.alloc (.cells #[] 3)) B (.slice (some ⟨w.heap.size, 0, none⟩) 0 0) [] := World.ownsRow_made w #[] 0 hB (Nat.zero_le _) rfl
/-- An append whose outcome is known, also behind a guard that says yes. -/
theorem wpList_app {P : Program} {ops : Array Oper} {rest : List Oper} {o : Oper} {a : Act} {w w' : World} {Q : Exit → Act → World → Prop} (hw : Region.wanted o (yielded ops a.tmps) = true) (s x : Operand) (t : TypeId) (v z v' : Value)
    (ho : o.op = .call { callee := .builtin .append, args := #[s, x], argTypes := #[t, t] }) (hs : a.eval s = v) (hx : a.eval x = z) (hr : (Builtin.append_ #[t, t] o.type #[v, z]).run P w = .ok v' w')
    (h : wpList P ops Q rest (a.put o.dst v') w') : wpList P ops Q (o :: rest) a w :=
  BigFrame.wpList_want hw fun K hK => by
    unfold Oper.wp execOp
    simp only [ho, resolve, invoke, builtin, Sem.run_bind, Sem.run_pure, Result.andThen_ok, List.map_toArray, List.map_cons, List.map_nil, hs, hx, hr]
    exact hK _ _ h
theorem mine_set {w : World} {B b off j : Nat} {zs : List Int} {x : Int} (h : Mine w B (some ⟨b, off, none⟩) zs) (hj : j < zs.length) : Mine (w.setCell ⟨b, off + j, none⟩ (.int .i64 x)) B (some ⟨b, off, none⟩) (zs.set j x) := by
  rcases h with e | ⟨b', off', e, hB, hl, hc⟩
  · rw [e] at hj; simp at hj
  · simp only [Option.some.injEq, Addr.mk.injEq] at e
    obtain ⟨rfl, rfl, _⟩ := e
    refine Or.inr ⟨b, off, rfl, hB, by simpa [World.setCell] using hl, fun i hi => ?_⟩
    rw [List.length_set] at hi
    obtain ⟨c, f⟩ := hc i hi
    refine ⟨?_, by simpa using f⟩
    by_cases e : i = j
    · subst e
      rw [World.cell?_setCell_same _ _ _ c, set_same hi]
    · rw [World.cell?_setCell_other _ _ _ _ (by simp; try omega), c, set_other (fun q => e q.symm)]
theorem has_needed (f : Nat → Bool) {n : Nat} (h : n < 8) : decide ((n : Int) ∈ risingTo f 8) = f n := by
  rw [← has_rising f h]; simp
theorem lrow_ints {w : World} {v : Value} {zs : List Int} (h : LRow w v zs) : ∃ a cap, v = .slice a zs.length cap ∧ Ints w a zs := by
  rcases h with ⟨rfl, rfl⟩ | ⟨b, off, cap, rfl, hc, hb, hx⟩
  · exact ⟨none, 0, rfl, Or.inl rfl⟩
  · exact ⟨_, cap, rfl, Or.inr ⟨b, off, rfl, hb, hx⟩⟩
end Go.Proofs.Ytfejfbafoaiidaa.cur
