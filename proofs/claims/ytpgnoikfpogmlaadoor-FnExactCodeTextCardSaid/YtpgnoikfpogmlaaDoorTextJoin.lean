/-
  What the program's CodeText answers, at every list of steps: the code's text (strconv.Itoa and strings.Join by their contracts).
-/
import Derived.Test.YtpgnoikfpogmlaaDoorProg
import Derived.Test.YtpgnoikfpogmlaaDoorMagMath
import Derived.Test.YtpgnoikfpogmlaaDoorCodeMath
import Derived.Test.YtpgnoikfpogmlaaDoorRunMath
import Derived.Test.YtpgnoikfpogmlaaDoorInts
import Derived.Test.YtpgnoikfpogmlaaDoorRecsInstr
import Derived.Test.YtpgnoikfpogmlaaDoorStepImpl
import Derived.Test.YtpgnoikfpogmlaaDoorStepsOf
import Derived.Test.YtpgnoikfpogmlaaDoorTextSpec
import Derived.Test.YtpgnoikfpogmlaaDoorTextStep
import Derived.Test.YtpgnoikfpogmlaaDoorTextCode
import Derived.Test.YtpgnoikfpogmlaaDoorTextImpl
import Derived.Lib.Join
import Derived.WalkKit
import Derived.WalkSpells
import Derived.Below
import Derived.Handy
namespace Go.Proofs.YtpgnoikfpogmlaaDoor.walks
open Go.RowKit Go.Proofs.YtpgnoikfpogmlaaDoor.math Go.Proofs.YtpgnoikfpogmlaaDoor.ints
set_option linter.unusedVariables false

/-- strconv.Itoa's contract in the worlds that go on from W. -/
def ItoaOk (W : World) : Prop := ∀ (m : Nat) (w : World), m ≤ 65535 → Below W.heap.size W w → Calls Tryd.prog 32 #[.int .i64 (m : Int)] w fun e w' => e = .returned (.string (numS m)) ∧ Below w.heap.size w w'
theorem ItoaOk.on {W W1 : World} (h : ItoaOk W) (hb : Below W.heap.size W W1) : ItoaOk W1 := fun m w hm hw => h m w hm (hb.trans (hw.mono hb.size))
theorem impl_stext (o d a b n : Int) (W : World) (hg : goodI o d a b n = true) (HT : ItoaOk W) : Calls Tryd.prog 17 #[stepV o d a b n] W fun e W' => e = .returned (.string (textS o d a b n)) ∧ Below W.heap.size W W' := by
  rcases good_cases hg with ⟨rfl, ⟨d0, d7⟩, n0, n1⟩ | ⟨rfl, ⟨d0, d7⟩, a0, a7⟩ | ⟨rfl, a0, a7⟩ | ⟨⟨o3, o7⟩, ⟨d0, d7⟩, ⟨a0, a7⟩, b0, b7⟩
  · refine stext_1 d n _ W d0 d7 (num_size n0 n1) ?_
    show ∀ w : World, _
    intro w hw
    obtain ⟨m, rfl⟩ := Int.eq_ofNat_of_zero_le n0
    exact HT m w (by omega) hw
  · exact stext_2 d a W d0 d7 a0 a7
  · exact stext_8 a W a0 a7
  · have e : textS o d a b n = letterS d ++ ⟨#[61]⟩ ++ letterS a ++ signS o ++ letterS b := by
      unfold textS
      rw [if_neg (by omega), if_neg (by omega), if_neg (by omega)]
    rw [e, stepV_p o3 o7]
    exact stext_p o d a b W o3 o7 d0 d7 a0 a7 b0 b7
/-- The steps' texts, one by one. -/
def textsTo (zs : List Int) : Nat → List ByteArray
  | 0 => []
  | k + 1 => textsTo zs k ++ [textAt zs k]
theorem texts_len (zs : List Int) : ∀ k, (textsTo zs k).length = k
  | 0 => rfl
  | k + 1 => by simp [textsTo, texts_len zs k]
theorem join_snoc (sep : List UInt8) (xs : List (List UInt8)) (y : List UInt8) (h : xs ≠ []) : Lib.join (xs ++ [y]) sep = Lib.join xs sep ++ sep ++ y := by
  cases xs with
  | nil => exact absurd rfl h
  | cons x r =>
    rw [List.cons_append, Lib.join_cons, Lib.join_cons]
    simp [Lib.joinTail]
theorem texts_join (zs : List Int) : ∀ k, Lib.join ((textsTo zs k).map (·.data.toList)) [59] = (textTo zs k).data.toList
  | 0 => rfl
  | 1 => by simp [textsTo, textTo, Lib.join]
  | k + 2 => by
    have ih := texts_join zs (k + 1)
    have hne : (textsTo zs (k + 1)).map (·.data.toList) ≠ [] := by simp [textsTo]
    rw [show textsTo zs (k + 2) = textsTo zs (k + 1) ++ [textAt zs (k + 1)] from rfl, List.map_append, List.map_singleton, join_snoc _ _ _ hne, ih]
    rw [show textTo zs (k + 2) = (if 0 < k + 1 then textTo zs (k + 1) ++ ⟨#[59]⟩ else textTo zs (k + 1)) ++ textAt zs (k + 1) from rfl, if_pos (by omega)]
    simp
/-- strings.Join's contract at a semicolon. -/
def JoinOk : Prop := (∀ (a : Option Addr) (c : Nat) (w : World), Calls Tryd.prog 18 #[.slice a 0 c, .string ⟨#[59]⟩] w fun e w' => e = .returned (.string ⟨#[]⟩) ∧ w' = w) ∧
  ∀ (bk c : Nat) (xs : List ByteArray) (w : World), (∀ (j : Nat) x, xs[j]? = some x → w.cell? ⟨bk, 0 + j, none⟩ = some (.string x)) → bk < w.heap.size → xs.length ≤ 30 → xs.length ≤ c → (Lib.join (xs.map (·.data.toList)) [59]).length ≤ 1000 → Calls Tryd.prog 18 #[.slice (some ⟨bk, 0, none⟩) xs.length c, .string ⟨#[59]⟩] w fun e w' => e = .returned (.string ⟨(Lib.join (xs.map (·.data.toList)) [59]).toArray⟩) ∧ Below w.heap.size w w'
theorem str_row : (Tryd.prog.info? 9).map (fun i => (i.zero, i.size, i.bytes)) = some (some (.string ⟨#[]⟩), 1, 16) := by kernel_rfl
def OwnS (w : World) (B : Nat) (v : Value) (xs : List ByteArray) : Prop := w.ownsRow B 9 1 v xs.length (xs.map Value.string)
theorem OwnS.far {w w' : World} {B : Nat} {v : Value} {xs : List ByteArray} (h : OwnS w B v xs) (hb : Below w.heap.size w w') : OwnS w' B v xs := by
  refine ⟨h.1, ?_⟩
  rcases h.2 with k | ⟨g, cap, cur, e, hg, hw, r⟩
  · exact Or.inl k
  · exact Or.inr ⟨g, cap, cur, e, hg, (hb.block g (Array.getElem?_eq_some_iff.1 hw).1).trans hw, r⟩
theorem OwnS.snoc {W wr w1 : World} {B : Nat} {u v' : Value} {x : ByteArray} {xs : List ByteArray} {o : Obj} (hown : OwnS wr B u xs) (hB : B ≤ wr.heap.size) (hb : Below B W wr)
    (hown' : w1.ownsRow B 9 1 v' (xs.length + 1) (xs.map Value.string ++ [.string x])) (hgrow : (wr.alloc o).grownBy w1 u.ownBlock) : OwnS w1 B v' (xs ++ [x]) ∧ Below B W w1 := by
  refine ⟨by unfold OwnS; simpa using hown', (hb.alloc hB o).grown hgrow (by simp; omega) (fun j hj => (World.ownsRow.lt hown j hj).1)⟩
theorem OwnS.list {w : World} {B : Nat} {v : Value} {xs : List ByteArray} (h : OwnS w B v xs) : (xs = [] ∧ ∃ a c, v = .slice a 0 c) ∨ ∃ b c, v = .slice (some ⟨b, 0, none⟩) xs.length c ∧ xs.length ≤ c ∧ b < w.heap.size ∧ ∀ (j : Nat) x, xs[j]? = some x → w.cell? ⟨b, 0 + j, none⟩ = some (.string x) := by
  have h0 := h
  unfold OwnS at h0
  rcases h.2 with ⟨rfl, hn⟩ | ⟨g, cap, cur, rfl, hg, hw, hle, _, _, hcur⟩
  · exact Or.inl ⟨List.length_eq_zero_iff.1 hn, none, 0, rfl⟩
  · refine Or.inr ⟨g, cap, rfl, hle, (h0.lt g rfl).2, fun j x hx => ?_⟩
    have hj : j < xs.length := (List.getElem?_eq_some_iff.1 hx).1
    have := h0.cellAt j (by omega)
    rw [Nat.zero_add, this, List.getElem?_map, hx]
    rfl
set_option maxHeartbeats 2000000 in
set_option maxRecDepth 100000 in
theorem impl_codetext (a : Option Addr) (len cap : Nat) (zs : List Int) (W : World) (hz : Hid (zs.length = len * 5)) (hlen : len ≤ 1048576) (h : Hid (Ints W a zs)) (HT : Hid (ItoaOk W)) (HJ : Hid JoinOk) :
    Calls Tryd.prog 6 #[.slice a len cap] W fun e W' => TextAns zs len W e W' := by
  obtain ⟨i0, hi, hz0, hz1, hz2⟩ := info_parts str_row
  go_enter Tryd.func6, Tryd.ntmps6
  go_wp2_with fail
  refine (impl_steps a len cap zs W hz hlen h).mono ?_
  rintro e w1 ⟨⟨hc, a', c', rfl, hS⟩ | ⟨hc, rfl⟩, hb⟩
  rotate_left
  · have HA : Hid (TextAns zs len W (.returned (.tuple #[.string ⟨#[]⟩, .bool false])) w1) := ⟨Or.inr ⟨hc, rfl⟩, hb⟩
    clear hb hc
    go_wp2
    go_ret2
    exact HA.out
  have HS : Hid (Steps w1 a' zs len) := hS
  have HB : Hid (Below W.heap.size W w1) := hb
  have HC : Hid (codeB zs len = true) := hc
  have h30 : len ≤ 30 := (code_out hc).1
  have HT1 : Hid (ItoaOk w1) := HT.out.on hb
  clear hS hb hc
  go_wp2
  go_loopw [6, 18] (fun vt vi wr => ∃ k : Nat, k ≤ len ∧ vi = .int .i64 k ∧ Hid (OwnS wr w1.heap.size vt (textsTo zs k)) ∧ Hid (Below w1.heap.size w1 wr)) (fun _ vi _ => len - (intOf vi).toNat)
  case atStart => exact ⟨0, Nat.zero_le _, rfl, World.ownsRow_nil _ _ _ _, Below.refl _ _⟩
  case round =>
    obtain ⟨k, hk, rfl, HO, HK⟩ := hrel
    by_cases hlt : k < len
    · obtain ⟨sb, rfl, hsb, hsc⟩ : ∃ b, a' = some ⟨b, 0, none⟩ ∧ b < w1.heap.size ∧ ∀ i, i < len → w1.cell? ⟨b, i, none⟩ = some (stepAt zs i) := by
        rcases HS.out with e | e
        · omega
        · exact e
      obtain ⟨sv, hsv, HV⟩ : ∃ sv, wr.cell? ⟨sb, k, none⟩ = some sv ∧ Hid (sv = stepAt zs k) := ⟨_, (HK.out.cell (p := ⟨sb, k, none⟩) hsb).trans (hsc k hlt), rfl⟩
      clear hsc
      have HG : Hid (stepB zs k = true) := (code_out HC.out).2 k hlt
      obtain ⟨st, HST⟩ : ∃ st, Hid (textAt zs k = st) := ⟨_, rfl⟩
      have HX : Hid (textsTo zs (k + 1) = textsTo zs k ++ [st]) := by show _ = _; rw [← HST.out]; rfl
      have HLN : Hid ((textsTo zs k).length = k) := texts_len zs k
      have hks := HK.out.size
      go_wp2_with (first
        | (go_at_call 17; rw [HV.out]; refine (impl_stext _ _ _ _ _ _ HG.out (HT1.out.on HK.out)).mono ?_; rw [show textS _ _ _ _ _ = st from HST.out]; rintro e w' ⟨rfl, hb'⟩; have HO' : Hid (OwnS w' w1.heap.size _ (textsTo zs k)) := HO.out.far hb'; have HK' : Hid (Below w1.heap.size w1 w') := HK.out.trans (hb'.mono hks); have hw' : w1.heap.size ≤ w'.heap.size := HK'.out.size; clear hb')
        | (at_builtin; refine wpList_append_own _ rfl _ _ 39 rfl w1.heap.size 9 i0 (.string ⟨#[]⟩) 1 16 Tryd.underlying39 hi hz0 hz1 hz2 rfl (by decide) _ _ _ rfl (World.ownsRow.alloc HO'.out _) ⟨w'.heap.size, 0, none⟩ 1 1 [.string st] rfl rfl ?c1 ?c2 ?c3 ?c4 ?c5 ?_)
        | go_in)
      case c1 =>
        intro j u hj
        match j, hj with
        | 0, hj => simp at hj; subst hj; simp [Addr.add]
      case c2 =>
        intro u hu
        simp at hu
        subst hu
        rfl
      case c3 => rw [HLN.out]; unfold maxLen; omega
      case c4 => rw [HLN.out]; omega
      case c5 => simp; omega
      · intro v' w2 hown' hgrow _
        obtain ⟨q0, q1⟩ := OwnS.snoc HO'.out hw' HK'.out hown' hgrow
        have Q0 : Hid (OwnS w2 w1.heap.size v' (textsTo zs k ++ [st])) := q0
        have Q1 : Hid (Below w1.heap.size w1 w2) := q1
        clear hown' hgrow q0 q1
        go_wp2
        go_roundw
        case rel => exact ⟨k + 1, by omega, by go_num, by rw [HX.out]; exact Q0, Q1⟩
        case measure => simp [intOf]; omega
    · have HE : Hid (k = len) := by show k = len; omega
      have HBW : Hid (Below W.heap.size W wr) := HB.out.trans (HK.out.mono HB.out.size)
      have hsz : (textTo zs k).size ≤ 9 * k := textTo_size (code_out HC.out).2 k hk
      have HJL : Hid ((Lib.join ((textsTo zs k).map (·.data.toList)) [59]).length ≤ 1000) := by show _ ≤ 1000; rw [texts_join]; simp; omega
      have HJE : Hid (⟨(Lib.join ((textsTo zs k).map (·.data.toList)) [59]).toArray⟩ = textTo zs len) := by show _ = _; rw [texts_join, HE.out]
      rcases HO.out.list with ⟨hnil, ja, jc, rfl⟩ | ⟨jb, jc, rfl, hjc, hjb, hjx⟩
      · have hk0 : k = 0 := by rw [← texts_len zs k, hnil]; rfl
        have HZ : Hid (textTo zs len = ⟨#[]⟩) := by show _ = _; rw [← HE.out, hk0]; rfl
        clear hnil hsz
        go_wp2_with (go_at_call 18; refine (HJ.out.1 _ _ _).mono ?_; rintro e w' ⟨rfl, hw⟩; rw [hw]; clear hw w')
        go_ret2
        exact ⟨Or.inl ⟨HC.out, by rw [HZ.out]; rfl⟩, HBW.out⟩
      · have HX : Hid (∀ (j : Nat) x, (textsTo zs k)[j]? = some x → wr.cell? ⟨jb, 0 + j, none⟩ = some (.string x)) := hjx
        have hlx : (textsTo zs k).length ≤ 30 := by rw [texts_len]; omega
        clear hjx hsz
        go_wp2_with (go_at_call 18; refine (HJ.out.2 _ _ _ _ HX.out hjb hlx hjc HJL.out).mono ?_; rw [HJE.out]; rintro e w' ⟨rfl, hb'⟩; have HB' : Hid (Below W.heap.size W w') := HBW.out.trans (hb'.mono HBW.out.size); clear hb')
        go_ret2
        exact ⟨Or.inl ⟨HC.out, rfl⟩, HB'.out⟩
end Go.Proofs.YtpgnoikfpogmlaaDoor.walks
