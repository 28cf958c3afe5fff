/-
  A copy of a block (copied), and one that goes on at new numbers (newNumber, numberedAnew).
-/
import Derived.Test.YtemlhhogcdgofaaProg
import Derived.Test.YtemlhhogcdgofaaInts
import Derived.Test.YtemlhhogcdgofaaRecsInstr
import Derived.Test.YtemlhhogcdgofaaDeepRow
import Derived.Test.YtemlhhogcdgofaaOwnFlat
import Derived.Test.YtemlhhogcdgofaaLayMath
import Derived.WalkKit
import Derived.WalkSpells
import Derived.Below
import Derived.Handy
import Derived.OwnWalk
import Derived.Maps.AppendAt
import Derived.Deep.RegionWith
import Derived.Deep.DeepCutAuto
import Derived.Deep.OwnRows
import Derived.Deep.DeepFit
namespace Go.Proofs.Ytemlhhogcdgofaa.walks
open Go.RowKit Go.Proofs.Ytemlhhogcdgofaa.math Go.Proofs.Ytemlhhogcdgofaa.ints Go.Proofs.Ytemlhhogcdgofaa.deep
set_option linter.unusedVariables false
set_option maxRecDepth 100000

theorem instr_news {W w : World} {ad : Addr} {zs : List Int} (h : Ints W (some ad) zs) (hb : Below W.heap.size W w) : ∀ j u, (zs.map (Value.int .i64))[j]? = some u → w.cell? (ad.add j) = some u := by
  intro j u hj
  have hlt : j < zs.length := by have := (List.getElem?_eq_some_iff.1 hj).1; simpa using this
  rcases h with h | ⟨b, off, e, hbl, hc⟩
  · rw [h] at hlt; simp at hlt
  · obtain rfl := Option.some.inj e
    have ha : (⟨b, off, none⟩ : Addr).add j = ⟨b, off + j, none⟩ := by unfold Addr.add; split <;> simp_all
    rw [ha, hb.cell (p := ⟨b, off + j, none⟩) hbl, hc j hlt]
    simp [hlt] at hj
    rw [← hj]
    simp [List.getD, hlt]
theorem mineF_blk {w w' : World} {B : Nat} {a : Option Addr} {zs : List Int} (h : Mine w B a zs) (hs : w.heap.size ≤ w'.heap.size) (hb : ∀ k, B ≤ k → k < w.heap.size → w'.heap[k]? = w.heap[k]?) : Mine w' B a zs := by
  rcases h with h | ⟨g, off, e, hB, hl, hc⟩
  · exact Or.inl h
  · exact Or.inr ⟨g, off, e, hB, Nat.lt_of_lt_of_le hl hs, fun j hj => ⟨(World.cell?_of_block (hb g hB hl)).trans (hc j hj).1, (World.frozen?_of_block (hb g hB hl)).trans (hc j hj).2⟩⟩
def CopiedTo (zs : List Int) (len : Nat) (t th el : Int) (W : World) (e : Ending) (W' : World) : Prop := ∃ a c, e = .returned (.agg #[.slice a len c, .int .i64 t, .int .i64 th, .int .i64 el]) ∧ Mine W' W.heap.size a zs ∧ Below W.heap.size W W'
set_option maxHeartbeats 8000000 in
theorem impl_copied (ca : Option Addr) (len cc : Nat) (t th el : Int) (sa : Option Addr) (sl sc : Nat) (zs : List Int) (W : World) (hz : Hid (zs.length = len * 5)) (hlen : len ≤ 30) (h : Hid (Ints W ca zs)) :
    Calls Try.prog 43 #[.agg #[.slice ca len cc, .int .i64 t, .int .i64 th, .int .i64 el, .slice sa sl sc]] W fun e W' => CopiedTo zs len t th el W e W' := by
  obtain ⟨i5, hi5, hz5, hz6, hz7⟩ := parts_of Instr_info
  cases ca with
  | none =>
    have e0 : zs = [] := by
      rcases h.out with q | ⟨b, off, e, _⟩
      · exact q
      · cases e
    subst e0
    have hL0 : len = 0 := by have := hz.out; simp at this; omega
    subst hL0
    go_enter Try.func43, Try.ntmps43
    go_wp2
    refine bodyPost_ret (v := .agg #[.slice none 0 0, .int .i64 t, .int .i64 th, .int .i64 el]) (by simp only [results, Try.results43]; go_simp) rfl ⟨none, 0, rfl, Or.inl rfl, ?_⟩
    show Below _ _ _
    go_grown
  | some ad =>
    obtain ⟨news, HNW⟩ : ∃ news, Hid (zs.map (Value.int .i64) = news) := ⟨_, rfl⟩
    have hl : news.length = len * 5 := by rw [← HNW.out]; simpa using hz.out
    have h1n : Hid (∀ u ∈ news, u.oneCell' = true) := by rw [← HNW.out]; exact news_one zs
    have HN : Hid (∀ w, Below W.heap.size W w → ∀ j u, news[j]? = some u → w.cell? (ad.add j) = some u) := by rw [← HNW.out]; exact fun w q => instr_news h.out q
    have h63 : 0 + len ≤ maxLen := by unfold maxLen; omega
    have hby : (0 + len) * 40 ≤ 140737488355328 := by omega
    obtain ⟨X, hX⟩ : ∃ X, Hid (((W.alloc (.cells #[.slice (some ad) len cc, .int .i64 t, .int .i64 th, .int .i64 el, .slice sa sl sc] 53)).alloc (.cells #[.slice none 0 0, .int .i64 0, .int .i64 0, .int .i64 0] 46)).alloc (.cells #[.slice (some ad) len cc, .int .i64 t, .int .i64 th, .int .i64 el] 46) = X) := ⟨_, rfl⟩
    have BX : Hid (Below W.heap.size W X) := by show Below _ _ _; rw [← hX.out]; go_grown
    have hXs : X.heap.size = W.heap.size + 3 := by rw [← hX.out]; simp
    have r0 : X.cell? ⟨W.heap.size + 1 + 1, 0, none⟩ = some (.slice (some ad) len cc) ∧ X.cell? ⟨W.heap.size + 1 + 1, 1, none⟩ = some (.int .i64 t) ∧ X.cell? ⟨W.heap.size + 1 + 1, 2, none⟩ = some (.int .i64 th) ∧ X.cell? ⟨W.heap.size + 1 + 1, 3, none⟩ = some (.int .i64 el) ∧ X.frozen? ⟨W.heap.size + 1 + 1, 0, none⟩ = false := by rw [← hX.out]; refine ⟨?_, ?_, ?_, ?_, ?_⟩ <;> go_simp
    have s0 : X.cell? ⟨W.heap.size + 1, 0, none⟩ = some (.slice none 0 0) ∧ X.cell? ⟨W.heap.size + 1, 1, none⟩ = some (.int .i64 0) ∧ X.cell? ⟨W.heap.size + 1, 2, none⟩ = some (.int .i64 0) ∧ X.cell? ⟨W.heap.size + 1, 3, none⟩ = some (.int .i64 0) ∧ X.frozen? ⟨W.heap.size + 1, 0, none⟩ = false := by rw [← hX.out]; refine ⟨?_, ?_, ?_, ?_, ?_⟩ <;> go_simp
    go_enter Try.func43, Try.ntmps43
    go_wp2_with (at_builtin; rw [hX.out]; refine wpList_append_own _ rfl _ _ 44 rfl X.heap.size 74 i5 _ 5 40 Try.underlying44 hi5 hz5 hz6 hz7 rfl (by decide) (.slice none 0 0) 0 [] rfl (World.ownsRow_nil _ _ _ _) ad len cc news rfl hl (HN.out X BX.out) h1n.out h63 hby (Nat.le_refl _) ?_; intro v' w' q1 q2 q3; rw [Nat.zero_add, List.nil_append, ← HNW.out] at q1; obtain ⟨ua, uc, hue, hM⟩ := OwnF.mine (show OwnF w' X.heap.size 74 5 v' len zs from q1); subst hue; have b1 : w'.heap[W.heap.size + 1]? = X.heap[W.heap.size + 1]? := (q2.block _ (by omega) (by simp [Value.ownBlock])); have b2 : w'.heap[W.heap.size + 1 + 1]? = X.heap[W.heap.size + 1 + 1]? := (q2.block _ (by omega) (by simp [Value.ownBlock])); have r0' := (World.cell?_of_block (a := ⟨W.heap.size + 1 + 1, 0, none⟩) b2).trans r0.1; have r1' := (World.cell?_of_block (a := ⟨W.heap.size + 1 + 1, 1, none⟩) b2).trans r0.2.1; have r2' := (World.cell?_of_block (a := ⟨W.heap.size + 1 + 1, 2, none⟩) b2).trans r0.2.2.1; have r3' := (World.cell?_of_block (a := ⟨W.heap.size + 1 + 1, 3, none⟩) b2).trans r0.2.2.2.1; have rf' := (World.frozen?_of_block (a := ⟨W.heap.size + 1 + 1, 0, none⟩) b2).trans r0.2.2.2.2; have s0' := (World.cell?_of_block (a := ⟨W.heap.size + 1, 0, none⟩) b1).trans s0.1; have s1' := (World.cell?_of_block (a := ⟨W.heap.size + 1, 1, none⟩) b1).trans s0.2.1; have s2' := (World.cell?_of_block (a := ⟨W.heap.size + 1, 2, none⟩) b1).trans s0.2.2.1; have s3' := (World.cell?_of_block (a := ⟨W.heap.size + 1, 3, none⟩) b1).trans s0.2.2.2.1; have f0' := (World.frozen?_of_block (a := ⟨W.heap.size + 1, 0, none⟩) b1).trans s0.2.2.2.2; have f1' := (World.frozen?_of_block (a := ⟨W.heap.size + 1, 1, none⟩) b1).trans (by rw [← hX.out]; go_simp : X.frozen? ⟨W.heap.size + 1, 1, none⟩ = false); have f2' := (World.frozen?_of_block (a := ⟨W.heap.size + 1, 2, none⟩) b1).trans (by rw [← hX.out]; go_simp : X.frozen? ⟨W.heap.size + 1, 2, none⟩ = false); have f3' := (World.frozen?_of_block (a := ⟨W.heap.size + 1, 3, none⟩) b1).trans (by rw [← hX.out]; go_simp : X.frozen? ⟨W.heap.size + 1, 3, none⟩ = false); have hs' : X.heap.size ≤ w'.heap.size := q2.size; have HM : Hid (Mine w' X.heap.size ua zs) := hM; have HBw : Hid (Below W.heap.size W w') := BX.out.trans ⟨q2.os, q2.tape, q2.output, q2.size, fun k hk => q2.block k (by omega) (by simp [Value.ownBlock])⟩; clear q1 q2 q3 hM b1 b2 r0 s0)
    refine bodyPost_ret (v := .agg #[.slice ua len uc, .int .i64 t, .int .i64 th, .int .i64 el]) (by simp only [results, Try.results43]; go_simp) rfl ⟨ua, uc, rfl, ?_, ?_⟩
    · refine mineF_low (B := X.heap.size) ?_ (by omega)
      iterate 5 refine mineF_put ?_ (by omega)
      exact HM.out
    · show Below _ _ _
      iterate 5 refine Below.setCell ?_ (by simp; try omega) _
      exact HBw.out
/-- A new number: -1 stays. -/
theorem impl_new (x : Int) (g len cap : Nat) (p : Nat → Int) (W : World) (hx : -1 ≤ x) (hl : x < (len : Int)) (hp : Hid (∀ i, i < len → W.cell? ⟨g, i, none⟩ = some (.int .i64 (p i)))) :
    Calls Try.prog 44 #[.int .i64 x, .slice (some ⟨g, 0, none⟩) len cap] W fun e W' => e = .returned (.int .i64 (if x < 0 then -1 else p x.toNat)) ∧ W' = W := by
  by_cases h0 : x < 0
  · have hx1 : x = -1 := by omega
    subst hx1
    rw [if_pos (by decide)]
    go_enter Try.func44, Try.ntmps44
    go_wp2
    go_ret
    exact ⟨rfl, rfl⟩
  · rw [if_neg h0]
    obtain ⟨n, rfl⟩ := Int.eq_ofNat_of_zero_le (show 0 ≤ x by omega)
    have hc := hp.out n (by omega)
    have hne : ((n : Int) == -1) = false := by simp
    rw [Int.toNat_natCast]
    clear h0
    go_enter Try.func44, Try.ntmps44
    go_wp2
    go_ret
    exact ⟨rfl, rfl⟩
/-- A block at new numbers. -/
def AnewTo (zs : List Int) (len : Nat) (t th el : Int) (W : World) (e : Ending) (W' : World) : Prop := ∃ a c, e = .returned (.agg #[.slice a len c, .int .i64 t, .int .i64 th, .int .i64 el]) ∧ Mine W' W.heap.size a zs ∧ Below W.heap.size W W'
set_option maxHeartbeats 8000000 in
theorem impl_anew (ca : Option Addr) (len cc : Nat) (t th el : Int) (sa : Option Addr) (sl sc : Nat) (zs : List Int) (g n cap : Nat) (p : Nat → Int) (W : World) (hz : Hid (zs.length = len * 5)) (hlen : len ≤ 30) (h : Hid (Ints W ca zs)) (hg : g < W.heap.size)
    (h0 : -1 ≤ th) (h1 : th < (n : Int)) (h2 : -1 ≤ el) (h3 : el < (n : Int)) (hp : Hid (∀ i, i < n → W.cell? ⟨g, i, none⟩ = some (.int .i64 (p i)))) :
    Calls Try.prog 25 #[.agg #[.slice ca len cc, .int .i64 t, .int .i64 th, .int .i64 el, .slice sa sl sc], .slice (some ⟨g, 0, none⟩) n cap] W fun e W' => AnewTo zs len t (newV p th) (newV p el) W e W' := by
  obtain ⟨X, hX⟩ : ∃ X, Hid ((W.alloc (.cells #[.slice ca len cc, .int .i64 t, .int .i64 th, .int .i64 el, .slice sa sl sc] 53)).alloc (.cells #[.slice none 0 0, .int .i64 0, .int .i64 0, .int .i64 0] 46) = X) := ⟨_, rfl⟩
  have BX : Hid (Below W.heap.size W X) := by show Below _ _ _; rw [← hX.out]; go_grown
  have hXs : X.heap.size = W.heap.size + 2 := by rw [← hX.out]; simp
  have RX : Hid (X.rowIs W.heap.size 53 5 (rowF [.slice ca len cc, .int .i64 t, .int .i64 th, .int .i64 el, .slice sa sl sc])) := by
    show World.rowIs _ _ _ _ _
    rw [← hX.out]; exact (row_of W #[.slice ca len cc, .int .i64 t, .int .i64 th, .int .i64 el, .slice sa sl sc] 53).alloc _
  have RZ : Hid (X.rowIs (W.heap.size + 1) 46 4 (rowF [.slice none 0 0, .int .i64 0, .int .i64 0, .int .i64 0])) := by
    have q := row_of (W.alloc (.cells #[.slice ca len cc, .int .i64 t, .int .i64 th, .int .i64 el, .slice sa sl sc] 53)) #[.slice none 0 0, .int .i64 0, .int .i64 0, .int .i64 0] 46
    rw [show (W.alloc (.cells #[.slice ca len cc, .int .i64 t, .int .i64 th, .int .i64 el, .slice sa sl sc] 53)).heap.size = W.heap.size + 1 by simp] at q
    show World.rowIs _ _ _ _ _
    rw [← hX.out]; exact q
  have NT : Hid (∀ w, Below W.heap.size W w → Calls Try.prog 44 #[.int .i64 th, .slice (some ⟨g, 0, none⟩) n cap] w fun e W' => e = .returned (.int .i64 (newV p th)) ∧ W' = w) := fun w q => impl_new th g n cap p w h0 h1 (fun i hi => (q.cell (p := ⟨g, i, none⟩) hg).trans (hp.out i hi))
  have NE : Hid (∀ w, Below W.heap.size W w → Calls Try.prog 44 #[.int .i64 el, .slice (some ⟨g, 0, none⟩) n cap] w fun e W' => e = .returned (.int .i64 (newV p el)) ∧ W' = w) := fun w q => impl_new el g n cap p w h2 h3 (fun i hi => (q.cell (p := ⟨g, i, none⟩) hg).trans (hp.out i hi))
  obtain ⟨vt, hvt⟩ : ∃ x, Hid (newV p th = x) := ⟨_, rfl⟩
  obtain ⟨ve, hve⟩ : ∃ x, Hid (newV p el = x) := ⟨_, rfl⟩
  rw [hvt.out] at NT ⊢
  rw [hve.out] at NE ⊢
  have x0 := RX.out.cell (i := 0) (by decide)
  have x1 := RX.out.cell (i := 1) (by decide)
  have x2 := RX.out.cell (i := 2) (by decide)
  have x3 := RX.out.cell (i := 3) (by decide)
  have x4 := RX.out.cell (i := 4) (by decide)
  go_enter Try.func25, Try.ntmps25
  go_wp2_with fail
  rw [hX.out]
  refine (impl_copied ca len cc t th el sa sl sc zs X hz hlen (h.out.kept BX.out)).mono ?_
  rintro e w2 ⟨ua, uc, rfl, hM, hB⟩
  have HM : Hid (Mine w2 X.heap.size ua zs) := hM
  have B2 : Hid (Below W.heap.size W w2) := BX.out.trans (hB.mono BX.out.size)
  have R2 : Hid (w2.rowIs W.heap.size 53 5 (rowF [.slice ca len cc, .int .i64 t, .int .i64 th, .int .i64 el, .slice sa sl sc])) := RX.out.of_block (hB.block _ RX.out.lt)
  have Z2 : Hid (w2.rowIs (W.heap.size + 1) 46 4 (rowF [.slice none 0 0, .int .i64 0, .int .i64 0, .int .i64 0])) := RZ.out.of_block (hB.block _ RZ.out.lt)
  have hs2 := hB.size
  clear hM hB x0 x1 x2 x3 x4 RX RZ
  go_upto_region 2 with fail
  obtain ⟨W3, hW3⟩ : ∃ W3, Hid (w2.alloc (.cells #[.slice ua len uc, .int .i64 t, .int .i64 th, .int .i64 el] 46) = W3) := ⟨_, rfl⟩
  have B3 : Hid (Below w2.heap.size w2 W3) := by show Below _ _ _; rw [← hW3.out]; exact (Below.refl _ _).alloc (Nat.le_refl _) _
  have R3 : Hid (W3.rowIs w2.heap.size 46 4 (rowF [.slice ua len uc, .int .i64 t, .int .i64 th, .int .i64 el])) := by show World.rowIs _ _ _ _ _; rw [← hW3.out]; exact row_of w2 #[.slice ua len uc, .int .i64 t, .int .i64 th, .int .i64 el] 46
  have X3 : Hid (W3.rowIs W.heap.size 53 5 (rowF [.slice ca len cc, .int .i64 t, .int .i64 th, .int .i64 el, .slice sa sl sc])) := R2.out.of_block (B3.out.block _ R2.out.lt)
  have Z3 : Hid (W3.rowIs (W.heap.size + 1) 46 4 (rowF [.slice none 0 0, .int .i64 0, .int .i64 0, .int .i64 0])) := Z2.out.of_block (B3.out.block _ Z2.out.lt)
  have M3 : Hid (Mine W3 X.heap.size ua zs) := HM.out.kept B3.out
  have BW4 : Hid (Below W.heap.size W W3) := B2.out.trans (B3.out.mono B2.out.size)
  have BW3 : Hid (Below W.heap.size W W3.drew) := BW4.out.drew
  rw [hW3.out]
  obtain ⟨g5, hg5⟩ : ∃ g5, Hid (w2.heap.size = g5) := ⟨_, rfl⟩
  rw [hg5.out] at R3 hs2 ⊢
  have l5 : g5 < W3.heap.size := R3.out.lt
  have lx : W.heap.size < W3.heap.size := X3.out.lt
  have c2 : W3.cell? ⟨W.heap.size, 2, none⟩ = some (.int .i64 th) := X3.out.cell (i := 2) (by decide)
  have c3 : W3.cell? ⟨W.heap.size, 3, none⟩ = some (.int .i64 el) := X3.out.cell (i := 3) (by decide)
  have y2 : W3.cell? ⟨g5, 2, none⟩ = some (.int .i64 th) := R3.out.cell (i := 2) (by decide)
  have y3 : W3.cell? ⟨g5, 3, none⟩ = some (.int .i64 el) := R3.out.cell (i := 3) (by decide)
  have y0 : W3.cell? ⟨g5, 0, none⟩ = some (.slice ua len uc) := R3.out.cell (i := 0) (by decide)
  have y1 : W3.cell? ⟨g5, 1, none⟩ = some (.int .i64 t) := R3.out.cell (i := 1) (by decide)
  have f2 : W3.frozen? ⟨g5, 2, none⟩ = false := R3.out.frozen 2
  have f3 : W3.frozen? ⟨g5, 3, none⟩ = false := R3.out.frozen 3
  have z0 : W3.cell? ⟨W.heap.size + 1, 0, none⟩ = some (.slice none 0 0) := Z3.out.cell (i := 0) (by decide)
  have z1 : W3.cell? ⟨W.heap.size + 1, 1, none⟩ = some (.int .i64 0) := Z3.out.cell (i := 1) (by decide)
  have z2 : W3.cell? ⟨W.heap.size + 1, 2, none⟩ = some (.int .i64 0) := Z3.out.cell (i := 2) (by decide)
  have z3 : W3.cell? ⟨W.heap.size + 1, 3, none⟩ = some (.int .i64 0) := Z3.out.cell (i := 3) (by decide)
  have k0 : W3.frozen? ⟨W.heap.size + 1, 0, none⟩ = false := Z3.out.frozen 0
  have k1 : W3.frozen? ⟨W.heap.size + 1, 1, none⟩ = false := Z3.out.frozen 1
  have k2 : W3.frozen? ⟨W.heap.size + 1, 2, none⟩ = false := Z3.out.frozen 2
  have k3 : W3.frozen? ⟨W.heap.size + 1, 3, none⟩ = false := Z3.out.frozen 3
  have hg6 : W.heap.size + 2 ≤ g5 := by omega
  clear R2 Z2 R3 X3 Z3 B2 hW3 hX h hp M3
  go_region_with (go_at_call 44; (first | go_fit (NT.out _ BW3.out) | go_fit (NE.out _ BW3.out)); rintro e w' ⟨rfl, hw'⟩; rw [hw']; clear hw' w')
  all_goals
    go_wp2
    refine bodyPost_ret (v := .agg #[.slice ua len uc, .int .i64 t, .int .i64 vt, .int .i64 ve]) (by simp only [results, Try.results25]; go_simp) rfl ⟨ua, uc, rfl, ?_, ?_⟩
    · refine mineF_low (B := X.heap.size) (Mine.kept (mineF_blk HM.out ?_ (fun k k1 k2 => ?_)) (Below.refl _ _).drew) (by omega)
      · have := B3.out.size
        simpa [World.setCell] using this
      · have k3 : k < g5 := by rw [← hg5.out]; exact k2
        iterate 6 refine (Below.heap_setCell _ _ _ _ (by simp; omega)).trans ?_
        exact B3.out.block k k2
    · refine Below.drew ?_
      iterate 6 refine Below.setCell ?_ (by simp; try omega) _
      exact BW4.out
end Go.Proofs.Ytemlhhogcdgofaa.walks
