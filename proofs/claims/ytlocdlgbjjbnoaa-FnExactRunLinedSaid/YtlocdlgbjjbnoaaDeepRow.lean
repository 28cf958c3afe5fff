/-
  Rows that are being made, deep; lists of ints as deep data.
-/
import Derived.Test.YtlocdlgbjjbnoaaDeep
import Derived.Test.YtlocdlgbjjbnoaaDeepOpen
import Derived.Test.YtlocdlgbjjbnoaaMarks
namespace Go.Proofs.Ytlocdlgbjjbnoaa.deep
open Go.RowKit Go.Proofs.Ytlocdlgbjjbnoaa.ints
set_option linter.unusedVariables false

def rng (lo hi : Nat) : Nat → Prop := fun b => lo ≤ b ∧ b < hi
/-- The first m values own what they should, in blocks of F, no two in one. -/
def Rowed (w : World) (c : Bool) (B : Nat) (cs : Nat → Dv) (U : Nat → Value) (m : Nat) (F : Nat → Prop) : Prop :=
  ∃ G : Nat → Nat → Prop, (∀ i, i < m → Owns w c B (cs i) (U i) (G i) ∧ ∀ x, G i x → F x) ∧ ∀ i j, i < m → j < m → i ≠ j → ∀ x, G i x → ¬ G j x
theorem Rowed.nil (w : World) (c : Bool) (B : Nat) (cs : Nat → Dv) (U : Nat → Value) (F : Nat → Prop) : Rowed w c B cs U 0 F := ⟨fun _ _ => False, fun i hi => by omega, fun i j hi => by omega⟩
theorem Rowed.kept {w w' : World} {c : Bool} {B : Nat} {cs : Nat → Dv} {U : Nat → Value} {m : Nat} {F : Nat → Prop} (h : Rowed w c B cs U m F) (hb : Below w.heap.size w w') : Rowed w' c B cs U m F := by
  obtain ⟨G, h1, h2⟩ := h
  exact ⟨G, fun i hi => ⟨(h1 i hi).1.kept hb, (h1 i hi).2⟩, h2⟩
theorem Rowed.agree {w w' : World} {c : Bool} {B : Nat} {cs : Nat → Dv} {U : Nat → Value} {m : Nat} {F : Nat → Prop} (h : Rowed w c B cs U m F) (hs : w.heap.size ≤ w'.heap.size) (hg : ∀ b, F b → b < w.heap.size → w'.heap[b]? = w.heap[b]?) : Rowed w' c B cs U m F := by
  obtain ⟨G, h1, h2⟩ := h
  exact ⟨G, fun i hi => ⟨(h1 i hi).1.agree hs (fun b hb => hg b ((h1 i hi).2 b hb)), (h1 i hi).2⟩, h2⟩
theorem Rowed.more {w : World} {c : Bool} {B : Nat} {cs : Nat → Dv} {U : Nat → Value} {m : Nat} {F F' : Nat → Prop} (h : Rowed w c B cs U m F) (hf : ∀ x, F x → F' x) : Rowed w c B cs U m F' := by
  obtain ⟨G, h1, h2⟩ := h
  exact ⟨G, fun i hi => ⟨(h1 i hi).1, fun x hx => hf x ((h1 i hi).2 x hx)⟩, h2⟩
theorem Rowed.congr {w : World} {c : Bool} {B : Nat} {cs : Nat → Dv} {U U' : Nat → Value} {m : Nat} {F : Nat → Prop} (h : Rowed w c B cs U m F) (e : ∀ i, i < m → U i = U' i) : Rowed w c B cs U' m F := by
  obtain ⟨G, h1, h2⟩ := h
  exact ⟨G, fun i hi => ⟨by rw [← e i hi]; exact (h1 i hi).1, (h1 i hi).2⟩, h2⟩
/-- One more. -/
theorem Rowed.snoc {w : World} {c : Bool} {B : Nat} {cs : Nat → Dv} {U : Nat → Value} {m : Nat} {F H F' : Nat → Prop} (h : Rowed w c B cs U m F) (ho : Owns w c B (cs m) (U m) H) (hd : ∀ x, F x → ¬ H x) (h1 : ∀ x, F x → F' x) (h2 : ∀ x, H x → F' x) : Rowed w c B cs U (m + 1) F' := by
  obtain ⟨G, g1, g2⟩ := h
  refine ⟨fun i => if i = m then H else G i, fun i hi => ?_, fun i j hi hj hne x hx hy => ?_⟩
  · by_cases e : i = m
    · subst e; simp only [if_true]; exact ⟨ho, h2⟩
    · simp only [if_neg e]; exact ⟨(g1 i (by omega)).1, fun x hx => h1 x ((g1 i (by omega)).2 x hx)⟩
  · by_cases e : i = m
    · by_cases e' : j = m
      · omega
      · simp only [if_pos e] at hx
        simp only [if_neg e'] at hy
        exact hd x ((g1 j (by omega)).2 x hy) hx
    · by_cases e' : j = m
      · simp only [if_neg e] at hx
        simp only [if_pos e'] at hy
        exact hd x ((g1 i (by omega)).2 x hx) hy
      · simp only [if_neg e] at hx
        simp only [if_neg e'] at hy
        exact g2 i j (by omega) (by omega) hne x hx hy
/-- A number or a truth value more. -/
theorem Rowed.flat {w : World} {c : Bool} {B : Nat} {cs : Nat → Dv} {U : Nat → Value} {m : Nat} {F : Nat → Prop} (h : Rowed w c B cs U m F) (ho : Owns w c B (cs m) (U m) (fun _ => False)) : Rowed w c B cs U (m + 1) F :=
  h.snoc ho (fun x _ q => q) (fun x hx => hx) (fun x hx => hx.elim)
/-- A whole row in a block of its own is a list. -/
theorem Rowed.owns {w : World} {c : Bool} {B len sz cap g : Nat} {t : TypeId} {cs : Nat → Dv} {U : Nat → Value} {F F' : Nat → Prop} (h : Rowed w c B cs U (len * sz) F) (hr : w.rowIs g t (len * sz) U) (hB : B ≤ g) (hg : ¬ F g) (hF : ∀ x, F x → F' x) (hF' : F' g) (hc : c = true → len ≤ cap ∧ cap ≤ 1048576) : Owns w c B (.l len sz cs) (.slice (some ⟨g, 0, none⟩) len cap) F' := by
  obtain ⟨G, g1, g2⟩ := h
  refine ⟨_, _, rfl, hc, Or.inr ⟨g, 0, rfl, hB, hr.lt, hF', G, fun i hi => ⟨⟨U i, by simpa using hr.cell hi, by simpa using hr.frozen i, (g1 i hi).1⟩, fun q => hg ((g1 i hi).2 g q), fun x hx => hF x ((g1 i hi).2 x hx)⟩, g2⟩⟩
/-- A row of few cells. -/
def rowF (l : List Value) (i : Nat) : Value := l.getD i (.bool false)
theorem row_of (W : World) (c : Array Value) (t : TypeId) : (W.alloc (.cells c t)).rowIs W.heap.size t c.size (rowF c.toList) :=
  World.rowIs_alloc W c t _ (fun i hi => by simp [rowF, List.getD, hi])
theorem parts_of {P : Program} {e : TypeId} {z : Value} {a b : Nat} (h : (P.info? e).map (fun i => (i.zero, i.size, i.bytes)) = some (some z, a, b)) : ∃ i, P.info? e = some i ∧ i.zero = some z ∧ i.size = a ∧ i.bytes = b := by
  cases hi : P.info? e with
  | none => rw [hi] at h; cases h
  | some i =>
    rw [hi] at h
    simp at h
    exact ⟨i, rfl, h.1, h.2.1, h.2.2⟩
/-- A store into a lower block leaves what is owned. -/
theorem far_set {w : World} {c : Bool} {B b i g h : Nat} {d : Dv} {v u : Value} (hg : b < g) (ho : Owns w c B d v (rng g h)) : Owns (w.setCell ⟨b, i, none⟩ u) c B d v (rng g h) :=
  ho.agree (by simp [World.setCell]) (fun x hx _ => Below.heap_setCell _ _ _ _ (by have := hx.1; show x ≠ b; omega))
theorem Holds.cells {W wr : World} {c : Bool} {len sz : Nat} {cs : Nat → Dv} {a : Option Addr} {cap : Nat} (h : Holds W c (.l len sz cs) (.slice a len cap)) (hB : Below W.heap.size W wr) (h0 : 0 < len * sz) : ∃ b o, a = some ⟨b, o, none⟩ ∧ b < W.heap.size ∧ ∀ i, i < len * sz → ∃ u, wr.cell? ⟨b, o + i, none⟩ = some u ∧ Holds wr c (cs i) u := by
  obtain ⟨a', cap', e, _, h⟩ := h
  simp only [Value.slice.injEq, true_and] at e
  obtain ⟨rfl, rfl⟩ := e
  rcases h with h | ⟨b, o, ea, hl, q⟩
  · omega
  · refine ⟨b, o, ea, hl, fun i hi => ?_⟩
    obtain ⟨u, h1, h2⟩ := q i hi
    exact ⟨u, (hB.cell (p := ⟨b, o + i, none⟩) hl).trans h1, h2.kept hB⟩
theorem sz_at {len sz : Nat} {cs : Nat → Dv} {i : Nat} (hi : i < len * sz) : szD (cs i) ≤ szD (.l len sz cs) := by
  have := sumTo_one (fun i => szD (cs i)) hi
  simp only [szD]; omega
theorem Owns.addr {w : World} {c : Bool} {B len sz : Nat} {cs : Nat → Dv} {a : Option Addr} {cap : Nat} {F : Nat → Prop} (h : Owns w c B (.l len sz cs) (.slice a len cap) F) (h0 : 0 < len * sz) : ∃ b o, a = some ⟨b, o, none⟩ ∧ b < w.heap.size := by
  obtain ⟨b, o, _, _, e, hl, _⟩ := h.part h0
  exact ⟨b, o, e, hl⟩
/-- A number in an owned list, and another one in its place. -/
theorem Owns.num {w : World} {c : Bool} {B len sz : Nat} {cs : Nat → Dv} {b o cap : Nat} {F : Nat → Prop} (h : Owns w c B (.l len sz cs) (.slice (some ⟨b, o, none⟩) len cap) F) {j : Nat} (hj : j < len * sz) {y : Int} (e : cs j = .n y) :
    w.cell? ⟨b, o + j, none⟩ = some (.int .i64 y) ∧ w.frozen? ⟨b, o + j, none⟩ = false ∧ ∀ x : Int, Owns (w.setCell ⟨b, o + j, none⟩ (.int .i64 x)) c B (.l len sz (updD cs j (.n x))) (.slice (some ⟨b, o, none⟩) len cap) F ∧ OnlyF w (w.setCell ⟨b, o + j, none⟩ (.int .i64 x)) F := by
  obtain ⟨b', o', u, H, ea, hl, h1, h2, h3, h4, _, h5, _, h6⟩ := h.part hj
  simp only [Option.some.injEq, Addr.mk.injEq, and_true] at ea
  obtain ⟨rfl, rfl⟩ := ea
  rw [e] at h3
  exact ⟨by rw [h1, show u = .int .i64 y from h3], h2, fun x => ⟨h5 x ⟨y, e⟩, h6 _⟩⟩
theorem Owns.tru {w : World} {c : Bool} {B len sz : Nat} {cs : Nat → Dv} {b o cap : Nat} {F : Nat → Prop} (h : Owns w c B (.l len sz cs) (.slice (some ⟨b, o, none⟩) len cap) F) {j : Nat} (hj : j < len * sz) {y : Bool} (e : cs j = .t y) :
    w.cell? ⟨b, o + j, none⟩ = some (.bool y) ∧ w.frozen? ⟨b, o + j, none⟩ = false ∧ ∀ x : Bool, Owns (w.setCell ⟨b, o + j, none⟩ (.bool x)) c B (.l len sz (updD cs j (.t x))) (.slice (some ⟨b, o, none⟩) len cap) F ∧ OnlyF w (w.setCell ⟨b, o + j, none⟩ (.bool x)) F := by
  obtain ⟨b', o', u, H, ea, hl, h1, h2, h3, h4, _, _, h5, h6⟩ := h.part hj
  simp only [Option.some.injEq, Addr.mk.injEq, and_true] at ea
  obtain ⟨rfl, rfl⟩ := ea
  rw [e] at h3
  exact ⟨by rw [h1, show u = .bool y from h3], h2, fun x => ⟨h5 x ⟨y, e⟩, h6 _⟩⟩
/-- A list in an owned list, and what it may become. -/
theorem Owns.sub {w : World} {c : Bool} {B len sz : Nat} {cs : Nat → Dv} {b o cap : Nat} {F : Nat → Prop} (h : Owns w c B (.l len sz cs) (.slice (some ⟨b, o, none⟩) len cap) F) {j : Nat} (hj : j < len * sz) {l z : Nat} {es : Nat → Dv} (e : cs j = .l l z es) :
    ∃ a' cap' H, w.cell? ⟨b, o + j, none⟩ = some (.slice a' l cap') ∧ Owns w c B (.l l z es) (.slice a' l cap') H ∧ ∀ w' d', OnlyF w w' H → Owns w' c B d' (.slice a' l cap') H → Owns w' c B (.l len sz (updD cs j d')) (.slice (some ⟨b, o, none⟩) len cap) F ∧ OnlyF w w' F := by
  obtain ⟨b', o', u, H, ea, hl, h1, h2, h3, h4, h5, _⟩ := h.part hj
  simp only [Option.some.injEq, Addr.mk.injEq, and_true] at ea
  obtain ⟨rfl, rfl⟩ := ea
  rw [e] at h3
  obtain ⟨a', cap', eu, _⟩ := h3.holds.slice
  subst eu
  exact ⟨a', cap', H, h1, h3, fun w' d' g1 g2 => ⟨h5 w' d' g1 g2, g1.more h4⟩⟩
/-- The numbers of a flat list. -/
def intsOf (cs : Nat → Dv) (m : Nat) : List Int := (List.range m).map (fun i => (cs i).int)
theorem intsOf_len (cs : Nat → Dv) (m : Nat) : (intsOf cs m).length = m := by simp [intsOf]
theorem intsOf_at (cs : Nat → Dv) {m i : Nat} (h : i < m) : (intsOf cs m).getD i 0 = (cs i).int := by simp [intsOf, List.getD, h]
theorem getD_get (l : List Int) {i : Nat} (h : i < l.length) : l.getD i 0 = l[i] := by simp [List.getD, h]
/-- A flat list as deep data. -/
def dI (len sz : Nat) (zs : List Int) : Dv := .l len sz (fun i => .n (zs.getD i 0))
theorem holds_ints {w : World} {c : Bool} {len sz : Nat} {cs : Nat → Dv} {a : Option Addr} {cap : Nat} (h : Holds w c (.l len sz cs) (.slice a len cap)) (hf : ∀ i, i < len * sz → ∃ x, cs i = .n x) : Ints w a (intsOf cs (len * sz)) := by
  obtain ⟨a', cap', e, _, h⟩ := h
  simp only [Value.slice.injEq, true_and] at e
  obtain ⟨rfl, rfl⟩ := e
  rcases h with h | ⟨b, o, ea, hl, q⟩
  · exact Or.inl (by rw [h]; rfl)
  · refine Or.inr ⟨b, o, ea, hl, fun i hi => ?_⟩
    rw [intsOf_len] at hi
    rw [intsOf_at cs hi]
    obtain ⟨u, h1, h2⟩ := q i hi
    obtain ⟨x, hx⟩ := hf i hi
    rw [hx] at h2 ⊢
    rw [h1, show u = .int .i64 x from h2]; rfl
theorem ints_holds {w : World} {c : Bool} {len sz : Nat} {zs : List Int} {a : Option Addr} {cap : Nat} (h : Ints w a zs) (hz : zs.length = len * sz) (hc : c = true → len ≤ cap ∧ cap ≤ 1048576) : Holds w c (dI len sz zs) (.slice a len cap) := by
  refine ⟨a, cap, rfl, hc, ?_⟩
  rcases h with h | ⟨b, o, ea, hl, q⟩
  · left; rw [← hz, h]; rfl
  · exact Or.inr ⟨b, o, ea, hl, fun i hi => ⟨_, q i (by omega), rfl⟩⟩
theorem owns_mine {w : World} {c : Bool} {B len sz : Nat} {cs : Nat → Dv} {a : Option Addr} {cap : Nat} {F : Nat → Prop} (h : Owns w c B (.l len sz cs) (.slice a len cap) F) (hf : ∀ i, i < len * sz → ∃ x, cs i = .n x) : Mine w B a (intsOf cs (len * sz)) := by
  obtain ⟨a', cap', e, _, h⟩ := h
  simp only [Value.slice.injEq, true_and] at e
  obtain ⟨rfl, rfl⟩ := e
  rcases h with h | ⟨b, o, ea, hB, hl, hF, G, q, _⟩
  · exact Or.inl (by rw [h]; rfl)
  · refine Or.inr ⟨b, o, ea, hB, hl, fun i hi => ?_⟩
    rw [intsOf_len] at hi
    rw [intsOf_at cs hi]
    obtain ⟨⟨u, h1, h2, h3⟩, _⟩ := q i hi
    obtain ⟨x, hx⟩ := hf i hi
    rw [hx] at h3 ⊢
    exact ⟨by rw [h1, show u = .int .i64 x from h3]; rfl, h2⟩
theorem mine_owns {w : World} {c : Bool} {B len sz : Nat} {zs : List Int} {a : Option Addr} {cap : Nat} {F : Nat → Prop} (h : Mine w B a zs) (hz : zs.length = len * sz) (hF : ∀ b o, a = some ⟨b, o, none⟩ → B ≤ b → b < w.heap.size → F b) (hc : c = true → len ≤ cap ∧ cap ≤ 1048576) : Owns w c B (dI len sz zs) (.slice a len cap) F := by
  refine ⟨a, cap, rfl, hc, ?_⟩
  rcases h with h | ⟨b, o, ea, hB, hl, q⟩
  · left; rw [← hz, h]; rfl
  · exact Or.inr ⟨b, o, ea, hB, hl, hF b o ea hB hl, fun _ _ => False, fun i hi => ⟨⟨_, (q i (by omega)).1, (q i (by omega)).2, rfl⟩, fun q => q, fun x q => q.elim⟩, fun i j _ _ _ x q => q.elim⟩
/-- Where all is numbers, a list is what its numbers are. -/
theorem flat_eq {len sz : Nat} {cs : Nat → Dv} (hf : ∀ i, i < len * sz → ∃ x, cs i = .n x) (i : Nat) (hi : i < len * sz) : (fun i => Dv.n ((intsOf cs (len * sz)).getD i 0)) i = cs i := by
  obtain ⟨x, hx⟩ := hf i hi
  show Dv.n ((intsOf cs (len * sz)).getD i 0) = cs i
  rw [intsOf_at cs hi, hx]; rfl
theorem cnt_flat {cs : Nat → Dv} : ∀ m, (∀ i, i < m → ∃ x, cs i = .n x) → sumTo (fun i => cntD (cs i)) m = m
  | 0, _ => rfl
  | m + 1, h => by
    obtain ⟨x, hx⟩ := h m (by omega)
    simp only [sumTo, cnt_flat m (fun i hi => h i (by omega)), hx, cntD]
theorem sz_flat {cs : Nat → Dv} : ∀ m, (∀ i, i < m → ∃ x, cs i = .n x) → sumTo (fun i => szD (cs i)) m = 0
  | 0, _ => rfl
  | m + 1, h => by
    obtain ⟨x, hx⟩ := h m (by omega)
    simp only [sumTo, sz_flat m (fun i hi => h i (by omega)), hx, szD]
theorem sz_none {cs : Nat → Dv} : ∀ {m : Nat}, (∀ i, i < m → szD (cs i) = 0) → sumTo (fun i => szD (cs i)) m = 0
  | 0, _ => rfl
  | m + 1, h => by
    have h1 := sz_none (m := m) (fun i hi => h i (by omega))
    have h2 := h m (by omega)
    simp only [sumTo]; omega
def shI : Sh := .l 1 (fun _ => .n)
theorem fits_I {len : Nat} {cs : Nat → Dv} (h : Fits shI (.l len 1 cs)) : ∀ i, i < len * 1 → ∃ x, cs i = .n x := fun i hi => (h.2 i hi).int
theorem only_F {W W' : World} {B : Nat} {a : Option Addr} {len : Nat} {F : Nat → Prop} (h : Only W W' B a len) (hF : 0 < len → ∀ b o, a = some ⟨b, o, none⟩ → F b) : OnlyF W W' F := by
  rcases h.2 with rfl | ⟨h0, b, off, e, hB, hg⟩
  · exact OnlyF.refl _ _
  · refine ⟨hg.os, hg.tape, hg.output, by rw [h.1]; exact Nat.le_refl _, fun k hl hk => ?_⟩
    exact hg.block k hl (by simp only [ne_eq, Option.some.injEq]; intro q; subst q; exact hk (hF h0 _ off e))
theorem IntS_eq (a a' : Option Addr) (len cap cap' : Nat) (cs : Nat → Dv) (c c' : Bool) (W : World) (hf : Hid (Fits shI (.l len 1 cs))) (hs : len ≤ 1048576) (h : Hid (Holds W c (.l len 1 cs) (.slice a len cap))) (h' : Hid (Holds W c' (.l len 1 cs) (.slice a' len cap'))) :
    Calls Try.prog 10 #[.slice a len cap, .slice a' len cap'] W fun e W' => e = .returned (.bool true) ∧ Below W.heap.size W W' :=
  eq_ints a a' len cap cap' (intsOf cs (len * 1)) W (by show _ = _; rw [intsOf_len]; omega) hs (holds_ints h.out (fits_I hf.out)) (holds_ints h'.out (fits_I hf.out))
theorem IntS_mark (k : Int) (h0 : 0 ≤ k) (h1 : k ≤ 10000000000) (a : Option Addr) (len cap : Nat) (cs : Nat → Dv) (c : Bool) (W : World) (B : Nat) (F : Nat → Prop) (hf : Hid (Fits shI (.l len 1 cs))) (hs : len ≤ 1048576) (h : Hid (Owns W c B (.l len 1 cs) (.slice a len cap) F)) :
    Calls Try.prog 13 #[.slice a len cap, .int .i64 k] W fun e W' => e = .returned (.int .i64 (k + (cntD (.l len 1 cs) : Nat))) ∧ Owns W' c B (mkD k (.l len 1 cs)) (.slice a len cap) F ∧ OnlyF W W' F := by
  have hfl := fits_I hf.out
  have hF : 0 < len → ∀ b o, a = some ⟨b, o, none⟩ → F b := fun h0 b o e => by
    obtain ⟨a', cap', e', _, q⟩ := h.out
    simp only [Value.slice.injEq, true_and] at e'
    obtain ⟨rfl, rfl⟩ := e'
    rcases q with q | ⟨b', o', e2, _, _, r, _⟩
    · omega
    · rw [e] at e2; simp only [Option.some.injEq, Addr.mk.injEq] at e2; rw [e2.1]; exact r
  have hcap : c = true → len ≤ cap ∧ cap ≤ 1048576 := by
    obtain ⟨a', cap', e', q, _⟩ := h.out
    simp only [Value.slice.injEq, true_and] at e'
    obtain ⟨rfl, rfl⟩ := e'
    exact q
  refine (mark_from k h0 (by omega) a len cap (intsOf cs (len * 1)) W B (by show _ = _; rw [intsOf_len]; omega) hs (owns_mine h.out hfl)).mono ?_
  rintro e W' ⟨rfl, hM, hO⟩
  have hc : cntD (.l len 1 cs) = len := by show sumTo _ _ = _; rw [cnt_flat _ hfl]; omega
  refine ⟨by rw [hc], ?_, only_F hO hF⟩
  by_cases hl : len = 0
  · subst hl; exact ⟨a, cap, rfl, hcap, Or.inl (by simp)⟩
  refine (mine_owns (len := len) (sz := 1) hM (by rw [upFrom_len]; omega) (fun b o e _ _ => hF (by omega) b o e) hcap).congr (fun i hi => ?_)
  rw [upFrom_at len k i (by omega), cnt_flat i (fun j hj => hfl j (by omega))]
  obtain ⟨x, hx⟩ := hfl i hi
  rw [hx]; rfl
theorem IntS_held (k : Int) (h0 : 0 ≤ k) (h1 : k ≤ 16777216) (a : Option Addr) (len cap : Nat) (cs : Nat → Dv) (c : Bool) (W : World) (hf : Hid (Fits shI (.l len 1 cs))) (hs : len ≤ 1048576) (h : Hid (Holds W c (mkD k (.l len 1 cs)) (.slice a len cap))) :
    Calls Try.prog 14 #[.slice a len cap, .int .i64 k] W fun e W' => e = .returned (.int .i64 (k + (cntD (.l len 1 cs) : Nat))) ∧ W' = W := by
  have hfl := fits_I hf.out
  have hc : cntD (.l len 1 cs) = len := by show sumTo _ _ = _; rw [cnt_flat _ hfl]; omega
  rw [hc]
  refine held_from k h0 h1 a len cap W hs ?_
  have hm : ∀ i, i < len * 1 → mkD (k + (sumTo (fun j => cntD (cs j)) i : Nat)) (cs i) = .n (k + (i : Nat)) := fun i hi => by
    rw [cnt_flat i (fun j hj => hfl j (by omega))]
    obtain ⟨x, hx⟩ := hfl i hi
    rw [hx]; rfl
  have hI := holds_ints h.out (fun i hi => ⟨_, hm i hi⟩)
  have e : intsOf (fun i => mkD (k + (sumTo (fun j => cntD (cs j)) i : Nat)) (cs i)) (len * 1) = upFrom k len := by
    apply List.ext_getElem
    · rw [intsOf_len, upFrom_len]; omega
    · intro i h1 h2
      rw [intsOf_len] at h1
      have q1 := intsOf_at (fun i => mkD (k + (sumTo (fun j => cntD (cs j)) i : Nat)) (cs i)) h1
      have q2 := upFrom_at len k i (by omega)
      rw [getD_get _ (by rw [intsOf_len]; exact h1)] at q1
      rw [getD_get _ (by rw [upFrom_len]; omega)] at q2
      rw [q1, q2, hm i h1]; rfl
  show Ints W a (upFrom k len)
  rw [← e]; exact hI
end Go.Proofs.Ytlocdlgbjjbnoaa.deep
