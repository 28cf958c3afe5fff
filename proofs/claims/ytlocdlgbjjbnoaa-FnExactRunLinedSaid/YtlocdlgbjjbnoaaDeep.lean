/-
  Data in memory, deep: numbers, truth values and lists of rows of such cells; what holds them, and what owns them, each list in a block of its own.
-/
import Derived.Test.YtlocdlgbjjbnoaaProg
import Derived.Test.YtlocdlgbjjbnoaaInts
import Derived.WalkKit
import Derived.WalkSpells
import Derived.Below
import Derived.Handy
import Derived.Deep.OwnRows
import Derived.Laws.MakeOwn
namespace Go.Proofs.Ytlocdlgbjjbnoaa.deep
open Go.RowKit Go.Proofs.Ytlocdlgbjjbnoaa.ints
set_option linter.unusedVariables false

/-- What a cell holds: a number, a truth value, or a list of 'len' rows of 'sz' cells each. -/
inductive Dv where
  | n (x : Int)
  | t (x : Bool)
  | l (len sz : Nat) (cs : Nat → Dv)
def Dv.int : Dv → Int
  | .n x => x
  | _ => 0
def Dv.bool : Dv → Bool
  | .t x => x
  | _ => false
def Dv.len : Dv → Nat
  | .l m _ _ => m
  | _ => 0
def Dv.at : Dv → Nat → Dv
  | .l _ _ cs, i => cs i
  | _, _ => .n 0
/-- The value v holds d (c: how far each list's memory reaches is known). -/
def Holds (w : World) (c : Bool) : Dv → Value → Prop
  | .n x, v => v = .int .i64 x
  | .t x, v => v = .bool x
  | .l len sz cs, v => ∃ a cap, v = .slice a len cap ∧ (c = true → len ≤ cap ∧ cap ≤ 1048576) ∧ (len * sz = 0 ∨ ∃ b o, a = some ⟨b, o, none⟩ ∧ b < w.heap.size ∧ ∀ i, i < len * sz → ∃ u, w.cell? ⟨b, o + i, none⟩ = some u ∧ Holds w c (cs i) u)
theorem Holds.kept {w w' : World} {c : Bool} (hb : Below w.heap.size w w') : ∀ {d : Dv} {v : Value}, Holds w c d v → Holds w' c d v
  | .n x, v, h => h
  | .t x, v, h => h
  | .l len sz cs, v, ⟨a, cap, e, hc, h⟩ => by
    refine ⟨a, cap, e, hc, ?_⟩
    rcases h with h | ⟨b, o, ea, hl, hi⟩
    · exact Or.inl h
    · refine Or.inr ⟨b, o, ea, Nat.lt_of_lt_of_le hl hb.size, fun i h => ?_⟩
      obtain ⟨u, h1, h2⟩ := hi i h
      exact ⟨u, (hb.cell (p := ⟨b, o + i, none⟩) hl).trans h1, Holds.kept hb h2⟩
theorem Holds.weak {w : World} : ∀ {d : Dv} {v : Value}, Holds w true d v → Holds w false d v
  | .n x, v, h => h
  | .t x, v, h => h
  | .l len sz cs, v, ⟨a, cap, e, hc, h⟩ => by
    refine ⟨a, cap, e, (fun q => by cases q), ?_⟩
    rcases h with h | ⟨b, o, ea, hl, hi⟩
    · exact Or.inl h
    · exact Or.inr ⟨b, o, ea, hl, fun i h => let ⟨u, h1, h2⟩ := hi i h; ⟨u, h1, Holds.weak h2⟩⟩
/-- One cell of a list, in a world that has only grown. -/
theorem Holds.cell {W wr : World} {c : Bool} {len sz : Nat} {cs : Nat → Dv} {a : Option Addr} {cap : Nat} (h : Holds W c (.l len sz cs) (.slice a len cap)) (hB : Below W.heap.size W wr) {i : Nat} (hi : i < len * sz) : ∃ b o u, a = some ⟨b, o, none⟩ ∧ b < W.heap.size ∧ wr.cell? ⟨b, o + i, none⟩ = some u ∧ Holds wr c (cs i) u := by
  obtain ⟨a', cap', e, _, h⟩ := h.kept hB
  simp only [Value.slice.injEq, true_and] at e
  obtain ⟨rfl, rfl⟩ := e
  rcases h with h | ⟨b, o, ea, hl, q⟩
  · omega
  · obtain ⟨u, h1, h2⟩ := q i hi
    refine ⟨b, o, u, ea, ?_, h1, h2⟩
    rcases ‹Holds W c (.l len sz cs) (.slice a len cap)› with ⟨a', cap', e, _, h⟩
    simp only [Value.slice.injEq, true_and] at e
    obtain ⟨rfl, rfl⟩ := e
    rcases h with h | ⟨b', o', ea', hl', _⟩
    · omega
    · rw [ea] at ea'
      simp only [Option.some.injEq, Addr.mk.injEq] at ea'
      rw [ea'.1]; exact hl'
theorem Holds.slice {w : World} {c : Bool} {len sz : Nat} {cs : Nat → Dv} {v : Value} (h : Holds w c (.l len sz cs) v) : ∃ a cap, v = .slice a len cap ∧ (c = true → len ≤ cap ∧ cap ≤ 1048576) := let ⟨a, cap, e, hc, _⟩ := h; ⟨a, cap, e, hc⟩
theorem Holds.congr {w : World} {c : Bool} {len sz : Nat} {cs cs' : Nat → Dv} {v : Value} (h : Holds w c (.l len sz cs) v) (e : ∀ i, i < len * sz → cs i = cs' i) : Holds w c (.l len sz cs') v := by
  obtain ⟨a, cap, ev, hc, h⟩ := h
  refine ⟨a, cap, ev, hc, ?_⟩
  rcases h with h | ⟨b, o, ea, hl, q⟩
  · exact Or.inl h
  · exact Or.inr ⟨b, o, ea, hl, fun i hi => by rw [← e i hi]; exact q i hi⟩
/-- The value v owns d: in blocks of F, from B on, each list in one of its own, no cell barred. -/
def Owns (w : World) (c : Bool) (B : Nat) : Dv → Value → (Nat → Prop) → Prop
  | .n x, v, _ => v = .int .i64 x
  | .t x, v, _ => v = .bool x
  | .l len sz cs, v, F => ∃ a cap, v = .slice a len cap ∧ (c = true → len ≤ cap ∧ cap ≤ 1048576) ∧ (len * sz = 0 ∨ ∃ b o, a = some ⟨b, o, none⟩ ∧ B ≤ b ∧ b < w.heap.size ∧ F b ∧ ∃ G : Nat → Nat → Prop, (∀ i, i < len * sz → (∃ u, w.cell? ⟨b, o + i, none⟩ = some u ∧ w.frozen? ⟨b, o + i, none⟩ = false ∧ Owns w c B (cs i) u (G i)) ∧ ¬ G i b ∧ ∀ x, G i x → F x) ∧ ∀ i j, i < len * sz → j < len * sz → i ≠ j → ∀ x, G i x → ¬ G j x)
theorem Owns.holds {w : World} {c : Bool} {B : Nat} : ∀ {d : Dv} {v : Value} {F : Nat → Prop}, Owns w c B d v F → Holds w c d v
  | .n x, v, F, h => h
  | .t x, v, F, h => h
  | .l len sz cs, v, F, ⟨a, cap, e, hc, h⟩ => by
    refine ⟨a, cap, e, hc, ?_⟩
    rcases h with h | ⟨b, o, ea, _, hl, _, G, hi, _⟩
    · exact Or.inl h
    · refine Or.inr ⟨b, o, ea, hl, fun i h => ?_⟩
      obtain ⟨⟨u, h1, _, h3⟩, _⟩ := hi i h
      exact ⟨u, h1, h3.holds⟩
/-- Where its blocks are as they were, it is owned as it was. -/
theorem Owns.agree {w w' : World} {c : Bool} {B : Nat} (hs : w.heap.size ≤ w'.heap.size) : ∀ {d : Dv} {v : Value} {F : Nat → Prop}, Owns w c B d v F → (∀ b, F b → b < w.heap.size → w'.heap[b]? = w.heap[b]?) → Owns w' c B d v F
  | .n x, v, F, h, _ => h
  | .t x, v, F, h, _ => h
  | .l len sz cs, v, F, ⟨a, cap, e, hc, h⟩, hg => by
    refine ⟨a, cap, e, hc, ?_⟩
    rcases h with h | ⟨b, o, ea, hB, hl, hF, G, hi, hd⟩
    · exact Or.inl h
    · refine Or.inr ⟨b, o, ea, hB, Nat.lt_of_lt_of_le hl hs, hF, G, fun i h => ?_, hd⟩
      obtain ⟨⟨u, h1, h2, h3⟩, h4, h5⟩ := hi i h
      have q := hg b hF hl
      exact ⟨⟨u, (World.cell?_of_block q).trans h1, (World.frozen?_of_block q).trans h2, Owns.agree hs h3 (fun x hx => hg x (h5 x hx))⟩, h4, h5⟩
theorem Owns.kept {w w' : World} {c : Bool} {B : Nat} {d : Dv} {v : Value} {F : Nat → Prop} (h : Owns w c B d v F) (hb : Below w.heap.size w w') : Owns w' c B d v F := h.agree hb.size (fun b _ hl => hb.block b hl)
theorem Owns.more {w : World} {c : Bool} {B : Nat} : ∀ {d : Dv} {v : Value} {F F' : Nat → Prop}, Owns w c B d v F → (∀ x, F x → F' x) → Owns w c B d v F'
  | .n x, v, F, F', h, _ => h
  | .t x, v, F, F', h, _ => h
  | .l len sz cs, v, F, F', ⟨a, cap, e, hc, h⟩, hf => by
    refine ⟨a, cap, e, hc, ?_⟩
    rcases h with h | ⟨b, o, ea, hB, hl, hF, G, hi, hd⟩
    · exact Or.inl h
    · exact Or.inr ⟨b, o, ea, hB, hl, hf b hF, G, fun i h => ⟨(hi i h).1, (hi i h).2.1, fun x hx => hf x ((hi i h).2.2 x hx)⟩, hd⟩
theorem Owns.low {w : World} {c : Bool} {B B' : Nat} (hb : B' ≤ B) : ∀ {d : Dv} {v : Value} {F : Nat → Prop}, Owns w c B d v F → Owns w c B' d v F
  | .n x, v, F, h => h
  | .t x, v, F, h => h
  | .l len sz cs, v, F, ⟨a, cap, e, hc, h⟩ => by
    refine ⟨a, cap, e, hc, ?_⟩
    rcases h with h | ⟨b, o, ea, hB, hl, hF, G, hi, hd⟩
    · exact Or.inl h
    · refine Or.inr ⟨b, o, ea, Nat.le_trans hb hB, hl, hF, G, fun i h => ?_, hd⟩
      obtain ⟨⟨u, h1, h2, h3⟩, h4, h5⟩ := hi i h
      exact ⟨⟨u, h1, h2, h3.low hb⟩, h4, h5⟩
theorem Owns.congr {w : World} {c : Bool} {B len sz : Nat} {cs cs' : Nat → Dv} {v : Value} {F : Nat → Prop} (h : Owns w c B (.l len sz cs) v F) (e : ∀ i, i < len * sz → cs i = cs' i) : Owns w c B (.l len sz cs') v F := by
  obtain ⟨a, cap, ev, hc, h⟩ := h
  refine ⟨a, cap, ev, hc, ?_⟩
  rcases h with h | ⟨b, o, ea, hB, hl, hF, G, hi, hd⟩
  · exact Or.inl h
  · refine Or.inr ⟨b, o, ea, hB, hl, hF, G, fun i h => ?_, hd⟩
    rw [← e i h]; exact hi i h
/-- Of what was there nothing has turned but blocks of F. -/
structure OnlyF (W W' : World) (F : Nat → Prop) : Prop where
  os : W'.os = W.os
  tape : W'.tape = W.tape
  output : W'.output = W.output
  size : W.heap.size ≤ W'.heap.size
  block : ∀ b, b < W.heap.size → ¬ F b → W'.heap[b]? = W.heap[b]?
theorem OnlyF.refl (W : World) (F : Nat → Prop) : OnlyF W W F := ⟨rfl, rfl, rfl, Nat.le_refl _, fun _ _ _ => rfl⟩
theorem OnlyF.trans {W W' W'' : World} {F : Nat → Prop} (h : OnlyF W W' F) (g : OnlyF W' W'' F) : OnlyF W W'' F := ⟨g.os.trans h.os, g.tape.trans h.tape, g.output.trans h.output, Nat.le_trans h.size g.size, fun b hl hb => (g.block b (Nat.lt_of_lt_of_le hl h.size) hb).trans (h.block b hl hb)⟩
theorem OnlyF.more {W W' : World} {F F' : Nat → Prop} (h : OnlyF W W' F) (hf : ∀ x, F x → F' x) : OnlyF W W' F' := ⟨h.os, h.tape, h.output, h.size, fun b hl hb => h.block b hl (fun q => hb (hf b q))⟩
theorem OnlyF.below {W W' : World} {F : Nat → Prop} {B : Nat} (h : OnlyF W W' F) (hB : B ≤ W.heap.size) (hf : ∀ x, F x → B ≤ x) : Below B W W' := ⟨h.os, h.tape, h.output, h.size, fun k hk => h.block k (by omega) (fun q => by have := hf k q; omega)⟩
theorem OnlyF.of_below {W W' : World} {F : Nat → Prop} (h : Below W.heap.size W W') : OnlyF W W' F := ⟨h.os, h.tape, h.output, h.size, fun b hl _ => h.block b hl⟩
/-- What lies elsewhere is owned as it was. -/
theorem OnlyF.owns {W W' : World} {F H : Nat → Prop} {c : Bool} {B : Nat} {d : Dv} {v : Value} (h : OnlyF W W' F) (hd : ∀ x, H x → ¬ F x) (ho : Owns W c B d v H) : Owns W' c B d v H := ho.agree h.size (fun b hb hl => h.block b hl (hd b hb))
def updD (cs : Nat → Dv) (j : Nat) (d : Dv) : Nat → Dv := fun i => if i = j then d else cs i
theorem updD_same (cs : Nat → Dv) (j : Nat) (d : Dv) : updD cs j d j = d := if_pos rfl
theorem updD_other (cs : Nat → Dv) {j i : Nat} (d : Dv) (h : i ≠ j) : updD cs j d i = cs i := if_neg h
/-- A cell of an owned list: it may be written over by a part that turned in its own blocks alone. -/
theorem Owns.part {w : World} {c : Bool} {B len sz : Nat} {cs : Nat → Dv} {a : Option Addr} {cap : Nat} {F : Nat → Prop} (h : Owns w c B (.l len sz cs) (.slice a len cap) F) {j : Nat} (hj : j < len * sz) :
    ∃ b o u H, a = some ⟨b, o, none⟩ ∧ b < w.heap.size ∧ w.cell? ⟨b, o + j, none⟩ = some u ∧ w.frozen? ⟨b, o + j, none⟩ = false ∧ Owns w c B (cs j) u H ∧ (∀ x, H x → F x) ∧
      (∀ w' d', OnlyF w w' H → Owns w' c B d' u H → Owns w' c B (.l len sz (updD cs j d')) (.slice a len cap) F) ∧
      (∀ x : Int, (∃ y, cs j = .n y) → Owns (w.setCell ⟨b, o + j, none⟩ (.int .i64 x)) c B (.l len sz (updD cs j (.n x))) (.slice a len cap) F) ∧
      (∀ x : Bool, (∃ y, cs j = .t y) → Owns (w.setCell ⟨b, o + j, none⟩ (.bool x)) c B (.l len sz (updD cs j (.t x))) (.slice a len cap) F) ∧
      (∀ v, OnlyF w (w.setCell ⟨b, o + j, none⟩ v) F) := by
  obtain ⟨a', cap', e, hc, h⟩ := h
  simp only [Value.slice.injEq, true_and] at e
  obtain ⟨rfl, rfl⟩ := e
  rcases h with h | ⟨b, o, ea, hB, hl, hF, G, hi, hd⟩
  · omega
  obtain ⟨⟨u, h1, h2, h3⟩, h4, h5⟩ := hi j hj
  have set : ∀ v : Value, ∀ d' : Dv, Owns (w.setCell ⟨b, o + j, none⟩ v) c B d' v (G j) → Owns (w.setCell ⟨b, o + j, none⟩ v) c B (.l len sz (updD cs j d')) (.slice a len cap) F := by
    intro v d' hv
    refine ⟨a, cap, rfl, hc, Or.inr ⟨b, o, ea, hB, by simpa [World.setCell] using hl, hF, G, fun i h => ?_, hd⟩⟩
    obtain ⟨⟨u', g1, g2, g3⟩, g4, g5⟩ := hi i h
    refine ⟨?_, g4, g5⟩
    by_cases q : i = j
    · subst q
      exact ⟨v, World.cell?_setCell_same _ _ _ h1, by simpa using g2, by rw [updD_same]; exact hv⟩
    · refine ⟨u', by rw [World.cell?_setCell_other _ _ _ _ (by simp; try omega)]; exact g1, by simpa using g2, ?_⟩
      rw [updD_other _ _ q]
      refine g3.agree (by simp [World.setCell]) (fun x hx _ => ?_)
      have : x ≠ b := fun r => g4 (by rw [← r]; exact hx)
      exact Below.heap_setCell _ _ _ _ this
  refine ⟨b, o, u, G j, ea, hl, h1, h2, h3, h5, fun w' d' ho hd' => ?_, fun x _ => set _ _ rfl, fun x _ => set _ _ rfl, fun v => ⟨rfl, rfl, rfl, by simp [World.setCell], fun x _ hx => Below.heap_setCell _ _ _ _ (fun r => hx (by rw [r]; exact hF))⟩⟩
  refine ⟨a, cap, rfl, hc, Or.inr ⟨b, o, ea, hB, Nat.lt_of_lt_of_le hl ho.size, hF, G, fun i h => ?_, hd⟩⟩
  obtain ⟨⟨u', g1, g2, g3⟩, g4, g5⟩ := hi i h
  have q := ho.block b hl h4
  refine ⟨?_, g4, g5⟩
  by_cases e : i = j
  · subst e
    rw [updD_same]
    obtain rfl : u = u' := by rw [h1] at g1; exact Option.some.inj g1
    exact ⟨u, (World.cell?_of_block q).trans h1, (World.frozen?_of_block q).trans h2, hd'⟩
  · rw [updD_other _ _ e]
    exact ⟨u', (World.cell?_of_block q).trans g1, (World.frozen?_of_block q).trans g2, ho.owns (fun x hx hy => hd i j h hj e x hx hy) g3⟩
/-- Sums. -/
def sumTo (f : Nat → Nat) : Nat → Nat
  | 0 => 0
  | m + 1 => sumTo f m + f m
theorem sumTo_le {f g : Nat → Nat} : ∀ m, (∀ i, i < m → f i ≤ g i) → sumTo f m ≤ sumTo g m
  | 0, _ => Nat.le_refl _
  | m + 1, h => by have h1 := sumTo_le m (fun i hi => h i (by omega)); have h2 := h m (by omega); simp only [sumTo]; omega
theorem sumTo_mono (f : Nat → Nat) {k : Nat} : ∀ m, k ≤ m → sumTo f k ≤ sumTo f m
  | 0, h => by rw [show k = 0 by omega]; exact Nat.le_refl _
  | m + 1, h => by
    by_cases e : k = m + 1
    · rw [e]; exact Nat.le_refl _
    · have := sumTo_mono f (k := k) m (by omega); simp only [sumTo]; omega
theorem sumTo_one (f : Nat → Nat) {i m : Nat} (h : i < m) : f i ≤ sumTo f m := by
  have := sumTo_mono f (k := i + 1) m h
  simp only [sumTo] at this; omega
theorem sumTo_const (c : Nat) : ∀ m, sumTo (fun _ => c) m = m * c
  | 0 => by simp [sumTo]
  | m + 1 => by simp only [sumTo, sumTo_const c m, Nat.add_mul, Nat.one_mul]
theorem sumTo_add (f g : Nat → Nat) : ∀ m, sumTo (fun i => f i + g i) m = sumTo f m + sumTo g m
  | 0 => rfl
  | m + 1 => by simp only [sumTo, sumTo_add f g m]; omega
theorem sumTo_mul (f : Nat → Nat) (c : Nat) : ∀ m, sumTo (fun i => c * f i) m = c * sumTo f m
  | 0 => by simp [sumTo]
  | m + 1 => by simp only [sumTo, sumTo_mul f c m, Nat.mul_add]
/-- How many elements lists have, deep; how many numbers and truth values there are. -/
def szD : Dv → Nat
  | .l len sz cs => len + sumTo (fun i => szD (cs i)) (len * sz)
  | _ => 0
def cntD : Dv → Nat
  | .l len sz cs => sumTo (fun i => cntD (cs i)) (len * sz)
  | _ => 1
/-- What marks make of data: numbers from k on. -/
def mkD : Int → Dv → Dv
  | k, .n _ => .n k
  | k, .t _ => .t (k % 3 == 0)
  | k, .l len sz cs => .l len sz (fun i => mkD (k + (sumTo (fun j => cntD (cs j)) i : Nat)) (cs i))
/-- Shapes. -/
inductive Sh where
  | n
  | t
  | l (sz : Nat) (e : Nat → Sh)
def Fits : Sh → Dv → Prop
  | .n, .n _ => True
  | .t, .t _ => True
  | .l sz e, .l len sz' cs => sz' = sz ∧ ∀ i, i < len * sz → Fits (e (i % sz)) (cs i)
  | _, _ => False
theorem Fits.int {d : Dv} (h : Fits .n d) : ∃ x, d = .n x := by
  cases d with
  | n x => exact ⟨x, rfl⟩
  | t x => exact h.elim
  | l a b c => exact h.elim
theorem Fits.bool {d : Dv} (h : Fits .t d) : ∃ x, d = .t x := by
  cases d with
  | n x => exact h.elim
  | t x => exact ⟨x, rfl⟩
  | l a b c => exact h.elim
theorem Fits.list {sz : Nat} {e : Nat → Sh} {d : Dv} (h : Fits (.l sz e) d) : ∃ len cs, d = .l len sz cs ∧ ∀ i, i < len * sz → Fits (e (i % sz)) (cs i) := by
  cases d with
  | n x => exact h.elim
  | t x => exact h.elim
  | l a b c => obtain ⟨rfl, q⟩ := h; exact ⟨a, c, rfl, q⟩
theorem Fits.cell {sz : Nat} {e : Nat → Sh} {len : Nat} {cs : Nat → Dv} (h : Fits (.l sz e) (.l len sz cs)) {k c : Nat} (hk : k < len) (hc : c < sz) : Fits (e c) (cs (k * sz + c)) := by
  have hl : k * sz + c < len * sz := by
    have : (k + 1) * sz ≤ len * sz := Nat.mul_le_mul_right _ hk
    rw [Nat.add_mul] at this; omega
  have := h.2 (k * sz + c) hl
  rw [Nat.mul_comm k sz, Nat.mul_add_mod, Nat.mod_eq_of_lt hc, Nat.mul_comm sz k] at this
  exact this
/-- Wide at most 8 cells a row, everywhere. -/
def Thin : Sh → Prop
  | .l sz e => sz ≤ 8 ∧ ∀ i, Thin (e i)
  | _ => True
theorem cnt_le : ∀ {s : Sh} {d : Dv}, Thin s → Fits s d → cntD d ≤ 8 * szD d + 1
  | .n, d, _, h => by obtain ⟨x, rfl⟩ := h.int; simp [cntD]
  | .t, d, _, h => by obtain ⟨x, rfl⟩ := h.bool; simp [cntD]
  | .l sz e, d, ht, h => by
    obtain ⟨len, cs, rfl, q⟩ := h.list
    have h1 : sumTo (fun i => cntD (cs i)) (len * sz) ≤ sumTo (fun i => 8 * szD (cs i) + 1) (len * sz) := sumTo_le _ (fun i hi => cnt_le (ht.2 _) (q i hi))
    rw [sumTo_add, sumTo_mul, sumTo_const] at h1
    have h2 : len * sz ≤ len * 8 := Nat.mul_le_mul_left _ ht.1
    simp only [cntD, szD]
    omega
theorem mk_fits : ∀ {s : Sh} {d : Dv} (k : Int), Fits s d → Fits s (mkD k d)
  | .n, d, k, h => by obtain ⟨x, rfl⟩ := h.int; exact trivial
  | .t, d, k, h => by obtain ⟨x, rfl⟩ := h.bool; exact trivial
  | .l sz e, d, k, h => by
    obtain ⟨len, cs, rfl, q⟩ := h.list
    exact ⟨rfl, fun i hi => mk_fits _ (q i hi)⟩
end Go.Proofs.Ytlocdlgbjjbnoaa.deep
