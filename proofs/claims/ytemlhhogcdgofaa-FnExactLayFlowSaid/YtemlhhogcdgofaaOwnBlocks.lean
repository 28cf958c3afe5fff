/-
  A list of blocks that a call makes by appends, each with code of its own.
-/
import Derived.Test.YtemlhhogcdgofaaFlowDeep
import Derived.Test.YtemlhhogcdgofaaDeepGrow
import Derived.Test.YtemlhhogcdgofaaOwnFlat
namespace Go.Proofs.Ytemlhhogcdgofaa.deep
open Go.RowKit Go.Proofs.Ytemlhhogcdgofaa.ints Go.Proofs.Ytemlhhogcdgofaa.math Go.Proofs.Ytemlhhogcdgofaa.walks
set_option linter.unusedVariables false

/-- The cells of blocks in a row, as deep data. -/
def dB (f : Nat → Bv) (i : Nat) : Dv := match i % 4 with
  | 0 => dI (f (i / 4)).len 5 (f (i / 4)).zs
  | 1 => .n (f (i / 4)).t
  | 2 => .n (f (i / 4)).th
  | _ => .n (f (i / 4)).el
theorem dB_0 (f : Nat → Bv) (k : Nat) : dB f (k * 4 + 0) = dI (f k).len 5 (f k).zs := by
  unfold dB; rw [show (k * 4 + 0) % 4 = 0 by omega, show (k * 4 + 0) / 4 = k by omega]; rfl
theorem dB_1 (f : Nat → Bv) (k : Nat) : dB f (k * 4 + 1) = .n (f k).t := by
  unfold dB; rw [show (k * 4 + 1) % 4 = 1 by omega, show (k * 4 + 1) / 4 = k by omega]; rfl
theorem dB_2 (f : Nat → Bv) (k : Nat) : dB f (k * 4 + 2) = .n (f k).th := by
  unfold dB; rw [show (k * 4 + 2) % 4 = 2 by omega, show (k * 4 + 2) / 4 = k by omega]; rfl
theorem dB_3 (f : Nat → Bv) (k : Nat) : dB f (k * 4 + 3) = .n (f k).el := by
  unfold dB; rw [show (k * 4 + 3) % 4 = 3 by omega, show (k * 4 + 3) / 4 = k by omega]; rfl
theorem dB_fits (f : Nat → Bv) (n : Nat) : Fits shBlockS (.l n 4 (dB f)) := by
  refine ⟨rfl, fun i hi => ?_⟩
  have e : i = i / 4 * 4 + i % 4 := by omega
  rcases (show i % 4 = 0 ∨ i % 4 = 1 ∨ i % 4 = 2 ∨ i % 4 = 3 by omega) with r | r | r | r
  · rw [r] at e ⊢
    rw [e, dB_0]
    exact ⟨rfl, fun j _ => by rcases (show j % 5 = 0 ∨ j % 5 = 1 ∨ j % 5 = 2 ∨ j % 5 = 3 ∨ j % 5 = 4 by omega) with q | q | q | q | q <;> rw [q] <;> trivial⟩
  · rw [r] at e ⊢; rw [e, dB_1]; trivial
  · rw [r] at e ⊢; rw [e, dB_2]; trivial
  · rw [r] at e ⊢; rw [e, dB_3]; trivial
theorem dI_size (len sz : Nat) (zs : List Int) : szD (dI len sz zs) = len := by
  show len + sumTo _ _ = _
  rw [sz_flat _ (fun i _ => ⟨_, rfl⟩)]; omega
theorem dB_size (f : Nat → Bv) (n : Nat) (hn : n ≤ 8) (hl : ∀ k, k < n → (f k).len ≤ 1000) : szD (.l n 4 (dB f)) ≤ 100000 := by
  show n + sumTo _ _ ≤ _
  have h : sumTo (fun i => szD (dB f i)) (n * 4) ≤ sumTo (fun _ => 1000) (n * 4) := sumTo_le _ (fun i hi => by
    have e : i = i / 4 * 4 + i % 4 := by omega
    have hk : i / 4 < n := by omega
    have := hl _ hk
    rcases (show i % 4 = 0 ∨ i % 4 = 1 ∨ i % 4 = 2 ∨ i % 4 = 3 by omega) with r | r | r | r <;> rw [r] at e <;> rw [e]
    · rw [dB_0, dI_size]; exact this
    · rw [dB_1]; exact Nat.zero_le _
    · rw [dB_2]; exact Nat.zero_le _
    · rw [dB_3]; exact Nat.zero_le _)
  rw [sumTo_const] at h
  omega
theorem block_row : (Try.prog.info? 46).map (fun i => (i.zero, i.size, i.bytes)) = some (some (.agg #[.slice none 0 0, .int .i64 0, .int .i64 0, .int .i64 0]), 4, 48) := by kernel_rfl
/-- The value v owns the first n blocks of f, each with code of its own. -/
def OwnBl (w : World) (B : Nat) (v : Value) (n : Nat) (f : Nat → Bv) : Prop := ∃ U F, Grown w B 46 4 v n (dB f) U F
theorem OwnBl.nil (w : World) (B : Nat) (f : Nat → Bv) : OwnBl w B (.slice none 0 0) 0 f := ⟨fun _ => .bool false, _, Grown.nil w B _ 4 _ _⟩
theorem OwnBl.kept {w w' : World} {B n : Nat} {v : Value} {f : Nat → Bv} (h : OwnBl w B v n f) (hb : Below w.heap.size w w') : OwnBl w' B v n f := let ⟨U, F, g⟩ := h; ⟨U, F, g.kept hb⟩
theorem OwnBl.row {w : World} {B n : Nat} {v : Value} {f : Nat → Bv} (h : OwnBl w B v n f) : ∃ xs, w.ownsRow B 46 4 v n xs := let ⟨U, F, g⟩ := h; ⟨_, g.row⟩
theorem OwnBl.owns {w : World} {B n : Nat} {v : Value} {f : Nat → Bv} (h : OwnBl w B v n f) : ∃ a cap F, v = .slice a n cap ∧ Owns w false B (.l n 4 (dB f)) (.slice a n cap) F ∧ ∀ x, F x → B ≤ x ∧ x < w.heap.size := by
  obtain ⟨U, F, g⟩ := h
  obtain ⟨a, cap, e, ho, hl⟩ := g.owns
  exact ⟨a, cap, _, e, ho, hl⟩
/-- What is known of the list when a block is to be put behind it: its row, and what comes of it. -/
theorem OwnBl.snoc {w0 w1 : World} {B n : Nat} {v : Value} {f : Nat → Bv} (h : OwnBl w0 B v n f) (hb : Below w0.heap.size w0 w1) (hB : B ≤ w0.heap.size) {ca : Option Addr} {cc : Nat} (hc : Mine w1 w0.heap.size ca (f n).zs) (hz : (f n).zs.length = (f n).len * 5) :
    ∃ xs, w1.ownsRow B 46 4 v n xs ∧ ∀ (o : Obj) (w2 : World) (v' : Value), w2.ownsRow B 46 4 v' (n + 1) (xs ++ [.slice ca (f n).len cc, .int .i64 (f n).t, .int .i64 (f n).th, .int .i64 (f n).el]) → (w1.alloc o).grownBy w2 v.ownBlock → (v'.ownBlock = v.ownBlock ∨ v'.ownBlock = some (w1.alloc o).heap.size) → OwnBl w2 B v' (n + 1) f ∧ ∀ W, Below B W w1 → Below B W w2 := by
  obtain ⟨U, F, g0⟩ := h
  have g1 := g0.kept hb
  refine ⟨_, g1.row, fun o w2 v' hown hgrow hob => ?_⟩
  have hbo : Below w1.heap.size w1 (w1.alloc o) := (Below.refl _ _).alloc (Nat.le_refl _) o
  have g2 := g1.kept hbo
  have hs := hb.size
  have hsa : w1.heap.size ≤ (w1.alloc o).heap.size := hbo.size
  have hF : ∀ x, F x → x < w0.heap.size := fun x hx => (g0.low x hx).2
  have hV : ∀ y, v.ownBlock = some y → y < w0.heap.size := fun y hy => (World.ownsRow.lt g0.row y hy).2
  refine ⟨⟨moreU U (n * 4) [.slice ca (f n).len cc, .int .i64 (f n).t, .int .i64 (f n).th, .int .i64 (f n).el], _, g2.snoc (H := fun x => w0.heap.size ≤ x ∧ x < w1.heap.size) rfl hown hgrow hob ?_ (fun x hx hy => by have := hF x hx; omega) (fun y hy q => by have := hV y hy; omega) (fun x hx => ⟨by omega, by omega⟩)⟩, fun W hW => ?_⟩
  · have o0 : Owns (w1.alloc o) false B (dI (f n).len 5 (f n).zs) (.slice ca (f n).len cc) (fun x => w0.heap.size ≤ x ∧ x < w1.heap.size) := by
      have q := mine_owns (c := false) (cap := cc) hc hz (F := fun x => w0.heap.size ≤ x ∧ x < w1.heap.size) (fun b o e h1 h2 => ⟨h1, h2⟩) (fun q => by cases q)
      exact (q.kept hbo).low hB
    refine Rowed.flat (m := 3) (Rowed.flat (m := 2) (Rowed.flat (m := 1) (Rowed.snoc (m := 0) (F := fun _ => False) (H := fun x => w0.heap.size ≤ x ∧ x < w1.heap.size) (Rowed.nil _ _ _ _ _ _) ?_ (fun x q => q.elim) (fun x q => q.elim) (fun x q => q)) ?_) ?_) ?_
    · show Owns _ _ _ (dB f (n * 4 + 0)) _ _
      rw [dB_0]; exact o0
    · show Owns _ _ _ (dB f (n * 4 + 1)) _ _
      rw [dB_1]; rfl
    · show Owns _ _ _ (dB f (n * 4 + 2)) _ _
      rw [dB_2]; rfl
    · show Owns _ _ _ (dB f (n * 4 + 3)) _ _
      rw [dB_3]; rfl
  · exact (hW.alloc (by omega) o).grown hgrow (by simp; omega) (fun j hj => (World.ownsRow.lt g0.row j hj).1)
end Go.Proofs.Ytemlhhogcdgofaa.deep
