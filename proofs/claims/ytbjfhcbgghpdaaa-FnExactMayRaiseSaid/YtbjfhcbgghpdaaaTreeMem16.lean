/-
  Trees of cells in memory: a row of three cells each, whose third one is the list of its parts.
-/
import Derived.Test.YtbjfhcbgghpdaaaProg
import Derived.Test.YtbjfhcbgghpdaaaMagMath
import Derived.Test.YtbjfhcbgghpdaaaInts
import Derived.Test.YtbjfhcbgghpdaaaDeep
import Derived.Test.YtbjfhcbgghpdaaaDeepRow
import Derived.Test.YtbjfhcbgghpdaaaDeepGrow
import Derived.Test.YtbjfhcbgghpdaaaOwnMath
import Derived.Test.YtbjfhcbgghpdaaaTreeMath16
import Derived.WalkKit
import Derived.Below
import Derived.OwnWalk
namespace Go.Proofs.Ytbjfhcbgghpdaaa.deep
open Go.RowKit Go.Proofs.Ytbjfhcbgghpdaaa.ints Go.Proofs.Ytbjfhcbgghpdaaa.math
set_option linter.unusedVariables false

def kidsD : XT → Dv
  | .leaf _ _ => .l 0 3 (fun _ => .n 0)
  | .one _ _ a => .l 1 3 (fun i => match i with | 0 => .n a.kind | 1 => .n a.num | _ => kidsD a)
  | .two _ _ a b => .l 2 3 (fun i => match i with | 0 => .n a.kind | 1 => .n a.num | 2 => kidsD a | 3 => .n b.kind | 4 => .n b.num | _ => kidsD b)
def rowD (t : XT) (c : Nat) : Dv := match c with | 0 => .n t.kind | 1 => .n t.num | _ => kidsD t
def kcs (ts : List XT) (i : Nat) : Dv := rowD (ts.getD (i / 3) (.leaf 0 0)) (i % 3)
theorem kcs_at (ts : List XT) (k c : Nat) (hc : c < 3) : kcs ts (k * 3 + c) = rowD (ts.getD k (.leaf 0 0)) c := by
  unfold kcs
  rw [show (k * 3 + c) / 3 = k by omega, show (k * 3 + c) % 3 = c by omega]
theorem kids_d (t : XT) : ∃ cs, kidsD t = .l t.kids.length 3 cs ∧ ∀ i, i < t.kids.length * 3 → cs i = kcs t.kids i := by
  cases t with
  | leaf k n => exact ⟨_, rfl, fun i hi => by simp [XT.kids] at hi⟩
  | one k n a => exact ⟨_, rfl, fun i hi => by
      have hi : i < 3 := by simpa [XT.kids] using hi
      match i, hi with
      | 0, _ => rfl
      | 1, _ => rfl
      | 2, _ => rfl⟩
  | two k n a b => exact ⟨_, rfl, fun i hi => by
      have hi : i < 6 := by simpa [XT.kids] using hi
      match i, hi with
      | 0, _ => rfl
      | 1, _ => rfl
      | 2, _ => rfl
      | 3, _ => rfl
      | 4, _ => rfl
      | 5, _ => rfl⟩
/-- One part of a tree, in a world that has only grown. -/
theorem kid_at {W wr : World} {c : Bool} {t : XT} {a : Option Addr} {cap k : Nat} (h : Holds W c (kidsD t) (.slice a t.kids.length cap)) (hB : Below W.heap.size W wr) (hk : k < t.kids.length) : ∃ b o la lc, a = some ⟨b, o, none⟩ ∧ b < W.heap.size ∧ wr.cell? ⟨b, o + k * 3, none⟩ = some (.int .i64 (t.kid k).kind) ∧ wr.cell? ⟨b, o + k * 3 + 1, none⟩ = some (.int .i64 (t.kid k).num) ∧ wr.cell? ⟨b, o + k * 3 + 2, none⟩ = some (.slice la (t.kid k).kids.length lc) ∧ Holds wr c (kidsD (t.kid k)) (.slice la (t.kid k).kids.length lc) := by
  obtain ⟨cs, e, hcs⟩ := kids_d t
  rw [e] at h
  have h := h.congr hcs
  obtain ⟨b, o, ha, hb, hc⟩ := h.cells hB (show 0 < t.kids.length * 3 by omega)
  obtain ⟨u0, d0, q0⟩ := hc (k * 3 + 0) (by omega)
  obtain ⟨u1, d1, q1⟩ := hc (k * 3 + 1) (by omega)
  obtain ⟨u2, d2, q2⟩ := hc (k * 3 + 2) (by omega)
  rw [kcs_at _ _ _ (by decide)] at q0 q1 q2
  have q0 : u0 = .int .i64 (t.kid k).kind := q0
  have q1 : u1 = .int .i64 (t.kid k).num := q1
  have q2 : Holds wr c (kidsD (t.kid k)) u2 := q2
  subst q0
  subst q1
  obtain ⟨cs2, e2, _⟩ := kids_d (t.kid k)
  have q3 := q2
  rw [e2] at q3
  obtain ⟨la, lc, ev, _⟩ := q3.slice
  subst ev
  exact ⟨b, o, la, lc, ha, hb, d0, by rw [Nat.add_assoc]; exact d1, by rw [Nat.add_assoc]; exact d2, q2⟩
theorem Grown.congr {w : World} {B : Nat} {T : TypeId} {sz : Nat} {v : Value} {len : Nat} {cs cs' : Nat → Dv} {U : Nat → Value} {F : Nat → Prop} (h : Grown w B T sz v len cs U F) (e : ∀ i, i < len * sz → cs i = cs' i) : Grown w B T sz v len cs' U F := by
  refine ⟨h.row, ?_, h.out, h.low⟩
  obtain ⟨G, g1, g2⟩ := h.parts
  exact ⟨G, fun i hi => ⟨by rw [← e i hi]; exact (g1 i hi).1, (g1 i hi).2⟩, g2⟩
/-- A tree at work: its box, and the list of the parts that it has so far. -/
structure PartT (w : World) (gt B : Nat) (T S : TypeId) (k n : Int) (done : List XT) (v : Value) : Prop where
  box : w.rowIs gt T 3 (rowF [.int .i64 k, .int .i64 n, v])
  kids : ∃ U F, Grown w B S 3 v done.length (kcs done) U F
  low : gt < B
  top : B ≤ w.heap.size
theorem PartT.kept {w w' : World} {gt B : Nat} {T S : TypeId} {k n : Int} {done : List XT} {v : Value} (h : PartT w gt B T S k n done v) (hb : Below w.heap.size w w') : PartT w' gt B T S k n done v :=
  ⟨h.box.of_block (hb.block _ h.box.lt), let ⟨U, F, q⟩ := h.kids; ⟨U, F, q.kept hb⟩, h.low, Nat.le_trans h.top hb.size⟩
theorem PartT.start {w : World} {gt B : Nat} {T S : TypeId} {k n : Int} (hbox : w.rowIs gt T 3 (rowF [.int .i64 k, .int .i64 n, .slice none 0 0])) (hl : gt < B) (ht : B ≤ w.heap.size) : PartT w gt B T S k n [] (.slice none 0 0) :=
  ⟨hbox, ⟨fun _ => .bool false, fun _ => False, Grown.nil _ _ _ _ _ _⟩, hl, ht⟩
/-- What a part's three cells are. -/
def newsT (s : XT) (la : Option Addr) (lc : Nat) : List Value := [.int .i64 s.kind, .int .i64 s.num, .slice la s.kids.length lc]
theorem PartT.snoc {w w1 w2 w3 : World} {gt B : Nat} {T S : TypeId} {k n : Int} {done : List XT} {v v' : Value} {U : Nat → Value} {F H : Nat → Prop} {s : XT} {la : Option Addr} {lc : Nat} (h : PartT w gt B T S k n done v) (hG : Grown w B S 3 v done.length (kcs done) U F)
    (hs : Owns w1 false w.heap.size (kidsD s) (.slice la s.kids.length lc) H) (hH : ∀ x, H x → w.heap.size ≤ x ∧ x < w1.heap.size) (b1 : Below w.heap.size w w1) (b2 : Below w1.heap.size w1 w2)
    (hr : w3.ownsRow B S 3 v' (done.length + 1) ((List.range (done.length * 3)).map U ++ newsT s la lc)) (hg : w2.grownBy w3 v.ownBlock) (hv : v'.ownBlock = v.ownBlock ∨ v'.ownBlock = some w2.heap.size) :
    PartT (w3.setCell ⟨gt, 2, none⟩ v') gt B T S k n (done ++ [s]) v' := by
  have b12 : Below w.heap.size w w2 := b1.trans (b2.mono b1.size)
  have hcs : ∀ i, i < done.length * 3 → kcs done i = kcs (done ++ [s]) i := fun i hi => by
    unfold kcs
    congr 1
    rw [List.getD_eq_getElem?_getD, List.getD_eq_getElem?_getD, List.getElem?_append_left (by omega)]
  have G2 := ((hG.kept b12).congr hcs)
  have hlast : ∀ c, c < 3 → kcs (done ++ [s]) (done.length * 3 + c) = rowD s c := fun c hc => by
    rw [kcs_at _ _ _ hc]; congr 1; simp
  have hown : ∀ g, v.ownBlock = some g → B ≤ g ∧ g < w.heap.size := fun g e => World.ownsRow.lt hG.row g e
  have s12 := b2.size
  have sb1 := b1.size
  have hRow : Rowed w2 false B (fun i => kcs (done ++ [s]) (done.length * 3 + i)) (fun i => (newsT s la lc).getD i (.bool false)) 3 H := by
    refine ⟨fun i => if i = 2 then H else fun _ => False, fun i hi => ?_, fun i j hi hj hne x hx hy => ?_⟩
    · match i, hi with
      | 0, _ => exact ⟨by show Owns w2 false B (kcs (done ++ [s]) (done.length * 3 + 0)) _ _; rw [hlast 0 (by decide)]; exact rfl, fun x q => by simp at q⟩
      | 1, _ => exact ⟨by show Owns w2 false B (kcs (done ++ [s]) (done.length * 3 + 1)) _ _; rw [hlast 1 (by decide)]; exact rfl, fun x q => by simp at q⟩
      | 2, _ => exact ⟨by show Owns w2 false B (kcs (done ++ [s]) (done.length * 3 + 2)) (.slice la s.kids.length lc) H; rw [hlast 2 (by decide)]; exact ((hs.kept b2).low h.top), fun x q => by simpa using q⟩
    · by_cases e1 : i = 2
      · by_cases e2 : j = 2
        · omega
        · simp [e2] at hy
      · simp [e1] at hx
  have hd : ∀ x, F x → ¬ H x := fun x q1 q2 => by have := (hG.low x q1).2; have := (hH x q2).1; omega
  have ho : ∀ g, v.ownBlock = some g → ¬ H g := fun g e q2 => by have := (hown g e).2; have := (hH g q2).1; omega
  have hlo : ∀ x, H x → B ≤ x ∧ x < w2.heap.size := fun x q => by have := hH x q; have := h.top; omega
  have G3 := Grown.snoc (news := newsT s la lc) G2 rfl hr hg hv hRow hd ho hlo
  have gl := h.low
  have gb : w3.heap[gt]? = w2.heap[gt]? := hg.block gt (by have := h.box.lt; omega) (fun e => by have := (hown gt e.symm).1; omega)
  have q := G3.set_low (b := gt) (i := 2) gl v'
  rw [show done.length + 1 = (done ++ [s]).length by simp] at q
  refine ⟨?_, ⟨_, _, q⟩, gl, ?_⟩
  · refine ((((h.box.of_block (b12.block _ h.box.lt)).of_block gb).set 2 v')).congr (fun i hi => ?_)
    match i, hi with
    | 0, _ => rfl
    | 1, _ => rfl
    | 2, _ => rfl
  · have := hg.size; have := h.top; simp [World.setCell]; omega
/-- The whole tree's parts. -/
theorem PartT.owns {w : World} {gt B : Nat} {T S : TypeId} {k n : Int} {done : List XT} {v : Value} (h : PartT w gt B T S k n done v) (hd : done.length ≤ 2) : ∃ a cap F, v = .slice a (mkX k n done).kids.length cap ∧ Owns w false B (kidsD (mkX k n done)) (.slice a (mkX k n done).kids.length cap) F ∧ ∀ x, F x → B ≤ x ∧ x < w.heap.size := by
  obtain ⟨U, F, hG⟩ := h.kids
  obtain ⟨a, cap, e, hO, hF⟩ := hG.owns
  have hk := mk_kids k n hd
  obtain ⟨cs, e2, hcs⟩ := kids_d (mkX k n done)
  refine ⟨a, cap, _, by rw [hk]; exact e, ?_, hF⟩
  rw [e2]
  rw [hk] at hcs ⊢
  exact hO.congr (fun i hi => (hcs i hi).symm)
end Go.Proofs.Ytbjfhcbgghpdaaa.deep
