/-
  What the program's kindTreeOf and GoodTree answer, at every list; they make new memory alone.
-/
import Derived.Test.YtapbfoooflpejaaProg
import Derived.Test.YtapbfoooflpejaaMagMath
import Derived.Test.YtapbfoooflpejaaTreeMath
import Derived.Test.YtapbfoooflpejaaSizes
import Derived.Test.YtapbfoooflpejaaTreeSpec
import Derived.Test.YtapbfoooflpejaaInts
import Derived.WalkKit
import Derived.WalkSpells
import Derived.Below
import Derived.Handy
namespace Go.Proofs.Ytapbfoooflpejaa.walks
open Go.RowKit Go.Proofs.Ytapbfoooflpejaa.math Go.Proofs.Ytapbfoooflpejaa.ints
set_option linter.unusedVariables false
set_option maxRecDepth 100000

/-- What a call of kindTreeOf answers. -/
def KtAns (a : Option Addr) (cap : Nat) (zs : List Int) (W : World) (e : Ending) (W' : World) : Prop := ∃ x y, e = .returned (.tuple #[.agg #[x, y], .bool (treeB zs)]) ∧ ((∃ a l c, x = .slice a l c) ∧ ∃ a l c, y = .slice a l c) ∧ (treeB zs = true → x = .slice a zs.length cap ∧ ∃ g, y = .slice (some ⟨g, 0, none⟩) zs.length zs.length ∧ W.heap.size ≤ g ∧ W'.rowIs g 3 zs.length (fun i => .int .i64 (szT false zs i : Int))) ∧ Below W.heap.size W W'
set_option maxHeartbeats 1000000 in
theorem impl_ktree (a : Option Addr) (len cap : Nat) (zs : List Int) (W : World) (hz : Hid (zs.length = len)) (hlen : len ≤ 1048576) (h : Hid (Ints W a zs)) (hab : Hid (∀ b o, a = some ⟨b, o, none⟩ → 0 < len → b < W.heap.size)) :
    Calls Try.prog 37 #[.slice a len cap] W fun e W' => KtAns a cap zs W e W' := by
  by_cases h40 : 40 < len
  · have HE : Hid (treeB zs = false) := tree_false_long (by rw [hz.out]; exact h40)
    have h40I : (40 : Int) < (len : Int) := by omega
    go_enter Try.func37, Try.ntmps37
    go_wp2
    exact bodyPost_ret (v := .tuple #[.agg #[.slice none 0 0, .slice none 0 0], .bool false]) (by simp only [results, Try.results37]; go_simp) rfl ⟨_, _, by rw [HE.out], ⟨⟨_, _, _, rfl⟩, _, _, _, rfl⟩, fun q => (by rw [HE.out] at q; cases q), by repeat (first | exact Below.refl _ _ | refine Below.drew ?_ | refine Below.setCell ?_ (by simp; try omega) _ | refine Below.alloc ?_ (by simp; try omega) _)⟩
  have HE : Hid (treeB zs = wholeB false zs) := tree_eq (by rw [hz.out]; omega)
  have h40I : (len : Int) ≤ 40 := by omega
  clear h40
  go_enter Try.func37, Try.ntmps37
  go_wp2_with fail
  obtain ⟨X, hX⟩ : ∃ X, Hid (W.alloc (.cells #[.slice none 0 0, .slice none 0 0] 53) = X) := ⟨_, rfl⟩
  have HX : Hid (Below W.heap.size W X) := by show Below _ _ _; rw [← hX.out]; repeat (first | exact Below.refl _ _ | refine Below.drew ?_ | refine Below.setCell ?_ (by simp; try omega) _ | refine Below.alloc ?_ (by simp; try omega) _)
  have hXs : X.heap.size = W.heap.size + 1 := by rw [← hX.out]; simp
  have x0 : X.cell? ⟨W.heap.size, 0, none⟩ = some (.slice none 0 0) := by rw [← hX.out]; simp
  have x1 : X.cell? ⟨W.heap.size, 1, none⟩ = some (.slice none 0 0) := by rw [← hX.out]; simp
  have y0 : X.frozen? ⟨W.heap.size, 0, none⟩ = false := by rw [← hX.out]; simp
  have y1 : X.frozen? ⟨W.heap.size, 1, none⟩ = false := by rw [← hX.out]; simp
  rw [hX.out]
  refine (impl_sizes0 _ _ _ zs _ hz hlen (h.out.kept HX.out) (fun b o e h0 => by have := hab.out b o e h0; omega)).mono ?_
  rintro e w1 ⟨v, rfl, ⟨va, vl, vc, rfl⟩, hv, hB⟩
  have hs1 := hB.size
  have hl : W.heap.size < w1.heap.size := by omega
  have x0 := (hB.cell (p := ⟨W.heap.size, 0, none⟩) (by show W.heap.size < _; omega)).trans x0
  have x1 := (hB.cell (p := ⟨W.heap.size, 1, none⟩) (by show W.heap.size < _; omega)).trans x1
  have y0 := (hB.frozen (p := ⟨W.heap.size, 0, none⟩) (by show W.heap.size < _; omega)).trans y0
  have y1 := (hB.frozen (p := ⟨W.heap.size, 1, none⟩) (by show W.heap.size < _; omega)).trans y1
  obtain ⟨b, hb⟩ : ∃ b, Hid (wholeB false zs = b) := ⟨_, rfl⟩
  have HV : Hid (wholeB false zs = true → ∃ g, Value.slice va vl vc = .slice (some ⟨g, 0, none⟩) zs.length zs.length ∧ X.heap.size ≤ g ∧ w1.rowIs g 3 zs.length (fun i => .int .i64 (szT false zs i : Int))) := hv
  have HB : Hid (Below W.heap.size W w1) := HX.out.trans (hB.mono (by omega))
  rw [hb.out]
  clear hv hB
  go_wp2
  refine bodyPost_ret (v := .tuple #[.agg #[.slice a len cap, .slice va vl vc], .bool b]) (by simp only [results, Try.results37]; go_simp) rfl ⟨_, _, by rw [HE.out, hb.out], ⟨⟨_, _, _, rfl⟩, _, _, _, rfl⟩, fun q => ⟨by rw [hz.out], ?_⟩, (HB.out.setCell (Nat.le_refl _) _).setCell (Nat.le_refl _) _⟩
  rw [HE.out] at q
  obtain ⟨g, h1, h2, h3⟩ := HV.out q
  exact ⟨g, h1, by omega, (h3.setOther (by show g ≠ W.heap.size; omega) _).setOther (by show g ≠ W.heap.size; omega) _⟩
end Go.Proofs.Ytapbfoooflpejaa.walks
