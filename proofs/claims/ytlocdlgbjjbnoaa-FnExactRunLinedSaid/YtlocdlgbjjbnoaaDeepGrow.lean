/-
  Lists that a call makes by appends, deep: each row may own lists of its own.
-/
import Derived.Test.YtlocdlgbjjbnoaaDeep
import Derived.Test.YtlocdlgbjjbnoaaDeepRow
import Derived.OwnWalk
import Derived.Maps.AppendAt
namespace Go.Proofs.Ytlocdlgbjjbnoaa.deep
open Go.RowKit Go.Proofs.Ytlocdlgbjjbnoaa.ints
set_option linter.unusedVariables false

/-- The value v is a list of len rows that was made by appends; what its cells own lies in F. -/
structure Grown (w : World) (B : Nat) (T : TypeId) (sz : Nat) (v : Value) (len : Nat) (cs : Nat → Dv) (U : Nat → Value) (F : Nat → Prop) : Prop where
  row : w.ownsRow B T sz v len ((List.range (len * sz)).map U)
  parts : Rowed w false B cs U (len * sz) F
  out : ∀ g, v.ownBlock = some g → ¬ F g
  low : ∀ x, F x → B ≤ x ∧ x < w.heap.size
theorem Grown.nil (w : World) (B : Nat) (T : TypeId) (sz : Nat) (cs : Nat → Dv) (U : Nat → Value) : Grown w B T sz (.slice none 0 0) 0 cs U (fun _ => False) :=
  ⟨by rw [Nat.zero_mul]; exact World.ownsRow_nil _ _ _ _, by rw [Nat.zero_mul]; exact Rowed.nil _ _ _ _ _ _, (fun g e => by cases e), (fun x q => False.elim q)⟩
theorem row_keep {w w' : World} {B : Nat} {T : TypeId} {sz n : Nat} {v : Value} {xs : List Value} (h : w.ownsRow B T sz v n xs) (hb : Below w.heap.size w w') : w'.ownsRow B T sz v n xs :=
  World.ownsRow.kept h (row := none) ⟨hb.os, hb.tape, hb.output, hb.size, fun i hi _ => hb.block i hi⟩ (by
    cases q : v.ownBlock with
    | none => exact Or.inl rfl
    | some g => exact Or.inr (by simp))
theorem Grown.kept {w w' : World} {B : Nat} {T : TypeId} {sz : Nat} {v : Value} {len : Nat} {cs : Nat → Dv} {U : Nat → Value} {F : Nat → Prop} (h : Grown w B T sz v len cs U F) (hb : Below w.heap.size w w') : Grown w' B T sz v len cs U F :=
  ⟨row_keep h.row hb, h.parts.kept hb, h.out, fun x hx => ⟨(h.low x hx).1, Nat.lt_of_lt_of_le (h.low x hx).2 hb.size⟩⟩
/-- As data of its own. -/
theorem Grown.owns {w : World} {B : Nat} {T : TypeId} {sz : Nat} {v : Value} {len : Nat} {cs : Nat → Dv} {U : Nat → Value} {F : Nat → Prop} (h : Grown w B T sz v len cs U F) : ∃ a cap, v = .slice a len cap ∧ Owns w false B (.l len sz cs) (.slice a len cap) (fun x => F x ∨ v.ownBlock = some x) ∧ ∀ x, (F x ∨ v.ownBlock = some x) → B ≤ x ∧ x < w.heap.size := by
  have hr := h.row
  have lo : ∀ x, (F x ∨ v.ownBlock = some x) → B ≤ x ∧ x < w.heap.size := fun x q => by
    rcases q with q | q
    · exact h.low x q
    · exact World.ownsRow.lt hr x q
  rcases hr.2 with ⟨rfl, hn⟩ | ⟨g, cap, cur, rfl, hg, hw, hmc, hcm, _, hcur⟩
  · subst hn
    exact ⟨none, 0, rfl, ⟨none, 0, rfl, (fun q => by cases q), Or.inl (by simp)⟩, lo⟩
  · refine ⟨some ⟨g, 0, none⟩, cap, rfl, ?_, lo⟩
    obtain ⟨G, g1, g2⟩ := h.parts
    refine ⟨some ⟨g, 0, none⟩, cap, rfl, (fun q => by cases q), Or.inr ⟨g, 0, rfl, hg, (World.ownsRow.lt hr g rfl).2, Or.inr rfl, G, fun i hi => ⟨⟨U i, ?_, ?_, (g1 i hi).1⟩, fun q => h.out g rfl ((g1 i hi).2 g q), fun x hx => Or.inl ((g1 i hi).2 x hx)⟩, g2⟩⟩
    · have := World.ownsRow.cellAt hr i hi
      rw [Nat.zero_add, this]
      simp [hi]
    · have := World.ownsRow.frozenAt hr i
      simpa using this
def moreU (U : Nat → Value) (m : Nat) (news : List Value) : Nat → Value := fun i => if i < m then U i else news.getD (i - m) (.bool false)
theorem moreU_list (U : Nat → Value) (m : Nat) (news : List Value) : (List.range (m + news.length)).map (moreU U m news) = (List.range m).map U ++ news := by
  apply List.ext_getElem
  · simp
  · intro i h1 h2
    simp only [List.getElem_map, List.getElem_range, moreU]
    by_cases q : i < m
    · rw [if_pos q, List.getElem_append_left (by simpa using q)]; simp
    · rw [if_neg q, List.getElem_append_right (by simp; omega)]
      simp only [List.length_map, List.length_range]
      simp at h1
      simp [List.getD, show i - m < news.length by omega]
/-- One more row behind an append. -/
theorem Grown.snoc {w w' : World} {B : Nat} {T : TypeId} {sz : Nat} {v v' : Value} {len : Nat} {cs : Nat → Dv} {U : Nat → Value} {F H : Nat → Prop} {news : List Value} (h : Grown w B T sz v len cs U F) (hl : news.length = sz)
    (hr : w'.ownsRow B T sz v' (len + 1) ((List.range (len * sz)).map U ++ news)) (hg : w.grownBy w' v.ownBlock) (hv : v'.ownBlock = v.ownBlock ∨ v'.ownBlock = some w.heap.size)
    (hn : Rowed w false B (fun i => cs (len * sz + i)) (fun i => news.getD i (.bool false)) sz H) (hd : ∀ x, F x → ¬ H x) (ho : ∀ g, v.ownBlock = some g → ¬ H g) (hlo : ∀ x, H x → B ≤ x ∧ x < w.heap.size) :
    Grown w' B T sz v' (len + 1) cs (moreU U (len * sz) news) (fun x => F x ∨ H x) := by
  have blk : ∀ x, (F x ∨ H x) → x < w.heap.size → w'.heap[x]? = w.heap[x]? := fun x hx hl => hg.block x hl (by
    intro e
    rcases hx with q | q
    · exact h.out x e.symm q
    · exact ho x e.symm q)
  refine ⟨?_, ?_, ?_, ?_⟩
  · rw [Nat.add_mul, Nat.one_mul, show len * sz + sz = len * sz + news.length by rw [hl], moreU_list]; exact hr
  · obtain ⟨G, g1, g2⟩ := h.parts
    obtain ⟨K, k1, k2⟩ := hn
    rw [Nat.add_mul, Nat.one_mul]
    refine ⟨fun i => if i < len * sz then G i else K (i - len * sz), fun i hi => ?_, fun i j hi hj hne x hx hy => ?_⟩
    · by_cases q : i < len * sz
      · simp only [if_pos q, moreU]
        exact ⟨(g1 i q).1.agree hg.size (fun b hb hl => blk b (Or.inl ((g1 i q).2 b hb)) hl), fun x hx => Or.inl ((g1 i q).2 x hx)⟩
      · simp only [if_neg q, moreU]
        have hi' : i - len * sz < sz := by omega
        have e : len * sz + (i - len * sz) = i := by omega
        have o := (k1 _ hi').1
        simp only [e] at o
        exact ⟨o.agree hg.size (fun b hb hl => blk b (Or.inr ((k1 _ hi').2 b hb)) hl), fun x hx => Or.inr ((k1 _ hi').2 x hx)⟩
    · by_cases q : i < len * sz
      · by_cases r : j < len * sz
        · simp only [if_pos q] at hx
          simp only [if_pos r] at hy
          exact g2 i j q r hne x hx hy
        · simp only [if_pos q] at hx
          simp only [if_neg r] at hy
          exact hd x ((g1 i q).2 x hx) ((k1 _ (by omega)).2 x hy)
      · by_cases r : j < len * sz
        · simp only [if_neg q] at hx
          simp only [if_pos r] at hy
          exact hd x ((g1 j r).2 x hy) ((k1 _ (by omega)).2 x hx)
        · simp only [if_neg q] at hx
          simp only [if_neg r] at hy
          exact k2 _ _ (by omega) (by omega) (by omega) x hx hy
  · intro g e q
    rcases hv with hv | hv
    · rw [hv] at e
      rcases q with q | q
      · exact h.out g e q
      · exact ho g e q
    · rw [hv] at e
      have e := Option.some.inj e
      rcases q with q | q
      · have := (h.low g q).2; omega
      · have := (hlo g q).2; omega
  · intro x q
    have hs := hg.size
    rcases q with q | q
    · have := h.low x q; exact ⟨this.1, by omega⟩
    · have := hlo x q; exact ⟨this.1, by omega⟩
/-- .. and only the row's own block has turned. -/
theorem Grown.below {w w' : World} {B : Nat} {T : TypeId} {sz : Nat} {v : Value} {len : Nat} {cs : Nat → Dv} {U : Nat → Value} {F : Nat → Prop} (h : Grown w B T sz v len cs U F) (hg : w.grownBy w' v.ownBlock) (hB : B ≤ w.heap.size) : Below B w w' :=
  ⟨hg.os, hg.tape, hg.output, hg.size, fun k hk => hg.block k (by omega) (fun e => by have := (World.ownsRow.lt h.row k e.symm).1; omega)⟩
end Go.Proofs.Ytlocdlgbjjbnoaa.deep
