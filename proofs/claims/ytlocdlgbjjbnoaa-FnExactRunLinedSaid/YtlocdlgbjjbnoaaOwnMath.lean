/-
  A list of rows that own lists, made by appends, beside a box that holds it.
-/
import Derived.Test.YtlocdlgbjjbnoaaProg
import Derived.Test.YtlocdlgbjjbnoaaDeep
import Derived.Test.YtlocdlgbjjbnoaaDeepRow
import Derived.Test.YtlocdlgbjjbnoaaDeepGrow
import Derived.OwnWalk
import Derived.Maps.AppendAt
import Derived.Below
namespace Go.Proofs.Ytlocdlgbjjbnoaa.deep
open Go.RowKit Go.Proofs.Ytlocdlgbjjbnoaa.ints
set_option linter.unusedVariables false

/-- An append at a step of a region that draws its order; where the new list lies is told. -/
theorem step_append_at {P : Program} (w : World) {ops : Array Oper} {o : Oper} {a : Act} {K : Act → World → Prop} {Q : Exit → Act → World → Prop} {E : Prop} (hgd : o.guard = none) (s x : Operand) (t : TypeId)
    (ho : o.op = .call { callee := .builtin .append, args := #[s, x], argTypes := #[t, t] })
    (base : Nat) (e : TypeId) (i : TypeInfo) (z : Value) (size bytes : Nat) (ht : P.underlying t = some (.slice e)) (hi : P.info? e = some i) (hz : i.zero = some z)
    (hsize : i.size = size) (hby : i.bytes = bytes) (hzs : z.cells.size = size) (hsz : 0 < size)
    (v : Value) (n : Nat) (xs : List Value) (hs : a.eval s = v) (hown : w.ownsRow base e size v n xs)
    (ad : Addr) (m c : Nat) (news : List Value) (hx : a.eval x = .slice (some ad) m c) (hl : news.length = m * size) (hnews : ∀ j u, news[j]? = some u → w.cell? (ad.add j) = some u) (h1 : ∀ u ∈ news, u.oneCell' = true)
    (h63 : n + m ≤ maxLen) (hbytes : (n + m) * bytes ≤ 140737488355328) (hbase : base ≤ w.heap.size)
    (h : ∀ v' w', w'.ownsRow base e size v' (n + m) (xs ++ news) → w.grownBy w' v.ownBlock → (v' = .slice none 0 0 ↔ v = .slice none 0 0 ∧ m = 0) → (v'.ownBlock = v.ownBlock ∨ v'.ownBlock = some w.heap.size) → K (a.put o.dst v') w') :
    if Region.wanted o (yielded ops a.tmps) = true then Oper.wp P o a w K Q else E := by
  have hw : Region.wanted o (yielded ops a.tmps) = true := by simp [Region.wanted, hgd]
  rw [if_pos hw]
  obtain ⟨v', w', hr, h2, h3, h4, h5⟩ := run_append_own_at (P := P) w base t o.type e i z size bytes ht hi hz hsize hby hzs hsz v n xs hown ad m c news hl hnews h1 h63 hbytes hbase
  unfold Oper.wp execOp
  simp only [ho, resolve, invoke, builtin, Sem.run_bind, Sem.run_pure, Result.andThen_ok, List.map_toArray, List.map_cons, List.map_nil, hs, hx, hr]
  exact h v' w' h2 h3 h4 h5
/-- A list that was made by appends, where its blocks are as they were. -/
theorem Grown.agree {w w' : World} {B : Nat} {T : TypeId} {sz : Nat} {v : Value} {len : Nat} {cs : Nat → Dv} {U : Nat → Value} {F : Nat → Prop} (h : Grown w B T sz v len cs U F) (hs : w.heap.size ≤ w'.heap.size) (hb : ∀ x, B ≤ x → x < w.heap.size → w'.heap[x]? = w.heap[x]?) : Grown w' B T sz v len cs U F := by
  refine ⟨?_, h.parts.agree hs (fun b hF hl => hb b (h.low b hF).1 hl), h.out, fun x hx => ⟨(h.low x hx).1, Nat.lt_of_lt_of_le (h.low x hx).2 hs⟩⟩
  refine ⟨h.row.1, ?_⟩
  rcases h.row.2 with q | ⟨g, cap, cur, e, hg, hw, r⟩
  · exact Or.inl q
  · have hl := (World.ownsRow.lt h.row g (by rw [e]; rfl)).2
    exact Or.inr ⟨g, cap, cur, e, hg, (hb g hg hl).trans hw, r⟩
theorem Grown.set_low {w : World} {B : Nat} {T : TypeId} {sz : Nat} {v : Value} {len : Nat} {cs : Nat → Dv} {U : Nat → Value} {F : Nat → Prop} (h : Grown w B T sz v len cs U F) {b i : Nat} (hb : b < B) (u : Value) : Grown (w.setCell ⟨b, i, none⟩ u) B T sz v len cs U F :=
  h.agree (by simp [World.setCell]) (fun x hx _ => Below.heap_setCell _ _ _ _ (by show x ≠ b; omega))
/-- The first rows of a list are a list. -/
theorem ints_row {w : World} {B : Nat} {T : TypeId} {v : Value} {n : Nat} {zs : List Int} (h : w.ownsRow B T 1 v n (zs.map (Value.int .i64))) {es : Nat → Dv} (hl : zs.length = n) (hf : ∀ i, i < n → es i = .n (zs.getD i 0)) : ∃ a cap, v = .slice a n cap ∧ Owns w false B (.l n 1 es) (.slice a n cap) (fun x => v.ownBlock = some x) := by
  rcases h.2 with ⟨rfl, hn⟩ | ⟨g, cap, cur, rfl, hg, hw, hmc, hcm, _, hcur⟩
  · subst hn
    exact ⟨none, 0, rfl, ⟨none, 0, rfl, (fun q => by cases q), Or.inl (by simp)⟩⟩
  · refine ⟨some ⟨g, 0, none⟩, cap, rfl, some ⟨g, 0, none⟩, cap, rfl, (fun q => by cases q), Or.inr ⟨g, 0, rfl, hg, (World.ownsRow.lt h g rfl).2, rfl, fun _ _ => False, fun i hi => ⟨⟨.int .i64 (zs.getD i 0), ?_, ?_, ?_⟩, fun q => q, fun x q => q.elim⟩, fun i j _ _ _ x q => q.elim⟩⟩
    · have hi' : i < zs.length := by omega
      have q := World.ownsRow.cells h (g := g) rfl i (.int .i64 (zs.getD i 0)) (by simp [List.getD, hi'])
      rw [show (⟨g, 0, none⟩ : Addr).add i = ⟨g, 0 + i, none⟩ by unfold Addr.add; split <;> simp_all] at q
      exact q
    · simp [World.frozen?, hw]
    · rw [hf i (by omega)]; rfl
end Go.Proofs.Ytlocdlgbjjbnoaa.deep
