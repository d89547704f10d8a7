/- A slice of numbers that is copied by append onto nothing. -/
import Derived.Test.YtkhkobdbbffkbaaLs
namespace Go.Proofs.Ytkhkobdbbffkbaa
open Go.RowKit

/-- the numbers of a slice that came in -/
def Came (w : World) (x : Option Addr) (n : Nat) (L : Nat → Int) : Prop := ∀ j, j < n → ∃ b off, x = some ⟨b, off, none⟩ ∧ b < w.heap.size ∧ w.cell? ⟨b, off + j, none⟩ = some (.int .i64 (L j))
theorem Came.on {w w' : World} {x : Option Addr} {n : Nat} {L : Nat → Int} (h : Came w x n L) (k : Below w.heap.size w w') : Came w' x n L := fun j hj => by
  obtain ⟨b, off, e, hb, hc⟩ := h j hj
  exact ⟨b, off, e, Nat.lt_of_lt_of_le hb k.size, (k.cell hb).trans hc⟩

/-- an append whose run is known, at the operation -/
theorem wpList_app {P : Program} {w : World} {ops : Array Oper} {rest : List Oper} {o : Oper} {a : Act} {Q : Exit → Act → World → Prop} (hgd : o.guard = none) (s x : Operand) (t : TypeId)
    (ho : o.op = .call { callee := .builtin .append, args := #[s, x], argTypes := #[t, t] }) (v vx v' : Value) (w' : World) (hs : a.eval s = v) (hx : a.eval x = vx)
    (hr : (Builtin.append_ #[t, t] o.type #[v, vx]).run P w = .ok v' w') (h : wpList P ops Q rest (a.put o.dst v') w') : wpList P ops Q (o :: rest) a w :=
  wpList_plain hgd fun _ hK => by
    unfold Oper.wp execOp
    simp only [ho, resolve, invoke, builtin, Sem.run_bind, Sem.run_pure, Result.andThen_ok, List.map_toArray, List.map_cons, List.map_nil, hs, hx, hr]
    exact hK _ _ h

theorem app_none (w : World) (c : Nat) : (Builtin.append_ #[39, 39] 39 #[.slice none 0 0, .slice none 0 c]).run Try.prog w = .ok (.slice none 0 0) w := by
  obtain ⟨i0, hi, hz0, hz1, hz2⟩ := info_parts (P := Try.prog) (e := 3) (z := .int .i64 0) (size := 1) (bytes := 8) (by kernel_rfl)
  simp [Builtin.append_, run_underlying Try.underlying39, sizeOf, typeInfo, hi, Builtin.lenOf, Builtin.firstCells]

theorem app_nums {w : World} {x : Option Addr} {n : Nat} (c : Nat) {L : Nat → Int} (h : Came w x n L) (hn : n ≤ 1024) :
    ∃ x' c' w', (Builtin.append_ #[39, 39] 39 #[.slice none 0 0, .slice x n c]).run Try.prog w = .ok (.slice x' n c') w' ∧ Below w.heap.size w w' ∧
      ∀ j, j < n → ∃ g, x' = some ⟨g, 0, none⟩ ∧ w'.cell? ⟨g, j, none⟩ = some (.int .i64 (L j)) := by
  obtain ⟨i0, hi, hz0, hz1, hz2⟩ := info_parts (P := Try.prog) (e := 3) (z := .int .i64 0) (size := 1) (bytes := 8) (by kernel_rfl)
  by_cases h0 : n = 0
  · subst h0
    cases x with
    | none => exact ⟨none, 0, w, app_none w c, Below.refl _ _, fun j hj => absurd hj (Nat.not_lt_zero j)⟩
    | some ad =>
      obtain ⟨v', w', hr, _, hg, hiff, _⟩ := run_append_own_at (P := Try.prog) w w.heap.size 39 39 3 i0 _ 1 8 Try.underlying39 hi hz0 hz1 hz2 rfl (by decide) (.slice none 0 0) 0 [] (World.ownsRow_nil _ _ _ _) ad 0 c [] rfl (by simp) (by simp) (by decide) (by decide) (Nat.le_refl _)
      obtain rfl := hiff.2 ⟨rfl, rfl⟩
      exact ⟨none, 0, w', hr, (Below.refl _ _).grown hg (Nat.le_refl _) (by intro k hk; cases hk), fun j hj => absurd hj (Nat.not_lt_zero j)⟩
  · obtain ⟨b, off, rfl, hb, _⟩ := h 0 (by omega)
    have hcell : ∀ j u, ((List.range n).map fun j => Value.int .i64 (L j))[j]? = some u → w.cell? ((⟨b, off, none⟩ : Addr).add j) = some u := fun j u hu => by
      by_cases hj : j < n
      · obtain ⟨b', off', e, _, hc⟩ := h j hj
        simp at e
        obtain ⟨rfl, rfl⟩ := e
        rw [List.getElem?_map, List.getElem?_range hj] at hu
        rw [Go.WideShapes.add_plain, hc]
        exact hu
      · rw [List.getElem?_eq_none (by simp; omega)] at hu
        cases hu
    obtain ⟨g, cap, w', hr, hown, hg, _, _⟩ := run_append_lies (P := Try.prog) w 39 39 w.heap.size 3 i0 _ 1 8 Try.underlying39 hi hz0 hz1 hz2 rfl (by decide) (.slice none 0 0) 0 [] (World.ownsRow_nil _ _ _ _) ⟨b, off, none⟩ n c ((List.range n).map fun j => Value.int .i64 (L j)) (by simp) hcell (by intro u hu; simp at hu; obtain ⟨a, _, rfl⟩ := hu; rfl) (by omega) (by unfold maxLen; omega) (by omega) (Nat.le_refl _) _ rfl
    rw [Nat.zero_add] at hr hown
    refine ⟨_, cap, w', hr, (Below.refl _ _).grown hg (Nat.le_refl _) (by intro k hk; cases hk), fun j hj => ⟨g, rfl, ?_⟩⟩
    have := hown.cells (g := g) rfl j (.int .i64 (L j)) (by rw [List.nil_append, List.getElem?_map, List.getElem?_range hj]; rfl)
    rw [Go.WideShapes.add_plain, Nat.zero_add] at this
    exact this

end Go.Proofs.Ytkhkobdbbffkbaa
