/- What memory holds while package frag's Cut goes through its parts; a text appended onto a row of one's own. -/
import Derived.Test.YtefenejeppmfiaaCp12
import Derived.Maps.AppendAt
namespace Go.Proofs.Ytefenejeppmfiaa
open Go.RowKit Go.Shelf

theorem wpListIn_app {F : Fence} {n : Nat} {P : Program} {ops : Array Oper} {rest : List Oper} {o : Oper} {a : Act} {Q : Exit → Act → World → Prop} {w w' : World} {v u v' : Value}
    (hg : o.guard = none) (s x : Operand) (t : TypeId) (hop : o.op = Op.call { callee := Callee.builtin Builtin.append, args := #[s, x], argTypes := #[t, t] }) (hs : a.eval s = v) (hx : a.eval x = u)
    (hrun : (Builtin.append_ #[t, t] o.type #[v, u]).run P w = .ok v' w') (h : wpListIn F n P ops Q rest (a.put o.dst v') w') : wpListIn F n P ops Q (o :: rest) a w := by
  refine wpListIn_plain hg fun K hK' => ?_
  unfold Oper.wpIn
  refine ⟨?_, ?_⟩
  · simp [Oper.about, hop, resolve, Target.leads, Sem.run_pure]
  · rw [Oper.semAt_plain F _ _ (by rw [hop]; intro c hc'; cases hc')]
    simp [execOp, hop, resolve, invoke, builtin, hs, hx, hrun, Result.andThen]
    exact hK' _ _ h

theorem row_at' {w w' : World} {base e size n : Nat} {v : Value} {xs : List Value} (h : w.ownsRow base e size v n xs) (k : ∀ g, v.ownBlock = some g → w'.heap[g]? = w.heap[g]?) : w'.ownsRow base e size v n xs := by
  refine ⟨h.1, ?_⟩
  rcases h.2 with hn | ⟨g, cap, cur, rfl, hb, hgg, rest⟩
  · exact .inl hn
  · exact .inr ⟨g, cap, cur, rfl, hb, (k g rfl).trans hgg, rest⟩
def strV (T : List ByteArray) : List Value := T.map Value.string
/-- the row's texts are read -/
theorem own_strs {w : World} {base : Nat} {v : Value} {T : List ByteArray} (h : w.ownsRow base 9 1 v T.length (strV T)) : Strs w.heap.size w v T := by
  rcases h.2 with ⟨rfl, h2⟩ | ⟨g, cap, cur, rfl, _, h3, h4, _, h6, h7⟩
  · exact .inl ⟨⟨_, _, rfl⟩, List.eq_nil_of_length_eq_zero h2⟩
  · refine .inr ⟨g, 0, cap, rfl, (Array.getElem?_eq_some_iff.1 h3).1, fun j hj => ?_⟩
    rw [Nat.zero_add, cell_of_row _ _ j _ _ _ h3]
    have h8 : (cur.toList.take (T.length * 1))[j]? = (strV T)[j]? := by rw [h7]
    rw [List.getElem?_take, if_pos (by omega)] at h8
    unfold strV at h8
    rw [List.getElem?_map] at h8
    rw [← Array.getElem?_toList, h8, List.getElem?_eq_getElem hj]
    rfl
/-- one text more in the row: what append does is known ahead -/
theorem join_str {D0 : World} {base n : Nat} {v : Value} {T : List ByteArray} (hown : D0.ownsRow base 9 1 v n (strV T)) (hb : base ≤ D0.heap.size) (hn : n ≤ 65536) (s : ByteArray) :
    ∃ v2 D2, (Builtin.append_ #[28, 28] 28 #[v, .slice (some ⟨D0.heap.size, 0, none⟩) 1 1]).run Try.prog (D0.alloc (.cells #[.string s] 9)) = .ok v2 D2 ∧ D2.ownsRow base 9 1 v2 (n + 1) (strV (T ++ [s])) ∧ (D0.alloc (.cells #[.string s] 9)).grownBy D2 v.ownBlock ∧
      (v2.ownBlock = v.ownBlock ∨ ∀ g, v2.ownBlock = some g → D0.heap.size ≤ g) := by
  obtain ⟨i0, hi, hz0, hz1, hz2⟩ := info_parts (P := Try.prog) (e := 9) (z := .string ⟨#[]⟩) (size := 1) (bytes := 16) (by kernel_rfl)
  obtain ⟨v2, D2, r, o, g, q1, q2⟩ := run_append_own_at (P := Try.prog) (D0.alloc (.cells #[.string s] 9)) base 28 28 9 i0 _ 1 16 Try.underlying28 hi hz0 hz1 hz2 rfl (by decide) v n _ (hown.alloc _)
    ⟨D0.heap.size, 0, none⟩ 1 1 [.string s] rfl (by have q := World.news_of_block (heap_alloc_new D0 (.cells #[.string s] 9)); simpa using q) (by intro u hu; simp at hu; rcases hu with rfl; rfl) (by unfold maxLen; omega) (by omega) (by simp; omega)
  refine ⟨v2, D2, r, by unfold strV at *; rw [List.map_append]; exact o, g, q2.imp id fun e b hb => ?_⟩
  rw [e] at hb
  obtain rfl := Option.some.inj hb
  simp

/-- between two rounds: W5 is the world of the loop's beginning, Bo the box of the parts that are done -/
structure CV (n5 Bo : Nat) (W5 : World) (No' : Nat → Prop) (pre : List Pc) (v : Value) (W : World) : Prop where
  sub : ∀ i, i < n5 → i ≠ Bo → No' i
  ks : Ks (fun i => i < n5 ∧ i ≠ Bo) W5 W
  nb : ¬ No' Bo
  lt : Bo < n5
  le : n5 ≤ W.heap.size
  box : W.heap[Bo]? = some (.cells #[v] 28 (0, 0))
  row : W.ownsRow n5 9 1 v (pre.map pcB).length (strV (pre.map pcB))
  nr : ∀ g, v.ownBlock = some g → ¬ No' g
  nlt : ∀ i, No' i → i < W.heap.size
def CX (n5 Bo : Nat) (W5 : World) (No' : Nat → Prop) (pre : List Pc) (W : World) : Prop := ∃ v, CV n5 Bo W5 No' pre v W
section
variable {n5 Bo : Nat} {W5 : World} {No' : Nat → Prop} {pre : List Pc} {v : Value} {W W' : World}
theorem CV.below (h : CV n5 Bo W5 No' pre v W) (k : Below W.heap.size W W') : CV n5 Bo W5 No' pre v W' :=
  ⟨h.sub, h.ks.trans (Ks.of_below k), h.nb, h.lt, Nat.le_trans h.le k.size, (k.block _ (Array.getElem?_eq_some_iff.1 h.box).1).trans h.box, row_below h.row k, h.nr, fun i hi => Nat.lt_of_lt_of_le (h.nlt i hi) k.size⟩
theorem CX.below (h : CX n5 Bo W5 No' pre W) (k : Below W.heap.size W W') : CX n5 Bo W5 No' pre W' := by
  obtain ⟨v, h⟩ := h
  exact ⟨v, h.below k⟩
theorem CX.set (h : CX n5 Bo W5 No' pre W) {b : Nat} (hb : No' b) (h5 : n5 ≤ b) (j : Nat) (u : Value) : CX n5 Bo W5 No' pre (W.setCell ⟨b, j, none⟩ u) := by
  obtain ⟨v, h⟩ := h
  refine ⟨v, h.sub, h.ks.trans (Ks.setCell _ _ _ (fun x => by have := x.1; simp at this; omega)), h.nb, h.lt, by simpa using h.le, (heap_setCell_other _ ⟨b, j, none⟩ _ _ (fun e => h.nb (by rw [show Bo = b from e]; exact hb))).trans h.box, ?_, h.nr, fun i hi => by simpa using h.nlt i hi⟩
  exact row_at' h.row fun g hg => heap_setCell_other _ ⟨b, j, none⟩ _ _ (fun e => h.nr g hg (by rw [show g = b from e]; exact hb))
theorem CV.put (h : CV n5 Bo W5 No' pre v W) {b : Nat} {r : Loop} (o' : Obj) (hl : W.heap[b]? = some (.loop r)) (hb : n5 ≤ b) : CV n5 Bo W5 No' pre v (W.putObj b o') := by
  have hne : ∀ g, v.ownBlock = some g → g ≠ b := fun g hg e => by
    rcases h.row.2 with ⟨rfl, _⟩ | ⟨g', cap, cur, rfl, _, h3, _⟩
    · cases hg
    · have : g' = g := by simpa [Value.ownBlock] using hg
      rw [this, e, hl] at h3
      cases h3
  have hlt := h.lt
  refine ⟨h.sub, ⟨h.ks.os, h.ks.tape, h.ks.output, by simpa using h.ks.size, fun k hk hn => (World.putObj_heap_other (by omega)).trans (h.ks.block k hk hn)⟩, h.nb, h.lt, by simpa using h.le, (World.putObj_heap_other (by omega)).trans h.box, row_at' h.row fun g hg => World.putObj_heap_other (hne g hg), h.nr, fun i hi => by simpa using h.nlt i hi⟩
/-- a part more -/
theorem CV.more (h : CV n5 Bo W5 No' pre v W) (hn : (pre.map pcB).length ≤ 65536) (x : Pc) :
    ∃ v2 D2, (Builtin.append_ #[28, 28] 28 #[v, .slice (some ⟨W.heap.size, 0, none⟩) 1 1]).run Try.prog (W.alloc (.cells #[.string (pcB x)] 9)) = .ok v2 D2 ∧
      (D2.cell? ⟨Bo, 0, none⟩).isSome = true ∧ D2.frozen? ⟨Bo, 0, none⟩ = false ∧ v2.oneCell' = true ∧ Ks No' W (D2.setCell ⟨Bo, 0, none⟩ v2) ∧ CV n5 Bo W5 No' (pre ++ [x]) v2 (D2.setCell ⟨Bo, 0, none⟩ v2) := by
  obtain ⟨v2, D2, r, o, g, q⟩ := join_str h.row h.le hn (pcB x)
  have hlt := h.lt
  have hle := h.le
  have hbo : v.ownBlock ≠ some Bo := fun e => by
    rcases h.row.2 with ⟨rfl, _⟩ | ⟨g', cap, cur, rfl, h2, h3, _⟩
    · cases e
    · have : g' = Bo := by simpa [Value.ownBlock] using e
      omega
  have hk1 : Ks No' W D2 := (Ks.of_below (below_one W _)).trans (Ks.of_grown g (fun j hj => h.nr j hj))
  have hb2 : D2.heap[Bo]? = some (.cells #[v] 28 (0, 0)) := by
    rw [g.block Bo (by simp; omega) (fun e => hbo e.symm), (below_one W _).block _ (by omega)]
    exact h.box
  have hsz := g.size
  have hsz2 : W.heap.size < D2.heap.size := by simp at hsz; omega
  have hk2 : Ks (fun i => i < n5 ∧ i ≠ Bo) W D2 := (Ks.of_below (below_one W _)).trans (Ks.of_grown g (fun j hj hx => by
    rcases h.row.2 with ⟨rfl, _⟩ | ⟨g', cap, cur, rfl, h2, h3, _⟩
    · cases hj
    · have : g' = j := by simpa [Value.ownBlock] using hj
      omega))
  obtain ⟨sp, sc, hv2⟩ := row_shape o
  refine ⟨v2, D2, r, by simp [World.cell?, hb2], by simp [World.frozen?, hb2], by rw [hv2]; rfl, hk1.trans (Ks.setCell _ _ _ h.nb), h.sub, (h.ks.trans hk2).trans (Ks.setCell _ _ _ (fun x => x.2 rfl)), h.nb, h.lt, by simp; omega, heap_setCell_same _ _ 0 _ _ _ hb2, ?_, fun j hj hx => ?_, fun i hi => by have := h.nlt i hi; simp; omega⟩
  · have e1 : ((pre ++ [x]).map pcB).length = (pre.map pcB).length + 1 := by simp
    have e2 : (pre ++ [x]).map pcB = pre.map pcB ++ [pcB x] := by simp
    rw [e1, e2]
    refine row_at' o fun j hj => heap_setCell_other _ ⟨Bo, 0, none⟩ _ _ (fun e => ?_)
    have e : j = Bo := e
    subst e
    rcases q with q | q
    · exact hbo (by rw [← q]; exact hj)
    · have := q j hj; omega
  · rcases q with q | q
    · exact h.nr j (by rw [← q]; exact hj) hx
    · have h1 := q j hj; have h2 := h.nlt j hx; omega
end
end Go.Proofs.Ytefenejeppmfiaa
