/- Package gather's Gather in memory: what stands where, and how it stays through calls and stores. No function in it but for the types' names. -/
import Derived.Test.YtekljiakofmhnaaGq1
namespace Go.Proofs.Ytekljiakofmhnaa
open Go.RowKit

/-- a conf -/
structure Cf where
  most : Nat
  byt : Nat
  prt : Nat
  tm : Nat
structure Cf.Ok (c : Cf) : Prop where
  m0 : 1 ≤ c.most
  m1 : c.most ≤ 256
  b0 : 1 ≤ c.byt
  b1 : c.byt ≤ 67108864
  p0 : 1 ≤ c.prt
  p1 : c.prt ≤ 256
  t0 : 1 ≤ c.tm
  t1 : c.tm ≤ 1099511627776
def heldE (L : List En) : Nat := (L.map (fun e => sumP e.a.ps)).sum
abbrev boxG (c : Cf) (b : Nat) (o : Value) (held last : Int) : Array Value := #[.int .i64 (c.most : Int), .int .i64 (c.byt : Int), .int .i64 (c.prt : Int), .int .i64 (c.tm : Int), .map (some b), o, .int .i64 held, .int .i64 last]
/-- those blocks stand -/
structure Ks (No : Nat → Prop) (a b : World) : Prop where
  os : b.os = a.os
  tape : b.tape = a.tape
  output : b.output = a.output
  size : a.heap.size ≤ b.heap.size
  block : ∀ k, k < a.heap.size → No k → b.heap[k]? = a.heap[k]?
theorem Ks.refl (No : Nat → Prop) (w : World) : Ks No w w := ⟨rfl, rfl, rfl, Nat.le_refl _, fun _ _ _ => rfl⟩
theorem Ks.trans {No : Nat → Prop} {a b c : World} (h : Ks No a b) (k : Ks No b c) : Ks No a c :=
  ⟨k.os.trans h.os, k.tape.trans h.tape, k.output.trans h.output, Nat.le_trans h.size k.size, fun i hi hn => (k.block i (Nat.lt_of_lt_of_le hi h.size) hn).trans (h.block i hi hn)⟩
theorem Ks.of_below {No : Nat → Prop} {w w' : World} (h : Below w.heap.size w w') : Ks No w w' := ⟨h.os, h.tape, h.output, h.size, fun k hk _ => h.block k hk⟩
theorem Ks.of_grown {No : Nat → Prop} {w w' : World} {r : Option Nat} (h : w.grownBy w' r) (hr : ∀ j, r = some j → ¬ No j) : Ks No w w' := ⟨h.os, h.tape, h.output, h.size, fun k hk hn => h.block k hk (fun e => hr k e.symm hn)⟩
theorem Ks.setCell {No : Nat → Prop} (w : World) (p j : Nat) (v : Value) (hp : ¬ No p) : Ks No w (w.setCell ⟨p, j, none⟩ v) :=
  ⟨rfl, rfl, rfl, by simp, fun k _ hn => heap_setCell_other w _ k _ (fun e => hp ((show k = p from e) ▸ hn))⟩
theorem Ks.mono {No No' : Nat → Prop} {a b : World} (h : Ks No a b) (hN : ∀ i, No' i → No i) : Ks No' a b := ⟨h.os, h.tape, h.output, h.size, fun i hi hn => h.block i hi (hN i hn)⟩
theorem Ks.below {No : Nat → Prop} {B : Nat} {w w' : World} (h : Ks No w w') (hB : B ≤ w.heap.size) (hN : ∀ k, k < B → No k) : Below B w w' := ⟨h.os, h.tape, h.output, h.size, fun k hk => h.block k (by omega) (hN k hk)⟩

/-- in memory: the box p, the map b of L, the row o of the keys ks -/
structure GX (No : Nat → Prop) (w : World) (p b : Nat) (c : Cf) (L : List En) (ks : List Pk) (o : Value) (held last : Int) : Prop where
  box : w.heap[p]? = some (.cells (boxG c b o held last) 52 (0, 0))
  map : MapIs w b L
  row : w.ownsRow 0 56 4 o ks.length (flatK ks)
  pv : ∀ e ∈ L, PV w e.v e.a.ps
  ap : ∀ e ∈ L, ∀ g, e.v.ownBlock = some g → g ≠ p ∧ g ≠ b ∧ o.ownBlock ≠ some g
  shp : ¬ No p
  shb : ¬ No b
  shr : ∀ g, o.ownBlock = some g → ¬ No g
  nlt : ∀ i, No i → i < w.heap.size
section
variable {No : Nat → Prop} {w w' w2 : World} {p b : Nat} {c : Cf} {L : List En} {ks : List Pk} {o : Value} {held last : Int}
theorem GX.plt (h : GX No w p b c L ks o held last) : p < w.heap.size := (Array.getElem?_eq_some_iff.1 h.box).1
theorem GX.blt (h : GX No w p b c L ks o held last) : b < w.heap.size := h.map.lt
theorem GX.ne (h : GX No w p b c L ks o held last) : p ≠ b := by
  intro e
  obtain ⟨D, ⟨es, clock, hb, _⟩, _⟩ := h.map
  have := h.box
  rw [e, hb] at this
  cases this
theorem GX.one (h : GX No w p b c L ks o held last) : o.ownBlock ≠ some p ∧ o.ownBlock ≠ some b := by
  rcases h.row.2 with ⟨e, _⟩ | ⟨g, cap, cur, e, _, h3, _⟩
  · rw [e]; exact ⟨by simp [Value.ownBlock], by simp [Value.ownBlock]⟩
  · rw [e]
    refine ⟨fun x => ?_, fun x => ?_⟩
    · simp only [Value.ownBlock, Option.some.injEq] at x
      subst x
      have := h.box
      rw [h3] at this
      injection this with this
      injection this with _ this
      exact absurd this (by decide)
    · simp only [Value.ownBlock, Option.some.injEq] at x
      subst x
      obtain ⟨D, ⟨es, clock, hb, _⟩, _⟩ := h.map
      rw [hb] at h3
      cases h3
theorem GX.olt (h : GX No w p b c L ks o held last) : ∀ g, o.ownBlock = some g → g < w.heap.size := fun g hg => (h.row.lt g hg).2
theorem GX.cell (h : GX No w p b c L ks o held last) {j : Nat} {v : Value} (hj : (boxG c b o held last)[j]? = some v) : w.cell? ⟨p, j, none⟩ = some v := by
  rw [cell_of_row _ _ j _ _ _ h.box]; exact hj
theorem GX.fz (h : GX No w p b c L ks o held last) (j : Nat) : w.frozen? ⟨p, j, none⟩ = false := by simp [World.frozen?, h.box]
theorem row_at {base e size n : Nat} {v : Value} {xs : List Value} (h : w.ownsRow base e size v n xs) (k : ∀ g, v.ownBlock = some g → w'.heap[g]? = w.heap[g]?) : w'.ownsRow base e size v n xs := by
  refine ⟨h.1, ?_⟩
  rcases h.2 with h2 | ⟨g, cap, cur, rfl, h1, h3, h4⟩
  · exact .inl h2
  · exact .inr ⟨g, cap, cur, rfl, h1, (k g rfl).trans h3, h4⟩
theorem PV.at {v : Value} {l : List Pt} (h : PV w v l) (hz : w.heap.size ≤ w'.heap.size) (k : ∀ g, v.ownBlock = some g → w'.heap[g]? = w.heap[g]?) : PV w' v l := by
  rcases h with h | ⟨g, c, rfl, h1, h2, h3, h4⟩
  · exact .inl h
  · have e : ∀ j, w'.cell? ⟨g, j, none⟩ = w.cell? ⟨g, j, none⟩ := fun j => by simp only [World.cell?, k g rfl]
    exact .inr ⟨g, c, rfl, h1, h2, Nat.lt_of_lt_of_le h3 hz, fun j p hj => by obtain ⟨a, b, d⟩ := h4 j p hj; exact ⟨(e _).trans a, (e _).trans b, (e _).trans d⟩⟩
theorem PV.blt {v : Value} {l : List Pt} (h : PV w v l) : ∀ g, v.ownBlock = some g → g < w.heap.size := by
  rcases h with ⟨rfl, _⟩ | ⟨g, c, rfl, h1, h2, h3, h4⟩
  · intro g hg; simp [Value.ownBlock] at hg
  · intro g' hg; simp only [Value.ownBlock, Option.some.injEq] at hg; subst hg; exact h3
theorem GX.at (h : GX No w p b c L ks o held last) (hz : w.heap.size ≤ w'.heap.size) (hp : w'.heap[p]? = w.heap[p]?) (hb : w'.heap[b]? = w.heap[b]?) (hr : ∀ g, o.ownBlock = some g → w'.heap[g]? = w.heap[g]?)
    (hv : ∀ e ∈ L, ∀ g, e.v.ownBlock = some g → w'.heap[g]? = w.heap[g]?) : GX No w' p b c L ks o held last :=
  ⟨hp.trans h.box, h.map.at hb, row_at h.row hr, fun e he => (h.pv e he).at hz (hv e he), h.ap, h.shp, h.shb, h.shr, fun i hi => Nat.lt_of_lt_of_le (h.nlt i hi) hz⟩
theorem GX.below (h : GX No w p b c L ks o held last) (k : Below w.heap.size w w') : GX No w' p b c L ks o held last :=
  h.at k.size (k.block _ h.plt) (k.block _ h.blt) (fun g hg => k.block g (h.olt g hg)) (fun e he g hg => k.block g ((h.pv e he).blt g hg))
theorem GX.no (h : GX No w p b c L ks o held last) (k : Below w.heap.size w w') {No' : Nat → Prop} (hN : ∀ i, No' i → i < w'.heap.size ∧ (No i ∨ w.heap.size ≤ i)) : GX No' w' p b c L ks o held last := by
  have h' := h.below k
  refine ⟨h'.box, h'.map, h'.row, h'.pv, h'.ap, fun x => ?_, fun x => ?_, fun g hg x => ?_, fun i hi => (hN i hi).1⟩
  · rcases (hN p x).2 with y | y
    · exact h.shp y
    · have := h.plt; omega
  · rcases (hN b x).2 with y | y
    · exact h.shb y
    · have := h.blt; omega
  · rcases (hN g x).2 with y | y
    · exact h.shr g hg y
    · have := h.olt g hg; omega
/-- a field of the box is written -/
theorem GX.put (h : GX No w p b c L ks o held last) {j : Nat} {v : Value} {o' : Value} {held' last' : Int} (e : (boxG c b o held last).setIfInBounds j v = boxG c b o' held' last') (ho : o' = o) :
    GX No (w.setCell ⟨p, j, none⟩ v) p b c L ks o held' last' := by
  subst ho
  have hne : ∀ k, k ≠ p → (w.setCell ⟨p, j, none⟩ v).heap[k]? = w.heap[k]? := fun k hk => heap_setCell_other w _ k _ hk
  refine ⟨by rw [heap_setCell_same w p j _ _ _ h.box, e], h.map.at (hne b h.ne.symm), row_at h.row (fun g hg => hne g (fun x => h.one.1 (x ▸ hg))), fun x hx => (h.pv x hx).at (by simp) (fun g hg => hne g (h.ap x hx g hg).1), h.ap, h.shp, h.shb, h.shr, fun i hi => by simpa using h.nlt i hi⟩
theorem GX.setLast (h : GX No w p b c L ks o held last) (t : Int) : GX No (w.setCell ⟨p, 7, none⟩ (.int .i64 t)) p b c L ks o held t := h.put rfl rfl
theorem GX.setHeld (h : GX No w p b c L ks o held last) (t : Int) : GX No (w.setCell ⟨p, 6, none⟩ (.int .i64 t)) p b c L ks o t last := h.put rfl rfl
/-- another row of keys, and it is stored -/
theorem GX.order (h : GX No w p b c L ks o held last) {o' : Value} {ks' : List Pk} (hg : w.grownBy w2 o.ownBlock) (hown : w2.ownsRow 0 56 4 o' ks'.length (flatK ks'))
    (hob : o'.ownBlock = o.ownBlock ∨ ∀ g, o'.ownBlock = some g → w.heap.size ≤ g) :
    GX No (w2.setCell ⟨p, 5, none⟩ o') p b c L ks' o' held last ∧ Ks No w (w2.setCell ⟨p, 5, none⟩ o') := by
  have hne : ∀ k, k ≠ p → (w2.setCell ⟨p, 5, none⟩ o').heap[k]? = w2.heap[k]? := fun k hk => heap_setCell_other w2 _ k _ hk
  have hbox : w2.heap[p]? = some (.cells (boxG c b o held last) 52 (0, 0)) := (hg.block p h.plt (fun e => h.one.1 e.symm)).trans h.box
  have hfresh : ∀ g, o'.ownBlock = some g → ∀ i, i < w.heap.size → o.ownBlock ≠ some i → g ≠ i := fun g h1 i hi h2 e => by
    subst e
    rcases hob with h3 | h3
    · exact h2 (h3 ▸ h1)
    · have := h3 g h1; omega
  refine ⟨⟨by rw [heap_setCell_same w2 p 5 _ _ _ hbox]; rfl, ?_, ?_, ?_, ?_, h.shp, h.shb, ?_, ?_⟩, ?_⟩
  · exact h.map.at ((hne b h.ne.symm).trans (hg.block b h.blt (fun e => h.one.2 e.symm)))
  · exact row_at hown (fun g hg' => hne g (hfresh g hg' p h.plt h.one.1))
  · intro x hx
    exact (h.pv x hx).at (by simpa using hg.size) (fun g hg' => (hne g (h.ap x hx g hg').1).trans (hg.block g ((h.pv x hx).blt g hg') (fun e => (h.ap x hx g hg').2.2 e.symm)))
  · intro x hx g hg'
    refine ⟨(h.ap x hx g hg').1, (h.ap x hx g hg').2.1, fun e => hfresh g e g ((h.pv x hx).blt g hg') (h.ap x hx g hg').2.2 rfl⟩
  · intro g h1 hn
    rcases hob with h3 | h3
    · exact h.shr g (h3 ▸ h1) hn
    · have := h3 g h1; have := h.nlt g hn; omega
  · intro i hi; have := h.nlt i hi; have := hg.size; simp; omega
  · exact (Ks.of_grown hg (fun j hj => h.shr j hj)).trans (Ks.setCell w2 p 5 o' h.shp)
/-- the map is written -/
theorem GX.mapped (h : GX No w p b c L ks o held last) {L' : List En} (hg : w.grownBy w2 (some b)) (hm : MapIs w2 b L') (hv : ∀ e ∈ L', PV w e.v e.a.ps ∧ ∀ g, e.v.ownBlock = some g → g ≠ p ∧ g ≠ b ∧ o.ownBlock ≠ some g) :
    GX No w2 p b c L' ks o held last ∧ Ks No w w2 := by
  have hne : ∀ k, k < w.heap.size → k ≠ b → w2.heap[k]? = w.heap[k]? := fun k hk hn => hg.block k hk (fun e => hn (Option.some.inj e).symm.symm)
  refine ⟨⟨(hne p h.plt h.ne).trans h.box, hm, row_at h.row (fun g hg' => hne g (h.olt g hg') (fun x => h.one.2 (x ▸ hg'))), fun e he => (hv e he).1.at hg.size (fun g hg' => hne g ((hv e he).1.blt g hg') ((hv e he).2 g hg').2.1), fun e he => (hv e he).2, h.shp, h.shb, h.shr, fun i hi => Nat.lt_of_lt_of_le (h.nlt i hi) hg.size⟩, ?_⟩
  exact Ks.of_grown hg (fun j hj => by cases hj; exact h.shb)
end

end Go.Proofs.Ytekljiakofmhnaa
