/- The contract of package gather's Tick, over the loaded program. Conditions: numbers in their bounds. -/
import Derived.Test.YtekljiakofmhnaaGv2
import Derived.Lib.AppendZerosOnto
namespace Go.Proofs.Ytekljiakofmhnaa
open Go.RowKit Go.Shelf

/-- how long its row of keys is -/
def ordLen (w : World) (p : Nat) : Nat := match w.cell? ⟨p, 5, none⟩ with
  | some (.slice _ n _) => n
  | _ => 0
/-- under way: the first n are let go -/
structure TkI (No : Nat → Prop) (w wr : World) (p b : Nat) (c : Cf) (L : List En) (t : Int) (v : Value) (n : Nat) : Prop where
  le : n ≤ L.length
  gx : ∃ o, GX (fun i => No i ∨ v.ownBlock = some i) wr p b c (L.drop n) ((L.drop n).map (·.k)) o (heldE (L.drop n) : Nat) t
  row : wr.ownsRow w.heap.size 34 10 v (headsE (L.take n)).length (flatH (headsE (L.take n)))
  ov : ∀ j x, j < n → L[j]? = some x → x.a.ov ≤ t
  ks : Ks No w wr
theorem TkI.on {No : Nat → Prop} {w wr wy : World} {p b : Nat} {c : Cf} {L : List En} {t : Int} {v : Value} {n : Nat} (h : TkI No w wr p b c L t v n) (k : Below wr.heap.size wr wy) : TkI No w wy p b c L t v n := by
  obtain ⟨o, g⟩ := h.gx
  exact ⟨h.le, ⟨o, g.below k⟩, row_at h.row (fun g' hg => k.block g' (h.row.lt g' hg).2), h.ov, h.ks.trans (Ks.of_below k)⟩
/-- the row of heads grows: the Gather stands -/
theorem GX.heads {No : Nat → Prop} {wr w2 : World} {p b : Nat} {c : Cf} {L : List En} {ks : List Pk} {o : Value} {held last : Int} {v v2 : Value} (h : GX (fun i => No i ∨ v.ownBlock = some i) wr p b c L ks o held last)
    (hg : wr.grownBy w2 v.ownBlock) (hv : ∀ e ∈ L, ∀ g, e.v.ownBlock = some g → v.ownBlock ≠ some g) (h2 : v2.ownBlock = v.ownBlock ∨ ∀ g, v2.ownBlock = some g → wr.heap.size ≤ g ∧ g < w2.heap.size) :
    GX (fun i => No i ∨ v2.ownBlock = some i) w2 p b c L ks o held last := by
  have st : ∀ k, k < wr.heap.size → v.ownBlock ≠ some k → w2.heap[k]? = wr.heap[k]? := fun k hk hn => hg.block k hk (fun e => hn e.symm)
  have h' := h.at hg.size (st p h.plt (fun e => h.shp (.inr e))) (st b h.blt (fun e => h.shb (.inr e))) (fun g hg' => st g (h.olt g hg') (fun e => h.shr g hg' (.inr e))) (fun e he g hg' => st g ((h.pv e he).blt g hg') (hv e he g hg'))
  refine ⟨h'.box, h'.map, h'.row, h'.pv, h'.ap, ?_, ?_, ?_, ?_⟩
  · rintro (x | x)
    · exact h.shp (.inl x)
    · rcases h2 with h2 | h2
      · exact h.shp (.inr (h2 ▸ x))
      · have := (h2 p x).1; have := h.plt; omega
  · rintro (x | x)
    · exact h.shb (.inl x)
    · rcases h2 with h2 | h2
      · exact h.shb (.inr (h2 ▸ x))
      · have := (h2 b x).1; have := h.blt; omega
  · rintro g hg' (x | x)
    · exact h.shr g hg' (.inl x)
    · rcases h2 with h2 | h2
      · exact h.shr g hg' (.inr (h2 ▸ x))
      · have := (h2 g x).1; have := h.olt g hg'; omega
  · rintro i (x | x)
    · have := h.nlt i (.inl x); have := hg.size; omega
    · rcases h2 with h2 | h2
      · have := h.nlt i (.inr (h2 ▸ x)); have := hg.size; omega
      · exact (h2 i x).2

end Go.Proofs.Ytekljiakofmhnaa
