/- The contract of package gather's take, its first part: which packet a head is of, and what part it brings, in boxes of their own; over the loaded program. -/
import Derived.Test.YtekljiakofmhnaaGq6
import Derived.Test.YtekljiakofmhnaaGn9
import Derived.Test.YtekljiakofmhnaaRx
import Derived.Deep.Cut
import Derived.Deep.CutRange
namespace Go.Proofs.Ytekljiakofmhnaa
open Go.RowKit

/-- under way in take's first region: where the boxes lie, and what they hold -/
structure TW (w0 : World) (k : Pk) (pt : Pt) (p : Nat × Nat) (l : Array Bool) (w : World) : Prop where
  bel : Below w0.heap.size w0 w
  b8 : l.getD 8 false = true → w0.heap.size ≤ p.1 ∧ w.heap[p.1]? = some (.cells (if l.getD 10 false = true then #[.int .u32 (k.frm : Int), .int .u32 (k.dst : Int), .int .u8 (k.pr : Int), .int .u16 (k.idn : Int)] else #[.int .u32 0, .int .u32 0, .int .u8 0, .int .u16 0]) 56 (0, 0))
  b9 : l.getD 9 false = true → w0.heap.size ≤ p.2 ∧ w.heap[p.2]? = some (.cells (if l.getD 11 false = true then #[.int .i64 pt.pa, .string pt.pd, .bool pt.pm] else #[.int .i64 0, .string ⟨#[]⟩, .bool false]) 70 (0, 0))
  d10 : l.getD 10 false = true → l.getD 8 false = true
  d11 : l.getD 11 false = true → l.getD 9 false = true
section
variable {w0 w w' : World} {k : Pk} {pt : Pt} {p : Nat × Nat} {l : Array Bool}
theorem TW.start (w0 : World) (k : Pk) (pt : Pt) (n : Nat) : TW w0 k pt (0, 0) (Array.replicate n false) { w0 with drawn := w0.drawn + 1 } :=
  ⟨⟨rfl, rfl, rfl, Nat.le_refl _, fun _ _ => rfl⟩, fun h => (by rw [getD_rep] at h; cases h), fun h => (by rw [getD_rep] at h; cases h), fun h => (by rw [getD_rep] at h; cases h), fun h => (by rw [getD_rep] at h; cases h)⟩
theorem TW.on (h : TW w0 k pt p l w) (b : Below w.heap.size w w') : TW w0 k pt p l w' :=
  ⟨tr2 h.bel b, fun e => ⟨(h.b8 e).1, (b.block _ (heap_lt (h.b8 e).2)).trans (h.b8 e).2⟩, fun e => ⟨(h.b9 e).1, (b.block _ (heap_lt (h.b9 e).2)).trans (h.b9 e).2⟩, h.d10, h.d11⟩
theorem TW.same (h : TW w0 k pt p l w) {i : Nat} (h8 : i ≠ 8) (h9 : i ≠ 9) (h10 : i ≠ 10) (h11 : i ≠ 11) : TW w0 k pt p (l.setIfInBounds i true) w := by
  refine ⟨h.bel, fun e => ?_, fun e => ?_, fun e => by rw [getD_upd h10] at e; rw [getD_upd h8]; exact h.d10 e, fun e => by rw [getD_upd h11] at e; rw [getD_upd h9]; exact h.d11 e⟩
  · rw [getD_upd h8] at e; rw [getD_upd h10]; exact h.b8 e
  · rw [getD_upd h9] at e; rw [getD_upd h11]; exact h.b9 e
theorem getD_nt {i : Nat} (hu : l.getD i true = false) : l.getD i false = false := by
  simp only [Array.getD_eq_getD_getElem?] at *
  cases h : l[i]? with
  | none => rfl
  | some b => rw [h] at hu; simpa using hu
theorem getD_st {i : Nat} (hu : l.getD i true = false) : (l.setIfInBounds i true).getD i false = true := by
  simp only [Array.getD_eq_getD_getElem?, Array.getElem?_setIfInBounds] at *
  have : i < l.size := by
    apply Classical.byContradiction
    intro hn
    rw [Array.getElem?_eq_none (by omega)] at hu
    cases hu
  simp [this]
/-- the keys' box is made -/
theorem TW.make8 (h : TW w0 k pt p l w) (hu : l.getD 8 true = false) : TW w0 k pt (w.heap.size, p.2) (l.setIfInBounds 8 true) (w.alloc (.cells #[.int .u32 0, .int .u32 0, .int .u8 0, .int .u16 0] 56)) := by
  have h' := h.on (below_one w (.cells #[.int .u32 0, .int .u32 0, .int .u8 0, .int .u16 0] 56))
  have hn : l.getD 10 false = false := by
    cases e : l.getD 10 false with
    | false => rfl
    | true => have := h.d10 e; rw [getD_nt hu] at this; cases this
  refine ⟨h'.bel, fun _ => ⟨h.bel.size, ?_⟩, fun e => ?_, fun e => (by rw [getD_upd (by decide), hn] at e; cases e), fun e => by rw [getD_upd (by decide)] at e; rw [getD_upd (by decide)]; exact h.d11 e⟩
  · rw [getD_upd (by decide), hn]; exact heap_alloc_new w _
  · rw [getD_upd (by decide)] at e; rw [getD_upd (by decide)]; exact h'.b9 e
theorem TW.make9 (h : TW w0 k pt p l w) (hu : l.getD 9 true = false) : TW w0 k pt (p.1, w.heap.size) (l.setIfInBounds 9 true) (w.alloc (.cells #[.int .i64 0, .string ⟨#[]⟩, .bool false] 70)) := by
  have h' := h.on (below_one w (.cells #[.int .i64 0, .string ⟨#[]⟩, .bool false] 70))
  have hn : l.getD 11 false = false := by
    cases e : l.getD 11 false with
    | false => rfl
    | true => have := h.d11 e; rw [getD_nt hu] at this; cases this
  refine ⟨h'.bel, fun e => ?_, fun _ => ⟨h.bel.size, ?_⟩, fun e => by rw [getD_upd (by decide)] at e; rw [getD_upd (by decide)]; exact h.d10 e, fun e => (by rw [getD_upd (by decide), hn] at e; cases e)⟩
  · rw [getD_upd (by decide)] at e; rw [getD_upd (by decide)]; exact h'.b8 e
  · rw [getD_upd (by decide), hn]; exact heap_alloc_new w _
theorem TW.apart (h : TW w0 k pt p l w) (e8 : l.getD 8 false = true) (e9 : l.getD 9 false = true) : p.1 ≠ p.2 := by
  intro e
  have h1 := (h.b8 e8).2
  rw [e, (h.b9 e9).2] at h1
  injection h1 with h1
  injection h1 with _ h1
  exact absurd h1 (by decide)
theorem TW.put10 (h : TW w0 k pt p l w) (hu : l.getD 10 true = false) (e8 : l.getD 8 false = true) :
    TW w0 k pt p (l.setIfInBounds 10 true) ((((w.setCell ⟨p.1, 0, none⟩ (.int .u32 (k.frm : Int))).setCell ⟨p.1, 1, none⟩ (.int .u32 (k.dst : Int))).setCell ⟨p.1, 2, none⟩ (.int .u8 (k.pr : Int))).setCell ⟨p.1, 3, none⟩ (.int .u16 (k.idn : Int))) := by
  obtain ⟨a, q⟩ := h.b8 e8
  have q0 : w.heap[p.1]? = some (.cells #[.int .u32 0, .int .u32 0, .int .u8 0, .int .u16 0] 56 (0, 0)) := by
    rw [getD_nt hu] at q; exact q
  refine ⟨(((h.bel.setCell (p := ⟨p.1, 0, none⟩) a _).setCell (p := ⟨p.1, 1, none⟩) a _).setCell (p := ⟨p.1, 2, none⟩) a _).setCell (p := ⟨p.1, 3, none⟩) a _, fun _ => ⟨a, ?_⟩, fun e => ?_, fun _ => by rw [getD_upd (by decide)]; exact e8, fun e => by rw [getD_upd (by decide)] at e; rw [getD_upd (by decide)]; exact h.d11 e⟩
  · rw [getD_st hu, if_pos rfl, heap_setCell_same _ p.1 3 _ _ _ (heap_setCell_same _ p.1 2 _ _ _ (heap_setCell_same _ p.1 1 _ _ _ (heap_setCell_same _ p.1 0 _ _ _ q0)))]
    simp
  · rw [getD_upd (by decide)] at e
    rw [getD_upd (by decide)]
    have hne : p.2 ≠ p.1 := fun x => h.apart e8 e x.symm
    refine ⟨(h.b9 e).1, ?_⟩
    rw [heap_setCell_other _ ⟨p.1, 3, none⟩ _ _ hne, heap_setCell_other _ ⟨p.1, 2, none⟩ _ _ hne, heap_setCell_other _ ⟨p.1, 1, none⟩ _ _ hne, heap_setCell_other _ ⟨p.1, 0, none⟩ _ _ hne]
    exact (h.b9 e).2
theorem TW.put11 (h : TW w0 k pt p l w) (hu : l.getD 11 true = false) (e9 : l.getD 9 false = true) :
    TW w0 k pt p (l.setIfInBounds 11 true) (((w.setCell ⟨p.2, 0, none⟩ (.int .i64 pt.pa)).setCell ⟨p.2, 1, none⟩ (.string pt.pd)).setCell ⟨p.2, 2, none⟩ (.bool pt.pm)) := by
  obtain ⟨a, q⟩ := h.b9 e9
  have q0 : w.heap[p.2]? = some (.cells #[.int .i64 0, .string ⟨#[]⟩, .bool false] 70 (0, 0)) := by
    rw [getD_nt hu] at q; exact q
  refine ⟨((h.bel.setCell (p := ⟨p.2, 0, none⟩) a _).setCell (p := ⟨p.2, 1, none⟩) a _).setCell (p := ⟨p.2, 2, none⟩) a _, fun e => ?_, fun _ => ⟨a, ?_⟩, fun e => by rw [getD_upd (by decide)] at e; rw [getD_upd (by decide)]; exact h.d10 e, fun _ => by rw [getD_upd (by decide)]; exact e9⟩
  · rw [getD_upd (by decide)] at e
    rw [getD_upd (by decide)]
    have hne : p.1 ≠ p.2 := h.apart e e9
    refine ⟨(h.b8 e).1, ?_⟩
    rw [heap_setCell_other _ ⟨p.2, 2, none⟩ _ _ hne, heap_setCell_other _ ⟨p.2, 1, none⟩ _ _ hne, heap_setCell_other _ ⟨p.2, 0, none⟩ _ _ hne]
    exact (h.b8 e).2
  · rw [getD_st hu, if_pos rfl, heap_setCell_same _ p.2 2 _ _ _ (heap_setCell_same _ p.2 1 _ _ _ (heap_setCell_same _ p.2 0 _ _ _ q0))]
    simp
end

/-- what take knows behind its first region -/
structure TF (w wx : World) (h : Rh) (pt : Pt) (i j : Nat) : Prop where
  bel : Below w.heap.size w wx
  hb : HC wx w.heap.size h
  hr : wx.heap[w.heap.size + 1]? = some (.cells ga0C 59 (0, 0))
  i0 : w.heap.size + 1 < i
  j0 : w.heap.size + 1 < j
  hk : wx.heap[i]? = some (.cells #[.int .u32 (h.frm : Int), .int .u32 (h.to : Int), .int .u8 (h.proto : Int), .int .u16 (h.id : Int)] 56 (0, 0))
  hp : wx.heap[j]? = some (.cells #[.int .i64 pt.pa, .string pt.pd, .bool pt.pm] 70 (0, 0))
theorem TF.on {w wx wy : World} {h : Rh} {pt : Pt} {i j : Nat} (k : TF w wx h pt i j) (b : Below wx.heap.size wx wy) : TF w wy h pt i j :=
  ⟨tr2 k.bel b, k.hb.on b, (b.block _ (heap_lt k.hr)).trans k.hr, k.i0, k.j0, (b.block _ (heap_lt k.hk)).trans k.hk, (b.block _ (heap_lt k.hp)).trans k.hp⟩

/-- what there is of a packet -/
def xOf (L : List En) (k : Pk) : Ga := match lookE k L with | some e => e.a | none => ⟨rh0, [], 0, false⟩
def vOf (L : List En) (k : Pk) : Value := match lookE k L with | some e => e.v | none => .slice none 0 0
def thereB (L : List En) (k : Pk) : Bool := (lookE k L).isSome
inductive TK where
  | no (e : Int)
  | spoil
  | ok (y : Ga) (last : Int)
/-- what take does -/
def takeS (c : Cf) (L : List En) (last : Int) (h : Rh) (pt : Pt) (now : Int) : TK :=
  if thereB L (pkOf h) = false ∧ c.most ≤ L.length then .no 6
  else if (xOf L (pkOf h)).sp = true then .no 3
  else if (xOf L (pkOf h)).ps.any (samePt pt) = true then .no 7
  else if ((xOf L (pkOf h)).ps.any (clashB pt) || longG (withG (xOf L (pkOf h)) h pt)) = true then .spoil
  else if c.prt ≤ (xOf L (pkOf h)).ps.length ∨ c.byt < heldE L + pt.pd.size then .no 6
  else .ok ⟨(withG (xOf L (pkOf h)) h pt).hd, insP pt (xOf L (pkOf h)).ps, if thereB L (pkOf h) = true then (xOf L (pkOf h)).ov else cntT last now + (c.tm : Int), (xOf L (pkOf h)).sp⟩ (cntT last now)
theorem GC.mk' {w : World} {b : Nat} {x : Ga} {v : Value} {t : TypeId} (h : w.heap[b]? = some (.cells (gaC x v) t (0, 0))) : GC w b x v :=
  ⟨cell_of_row _ _ 0 _ _ _ h, cell_of_row _ _ 1 _ _ _ h, cell_of_row _ _ 2 _ _ _ h, cell_of_row _ _ 3 _ _ _ h, cell_of_row _ _ 4 _ _ _ h, cell_of_row _ _ 5 _ _ _ h, cell_of_row _ _ 6 _ _ _ h, cell_of_row _ _ 7 _ _ _ h, cell_of_row _ _ 8 _ _ _ h, cell_of_row _ _ 9 _ _ _ h, cell_of_row _ _ 10 _ _ _ h, cell_of_row _ _ 11 _ _ _ h, cell_of_row _ _ 12 _ _ _ h⟩
/-- behind take's second region -/
structure TG (No : Nat → Prop) (w wx : World) (h : Rh) (pt : Pt) (i j q p b : Nat) (c : Cf) (L : List En) (o : Value) (last : Int) : Prop where
  tf : TF w wx h pt i j
  gx : GX No wx p b c L (L.map (·.k)) o (heldE L : Nat) last
  q0 : w.heap.size + 1 < q
  hq : wx.heap[q]? = some (.cells (gaC (xOf L (pkOf h)) (vOf L (pkOf h))) 59 (0, 0))
  pv : PV wx (vOf L (pkOf h)) (xOf L (pkOf h)).ps
theorem TG.on {No : Nat → Prop} {w wx wy : World} {h : Rh} {pt : Pt} {i j q p b : Nat} {c : Cf} {L : List En} {o : Value} {last : Int} (k : TG No w wx h pt i j q p b c L o last) (bl : Below wx.heap.size wx wy) : TG No w wy h pt i j q p b c L o last :=
  ⟨k.tf.on bl, k.gx.below bl, k.q0, (bl.block _ (heap_lt k.hq)).trans k.hq, k.pv.on bl⟩
theorem GX.other {No : Nat → Prop} {w : World} {p b : Nat} {c : Cf} {L : List En} {ks : List Pk} {o : Value} {held last : Int} (h : GX No w p b c L ks o held last) {B j : Nat} {u : Value} (h1 : p ≠ B) (h2 : b ≠ B) (h3 : o.ownBlock ≠ some B) (h4 : ∀ e ∈ L, e.v.ownBlock ≠ some B) :
    GX No (w.setCell ⟨B, j, none⟩ u) p b c L ks o held last :=
  have hne : ∀ k, k ≠ B → (w.setCell ⟨B, j, none⟩ u).heap[k]? = w.heap[k]? := fun k hk => heap_setCell_other w _ k _ hk
  h.at (by simp) (hne p h1) (hne b h2) (fun g hg => hne g (fun e => h3 (e ▸ hg))) (fun x hx g hg => hne g (fun e => h4 x hx (e ▸ hg)))
theorem GX.put13 {No : Nat → Prop} {w : World} {p b : Nat} {c : Cf} {L : List En} {ks : List Pk} {o : Value} {held last : Int} (h : GX No w p b c L ks o held last) {B : Nat} (x : Ga) (v : Value) (h1 : p ≠ B) (h2 : b ≠ B) (h3 : o.ownBlock ≠ some B) (h4 : ∀ e ∈ L, e.v.ownBlock ≠ some B) (h5 : ¬ No B) :
    GX No (put13 w B x v) p b c L ks o held last ∧ Ks No w (put13 w B x v) := by
  refine ⟨?_, ?_⟩
  · iterate 13 refine GX.other ?_ h1 h2 h3 h4
    exact h
  · refine Ks.trans ?_ (Ks.setCell _ B 12 _ h5)
    refine Ks.trans ?_ (Ks.setCell _ B 11 _ h5)
    refine Ks.trans ?_ (Ks.setCell _ B 10 _ h5)
    refine Ks.trans ?_ (Ks.setCell _ B 9 _ h5)
    refine Ks.trans ?_ (Ks.setCell _ B 8 _ h5)
    refine Ks.trans ?_ (Ks.setCell _ B 7 _ h5)
    refine Ks.trans ?_ (Ks.setCell _ B 6 _ h5)
    refine Ks.trans ?_ (Ks.setCell _ B 5 _ h5)
    refine Ks.trans ?_ (Ks.setCell _ B 4 _ h5)
    refine Ks.trans ?_ (Ks.setCell _ B 3 _ h5)
    refine Ks.trans ?_ (Ks.setCell _ B 2 _ h5)
    refine Ks.trans ?_ (Ks.setCell _ B 1 _ h5)
    exact Ks.setCell _ B 0 _ h5
theorem GX.mono {No No' : Nat → Prop} {w : World} {p b : Nat} {c : Cf} {L : List En} {ks : List Pk} {o : Value} {held last : Int} (h : GX No' w p b c L ks o held last) (hN : ∀ i, No i → No' i) : GX No w p b c L ks o held last :=
  ⟨h.box, h.map, h.row, h.pv, h.ap, fun x => h.shp (hN _ x), fun x => h.shb (hN _ x), fun g hg x => h.shr g hg (hN _ x), fun i hi => h.nlt i (hN i hi)⟩
theorem spoil_there {L : List En} {k : Pk} {h : Rh} {pt : Pt} (hn : lookE k L = none) (ha : pt.pa = h.at') (hm : pt.pm = h.more) (hnw : ¬ (h.at' = 0 ∧ h.more = false)) : ((xOf L k).ps.any (clashB pt) || longG (withG (xOf L k) h pt)) = false := by
  have e : xOf L k = ⟨rh0, [], 0, false⟩ := by unfold xOf; rw [hn]
  rw [e]
  unfold longG withG
  simp only [insP, wholeF, List.any_nil, Bool.false_or]
  by_cases h0 : pt.pa = 0
  · rw [if_pos h0]
    have : pt.pm = true := by
      cases hc : pt.pm with
      | true => rfl
      | false => exact absurd ⟨ha ▸ h0, hm ▸ hc⟩ hnw
    simp [this]
  · rw [if_neg h0]
    rfl
/-- an append in a region that draws, where its run is known -/
theorem step_append_runI {P : Program} {ops : Array Oper} {o : Oper} {a : Act} {w : World} {K : Act → World → Prop} {Q : Exit → Act → World → Prop} {E : Prop}
    (hg : o.guard = none) (d x : Operand) (dT sT : TypeId) (hop : o.op = Op.call { callee := Callee.builtin Builtin.append, args := #[d, x], argTypes := #[dT, sT] })
    (v u : Value) (hd : a.eval d = v) (hx : a.eval x = u) {v' : Value} {w' : World} (hr : (Builtin.append_ #[dT, sT] o.type #[v, u]).run P w = .ok v' w') (hK : K (a.put o.dst v') w') :
    if Region.wanted o (yielded ops a.tmps) = true then Oper.wp P o a w K Q else E := by
  have hw : Region.wanted o (yielded ops a.tmps) = true := by simp [Region.wanted, hg]
  rw [if_pos hw]
  unfold Oper.wp
  simp [execOp, hop, resolve, invoke, builtin, hd, hx, hr, Result.andThen]
  exact hK
/-- take's own boxes, while the Gather is written -/
structure TY (wx : World) (k : Pk) (i B y : Nat) (Y : Ga) (v : Value) : Prop where
  hr : wx.heap[B]? = some (.cells ga0C 59 (0, 0))
  kb : KB wx i k
  hy : wx.heap[y]? = some (.cells (gaC Y v) 59 (0, 0))
  pv : PV wx v Y.ps
theorem TY.at {wx wy : World} {k : Pk} {i B y : Nat} {Y : Ga} {v : Value} (h : TY wx k i B y Y v) (hz : wx.heap.size ≤ wy.heap.size) (hB : wy.heap[B]? = wx.heap[B]?) (hi : wy.heap[i]? = wx.heap[i]?) (hy : wy.heap[y]? = wx.heap[y]?) (hv : ∀ g, v.ownBlock = some g → wy.heap[g]? = wx.heap[g]?) : TY wy k i B y Y v :=
  have e : ∀ j, wy.cell? ⟨i, j, none⟩ = wx.cell? ⟨i, j, none⟩ := fun j => by simp only [World.cell?, hi]
  ⟨hB.trans h.hr, ⟨(e 0).trans h.kb.c0, (e 1).trans h.kb.c1, (e 2).trans h.kb.c2, (e 3).trans h.kb.c3⟩, hy.trans h.hy, h.pv.at hz hv⟩
theorem TY.below {wx wy : World} {k : Pk} {i B y : Nat} {Y : Ga} {v : Value} (h : TY wx k i B y Y v) (b : Below wx.heap.size wx wy) : TY wy k i B y Y v :=
  h.at b.size (b.block _ (heap_lt h.hr)) (b.block _ h.kb.lt) (b.block _ (heap_lt h.hy)) (fun g hg => b.block _ (h.pv.blt g hg))
/-- what is written lies below those -/
theorem TY.gb {wx wy : World} {k : Pk} {i B y : Nat} {Y : Ga} {v : Value} (h : TY wx k i B y Y v) {r : Option Nat} (hg : wx.grownBy wy r) (S : Nat) (hr : ∀ g, r = some g → g < S ∨ wx.heap.size ≤ g) (h1 : S ≤ B) (h2 : S ≤ i) (h3 : S ≤ y) (h4 : ∀ g, v.ownBlock = some g → S ≤ g) : TY wy k i B y Y v := by
  have ne : ∀ x, S ≤ x → x < wx.heap.size → wy.heap[x]? = wx.heap[x]? := fun x h1 h2 => hg.block x h2 (fun e => by rcases hr x e.symm with h | h <;> omega)
  exact h.at hg.size (ne B h1 (heap_lt h.hr)) (ne i h2 h.kb.lt) (ne y h3 (heap_lt h.hy)) (fun g hg => ne g (h4 g hg) (h.pv.blt g hg))
theorem keys_setE_none {k : Pk} {x : Ga} {v : Value} {L : List En} (he : lookE k L = none) : (setE k x v L).map (·.k) = L.map (·.k) ++ [k] := by
  unfold setE
  rw [he]
  simp
theorem heldE_none {k : Pk} {x : Ga} {v : Value} {L : List En} (he : lookE k L = none) : heldE (setE k x v L) = heldE L + sumP x.ps := by
  unfold setE
  rw [he]
  simp [heldE]
theorem sumP_ins (p : Pt) (l : List Pt) : sumP (insP p l) = sumP l + p.pd.size := by
  induction l with
  | nil => simp [insP, sumP]
  | cons q r ih =>
    simp only [insP]
    split
    · simp only [sumP]; omega
    · simp only [sumP, ih]; omega
def TPost (No : Nat → Prop) (w : World) (p b : Nat) (c : Cf) (L : List En) (last : Int) (k : Pk) (r : TK) (x : Ending) (w' : World) : Prop :=
  Ks No w w' ∧ match r with
    | .no e => x = .returned (.tuple #[ga0V, .int .i64 e]) ∧ ∃ o', GX No w' p b c L (L.map (·.k)) o' (heldE L : Nat) last
    | .spoil => x = .returned (.tuple #[ga0V, .int .i64 3]) ∧ ∃ o', GX No w' p b c (setE k (spoiltG (xOf L k).ov) (.slice none 0 0) L) ((setE k (spoiltG (xOf L k).ov) (.slice none 0 0) L).map (·.k)) o' (heldE (setE k (spoiltG (xOf L k).ov) (.slice none 0 0) L) : Nat) last
    | .ok y last' => ∃ v', x = .returned (.tuple #[gaV y v', .int .i64 0]) ∧ PV w' v' y.ps ∧ ∃ o', GX No w' p b c (setE k y v' L) ((setE k y v' L).map (·.k)) o' (heldE (setE k y v' L) : Nat) last'
theorem insP_length (p : Pt) (l : List Pt) : (insP p l).length = l.length + 1 := by
  induction l with
  | nil => rfl
  | cons q r ih => simp only [insP]; split <;> simp [ih]
theorem insP_mem {p q : Pt} {l : List Pt} : q ∈ insP p l ↔ q = p ∨ q ∈ l := by
  induction l with
  | nil => simp [insP]
  | cons y r ih =>
    simp only [insP]
    split
    · simp
    · simp only [List.mem_cons, ih]
      constructor
      · rintro (h | h | h)
        · exact .inr (.inl h)
        · exact .inl h
        · exact .inr (.inr h)
      · rintro (h | h | h)
        · exact .inr (.inl h)
        · exact .inl h
        · exact .inr (.inr h)
/-- what is known of a Gather's gatherings -/
structure WFx (x : Ga) : Prop where
  len : x.ps.length ≤ 256
  inp : ∀ q ∈ x.ps, q.In
  srt : SrtP x.ps
  op : x.hd.op.size ≤ 1073741824
  o0 : 0 ≤ x.ov
  o1 : x.ov ≤ 18691697672192
structure WF (c : Cf) (L : List En) (last : Int) : Prop where
  ok : c.Ok
  len : L.length ≤ c.most
  nd : (L.map (·.k)).Nodup
  kin : ∀ e ∈ L, e.k.In
  x : ∀ e ∈ L, WFx e.a
  held : heldE L ≤ c.byt
  l0 : 0 ≤ last
  l1 : last ≤ 17592186044416

set_option maxRecDepth 100000 in
set_option maxHeartbeats 4000000 in
theorem take_any {No : Nat → Prop} {w : World} {p b : Nat} {c : Cf} {L : List En} {o : Value} {last : Int} (hg : GX No w p b c L (L.map (·.k)) o (heldE L : Nat) last) (h : Rh) (hin : h.In) (d : ByteArray) (now : Int) (hwf : WF c L last) (hpt : Pt.In ⟨h.at', d, h.more⟩) (hop : h.op.size ≤ 40) (hnw : ¬ (h.at' = 0 ∧ h.more = false)) (r : TK) (hr : takeS c L last h ⟨h.at', d, h.more⟩ now = r) :
    Calls Try.prog 23 #[.pointer (some ⟨p, 0, none⟩), hdV h, .string d, .int .i64 now] w (TPost No w p b c L last (pkOf h) r) := by
  have hkin : (pkOf h).In := ⟨hin.frm, hin.to, hin.proto, hin.id⟩
  have P := packetof_any h
  have W2 := hide (tr2 (below_one w (.cells (hdL h).toArray 34)) (below_one _ (.cells ga0C 59)))
  have HB := hide ((HC.box w h 34).on (below_one _ (.cells ga0C 59)))
  have HR := hide (show ((w.alloc (.cells (hdL h).toArray 34)).alloc (.cells ga0C 59)).heap[w.heap.size + 1]? = some (.cells ga0C 59 (0, 0)) by
    have := heap_alloc_new (w.alloc (.cells (hdL h).toArray 34)) (.cells ga0C 59)
    rwa [World.size_alloc] at this)
  have HS := hide (show ((w.alloc (.cells (hdL h).toArray 34)).alloc (.cells ga0C 59)).heap.size = w.heap.size + 2 by simp)
  go_enter Try.func23, Try.ntmps23
  go_upto_region 1 with fail
  generalize hw2 : (w.alloc _).alloc _ = w2 at *
  have mixed : Try.prog.follows .mixedOrders = true := by kernel_rfl
  have nq : ([15, 16, 17, 18, 19, 20, 21, 22, 10, 11] : List Nat).Nodup := by decide
  have hs : ∀ d ∈ ([15, 16, 17, 18, 19, 20, 21, 22, 10, 11] : List Nat), d < 145 := by decide
  refine wp_region_fr (α := Nat × Nat) [15, 16, 17, 18, 19, 20, 21, 22, 10, 11] (fun p => [hdV h, pkV (pkOf h), .pointer (some ⟨w.heap.size, 4, none⟩), .int .i64 h.at', .string d, .pointer (some ⟨w.heap.size, 3, none⟩), .bool h.more, ptV ⟨h.at', d, h.more⟩, .pointer (some ⟨p.1, 0, none⟩), .pointer (some ⟨p.2, 0, none⟩)]) (TW w2 (pkOf h) ⟨h.at', d, h.more⟩) mixed (by kernel_rfl) nq (fun _ => rfl) hs (by decide) ⟨(0, 0), TW.start w2 _ _ _⟩ ⟨
    step_val (hdV h) nq hs rfl rfl (fun _ => rfl) (fun p l w hW => hW.same (by decide) (by decide) (by decide) (by decide)) (fun l a wx p hd k hW => by
      have e5 := k.evalOut 5 (by decide) (v := .pointer (some ⟨w.heap.size, 0, none⟩)) rfl
      have HCw := (unhide HB).on hW.bel
      have f0 := HCw.c0
      have f1 := HCw.c1
      have f2 := HCw.c2
      have f3 := HCw.c3
      have f4 := HCw.c4
      have f5 := HCw.c5
      have f6 := HCw.c6
      have f7 := HCw.c7
      have f8 := HCw.c8
      have f9 := HCw.c9
      generalize a.eval = ρ at *
      simp [execOp, go_sem, e5, f0, f1, f2, f3, f4, f5, f6, f7, f8, f9]),
    step_call (pkV (pkOf h)) #[hdV h] nq hs rfl rfl (fun _ => rfl) (fun p l w w' hW b => (hW.on b).same (by decide) (by decide) (by decide) (by decide)) (fun l a wx p hd k hW => by
      have e15 := k.eval 0 rfl (hd ⟨0, .data⟩ (by simp) rfl) (v := hdV h) rfl
      have ef : ∀ f, a.eval (.func f) = .func (.func f) #[] #[] := fun _ => rfl
      generalize a.eval = ρ at *
      simp [execOp, go_sem, ef, e15]) P,
    step_val (.pointer (some ⟨w.heap.size, 4, none⟩)) nq hs rfl rfl (fun _ => rfl) (fun p l w hW => hW.same (by decide) (by decide) (by decide) (by decide)) (fun l a wx p hd k hW => by
      have e5 := k.evalOut 5 (by decide) (v := .pointer (some ⟨w.heap.size, 0, none⟩)) rfl
      generalize a.eval = ρ at *
      simp [execOp, go_sem, e5]),
    step_val (.int .i64 h.at') nq hs rfl rfl (fun _ => rfl) (fun p l w hW => hW.same (by decide) (by decide) (by decide) (by decide)) (fun l a wx p hd k hW => by
      have e17 := k.eval 2 rfl (hd ⟨2, .data⟩ (by simp) rfl) (v := .pointer (some ⟨w.heap.size, 4, none⟩)) rfl
      have f4 := ((unhide HB).on hW.bel).c4
      generalize a.eval = ρ at *
      simp [execOp, go_sem, e17, f4]),
    step_val (.string d) nq hs rfl rfl (fun _ => rfl) (fun p l w hW => hW.same (by decide) (by decide) (by decide) (by decide)) (fun l a wx p hd k hW => by
      have e2 := k.evalOut 2 (by decide) (v := .string d) rfl
      generalize a.eval = ρ at *
      simp [execOp, go_sem, e2]),
    step_val (.pointer (some ⟨w.heap.size, 3, none⟩)) nq hs rfl rfl (fun _ => rfl) (fun p l w hW => hW.same (by decide) (by decide) (by decide) (by decide)) (fun l a wx p hd k hW => by
      have e5 := k.evalOut 5 (by decide) (v := .pointer (some ⟨w.heap.size, 0, none⟩)) rfl
      generalize a.eval = ρ at *
      simp [execOp, go_sem, e5]),
    step_val (.bool h.more) nq hs rfl rfl (fun _ => rfl) (fun p l w hW => hW.same (by decide) (by decide) (by decide) (by decide)) (fun l a wx p hd k hW => by
      have e20 := k.eval 5 rfl (hd ⟨5, .data⟩ (by simp) rfl) (v := .pointer (some ⟨w.heap.size, 3, none⟩)) rfl
      have f3 := ((unhide HB).on hW.bel).c3
      generalize a.eval = ρ at *
      simp [execOp, go_sem, e20, f3]),
    step_val (ptV ⟨h.at', d, h.more⟩) nq hs rfl rfl (fun _ => rfl) (fun p l w hW => hW.same (by decide) (by decide) (by decide) (by decide)) (fun l a wx p hd k hW => by
      have e18 := k.eval 3 rfl (hd ⟨3, .data⟩ (by simp) rfl) (v := .int .i64 h.at') rfl
      have e19 := k.eval 4 rfl (hd ⟨4, .data⟩ (by simp) rfl) (v := .string d) rfl
      have e21 := k.eval 6 rfl (hd ⟨6, .data⟩ (by simp) rfl) (v := .bool h.more) rfl
      generalize a.eval = ρ at *
      simp [execOp, go_sem, e18, e19, e21]),
    (fun l a wx p hd hu k hW => op_val (v := .pointer (some ⟨wx.heap.size, 0, none⟩)) (w' := wx.alloc (.cells #[.int .u32 0, .int .u32 0, .int .u8 0, .int .u16 0] 56)) (by
      generalize a.eval = ρ at *
      simp [execOp, go_sem]) ⟨(wx.heap.size, p.2), (k.as (fun j hj => by
        by_cases e : j = 8
        · subst e; rw [getD_nt hu] at hj; cases hj
        · match j, e with
          | 0, _ | 1, _ | 2, _ | 3, _ | 4, _ | 5, _ | 6, _ | 7, _ | 9, _ => rfl
          | n + 10, _ => rfl)).step nq hs rfl rfl, hW.make8 hu⟩),
    (fun l a wx p hd hu k hW => op_val (v := .pointer (some ⟨wx.heap.size, 0, none⟩)) (w' := wx.alloc (.cells #[.int .i64 0, .string ⟨#[]⟩, .bool false] 70)) (by
      generalize a.eval = ρ at *
      simp [execOp, go_sem]) ⟨(p.1, wx.heap.size), (k.as (fun j hj => by
        by_cases e : j = 9
        · subst e; rw [getD_nt hu] at hj; cases hj
        · match j, e with
          | 0, _ | 1, _ | 2, _ | 3, _ | 4, _ | 5, _ | 6, _ | 7, _ | 8, _ => rfl
          | n + 10, _ => rfl)).step nq hs rfl rfl, hW.make9 hu⟩),
    (fun l a wx p hd hu k hW => by
      have e8 := hd ⟨8, .data⟩ (by simp) rfl
      have e10 := k.eval 8 rfl e8 (v := .pointer (some ⟨p.1, 0, none⟩)) rfl
      have e16 := k.eval 1 rfl (hd ⟨1, .data⟩ (by simp) rfl) (v := pkV (pkOf h)) rfl
      have hb := (hW.b8 e8).2
      rw [getD_nt hu] at hb
      have c0 : wx.cell? ⟨p.1, 0, none⟩ = some (.int .u32 0) := by rw [cell_of_row _ _ 0 _ _ _ hb]; rfl
      have c1 : wx.cell? ⟨p.1, 1, none⟩ = some (.int .u32 0) := by rw [cell_of_row _ _ 1 _ _ _ hb]; rfl
      have c2 : wx.cell? ⟨p.1, 2, none⟩ = some (.int .u8 0) := by rw [cell_of_row _ _ 2 _ _ _ hb]; rfl
      have c3 : wx.cell? ⟨p.1, 3, none⟩ = some (.int .u16 0) := by rw [cell_of_row _ _ 3 _ _ _ hb]; rfl
      have fz : ∀ j, wx.frozen? ⟨p.1, j, none⟩ = false := fun j => frozen_of_row _ _ j _ _ hb
      refine op_skip (w' := (((wx.setCell ⟨p.1, 0, none⟩ (.int .u32 (h.frm : Int))).setCell ⟨p.1, 1, none⟩ (.int .u32 (h.to : Int))).setCell ⟨p.1, 2, none⟩ (.int .u8 (h.proto : Int))).setCell ⟨p.1, 3, none⟩ (.int .u16 (h.id : Int))) ?_ ⟨p, k.pass (by decide), hW.put10 hu e8⟩
      generalize a.eval = ρ at *
      simp [execOp, go_sem, e10, e16, c0, c1, c2, c3, fz]),
    (fun l a wx p hd hu k hW => by
      have e9 := hd ⟨9, .data⟩ (by simp) rfl
      have e11 := k.eval 9 rfl e9 (v := .pointer (some ⟨p.2, 0, none⟩)) rfl
      have e22 := k.eval 7 rfl (hd ⟨7, .data⟩ (by simp) rfl) (v := ptV ⟨h.at', d, h.more⟩) rfl
      have hb := (hW.b9 e9).2
      rw [getD_nt hu] at hb
      have c0 : wx.cell? ⟨p.2, 0, none⟩ = some (.int .i64 0) := by rw [cell_of_row _ _ 0 _ _ _ hb]; rfl
      have c1 : wx.cell? ⟨p.2, 1, none⟩ = some (.string ⟨#[]⟩) := by rw [cell_of_row _ _ 1 _ _ _ hb]; rfl
      have c2 : wx.cell? ⟨p.2, 2, none⟩ = some (.bool false) := by rw [cell_of_row _ _ 2 _ _ _ hb]; rfl
      have fz : ∀ j, wx.frozen? ⟨p.2, j, none⟩ = false := fun j => frozen_of_row _ _ j _ _ hb
      refine op_skip (w' := ((wx.setCell ⟨p.2, 0, none⟩ (.int .i64 h.at')).setCell ⟨p.2, 1, none⟩ (.string d)).setCell ⟨p.2, 2, none⟩ (.bool h.more)) ?_ ⟨p, k.pass (by decide), hW.put11 hu e9⟩
      generalize a.eval = ρ at *
      simp [execOp, go_sem, e11, e22, c0, c1, c2, fz]), trivial⟩ ?_
  rintro ⟨i, j⟩ l w3 hal hW
  have T3 : TF w w3 h ⟨h.at', d, h.more⟩ i j := by
    have e8 := hW.b8 (hal 8 (by decide))
    have e9 := hW.b9 (hal 9 (by decide))
    rw [hal 10 (by decide), if_pos rfl] at e8
    rw [hal 11 (by decide), if_pos rfl] at e9
    have hs2 := unhide HS
    simp only at e8 e9
    exact ⟨tr2 (unhide W2) hW.bel, (unhide HB).on hW.bel, (hW.bel.block _ (by omega)).trans (unhide HR), by omega, by omega, e8.2, e9.2⟩
  have G3 := hg.below T3.bel
  clear hal hW HB HR HS W2 hw2 P
  simp only [fill, List.setIfInBounds_toArray, List.set_cons_succ, List.set_cons_zero]
  go_upto_region 2 with fail
  clear nq hs
  go_cut [12, 13] from 23 to 31 (fun v12 v13 wx => ∃ q, v12 = .pointer (some ⟨q, 0, none⟩) ∧ v13 = .bool (thereB L (pkOf h)) ∧ Hid (TG No w wx h ⟨h.at', d, h.more⟩ i j q p b c L o last))
  case first =>
    have HT := hide (fun (X : Ga) (v : Value) (hX : xOf L (pkOf h) = X) (hv : vOf L (pkOf h) = v) (hpv : PV w3 v X.ps) => (by
      have b1 := (below_one w3 (.cells (gaC X v) 59)).drew
      subst hX hv
      exact ⟨T3.on b1, G3.below b1, by have := heap_lt T3.hr; omega, heap_alloc_new w3 _, hpv.on b1⟩ : TG No w (w3.alloc (.cells (gaC X v) 59)).drew h ⟨h.at', d, h.more⟩ i j w3.heap.size p b c L o last))
    have c4 : w3.cell? ⟨p, 4, none⟩ = some (.map (some b)) := G3.cell rfl
    have k0 : w3.cell? ⟨i, 0, none⟩ = some (.int .u32 (h.frm : Int)) := cell_of_row _ _ 0 _ _ _ T3.hk
    have k1 : w3.cell? ⟨i, 1, none⟩ = some (.int .u32 (h.to : Int)) := cell_of_row _ _ 1 _ _ _ T3.hk
    have k2 : w3.cell? ⟨i, 2, none⟩ = some (.int .u8 (h.proto : Int)) := cell_of_row _ _ 2 _ _ _ T3.hk
    have k3 : w3.cell? ⟨i, 3, none⟩ = some (.int .u16 (h.id : Int)) := cell_of_row _ _ 3 _ _ _ T3.hk
    have hpl := G3.plt
    have hil := heap_lt T3.hk
    cases he : lookE (pkOf h) L with
    | none =>
      have ex : xOf L (pkOf h) = ⟨rh0, [], 0, false⟩ := by unfold xOf; rw [he]
      have ev : vOf L (pkOf h) = .slice none 0 0 := by unfold vOf; rw [he]
      have et : thereB L (pkOf h) = false := by unfold thereB; rw [he]; rfl
      have HT := hide (unhide HT _ _ ex ev (.inl ⟨rfl, rfl⟩))
      have hl := (G3.below ((Below.refl _ _).drew)).map.look_none hkin he true
      have hl2 := (G3.below ((below_one w3 (.cells ga0C 59)).drew)).map.look_none hkin he true
      simp only [if_true, ga0V] at hl hl2
      have ET := hide et
      clear ex ev et he T3 G3 hg
      go_region
      all_goals
        go_wp2_with fail
        go_meet
        exact ⟨_, rfl, by rw [unhide ET], HT⟩
    | some e =>
      have ex : xOf L (pkOf h) = e.a := by unfold xOf; rw [he]
      have ev : vOf L (pkOf h) = e.v := by unfold vOf; rw [he]
      have et : thereB L (pkOf h) = true := by unfold thereB; rw [he]; rfl
      have hpv := G3.pv e (lookE_some he).1
      have HT := hide (unhide HT _ _ ex ev hpv)
      obtain ⟨sp, sc, hv⟩ := pv_shape hpv
      have hl := (G3.below ((Below.refl _ _).drew)).map.look_some hkin he true
      have hl2 := (G3.below ((below_one w3 (.cells ga0C 59)).drew)).map.look_some hkin he true
      simp only [if_true] at hl hl2
      rw [hv] at hl hl2 HT
      simp only [gaV] at hl hl2
      have ET := hide et
      clear ex ev et he T3 G3 hg hpv hv
      go_region
      all_goals
        go_wp2_with fail
        go_meet
        exact ⟨_, rfl, by rw [unhide ET], HT⟩
  case rest =>
    obtain ⟨q, rfl, rfl, HG⟩ := hcut
    have hL := Nat.le_trans hwf.len hwf.ok.m1
    have HGW := hide hg
    clear hg
    go_upto_region 3 with fail
    obtain ⟨th, hth⟩ : ∃ th, thereB L (pkOf h) = th := ⟨_, rfl⟩
    rw [hth]
    have HTH := hide hth
    clear hth
    obtain ⟨full, hful⟩ : ∃ full, decide (th = false ∧ c.most ≤ L.length) = full := ⟨_, rfl⟩
    go_cut [46] from 32 to 45 (fun v wx => v = .bool full ∧ Hid (TG No w wx h ⟨h.at', d, h.more⟩ i j q p b c L o last))
    case first =>
      have G := (unhide HG).gx
      have c4 : wc.cell? ⟨p, 4, none⟩ = some (.map (some b)) := G.cell rfl
      have c0 : wc.cell? ⟨p, 0, none⟩ = some (.int .i64 (c.most : Int)) := G.cell rfl
      have r4 := cell_regrown c4
      have r0 := cell_regrown c0
      have hlen := fun d os => (G.below (below_regrown wc d os)).map.len
      have HF := hide hful
      clear G hful
      cases th with
      | true =>
        have HF2 : Hid (false = full) := hide (by
          have e := unhide HF
          rw [← e]
          simp)
        clear HF
        refine wp_region_quiet_below (by kernel_rfl) (by kernel_rfl) ?_
        repeat (go_big_quiet_step (fail))
        refine wpQuiet_nil ?_
        intro _ hw'
        obtain ⟨⟨dq, osq⟩, hw''⟩ := hw'
        subst hw''
        go_wp2_with fail
        go_meet
        exact ⟨by have e := unhide HF2; rw [← e], hide ((unhide HG).on (below_regrown wc dq osq))⟩
      | false =>
        have HF2 : Hid (decide (c.most ≤ L.length) = full) := hide (by
          have e := unhide HF
          rw [← e, decide_eq_decide]
          exact ⟨fun x => ⟨rfl, x⟩, fun x => x.2⟩)
        clear HF
        refine wp_region_quiet_below (by kernel_rfl) (by kernel_rfl) ?_
        repeat (go_big_quiet_step (fail))
        refine wpQuiet_nil ?_
        intro _ hw'
        obtain ⟨⟨dq, osq⟩, hw''⟩ := hw'
        subst hw''
        go_wp2_with fail
        go_meet
        exact ⟨by have e := unhide HF2; rw [← e], hide ((unhide HG).on (below_regrown wc dq osq))⟩
    case rest =>
      obtain ⟨rfl, HG⟩ := hcut
      obtain ⟨X, hX⟩ : ∃ X, xOf L (pkOf h) = X := ⟨_, rfl⟩
      obtain ⟨V, hV⟩ : ∃ V, vOf L (pkOf h) = V := ⟨_, rfl⟩
      obtain ⟨TFF, GG, q0, hq, hpv⟩ := unhide HG
      have hqw := heap_lt hq
      rw [hX] at hpv
      rw [hX, hV] at hq
      rw [hV] at hpv
      have hwx : WFx X := by
        rw [← hX]
        unfold xOf
        cases he : lookE (pkOf h) L with
        | none => exact ⟨by simp, by simp, fun i j p q _ h => by simp at h, Nat.zero_le _, by simp, by simp⟩
        | some e => exact hwf.x e (lookE_some he).1
      obtain ⟨sv, nv, cv, hVs⟩ : ∃ sv nv cv, V = .slice sv nv cv := by
        obtain ⟨a, b, e⟩ := pv_shape hpv
        exact ⟨_, _, _, e⟩
      subst hVs
      clear HG T3 G3
      have GB := GC.mk' hq
      by_cases hfu : full = true
      · subst hfu
        have er : r = .no 6 := by
          rw [← hr]
          unfold takeS
          rw [if_pos (by rw [unhide HTH]; simpa using hful)]
        subst er
        have RB := GC.mk' (x := ⟨rh0, [], 0, false⟩) (v := .slice none 0 0) TFF.hr
        have fr := fun j => frozen_of_row _ _ j _ _ TFF.hr
        obtain ⟨r0, r1, r2, r3, r4, r5, r6, r7, r8, r9, r10, r11, r12⟩ := RB
        have HK := hide (Ks.of_below (No := No) TFF.bel)
        have HGG := hide GG
        have hnB : ¬ No (w.heap.size + 1) := fun x => by have := (unhide HGW).nlt _ x; omega
        clear GB TFF hq hpv GG hful hr
        go_wp2_with fail
        refine bodyPost_ret (v := .tuple #[ga0V, .int .i64 6]) (by simp [results, Try.results23, go_sem, r0, r1, r2, r3, r4, r5, r6, r7, r8, r9, r10, r11, r12]) rfl ?_
        have hw := unhide HGW
        obtain ⟨G9, K9⟩ := (unhide HGG).put13 (B := w.heap.size + 1) ⟨rh0, [], 0, false⟩ (.slice none 0 0) (by have := hw.plt; omega) (by have := hw.blt; omega) (fun e => by have := hw.olt _ e; omega) (fun e he x => by have := (hw.pv e he).blt _ x; omega) hnB
        exact ⟨(unhide HK).trans K9, rfl, _, G9⟩
      · obtain rfl : full = false := by simpa using hfu
        clear hfu
        obtain ⟨Y, hY⟩ : ∃ Y, withG X h ⟨h.at', d, h.more⟩ = Y := ⟨_, rfl⟩
        have HWi := with_any X (.slice sv nv cv) h ⟨h.at', d, h.more⟩ wc hpv (by have := hwx.len; omega) hwx.srt
        rw [hY] at HWi
        have HWi := hide HWi
        obtain ⟨b0, b1, b2, b3, b4, b5, b6, b7, b8, b9, b10, b11, b12⟩ := GB
        obtain ⟨a0, a1, a2, a3, a4, a5, a6, a7, a8, a9⟩ := TFF.hb
        have p0 : wc.cell? ⟨j, 0, none⟩ = some (.int .i64 h.at') := cell_of_row _ _ 0 _ _ _ TFF.hp
        have p1 : wc.cell? ⟨j, 1, none⟩ = some (.string d) := cell_of_row _ _ 1 _ _ _ TFF.hp
        have p2 : wc.cell? ⟨j, 2, none⟩ = some (.bool h.more) := cell_of_row _ _ 2 _ _ _ TFF.hp
        have HT := hide TFF
        have HG := hide GG
        have HQ := hide hq
        have HPV := hide hpv
        clear TFF GG hq hpv
        go_wp2_with fail
        refine (unhide HWi).mono ?_
        rintro e w5 ⟨v7, rfl, hp7, ho7, b5⟩
        obtain ⟨s7, n7, c7, rfl⟩ : ∃ s7 n7 c7, v7 = .slice s7 n7 c7 := by
          obtain ⟨x1, x2, e⟩ := pv_shape hp7
          exact ⟨_, _, _, e⟩
        have T5 := (unhide HT).on b5
        have G5 := (unhide HG).below b5
        have Q5 : w5.heap[q]? = some (.cells (gaC X (.slice sv nv cv)) 59 (0, 0)) := (b5.block _ (heap_lt (unhide HQ))).trans (unhide HQ)
        have P5 := (unhide HPV).on b5
        have hqs : q < w5.heap.size := heap_lt Q5
        have hws := b5.size
        have hik := heap_lt T5.hk
        have hv5 := hp7.blt
        clear HT HG HQ HPV HWi b0 b1 b2 b3 b4 b5 b6 b7 b8 b9 b10 b11 b12 a0 a1 a2 a3 a4 a5 a6 a7 a8 a9 p0 p1 p2
        have x12 := (GC.mk' Q5).c12
        go_upto_if 52 with fail
        obtain ⟨w6, hw6⟩ : ∃ w6, w6 = w5.alloc (.cells (gaC Y (.slice s7 n7 c7)) 59) := ⟨_, rfl⟩
        have b6 : Below w5.heap.size w5 w6 := by rw [hw6]; exact below_one w5 _
        have Y6 : w6.heap[w5.heap.size]? = some (.cells (gaC Y (.slice s7 n7 c7)) 59 (0, 0)) := by rw [hw6]; exact heap_alloc_new w5 _
        simp only [gaC] at hw6
        rw [← hw6]
        clear hw6
        have T6 := T5.on b6
        have G6 := G5.below b6
        have Q6 : w6.heap[q]? = some (.cells (gaC X (.slice sv nv cv)) 59 (0, 0)) := (b6.block _ hqs).trans Q5
        have P6 := P5.on b6
        have PY6 := hp7.on b6
        clear T5 G5 Q5 P5 hp7 x12
        have hth0 : ¬ (th = false ∧ c.most ≤ L.length) := by simpa using hful
        have hTH := unhide HTH
        unfold takeS at hr
        rw [hTH, hX, hY, if_neg hth0] at hr
        by_cases hsp : X.sp = true
        · rw [if_pos hsp] at hr
          subst hr
          have e52 := hsp
          rw [hsp]
          clear e52 hsp
          have RB := GC.mk' (x := ⟨rh0, [], 0, false⟩) (v := .slice none 0 0) T6.hr
          have fr := fun j => frozen_of_row _ _ j _ _ T6.hr
          obtain ⟨r0, r1, r2, r3, r4, r5, r6, r7, r8, r9, r10, r11, r12⟩ := RB
          have HK := hide (Ks.of_below (No := No) T6.bel)
          have HGG := hide G6
          have hnB : ¬ No (w.heap.size + 1) := fun x => by have := (unhide HGW).nlt _ x; omega
          clear Q6 P6 PY6 Y6 T6 G6 hful
          go_wp2_with fail
          refine bodyPost_ret (v := .tuple #[ga0V, .int .i64 3]) (by simp [results, Try.results23, go_sem, r0, r1, r2, r3, r4, r5, r6, r7, r8, r9, r10, r11, r12]) rfl ?_
          have hw := unhide HGW
          obtain ⟨G9, K9⟩ := (unhide HGG).put13 (B := w.heap.size + 1) ⟨rh0, [], 0, false⟩ (.slice none 0 0) (by have := hw.plt; omega) (by have := hw.blt; omega) (fun e => by have := hw.olt _ e; omega) (fun e he x => by have := (hw.pv e he).blt _ x; omega) hnB
          exact ⟨(unhide HK).trans K9, rfl, _, G9⟩
        · rw [if_neg hsp] at hr
          have hsp2 : X.sp = false := by simpa using hsp
          rw [hsp2]
          clear hsp hsp2
          have hYps : Y.ps = insP ⟨h.at', d, h.more⟩ X.ps := by rw [← hY]; rfl
          have hq6 : q < w6.heap.size := heap_lt Q6
          have x10 := (GC.mk' Q6).c10
          have p0 : w6.cell? ⟨j, 0, none⟩ = some (.int .i64 h.at') := cell_of_row _ _ 0 _ _ _ T6.hp
          have p1 : w6.cell? ⟨j, 1, none⟩ = some (.string d) := cell_of_row _ _ 1 _ _ _ T6.hp
          have p2 : w6.cell? ⟨j, 2, none⟩ = some (.bool h.more) := cell_of_row _ _ 2 _ _ _ T6.hp
          have HCN := contains_any (.slice sv nv cv) X.ps ⟨h.at', d, h.more⟩ w6 P6 (by have := hwx.len; omega)
          generalize X.ps.any (samePt ⟨h.at', d, h.more⟩) = cn at hr HCN
          have HCN := hide HCN
          go_wp2_with fail
          refine (unhide HCN).mono ?_
          rintro e w7 ⟨rfl, b7⟩
          have T7 := T6.on b7
          have G7 := G6.below b7
          have Q7 : w7.heap[q]? = some (.cells (gaC X (.slice sv nv cv)) 59 (0, 0)) := (b7.block _ hq6).trans Q6
          have Y7 : w7.heap[w5.heap.size]? = some (.cells (gaC Y (.slice s7 n7 c7)) 59 (0, 0)) := (b7.block _ (heap_lt Y6)).trans Y6
          have P7 := P6.on b7
          have PY7 := PY6.on b7
          clear T6 G6 Q6 Y6 P6 PY6 HCN p0 p1 p2 x10 b6
          cases cn with
          | true =>
            rw [if_pos rfl] at hr
            subst hr
            have RB := GC.mk' (x := ⟨rh0, [], 0, false⟩) (v := .slice none 0 0) T7.hr
            have fr := fun j => frozen_of_row _ _ j _ _ T7.hr
            obtain ⟨r0, r1, r2, r3, r4, r5, r6, r7, r8, r9, r10, r11, r12⟩ := RB
            have HK := hide (Ks.of_below (No := No) T7.bel)
            have HGG := hide G7
            have hnB : ¬ No (w.heap.size + 1) := fun x => by have := (unhide HGW).nlt _ x; omega
            clear Q7 P7 PY7 Y7 T7 G7 hful b7
            go_wp2_with fail
            refine bodyPost_ret (v := .tuple #[ga0V, .int .i64 7]) (by simp [results, Try.results23, go_sem, r0, r1, r2, r3, r4, r5, r6, r7, r8, r9, r10, r11, r12]) rfl ?_
            have hw := unhide HGW
            obtain ⟨G9, K9⟩ := (unhide HGG).put13 (B := w.heap.size + 1) ⟨rh0, [], 0, false⟩ (.slice none 0 0) (by have := hw.plt; omega) (by have := hw.blt; omega) (fun e => by have := hw.olt _ e; omega) (fun e he x => by have := (hw.pv e he).blt _ x; omega) hnB
            exact ⟨(unhide HK).trans K9, rfl, _, G9⟩
          | false =>
            rw [if_neg (by simp)] at hr
            have p0 : w7.cell? ⟨j, 0, none⟩ = some (.int .i64 h.at') := cell_of_row _ _ 0 _ _ _ T7.hp
            have p1 : w7.cell? ⟨j, 1, none⟩ = some (.string d) := cell_of_row _ _ 1 _ _ _ T7.hp
            have p2 : w7.cell? ⟨j, 2, none⟩ = some (.bool h.more) := cell_of_row _ _ 2 _ _ _ T7.hp
            obtain ⟨x0, x1, x2, x3, x4, x5, x6, x7, x8, x9, x10, x11, x12⟩ := GC.mk' Q7
            have HCL := clashes_any X (.slice sv nv cv) ⟨h.at', d, h.more⟩ w7 P7 (by have := hwx.len; omega) hpt hwx.inp
            obtain ⟨cl, hcl⟩ : ∃ cl, X.ps.any (clashB ⟨h.at', d, h.more⟩) = cl := ⟨_, rfl⟩
            rw [hcl] at hr HCL
            have HCE := hide hcl
            clear hcl
            have HCL := hide HCL
            have hyl : w5.heap.size < w7.heap.size := heap_lt Y7
            obtain ⟨sb, hsb⟩ : ∃ sb, (cl || longG Y) = sb := ⟨_, rfl⟩
            rw [hsb] at hr
            have HTL := hide (fun W (hW : Below w7.heap.size w7 W) => toolong_any Y (.slice s7 n7 c7) W (by rw [hYps]; exact PY7.on hW) (by rw [hYps, insP_length]; have := hwx.len; omega) (by rw [hYps]; intro q hq; rcases insP_mem.1 hq with rfl | hq; exact hpt; exact hwx.inp q hq) (by rw [← hY]; unfold withG; simp only; split; omega; exact hwx.op))
            have HYC := hide (fun W (hW : Below w7.heap.size w7 W) => (GC.mk' ((hW.block _ hyl).trans Y7) : GC W w5.heap.size Y (.slice s7 n7 c7)))
            have HSB := hide hsb
            clear hsb
            go_upto_region 10 with fail
            go_cut [62] from 63 to 69 (fun v wx => v = .bool sb ∧ Hid (Below w7.heap.size w7 wx))
            case first =>
              go_wp2_with fail
              refine (unhide HCL).mono ?_
              rintro e w8 ⟨rfl, b8⟩
              cases cl with
              | true =>
                have e := unhide HSB
                simp only [Bool.true_or] at e
                subst e
                go_wp2_with fail
                go_meet
                exact ⟨rfl, hide b8⟩
              | false =>
                have e := unhide HSB
                simp only [Bool.false_or] at e
                obtain ⟨y0, y1, y2, y3, y4, y5, y6, y7, y8, y9, y10, y11, y12⟩ := unhide HYC w8 b8
                have HT8 := unhide HTL w8 b8
                rw [e] at HT8
                have HT8 := hide HT8
                clear e HTL
                go_wp2_with fail
                refine (unhide HT8).mono ?_
                rintro e w9 ⟨rfl, b9⟩
                go_wp2_with fail
                go_meet
                exact ⟨rfl, hide (tr2 b8 b9)⟩
            case rest =>
              obtain ⟨rfl, b8⟩ := hcut
              obtain ⟨w8, hw8⟩ : ∃ w8, w8 = wc := ⟨_, rfl⟩
              rw [← hw8] at b8
              rw [← hw8]
              clear hw8
              have b8 := unhide b8
              have B8 := tr2 T7.bel b8
              have T8 := T7.on b8
              have HCE := unhide HCE
              have HSB := unhide HSB
              cases sb with
              | true =>
                rw [if_pos rfl] at hr
                subst hr
                obtain ⟨en, hen⟩ : ∃ en, lookE (pkOf h) L = some en := by
                  cases hc : lookE (pkOf h) L with
                  | some en => exact ⟨en, rfl⟩
                  | none =>
                    exfalso
                    have := spoil_there (pt := ⟨h.at', d, h.more⟩) hc rfl rfl hnw
                    rw [hX, hY, HCE, HSB] at this
                    cases this
                have hXe : X = en.a := by rw [← hX]; unfold xOf; rw [hen]
                have G8 := (unhide HGW).no B8 (No' := fun i => i < w8.heap.size ∧ (No i ∨ w.heap.size ≤ i)) (fun i hi => hi)
                have HSP := hide (spoil_any G8 hkin hen hwf.nd (by omega) (by have := hwf.held; have := hwf.ok.b1; omega) (by rw [← hXe]; have := hwx.len; omega) (by rw [← hXe]; exact hwx.inp))
                have k0 : w8.cell? ⟨i, 0, none⟩ = some (.int .u32 (h.frm : Int)) := cell_of_row _ _ 0 _ _ _ T8.hk
                have k1 : w8.cell? ⟨i, 1, none⟩ = some (.int .u32 (h.to : Int)) := cell_of_row _ _ 1 _ _ _ T8.hk
                have k2 : w8.cell? ⟨i, 2, none⟩ = some (.int .u8 (h.proto : Int)) := cell_of_row _ _ 2 _ _ _ T8.hk
                have k3 : w8.cell? ⟨i, 3, none⟩ = some (.int .u16 (h.id : Int)) := cell_of_row _ _ 3 _ _ _ T8.hk
                have HRB := hide T8.hr
                have hrl := heap_lt T8.hr
                have HB8 := hide B8
                clear T7 G7 Q7 Y7 P7 PY7 b7 HTL HYC HCL b8 T8 B8 G8 hful x0 x1 x2 x3 x4 x5 x6 x7 x8 x9 x10 x11 x12 p0 p1 p2
                go_wp2_with fail
                refine (unhide HSP).mono ?_
                rintro x w9 ⟨rfl, ⟨o', G9⟩, K9⟩
                have hr9 : w9.heap[w.heap.size + 1]? = some (.cells ga0C 59 (0, 0)) := (K9.block _ hrl ⟨hrl, .inr (by omega)⟩).trans (unhide HRB)
                have RB := GC.mk' (x := ⟨rh0, [], 0, false⟩) (v := .slice none 0 0) hr9
                have fr := fun j => frozen_of_row _ _ j _ _ hr9
                obtain ⟨r0, r1, r2, r3, r4, r5, r6, r7, r8, r9, r10, r11, r12⟩ := RB
                have HK9 := hide K9
                have HG9 := hide G9
                clear K9 G9 hr9 HSP k0 k1 k2 k3
                go_wp2_with fail
                refine bodyPost_ret (v := .tuple #[ga0V, .int .i64 3]) (by simp [results, Try.results23, go_sem, r0, r1, r2, r3, r4, r5, r6, r7, r8, r9, r10, r11, r12]) rfl ?_
                have hw := unhide HGW
                have hsub : ∀ i, No i → i < w8.heap.size ∧ (No i ∨ w.heap.size ≤ i) := fun i hi => ⟨by have := hw.nlt i hi; omega, .inl hi⟩
                have G10 := (unhide HG9).mono hsub
                have hnB : ¬ No (w.heap.size + 1) := fun x => by have := hw.nlt _ x; omega
                have hob : o'.ownBlock ≠ some (w.heap.size + 1) := fun e => (unhide HG9).shr _ e ⟨hrl, .inr (by omega)⟩
                obtain ⟨G11, K11⟩ := G10.put13 (B := w.heap.size + 1) ⟨rh0, [], 0, false⟩ (.slice none 0 0) (by have := hw.plt; omega) (by have := hw.blt; omega) hob (fun e he x => by
                  rcases mem_set he with rfl | he
                  · simp [Value.ownBlock] at x
                  · have := (hw.pv e he).blt _ x; omega) hnB
                refine ⟨((Ks.of_below (unhide HB8)).trans ((unhide HK9).mono hsub)).trans K11, rfl, o', ?_⟩
                rw [hX, hXe]
                exact G11
              | false =>
                rw [if_neg (by simp)] at hr
                have hnv : nv = X.ps.length := by
                  obtain ⟨a, b, e⟩ := pv_shape P7
                  injection e
                subst hnv
                have G8 := G7.below b8
                have Q8 : w8.heap[q]? = some (.cells (gaC X (.slice sv X.ps.length cv)) 59 (0, 0)) := (b8.block _ (heap_lt Q7)).trans Q7
                have Y8 : w8.heap[w5.heap.size]? = some (.cells (gaC Y (.slice s7 n7 c7)) 59 (0, 0)) := (b8.block _ hyl).trans Y7
                have PY8 := PY7.on b8
                have hB8 := b8
                clear b8 T7 G7 Q7 Y7 P7 PY7 HTL HYC HCL HCE HSB b7 x0 x1 x2 x3 x4 x5 x6 x7 x8 x9 x10 x11 x12 p0 p1 p2 hB8
                obtain ⟨fb, hfb⟩ : ∃ fb, decide (c.prt ≤ X.ps.length ∨ c.byt < heldE L + d.size) = fb := ⟨_, rfl⟩
                go_upto_region 13 with fail
                go_cut [74] from 75 to 98 (fun v wx => v = .bool fb ∧ Hid (Below w8.heap.size w8 wx))
                case first =>
                  have r10 := cell_regrown (GC.mk' Q8).c10
                  have r1 := cell_regrown (show w8.cell? ⟨p, 1, none⟩ = some (.int .i64 (c.byt : Int)) from G8.cell rfl)
                  have r2 := cell_regrown (show w8.cell? ⟨p, 2, none⟩ = some (.int .i64 (c.prt : Int)) from G8.cell rfl)
                  have r6 := cell_regrown (show w8.cell? ⟨p, 6, none⟩ = some (.int .i64 (heldE L : Nat)) from G8.cell rfl)
                  have hwr : IntKind.i64.wrap (((heldE L : Nat) : Int) + (d.size : Int)) = ((heldE L + d.size : Nat) : Int) := by have := hwf.held; have := hwf.ok.b1; have hsz : d.size ≤ 65535 := hpt.sz; rw [IntKind.wrap_i64]; omega
                  have hxl := hwx.len
                  generalize X.ps.length = xl at *
                  have HFB := hide hfb
                  by_cases h1 : c.prt ≤ xl
                  · have e1 : decide (c.prt ≤ xl) = true := decide_eq_true h1
                    have e2 : decide ((c.prt : Int) ≤ (xl : Int)) = true := decide_eq_true (by omega)
                    have HF2 : Hid (true = fb) := hide (by rw [← hfb, decide_eq_true (.inl h1)])
                    clear hfb h1
                    refine wp_region_quiet_below (by kernel_rfl) (by kernel_rfl) ?_
                    repeat (go_big_quiet_step (fail))
                    refine wpQuiet_nil ?_
                    intro _ hw'
                    obtain ⟨⟨dq, osq⟩, hw''⟩ := hw'
                    subst hw''
                    go_wp2_with fail
                    go_meet
                    exact ⟨by have e := unhide HF2; rw [← e], hide (below_regrown w8 dq osq)⟩
                  · have e1 : decide (c.prt ≤ xl) = false := decide_eq_false h1
                    have e2 : decide ((c.prt : Int) ≤ (xl : Int)) = false := decide_eq_false (by omega)
                    have HF2 : Hid (decide (c.byt < heldE L + d.size) = fb) := hide (by rw [← hfb, decide_eq_decide]; exact ⟨fun x => .inr x, fun x => x.resolve_left h1⟩)
                    have hcmp : decide (((c.byt : Nat) : Int) < ((heldE L + d.size : Nat) : Int)) = decide (c.byt < heldE L + d.size) := by rw [decide_eq_decide]; omega
                    clear hfb h1
                    refine wp_region_quiet_below (by kernel_rfl) (by kernel_rfl) ?_
                    repeat (go_big_quiet_step (fail))
                    refine wpQuiet_nil ?_
                    intro _ hw'
                    obtain ⟨⟨dq, osq⟩, hw''⟩ := hw'
                    subst hw''
                    go_wp2_with fail
                    go_meet
                    exact ⟨by have e := unhide HF2; rw [← e]; first | rfl | congr 1, hide (below_regrown w8 dq osq)⟩
                case rest =>
                  obtain ⟨rfl, b9⟩ := hcut
                  have b9 := unhide b9
                  have T9 := T8.on b9
                  have G9 := G8.below b9
                  have Y9 : wc.heap[w5.heap.size]? = some (.cells (gaC Y (.slice s7 n7 c7)) 59 (0, 0)) := (b9.block _ (heap_lt Y8)).trans Y8
                  have PY9 := PY8.on b9
                  clear T8 G8 Q8 Y8 PY8 b9 B8
                  cases fb with
                  | true =>
                    rw [if_pos (by simpa using hfb)] at hr
                    subst hr
                    have RB := GC.mk' (x := ⟨rh0, [], 0, false⟩) (v := .slice none 0 0) T9.hr
                    have fr := fun j => frozen_of_row _ _ j _ _ T9.hr
                    obtain ⟨r0, r1, r2, r3, r4, r5, r6, r7, r8, r9, r10, r11, r12⟩ := RB
                    have HK := hide (Ks.of_below (No := No) T9.bel)
                    have HGG := hide G9
                    have hnB : ¬ No (w.heap.size + 1) := fun x => by have := (unhide HGW).nlt _ x; omega
                    clear PY9 Y9 T9 G9 hful hfb
                    go_wp2_with fail
                    refine bodyPost_ret (v := .tuple #[ga0V, .int .i64 6]) (by simp [results, Try.results23, go_sem, r0, r1, r2, r3, r4, r5, r6, r7, r8, r9, r10, r11, r12]) rfl ?_
                    have hw := unhide HGW
                    obtain ⟨G9, K9⟩ := (unhide HGG).put13 (B := w.heap.size + 1) ⟨rh0, [], 0, false⟩ (.slice none 0 0) (by have := hw.plt; omega) (by have := hw.blt; omega) (fun e => by have := hw.olt _ e; omega) (fun e he x => by have := (hw.pv e he).blt _ x; omega) hnB
                    exact ⟨(unhide HK).trans K9, rfl, _, G9⟩
                  | false =>
                    rw [if_neg (by simpa using hfb)] at hr
                    have HRR := hide hr
                    clear hr
                    have hc1 : ∀ g, (Value.slice s7 n7 c7).ownBlock = some g → w.heap.size + 2 ≤ g := fun g hg => by have := ho7 g hg; omega
                    have HTY : TY wc (pkOf h) i (w.heap.size + 1) w5.heap.size Y (.slice s7 n7 c7) := ⟨T9.hr, ⟨cell_of_row _ _ 0 _ _ _ T9.hk, cell_of_row _ _ 1 _ _ _ T9.hk, cell_of_row _ _ 2 _ _ _ T9.hk, cell_of_row _ _ 3 _ _ _ T9.hk⟩, Y9, by rw [hYps]; exact PY9⟩
                    have hi0 := T9.i0
                    have hyl9 := heap_lt Y9
                    have HB9 := hide T9.bel
                    have hpl := (unhide HGW).plt
                    clear T9 Y9 PY9 hful hfb
                    have HCT := hide (counted_any p last now wc (G9.cell rfl))
                    have c7p : wc.cell? ⟨p, 7, none⟩ = some (.int .i64 last) := G9.cell rfl
                    have f7p := G9.fz 7
                    have G10 := G9.setLast (cntT last now)
                    have Y10 : TY (wc.setCell ⟨p, 7, none⟩ (.int .i64 (cntT last now))) (pkOf h) i (w.heap.size + 1) w5.heap.size Y (.slice s7 n7 c7) := HTY.gb (gb_set (gb_refl wc (some p)) 7 _) (w.heap.size) (fun g e => .inl (by cases e; exact hpl)) (by omega) (by omega) (by omega) (fun g hg => by have := hc1 g hg; omega)
                    have G11 := G10.setHeld (((heldE L : Nat) : Int) + (d.size : Int))
                    have hwr : IntKind.i64.wrap (((heldE L : Nat) : Int) + (d.size : Int)) = ((heldE L : Nat) : Int) + (d.size : Int) := by have := hwf.held; have := hwf.ok.b1; have hsz : d.size ≤ 65535 := hpt.sz; rw [IntKind.wrap_i64]; omega
                    have c6p : (wc.setCell ⟨p, 7, none⟩ (.int .i64 (cntT last now))).cell? ⟨p, 6, none⟩ = some (.int .i64 (heldE L : Nat)) := G10.cell rfl
                    have f6p := G10.fz 6
                    have Y11 : TY ((wc.setCell ⟨p, 7, none⟩ (.int .i64 (cntT last now))).setCell ⟨p, 6, none⟩ (.int .i64 (((heldE L : Nat) : Int) + (d.size : Int)))) (pkOf h) i (w.heap.size + 1) w5.heap.size Y (.slice s7 n7 c7) := Y10.gb (gb_set (gb_refl _ (some p)) 6 _) (w.heap.size) (fun g e => .inl (by cases e; exact hpl)) (by omega) (by omega) (by omega) (fun g hg => by have := hc1 g hg; omega)
                    have K11 := hide (((Ks.of_below (No := No) (unhide HB9)).trans (Ks.setCell wc p 7 (.int .i64 (cntT last now)) (unhide HGW).shp)).trans (Ks.setCell _ p 6 (.int .i64 (((heldE L : Nat) : Int) + (d.size : Int))) (unhide HGW).shp))
                    clear HTY Y10
                    go_wp2_with fail
                    refine (unhide HCT).mono ?_
                    rintro x w10 ⟨rfl, rfl⟩
                    go_upto_if 116 with fail
                    obtain ⟨w11, hw11⟩ : ∃ w11, w11 = (w10.setCell ⟨p, 7, none⟩ (.int .i64 (cntT last now))).setCell ⟨p, 6, none⟩ (.int .i64 (((heldE L : Nat) : Int) + (d.size : Int))) := ⟨_, rfl⟩
                    have hz11 : w5.heap.size < w11.heap.size := by rw [hw11]; simpa using hyl9
                    rw [← hw11] at G11 Y11 K11
                    rw [← hw11]
                    clear hw11 G9 G10 HCT c7p f7p c6p f6p hwr HB9
                    obtain ⟨Yf, hYf⟩ : ∃ Yf : Ga, Yf = ⟨Y.hd, Y.ps, if th = true then X.ov else cntT last now + (c.tm : Int), X.sp⟩ := ⟨_, rfl⟩
                    obtain ⟨ksf, hksf⟩ : ∃ ksf : List Pk, ksf = (if th = true then L.map (·.k) else L.map (·.k) ++ [pkOf h]) := ⟨_, rfl⟩
                    have HYF := hide hYf
                    have HKS := hide hksf
                    clear hYf hksf
                    have hYo : Y.ov = X.ov ∧ Y.sp = X.sp := by rw [← hY]; exact ⟨rfl, rfl⟩
                    have HYO := hide hYo
                    clear hYo
                    have hcl1 : 0 ≤ cntT last now ∧ cntT last now ≤ 17592186044416 := by have := hwf.l0; have := hwf.l1; unfold cntT; omega
                    have htm := hwf.ok.t1
                    go_cut [] from 117 to 137 (fun wx => Hid (∃ o', TY wx (pkOf h) i (w.heap.size + 1) w5.heap.size Yf (.slice s7 n7 c7) ∧ GX No wx p b c L ksf o' (((heldE L : Nat) : Int) + (d.size : Int)) (cntT last now) ∧ (∀ g, o'.ownBlock = some g → g < w.heap.size ∨ w11.heap.size ≤ g) ∧ Ks No w11 wx))
                    case first =>
                      cases th with
                      | true =>
                        have e : Yf = Y := by
                          have e1 := unhide HYF
                          have e2 := unhide HYO
                          rw [if_pos rfl, ← e2.1, ← e2.2] at e1
                          exact e1
                        have e3 : ksf = L.map (·.k) := by have e1 := unhide HKS; rwa [if_pos rfl] at e1
                        subst e
                        subst e3
                        have HH := hide (⟨o, Y11, G11, fun g hg => .inl ((unhide HGW).olt g hg), Ks.refl No w11⟩ : ∃ o', TY w11 (pkOf h) i (w.heap.size + 1) w5.heap.size Yf (.slice s7 n7 c7) ∧ GX No w11 p b c L (L.map (·.k)) o' (((heldE L : Nat) : Int) + (d.size : Int)) (cntT last now) ∧ (∀ g, o'.ownBlock = some g → g < w.heap.size ∨ w11.heap.size ≤ g) ∧ Ks No w11 w11)
                        clear Y11 G11
                        go_wp2_with fail
                        go_meet
                        exact HH
                      | false =>
                        have c7q : w11.cell? ⟨p, 7, none⟩ = some (.int .i64 (cntT last now)) := G11.cell rfl
                        have c3q : w11.cell? ⟨p, 3, none⟩ = some (.int .i64 (c.tm : Int)) := G11.cell rfl
                        have r7 := cell_regrown c7q
                        have r3 := cell_regrown c3q
                        have hwt : IntKind.i64.wrap (cntT last now + (c.tm : Int)) = cntT last now + (c.tm : Int) := by rw [IntKind.wrap_i64]; omega
                        go_upto_region 18 with fail
                        refine wp_region_last (by repeat (first | exact Split.one _ | apply Split.cons)) (by kernel_rfl) (by kernel_rfl) rfl ?_
                        repeat (go_big_quiet_step (fail))
                        refine wpQuiet_nil ?_
                        intro _ hw'
                        obtain ⟨⟨dq, osq⟩, hw''⟩ := hw'
                        subst hw''
                        have BR := below_regrown w11 dq osq
                        have Y12 := Y11.below BR
                        have G12 := G11.below BR
                        have K12 := hide (Ks.of_below (No := No) BR)
                        have hz12 := BR.size
                        clear r7 r3 c7q c3q Y11 G11 BR
                        obtain ⟨W, hW⟩ : ∃ W, W = Sort.grow (redrawn w11 dq) osq := ⟨_, rfl⟩
                        rw [← hW] at Y12 G12 K12 hz12
                        rw [show Sort.grow (redrawn w11 (Regrown.d { d := dq, os := osq })) (Regrown.os { d := dq, os := osq }) = W from hW.symm]
                        clear hW
                        have y11 := (GC.mk' Y12.hy).c11
                        have fy := frozen_of_row _ _ 11 _ _ Y12.hy
                        refine wp_of_run (w2 := W.setCell ⟨w5.heap.size, 11, none⟩ (.int .i64 (cntT last now + (c.tm : Int)))) (n := .skip) ?_ ?_
                        · simp only [execOp]
                          go_simp
                        · simp only [Oper.upon, Act.put]
                          have hw := unhide HGW
                          have G13 := G12.other (B := w5.heap.size) (j := 11) (u := .int .i64 (cntT last now + (c.tm : Int))) (by have := hw.plt; omega) (by have := hw.blt; omega) (fun e => by have := hw.olt _ e; omega) (fun e he x => by have := (hw.pv e he).blt _ x; omega)
                          have Y13 : TY (W.setCell ⟨w5.heap.size, 11, none⟩ (.int .i64 (cntT last now + (c.tm : Int)))) (pkOf h) i (w.heap.size + 1) w5.heap.size Yf (.slice s7 n7 c7) := by
                            have hne : ∀ x, x ≠ w5.heap.size → (W.setCell ⟨w5.heap.size, 11, none⟩ (.int .i64 (cntT last now + (c.tm : Int)))).heap[x]? = W.heap[x]? := fun x hx => heap_setCell_other W _ x _ hx
                            have e1 := unhide HYF
                            rw [if_neg (by simp)] at e1
                            have e2 := unhide HYO
                            have ea : (gaC Y (.slice s7 n7 c7)).setIfInBounds 11 (.int .i64 (cntT last now + (c.tm : Int))) = gaC Yf (.slice s7 n7 c7) := by rw [e1]; simp [e2.2]
                            have ec : ∀ t, (W.setCell ⟨w5.heap.size, 11, none⟩ (.int .i64 (cntT last now + (c.tm : Int)))).cell? ⟨i, t, none⟩ = W.cell? ⟨i, t, none⟩ := fun t => by simp only [World.cell?, hne i (by omega)]
                            refine ⟨(hne _ (by omega)).trans Y12.hr, ⟨(ec 0).trans Y12.kb.c0, (ec 1).trans Y12.kb.c1, (ec 2).trans Y12.kb.c2, (ec 3).trans Y12.kb.c3⟩, ?_, ?_⟩
                            · rw [heap_setCell_same W w5.heap.size 11 _ _ _ Y12.hy, ea]
                            · have : Yf.ps = Y.ps := by rw [e1]
                              rw [this]
                              exact Y12.pv.at (by simp) (fun g hg => hne g (fun x => by have := hv5 g hg; omega))
                          have K13 := hide ((unhide K12).trans (Ks.setCell W w5.heap.size 11 (.int .i64 (cntT last now + (c.tm : Int))) (fun x => by have := hw.nlt _ x; omega)))
                          obtain ⟨W2, hW2⟩ : ∃ W2, W2 = W.setCell ⟨w5.heap.size, 11, none⟩ (.int .i64 (cntT last now + (c.tm : Int))) := ⟨_, rfl⟩
                          have hz13 : W2.heap.size = W.heap.size := by rw [hW2]; simp
                          rw [← hW2] at G13 Y13 K13
                          rw [← hW2]
                          clear hW2 G12 Y12 K12 y11 fy
                          obtain ⟨so, sco, hos⟩ := rowp_shape G13.row
                          have B1 := (below_one W2 (.cells #[.int .u32 (h.frm : Int), .int .u32 (h.to : Int), .int .u8 (h.proto : Int), .int .u16 (h.id : Int)] 56)).drew
                          have G14 := G13.below B1
                          have Y14 := Y13.below B1
                          obtain ⟨i0, hi, hz0, hz1, hz2⟩ := info_parts (P := Try.prog) (e := 56) (z := .agg #[.int .u32 0, .int .u32 0, .int .u8 0, .int .u16 0]) (size := 4) (bytes := 12) (by kernel_rfl)
                          have hnews : ∀ t u, (pkL (pkOf h))[t]? = some u → (W2.alloc (.cells #[.int .u32 (h.frm : Int), .int .u32 (h.to : Int), .int .u8 (h.proto : Int), .int .u16 (h.id : Int)] 56)).drew.cell? ((⟨W2.heap.size, 0, none⟩ : Addr).add t) = some u := fun t u ht => by
                            have hh : (W2.alloc (.cells #[.int .u32 (h.frm : Int), .int .u32 (h.to : Int), .int .u8 (h.proto : Int), .int .u16 (h.id : Int)] 56)).drew.heap[W2.heap.size]? = _ := heap_alloc_new W2 _
                            rw [Addr.add_lit, Nat.zero_add]
                            simp only [World.cell?, hh]
                            simpa using ht
                          obtain ⟨o', w12, hap, hown, hgr, _, hblk⟩ := run_append_own_at (P := Try.prog) (w := (W2.alloc (.cells #[.int .u32 (h.frm : Int), .int .u32 (h.to : Int), .int .u8 (h.proto : Int), .int .u16 (h.id : Int)] 56)).drew) 0 50 50 56 i0 _ 4 12 Try.underlying50 hi hz0 hz1 hz2 rfl (by decide) o (L.map (·.k)).length (flatK (L.map (·.k))) G14.row ⟨W2.heap.size, 0, none⟩ 1 1 (pkL (pkOf h)) rfl hnews (by intro u hu; simp [pkL] at hu; rcases hu with rfl | rfl | rfl | rfl <;> rfl) (by unfold maxLen; simp; omega) (by simp; omega) (Nat.zero_le _)
                          obtain ⟨so', sco', hos'⟩ := rowp_shape hown
                          have hown2 : w12.ownsRow 0 56 4 o' (L.map (·.k) ++ [pkOf h]).length (flatK (L.map (·.k) ++ [pkOf h])) := by
                            rw [flatK_app, show flatK [pkOf h] = pkL (pkOf h) by simp [flatK], List.length_append]
                            exact hown
                          have hsz14 : (W2.alloc (.cells #[.int .u32 (h.frm : Int), .int .u32 (h.to : Int), .int .u8 (h.proto : Int), .int .u16 (h.id : Int)] 56)).drew.heap.size = W2.heap.size + 1 := by
                            show (W2.alloc _).heap.size = _
                            simp
                          obtain ⟨G15, K15⟩ := G14.order hgr hown2 (by
                            rcases hblk with e | e
                            · exact .inl e
                            · exact .inr (fun g hg => by rw [e] at hg; cases hg; exact Nat.le_refl _))
                          have hbx : w12.heap[p]? = _ := (hgr.block p G14.plt (fun e => G14.one.1 e.symm)).trans G14.box
                          have Y15 := (Y14.gb hgr (w.heap.size) (fun g hg => .inl (hw.olt g hg)) (by omega) (by omega) (by omega) (fun g hg => by have := hc1 g hg; omega)).gb (gb_set (gb_refl w12 (some p)) 5 o') (w.heap.size) (fun g e => .inl (by cases e; exact hpl)) (by omega) (by omega) (by omega) (fun g hg => by have := hc1 g hg; omega)
                          have ek : ksf = L.map (·.k) ++ [pkOf h] := by have e1 := unhide HKS; rwa [if_neg (by simp)] at e1
                          have HH := hide (⟨o', Y15, by rw [ek]; exact G15, fun g hg => by
                            rcases hblk with e | e
                            · exact .inl (hw.olt g (e ▸ hg))
                            · rw [e] at hg; cases hg; exact .inr (by omega), ((unhide K13).trans (Ks.of_below B1)).trans K15⟩ : ∃ o'', TY (w12.setCell ⟨p, 5, none⟩ o') (pkOf h) i (w.heap.size + 1) w5.heap.size Yf (.slice s7 n7 c7) ∧ GX No (w12.setCell ⟨p, 5, none⟩ o') p b c L ksf o'' (((heldE L : Nat) : Int) + (d.size : Int)) (cntT last now) ∧ (∀ g, o''.ownBlock = some g → g < w.heap.size ∨ w11.heap.size ≤ g) ∧ Ks No w11 (w12.setCell ⟨p, 5, none⟩ o'))
                          have c5 : W2.cell? ⟨p, 5, none⟩ = some o := G13.cell rfl
                          obtain ⟨k0, k1, k2, k3⟩ := Y13.kb
                          have c5' : w12.cell? ⟨p, 5, none⟩ = some o := by rw [cell_of_row _ _ 5 _ _ _ hbx]; rfl
                          have f5' : w12.frozen? ⟨p, 5, none⟩ = false := frozen_of_row _ _ 5 _ _ hbx
                          have hpw := G13.plt
                          have hiw := Y13.kb.lt
                          rw [hos] at c5 c5' hap
                          rw [hos'] at hap HH
                          clear G13 G14 G15 Y13 Y14 Y15 K13 K15 hown hown2 hgr hblk hbx hnews B1 ek hz13 hsz14 hos hos' hi hz0 hz1 hz2 hz12
                          generalize (L.map (·.k)).length = nk at *
                          go_upto_region 19 with fail
                          go_region_law_o (refine step_append_runI rfl _ _ 50 50 rfl _ _ (by simp [Act.eval]) (by simp [Act.eval]) hap ?_)
                          all_goals
                            go_wp2_with fail
                            go_meet
                            exact hide ⟨_, (unhide HH).choose_spec⟩
                    case rest =>
                      have hcut := unhide hcut
                      obtain ⟨o', YY, GG, hob, KK⟩ := hcut
                      have e1 := unhide HYF
                      have e2 := unhide HKS
                      have eps : Yf.ps = insP ⟨h.at', d, h.more⟩ X.ps := by rw [e1, ← hYps]
                      have HK2 : (setE (pkOf h) Yf (.slice s7 n7 c7) L).map (·.k) = ksf ∧ ((heldE (setE (pkOf h) Yf (.slice s7 n7 c7) L) : Nat) : Int) = ((heldE L : Nat) : Int) + (d.size : Int) := by
                        cases hc : lookE (pkOf h) L with
                        | none =>
                          have et : th = false := by rw [← hTH]; unfold thereB; rw [hc]; rfl
                          have ex : X.ps = [] := by rw [← hX]; unfold xOf; rw [hc]
                          refine ⟨by rw [keys_setE_none hc, e2, if_neg (by simp [et])], ?_⟩
                          rw [heldE_none hc, eps, sumP_ins, ex]
                          simp [sumP]
                        | some en =>
                          have et : th = true := by rw [← hTH]; unfold thereB; rw [hc]; rfl
                          have ex : X = en.a := by rw [← hX]; unfold xOf; rw [hc]
                          refine ⟨by rw [keys_set hc, e2, if_pos et], ?_⟩
                          have := heldE_set (x := Yf) (v := .slice s7 n7 c7) hwf.nd hc
                          rw [eps, sumP_ins, ex] at this
                          simp only at this
                          omega
                      have HRF : TK.ok Yf (cntT last now) = r := by
                        have := unhide HRR
                        rw [← this, e1, hYps]
                      have HK2 := hide HK2
                      have HRF := hide HRF
                      have hnp : ∀ g, (Value.slice s7 n7 c7).ownBlock = some g → g ≠ p ∧ g ≠ b ∧ o'.ownBlock ≠ some g := fun g hg => by
                        have h1 := hc1 g hg
                        have h2 := hv5 g hg
                        have h3 := (unhide HGW).plt
                        have h4 := (unhide HGW).blt
                        refine ⟨by omega, by omega, fun e => ?_⟩
                        rcases hob g e with h5 | h5 <;> omega
                      have HNP := hide hnp
                      have HOB := hide hob
                      have c4 : wc.cell? ⟨p, 4, none⟩ = some (.map (some b)) := GG.cell rfl
                      have r4 := cell_regrown c4
                      obtain ⟨k0, k1, k2, k3⟩ := YY.kb
                      have z0 := cell_regrown k0
                      have z1 := cell_regrown k1
                      have z2 := cell_regrown k2
                      have z3 := cell_regrown k3
                      obtain ⟨y0, y1, y2, y3, y4, y5, y6, y7, y8, y9, y10, y11, y12⟩ := GC.mk' YY.hy
                      have m0 := cell_regrown y0
                      have m1 := cell_regrown y1
                      have m2 := cell_regrown y2
                      have m3 := cell_regrown y3
                      have m4 := cell_regrown y4
                      have m5 := cell_regrown y5
                      have m6 := cell_regrown y6
                      have m7 := cell_regrown y7
                      have m8 := cell_regrown y8
                      have m9 := cell_regrown y9
                      have m10 := cell_regrown y10
                      have m11 := cell_regrown y11
                      have m12 := cell_regrown y12
                      have HYY := hide YY
                      have HGG := hide GG
                      have HKK := hide ((unhide K11).trans KK)
                      clear hnp hob YY GG KK e1 e2 eps HYF HKS HYO HRR K11
                      go_upto_region 20 with fail
                      refine wp_region_last (by repeat (first | exact Split.one _ | apply Split.cons)) (by kernel_rfl) (by kernel_rfl) rfl ?_
                      repeat (go_big_quiet_step (fail))
                      refine wpQuiet_nil ?_
                      intro _ hw'
                      obtain ⟨⟨dq, osq⟩, hw''⟩ := hw'
                      subst hw''
                      have BR := below_regrown wc dq osq
                      have GR := (unhide HGG).below BR
                      have YR := (unhide HYY).below BR
                      have KR := hide ((unhide HKK).trans (Ks.of_below BR))
                      obtain ⟨w3', hrun, hm3, hg3⟩ := GR.map.store hkin (by omega) Yf (.slice s7 n7 c7)
                      clear r4 z0 z1 z2 z3 c4 k0 k1 k2 k3 y0 y1 y2 y3 y4 y5 y6 y7 y8 y9 y10 y11 y12 m0 m1 m2 m3 m4 m5 m6 m7 m8 m9 m10 m11 m12 HKK HYY HGG BR
                      obtain ⟨W3, hW3⟩ : ∃ W3, W3 = Sort.grow (redrawn wc dq) osq := ⟨_, rfl⟩
                      rw [← hW3] at GR YR KR hrun hg3
                      rw [show Sort.grow (redrawn wc (Regrown.d { d := dq, os := osq })) (Regrown.os { d := dq, os := osq }) = W3 from hW3.symm]
                      clear hW3
                      simp only [gaV] at hrun
                      refine wp_of_run (w2 := w3') (n := .skip) ?_ ?_
                      · simp only [execOp]
                        go_simp
                      · simp only [Oper.upon, Act.put]
                        have hw := unhide HGW
                        obtain ⟨H4, KS5⟩ := GR.mapped hg3 hm3 (fun x hx => by
                          rcases mem_set hx with rfl | hx
                          · exact ⟨YR.pv, unhide HNP⟩
                          · exact ⟨GR.pv x hx, GR.ap x hx⟩)
                        have Y4 := YR.gb hg3 (w.heap.size) (fun g e => .inl (by cases e; exact hw.blt)) (by omega) (by omega) (by omega) (fun g hg => by have := hc1 g hg; omega)
                        have HPV := hide Y4.pv
                        obtain ⟨r0, r1, r2, r3, r4, r5, r6, r7, r8, r9, r10, r11, r12⟩ := GC.mk' (x := ⟨rh0, [], 0, false⟩) (v := .slice none 0 0) Y4.hr
                        have fr := fun j => frozen_of_row _ _ j _ _ Y4.hr
                        obtain ⟨y0, y1, y2, y3, y4, y5, y6, y7, y8, y9, y10, y11, y12⟩ := GC.mk' Y4.hy
                        have HG4 := hide H4
                        have HK4 := hide ((unhide KR).trans KS5)
                        clear H4 KS5 KR Y4 YR GR hrun hm3 hg3
                        go_wp2_with fail
                        refine bodyPost_ret (v := .tuple #[gaV Yf (.slice s7 n7 c7), .int .i64 0]) (by simp [results, Try.results23, go_sem, r0, r1, r2, r3, r4, r5, r6, r7, r8, r9, r10, r11, r12]) rfl ?_
                        have hw := unhide HGW
                        obtain ⟨G9, K9⟩ := (unhide HG4).put13 (B := w.heap.size + 1) Yf (.slice s7 n7 c7) (by have := hw.plt; omega) (by have := hw.blt; omega) (fun e => by rcases unhide HOB _ e with h5 | h5 <;> omega) (fun e he x => by
                          rcases mem_set he with rfl | he
                          · have := hc1 _ x; omega
                          · have := (hw.pv e he).blt _ x; omega) (fun x => by have := hw.nlt _ x; omega)
                        obtain ⟨q1, q2⟩ := unhide HK2
                        have q3 := unhide HRF
                        subst q3
                        refine ⟨(unhide HK4).trans K9, _, rfl, put13_pv (unhide HPV) (fun x => by have := hc1 _ x; omega), o', ?_⟩
                        rw [q1, q2]
                        exact G9

end Go.Proofs.Ytekljiakofmhnaa
