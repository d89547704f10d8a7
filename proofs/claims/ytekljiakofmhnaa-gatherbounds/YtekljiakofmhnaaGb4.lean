/- What a Gather is while the law's region with Put in it is under way. No program in it but the types' names. -/
import Derived.Test.YtekljiakofmhnaaGw1
import Derived.Test.YtekljiakofmhnaaRxi
namespace Go.Proofs.Ytekljiakofmhnaa
open Go.RowKit Go.Shelf

section
variable {No : Nat → Prop} {w : World} {p b : Nat} {c : Cf} {L : List En} {ks : List Pk} {o : Value} {held last : Int}
/-- a head's box is written: no parts lie there -/
theorem GX.store (h : GX No w p b c L ks o held last) {B j : Nat} {u : Value} {z : Int} (hB : No B) (h0 : w.cell? ⟨B, 0, none⟩ = some (.int .u8 z)) : GX No (w.setCell ⟨B, j, none⟩ u) p b c L ks o held last := by
  have hne : ∀ k, k ≠ B → (w.setCell ⟨B, j, none⟩ u).heap[k]? = w.heap[k]? := fun k hk => heap_setCell_other w _ k _ hk
  refine ⟨(hne p (fun e => h.shp (e ▸ hB))).trans h.box, h.map.at (hne b (fun e => h.shb (e ▸ hB))), row_at h.row (fun g hg => hne g (fun e => h.shr g hg (e ▸ hB))), fun e he => ?_, h.ap, h.shp, h.shb, h.shr, fun i hi => by simpa using h.nlt i hi⟩
  have hp := h.pv e he
  by_cases hv : e.v.ownBlock = some B
  · rcases hp with ⟨h1, _⟩ | ⟨g, cc, h1, h2, h3, h4, h5⟩
    · rw [h1] at hv; simp [Value.ownBlock] at hv
    · rw [h1] at hv
      simp only [Value.ownBlock, Option.some.injEq] at hv
      subst hv
      refine .inr ⟨g, cc, h1, h2, h3, by simpa using h4, fun j' q hq => ?_⟩
      exfalso
      have hlt : 0 < e.a.ps.length := by have := (List.getElem?_eq_some_iff.1 hq).1; omega
      obtain ⟨q0, hq0⟩ : ∃ q0, e.a.ps[0]? = some q0 := ⟨_, List.getElem?_eq_getElem hlt⟩
      have := (h5 0 q0 hq0).1
      rw [Nat.zero_mul, h0] at this
      cases this
  · exact hp.at (by simp) (fun g hg => hne g (fun e' => hv (e' ▸ hg)))
theorem gx_stores10 (h : GX No w p b c L ks o held last) {B : Nat} (hB : No B) (hw : w.heap[B]? = some (.cells hd0C 34 (0, 0))) (r : Rh) : GX No (set10 w B r) p b c L ks o held last := by
  have c0 : w.cell? ⟨B, 0, none⟩ = some (.int .u8 0) := cell_of_row _ _ 0 _ _ _ hw
  have g0 := h.store (j := 0) (u := .int .u8 (r.tos : Int)) hB c0
  have z : ∀ (W : World) (j : Nat) (u : Value), j ≠ 0 → W.cell? ⟨B, 0, none⟩ = some (.int .u8 (r.tos : Int)) → (W.setCell ⟨B, j, none⟩ u).cell? ⟨B, 0, none⟩ = some (.int .u8 (r.tos : Int)) := fun W j u hj hc =>
    (World.cell?_setCell_other _ _ _ _ (fun x => hj (congrArg Addr.off x))).trans hc
  have e0 : (w.setCell ⟨B, 0, none⟩ (.int .u8 (r.tos : Int))).cell? ⟨B, 0, none⟩ = some (.int .u8 (r.tos : Int)) := by
    have := heap_setCell_same w B 0 _ _ (.int .u8 (r.tos : Int)) hw
    rw [cell_of_row _ _ 0 _ _ _ this]
    rfl
  have e1 := z _ 1 (.int .u16 (r.id : Int)) (by decide) e0
  have e2 := z _ 2 (.bool r.hold) (by decide) e1
  have e3 := z _ 3 (.bool r.more) (by decide) e2
  have e4 := z _ 4 (.int .i64 r.at') (by decide) e3
  have e5 := z _ 5 (.int .u8 (r.ttl : Int)) (by decide) e4
  have e6 := z _ 6 (.int .u8 (r.proto : Int)) (by decide) e5
  have e7 := z _ 7 (.int .u32 (r.frm : Int)) (by decide) e6
  have e8 := z _ 8 (.int .u32 (r.to : Int)) (by decide) e7
  exact ((((((((g0.store hB e0).store hB e1).store hB e2).store hB e3).store hB e4).store hB e5).store hB e6).store hB e7).store hB e8
end
theorem set10_heap {w : World} {B : Nat} (hw : w.heap[B]? = some (.cells hd0C 34 (0, 0))) (r : Rh) : (set10 w B r).heap[B]? = some (.cells (hdL r).toArray 34 (0, 0)) := by
  rw [heap_setCell_same _ B 9 _ _ _ (heap_setCell_same _ B 8 _ _ _ (heap_setCell_same _ B 7 _ _ _ (heap_setCell_same _ B 6 _ _ _ (heap_setCell_same _ B 5 _ _ _ (heap_setCell_same _ B 4 _ _ _ (heap_setCell_same _ B 3 _ _ _ (heap_setCell_same _ B 2 _ _ _ (heap_setCell_same _ B 1 _ _ _ (heap_setCell_same _ B 0 _ _ _ hw)))))))))]
  simp
theorem set10_other {w : World} {B k : Nat} (hk : k ≠ B) (r : Rh) : (set10 w B r).heap[k]? = w.heap[k]? := by
  rw [heap_setCell_other _ ⟨B, 9, none⟩ _ _ hk, heap_setCell_other _ ⟨B, 8, none⟩ _ _ hk, heap_setCell_other _ ⟨B, 7, none⟩ _ _ hk, heap_setCell_other _ ⟨B, 6, none⟩ _ _ hk, heap_setCell_other _ ⟨B, 5, none⟩ _ _ hk, heap_setCell_other _ ⟨B, 4, none⟩ _ _ hk, heap_setCell_other _ ⟨B, 3, none⟩ _ _ hk, heap_setCell_other _ ⟨B, 2, none⟩ _ _ hk, heap_setCell_other _ ⟨B, 1, none⟩ _ _ hk, heap_setCell_other _ ⟨B, 0, none⟩ _ _ hk]

theorem getD_nf {l : Array Bool} {i : Nat} (hu : l.getD i true = false) : l.getD i false = false := by
  simp only [Array.getD_eq_getD_getElem?] at *
  cases h : l[i]? with
  | none => rfl
  | some b => rw [h] at hu; simpa using hu
theorem getD_sf {l : Array Bool} {i : Nat} (hu : l.getD i true = false) : (l.setIfInBounds i true).getD i false = true := by
  simp only [Array.getD_eq_getD_getElem?, Array.getElem?_setIfInBounds] at *
  have : i < l.size := by
    apply Classical.byContradiction
    intro hn
    rw [Array.getElem?_eq_none (by omega)] at hu
    cases hu
  simp [this]
/-- an operation without a slot: a slot that no operation writes stands for it -/
theorem Fk.pass {a0 a : Act} {ds : List Nat} {vs : List Value} {l : Array Bool} (k : Fk a0 ds vs l a) {j d : Nat} (hu : l.getD j true = false) (h : ds[j]? = some d) (hv : a0.tmps[d]? = some (vs.getD j undef)) : Fk a0 ds vs (l.setIfInBounds j true) (a.put none undef) := by
  have hl : l.getD j false = false := getD_nf hu
  refine ⟨⟨k.fr.defs, k.fr.size, k.fr.out, fun j' d' h' hl' => ?_⟩, fun j' d' h' hl' => ?_⟩
  · by_cases e : j = j'
    · subst e
      rw [h] at h'
      cases h'
      exact (k.keep j d h hl).trans hv
    · rw [getD_upd e] at hl'
      exact k.fr.at' j' d' h' hl'
  · by_cases e : j = j'
    · subst e
      rw [getD_sf hu] at hl'
      cases hl'
    · rw [getD_upd e] at hl'
      exact k.keep j' d' h' hl'
/-- behind Put, as far as the law asks -/
def AftP (c : Cf) (H : List Ps) (k : Pk) (X : Ending) (last now : Int) (p b : Nat) (No : Nat → Prop) (w : World) : Prop :=
  ∃ L' last', GQ No w p b c L' last' ∧ WF c L' last' ∧ FromE c H last' L' ∧ last ≤ last' ∧ last' ≤ max last now ∧ PutR H k X
def NoB (No : Nat → Prop) (l : Array Bool) (B : Nat) : Nat → Prop := fun i => No i ∨ (l.getD 18 false = true ∧ i = B)
/-- under way in the law's region with Put in it: B the box that its head is put in -/
structure RW (No : Nat → Prop) (w : World) (p b : Nat) (c : Cf) (Lg : List En) (last now : Int) (H : List Ps) (k : Pk) (X : Ending) (hr : Rh) (B : Nat) (l : Array Bool) (wx : World) : Prop where
  ks : Ks No w wx
  pre : l.getD 12 false = false → GQ (NoB No l B) wx p b c Lg last
  post : l.getD 12 false = true → AftP c H k X last now p b (NoB No l B) wx
  box : l.getD 18 false = true → w.heap.size ≤ B ∧ wx.heap[B]? = some (.cells (if l.getD 19 false = true then (hdL hr).toArray else hd0C) 34 (0, 0))
  d19 : l.getD 19 false = true → l.getD 18 false = true ∧ l.getD 12 false = true
section
variable {No : Nat → Prop} {w wx wy : World} {p b : Nat} {c : Cf} {Lg : List En} {last now : Int} {H : List Ps} {k : Pk} {X : Ending} {hr : Rh} {B : Nat} {l : Array Bool}
theorem RW.start (h : GQ No w p b c Lg last) (n : Nat) : RW No w p b c Lg last now H k X hr 0 (Array.replicate n false) { w with drawn := w.drawn + 1 } := by
  have b0 : Below w.heap.size w { w with drawn := w.drawn + 1 } := ⟨rfl, rfl, rfl, Nat.le_refl _, fun _ _ => rfl⟩
  obtain ⟨o, g⟩ := h
  have e : NoB No (Array.replicate n false) 0 = No := by
    funext i
    unfold NoB
    rw [getD_rep]
    simp
  exact ⟨Ks.of_below b0, fun _ => ⟨o, by rw [e]; exact g.below b0⟩, fun h => (by rw [getD_rep] at h; cases h), fun h => (by rw [getD_rep] at h; cases h), fun h => (by rw [getD_rep] at h; cases h)⟩
theorem RW.same (h : RW No w p b c Lg last now H k X hr B l wx) {i : Nat} (h1 : i ≠ 12) (h2 : i ≠ 18) (h3 : i ≠ 19) : RW No w p b c Lg last now H k X hr B (l.setIfInBounds i true) wx := by
  have e : NoB No (l.setIfInBounds i true) B = NoB No l B := by
    funext k'
    unfold NoB
    rw [getD_upd h2]
  refine ⟨h.ks, fun x => ?_, fun x => ?_, fun x => ?_, fun x => ?_⟩
  · rw [getD_upd h1] at x; rw [e]; exact h.pre x
  · rw [getD_upd h1] at x; rw [e]; exact h.post x
  · rw [getD_upd h2] at x; rw [getD_upd h3]; exact h.box x
  · rw [getD_upd h3] at x; rw [getD_upd h1, getD_upd h2]; exact h.d19 x
/-- Put is called -/
theorem RW.put (h : RW No w p b c Lg last now H k X hr B l wx) (hu : l.getD 12 true = false) (hk : Ks (NoB No l B) wx wy) (ha : AftP c H k X last now p b (NoB No l B) wy) : RW No w p b c Lg last now H k X hr B (l.setIfInBounds 12 true) wy := by
  have e : NoB No (l.setIfInBounds 12 true) B = NoB No l B := by
    funext k'
    unfold NoB
    rw [getD_upd (by decide)]
  have hn := getD_nf hu
  refine ⟨h.ks.trans (hk.mono (fun i hi => .inl hi)), fun x => ?_, fun _ => by rw [e]; exact ha, fun x => ?_, fun x => ?_⟩
  · rw [getD_sf hu] at x; cases x
  · rw [getD_upd (by decide)] at x
    rw [getD_upd (by decide)]
    obtain ⟨h1, h2⟩ := h.box x
    exact ⟨h1, (hk.block B (heap_lt h2) (.inr ⟨x, rfl⟩)).trans h2⟩
  · rw [getD_upd (by decide)] at x
    have := (h.d19 x).2
    rw [hn] at this
    cases this
/-- the box is made -/
theorem RW.make (h : RW No w p b c Lg last now H k X hr B l wx) (hu : l.getD 18 true = false) : RW No w p b c Lg last now H k X hr wx.heap.size (l.setIfInBounds 18 true) (wx.alloc (.cells hd0C 34)) := by
  have hn := getD_nf hu
  have h19 : l.getD 19 false = false := by
    cases e : l.getD 19 false with
    | false => rfl
    | true => have := (h.d19 e).1; rw [hn] at this; cases this
  have b1 := below_one wx (.cells hd0C 34)
  have hsub : ∀ i, NoB No (l.setIfInBounds 18 true) wx.heap.size i → (No i ∧ NoB No l B i) ∨ i = wx.heap.size := fun i hi => by
    rcases hi with hi | ⟨_, hi⟩
    · exact .inl ⟨hi, .inl hi⟩
    · exact .inr hi
  have hz : wx.heap.size < (wx.alloc (.cells hd0C 34)).heap.size := by simp
  have gq : ∀ {L' : List En} {la : Int}, GQ (NoB No l B) wx p b c L' la → GQ (NoB No (l.setIfInBounds 18 true) wx.heap.size) (wx.alloc (.cells hd0C 34)) p b c L' la := by
    rintro L' la ⟨o, g⟩
    refine ⟨o, g.no b1 (fun i hi => ?_)⟩
    rcases hsub i hi with ⟨_, h2⟩ | rfl
    · exact ⟨by have := g.nlt i h2; omega, .inl h2⟩
    · exact ⟨hz, .inr (Nat.le_refl _)⟩
  refine ⟨h.ks.trans (Ks.of_below b1), fun x => ?_, fun x => ?_, fun _ => ?_, fun x => ?_⟩
  · rw [getD_upd (by decide)] at x
    exact gq (h.pre x)
  · rw [getD_upd (by decide)] at x
    obtain ⟨L', la, g, r⟩ := h.post x
    exact ⟨L', la, gq g, r⟩
  · rw [getD_upd (by decide), h19]
    exact ⟨h.ks.size, heap_alloc_new wx _⟩
  · rw [getD_upd (by decide), h19] at x
    cases x
/-- the head is put there -/
theorem RW.store (h : RW No w p b c Lg last now H k X hr B l wx) (hu : l.getD 19 true = false) (e12 : l.getD 12 false = true) (e18 : l.getD 18 false = true) (hlt : ∀ i, No i → i < w.heap.size) : RW No w p b c Lg last now H k X hr B (l.setIfInBounds 19 true) (set10 wx B hr) := by
  have hn := getD_nf hu
  obtain ⟨h1, h2⟩ := h.box e18
  rw [hn] at h2
  simp only [Bool.false_eq_true, if_false] at h2
  have e : NoB No (l.setIfInBounds 19 true) B = NoB No l B := by
    funext k'
    unfold NoB
    rw [getD_upd (by decide)]
  have hnB : ¬ No B := fun x => by have := hlt B x; omega
  refine ⟨?_, fun x => ?_, fun _ => ?_, fun _ => ?_, fun _ => ?_⟩
  · refine h.ks.trans ?_
    iterate 9 refine Ks.trans ?_ (Ks.setCell _ B _ _ hnB)
    exact Ks.setCell _ B _ _ hnB
  · rw [getD_upd (by decide), e12] at x; cases x
  · rw [e]
    obtain ⟨L', la, ⟨o, g⟩, r⟩ := h.post e12
    exact ⟨L', la, ⟨o, gx_stores10 g (.inr ⟨e18, rfl⟩) h2 hr⟩, r⟩
  · rw [getD_sf hu, if_pos rfl]
    exact ⟨h1, set10_heap h2 hr⟩
  · rw [getD_upd (by decide), getD_upd (by decide)]
    exact ⟨e18, e12⟩
end

end Go.Proofs.Ytekljiakofmhnaa
