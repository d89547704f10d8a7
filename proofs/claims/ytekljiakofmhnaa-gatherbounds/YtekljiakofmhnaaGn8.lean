/- The contract of gathering.with, over the loaded program: what comes back is memory of the call's own; no memory that was there has turned. -/
import Derived.Test.YtekljiakofmhnaaGn6
import Derived.Test.YtekljiakofmhnaaGn7
namespace Go.Proofs.Ytekljiakofmhnaa
open Go.RowKit

/-- a part put where it goes -/
def insP (p : Pt) : List Pt → List Pt
  | [] => [p]
  | q :: r => if p.pa ≤ q.pa then p :: q :: r else q :: insP p r
theorem ins_at : ∀ {l : List Pt} {k : Nat} (p : Pt), IxP l p.pa k → l.take k ++ p :: l.drop k = insP p l
  | [], k, p, h => by simp [insP]
  | q :: r, 0, p, h => by
    have := h.high 0 q (Nat.le_refl _) rfl
    simp [insP, this]
  | q :: r, k + 1, p, h => by
    have h0 := h.low 0 q (by omega) rfl
    have hr : IxP r p.pa k := ⟨by have := h.le; simp at this; omega, fun j x hj hx => h.low (j + 1) x (by omega) (by simpa using hx), fun j x hj hx => h.high (j + 1) x (by omega) (by simpa using hx)⟩
    simp only [List.take_succ_cons, List.drop_succ_cons, List.cons_append, insP]
    rw [if_neg (by omega), ins_at p hr]
/-- it with one more part -/
def withG (x : Ga) (h : Rh) (p : Pt) : Ga := ⟨if p.pa = 0 then h else x.hd, insP p x.ps, x.ov, x.sp⟩

abbrev ga0C : Array Value := #[.int .u8 0, .int .u16 0, .bool false, .bool false, .int .i64 0, .int .u8 0, .int .u8 0, .int .u32 0, .int .u32 0, .string ⟨#[]⟩, .slice none 0 0, .int .i64 0, .bool false]
/-- what with's own blocks hold -/
structure WI (w0 w : World) (x : Ga) (v : Value) (p : Pt) : Prop where
  bel : Below w0.heap.size w0 w
  hx : w.heap[w0.heap.size]? = some (.cells (gaC x v) 59 (0, 0))
  hp : w.heap[w0.heap.size + 1 + 1]? = some (.cells #[.int .i64 p.pa, .string p.pd, .bool p.pm] 70 (0, 0))
  hr : w.heap[w0.heap.size + 1 + 1 + 1]? = some (.cells ga0C 59 (0, 0))
theorem WI.on {w0 w w' : World} {x : Ga} {v : Value} {p : Pt} (h : WI w0 w x v p) (k : Below w.heap.size w w') : WI w0 w' x v p :=
  ⟨tr2 h.bel k, (k.block _ (heap_lt h.hx)).trans h.hx, (k.block _ (heap_lt h.hp)).trans h.hp, (k.block _ (heap_lt h.hr)).trans h.hr⟩
theorem WI.gc {w0 w : World} {x : Ga} {v : Value} {p : Pt} (h : WI w0 w x v p) : GC w w0.heap.size x v :=
  ⟨cell_of_row _ _ 0 _ _ _ h.hx, cell_of_row _ _ 1 _ _ _ h.hx, cell_of_row _ _ 2 _ _ _ h.hx, cell_of_row _ _ 3 _ _ _ h.hx, cell_of_row _ _ 4 _ _ _ h.hx, cell_of_row _ _ 5 _ _ _ h.hx, cell_of_row _ _ 6 _ _ _ h.hx, cell_of_row _ _ 7 _ _ _ h.hx, cell_of_row _ _ 8 _ _ _ h.hx, cell_of_row _ _ 9 _ _ _ h.hx, cell_of_row _ _ 10 _ _ _ h.hx, cell_of_row _ _ 11 _ _ _ h.hx, cell_of_row _ _ 12 _ _ _ h.hx⟩
theorem WI.pc {w0 w : World} {x : Ga} {v : Value} {p : Pt} (h : WI w0 w x v p) : PC w (w0.heap.size + 1 + 1) p :=
  ⟨cell_of_row _ _ 0 _ _ _ h.hp, cell_of_row _ _ 1 _ _ _ h.hp, cell_of_row _ _ 2 _ _ _ h.hp⟩
theorem WI.fx {w0 w : World} {x : Ga} {v : Value} {p : Pt} (h : WI w0 w x v p) (j : Nat) : w.frozen? ⟨w0.heap.size, j, none⟩ = false := by simp [World.frozen?, h.hx]
theorem WI.fr {w0 w : World} {x : Ga} {v : Value} {p : Pt} (h : WI w0 w x v p) (j : Nat) : w.frozen? ⟨w0.heap.size + 1 + 1 + 1, j, none⟩ = false := by simp [World.frozen?, h.hr]
theorem WI.cr {w0 w : World} {x : Ga} {v : Value} {p : Pt} (h : WI w0 w x v p) : GC w (w0.heap.size + 1 + 1 + 1) ⟨⟨0, 0, false, false, 0, 0, 0, 0, 0, ⟨#[]⟩⟩, [], 0, false⟩ (.slice none 0 0) :=
  ⟨cell_of_row _ _ 0 _ _ _ h.hr, cell_of_row _ _ 1 _ _ _ h.hr, cell_of_row _ _ 2 _ _ _ h.hr, cell_of_row _ _ 3 _ _ _ h.hr, cell_of_row _ _ 4 _ _ _ h.hr, cell_of_row _ _ 5 _ _ _ h.hr, cell_of_row _ _ 6 _ _ _ h.hr, cell_of_row _ _ 7 _ _ _ h.hr, cell_of_row _ _ 8 _ _ _ h.hr, cell_of_row _ _ 9 _ _ _ h.hr, cell_of_row _ _ 10 _ _ _ h.hr, cell_of_row _ _ 11 _ _ _ h.hr, cell_of_row _ _ 12 _ _ _ h.hr⟩

set_option maxRecDepth 100000 in
set_option maxHeartbeats 4000000 in
theorem PV.set {w : World} {v : Value} {l : List Pt} (h : PV w v l) {b j : Nat} {u : Value} (hb : v.ownBlock ≠ some b) : PV (w.setCell ⟨b, j, none⟩ u) v l := by
  rcases h with h | ⟨g, c, rfl, h1, h2, h3, h4⟩
  · exact .inl h
  · have hne : g ≠ b := fun e => hb (by rw [e]; rfl)
    refine .inr ⟨g, c, rfl, h1, h2, by simpa using h3, fun i p hi => ?_⟩
    obtain ⟨a, b', d⟩ := h4 i p hi
    exact ⟨(World.cell?_setCell_other _ _ _ _ (fun e => hne (congrArg Addr.block e).symm)).trans a, (World.cell?_setCell_other _ _ _ _ (fun e => hne (congrArg Addr.block e).symm)).trans b', (World.cell?_setCell_other _ _ _ _ (fun e => hne (congrArg Addr.block e).symm)).trans d⟩
theorem WI.put {w0 w : World} {x : Ga} {v : Value} {p : Pt} (h : WI w0 w x v p) (v' : Value) : WI w0 (w.setCell ⟨w0.heap.size, 10, none⟩ v') x v' p :=
  ⟨h.bel.setCell (p := ⟨w0.heap.size, 10, none⟩) (Nat.le_refl _) _, heap_setCell_same w w0.heap.size 10 (gaC x v) _ v' h.hx, (heap_setCell_other w ⟨w0.heap.size, 10, none⟩ _ v' (by show _ ≠ w0.heap.size; omega)).trans h.hp, (heap_setCell_other w ⟨w0.heap.size, 10, none⟩ _ v' (by show _ ≠ w0.heap.size; omega)).trans h.hr⟩
/-- a gathering written to a box, cell by cell -/
abbrev put13 (w : World) (b : Nat) (x : Ga) (v : Value) : World := (((((((((((((w.setCell ⟨b, 0, none⟩ (.int .u8 (x.hd.tos : Int))).setCell ⟨b, 1, none⟩ (.int .u16 (x.hd.id : Int))).setCell ⟨b, 2, none⟩ (.bool x.hd.hold)).setCell ⟨b, 3, none⟩ (.bool x.hd.more)).setCell ⟨b, 4, none⟩ (.int .i64 x.hd.at')).setCell ⟨b, 5, none⟩ (.int .u8 (x.hd.ttl : Int))).setCell ⟨b, 6, none⟩ (.int .u8 (x.hd.proto : Int))).setCell ⟨b, 7, none⟩ (.int .u32 (x.hd.frm : Int))).setCell ⟨b, 8, none⟩ (.int .u32 (x.hd.to : Int))).setCell ⟨b, 9, none⟩ (.string x.hd.op)).setCell ⟨b, 10, none⟩ (v)).setCell ⟨b, 11, none⟩ (.int .i64 x.ov)).setCell ⟨b, 12, none⟩ (.bool x.sp))
theorem put13_below {w0 w : World} {B b : Nat} {x : Ga} {v : Value} (h : Below B w0 w) (hb : B ≤ b) : Below B w0 (put13 w b x v) := (Below.setCell (Below.setCell (Below.setCell (Below.setCell (Below.setCell (Below.setCell (Below.setCell (Below.setCell (Below.setCell (Below.setCell (Below.setCell (Below.setCell (Below.setCell h (p := ⟨b, 0, none⟩) hb _) (p := ⟨b, 1, none⟩) hb _) (p := ⟨b, 2, none⟩) hb _) (p := ⟨b, 3, none⟩) hb _) (p := ⟨b, 4, none⟩) hb _) (p := ⟨b, 5, none⟩) hb _) (p := ⟨b, 6, none⟩) hb _) (p := ⟨b, 7, none⟩) hb _) (p := ⟨b, 8, none⟩) hb _) (p := ⟨b, 9, none⟩) hb _) (p := ⟨b, 10, none⟩) hb _) (p := ⟨b, 11, none⟩) hb _) (p := ⟨b, 12, none⟩) hb _)
theorem put13_pv {w : World} {b : Nat} {x : Ga} {v u : Value} {l : List Pt} (h : PV w u l) (hb : u.ownBlock ≠ some b) : PV (put13 w b x v) u l := (PV.set (PV.set (PV.set (PV.set (PV.set (PV.set (PV.set (PV.set (PV.set (PV.set (PV.set (PV.set (PV.set h hb) hb) hb) hb) hb) hb) hb) hb) hb) hb) hb) hb) hb)
theorem own_mono {w : World} {base base' e size n : Nat} {v : Value} {xs : List Value} (h : w.ownsRow base e size v n xs) (hb : base' ≤ base) : w.ownsRow base' e size v n xs := by
  refine ⟨h.1, ?_⟩
  rcases h.2 with h2 | ⟨g, cap, cur, h1, h2, h3⟩
  · exact .inl h2
  · exact .inr ⟨g, cap, cur, h1, Nat.le_trans hb h2, h3⟩
theorem undrew' {w w1 : World} (h : Below w.drew.heap.size w.drew w1) : Below w.heap.size w w1 := (Below.refl _ w).drew.trans h
theorem ins_call {w5 : World} {x : Ga} {p : Pt} {k : Nat} (hl : x.ps.length ≤ 65536) (hk : IxP x.ps p.pa k) (W : World) (sp : Option Addr) (sc vb : Nat) (hb : w5.heap.size ≤ W.heap.size)
    (hown : W.ownsRow w5.heap.size 70 3 (.slice sp x.ps.length sc) x.ps.length (flatP x.ps)) (hvb : W.heap[vb]? = some (.cells #[.int .i64 p.pa, .string p.pd, .bool p.pm] 70 (0, 0))) (hne : (Value.slice sp x.ps.length sc).ownBlock ≠ some vb) :
    Calls Try.prog 56 #[.slice sp x.ps.length sc, .int .i64 (k : Int), .slice (some ⟨vb, 0, none⟩) 1 1] W fun e w' =>
      ∃ sp' n' sc', e = .returned (.slice sp' n' sc') ∧ w'.ownsRow w5.heap.size 70 3 (.slice sp' n' sc') (insP p x.ps).length (flatP (insP p x.ps)) ∧ Below w5.heap.size W w' := by
  refine (insert_any _ x.ps k p vb w5.heap.size W hb hown hl hk.le hvb hne).mono ?_
  rintro e w' ⟨v', rfl, h1, h2⟩
  rw [ins_at p hk] at h1
  obtain ⟨sp', sc', rfl⟩ := rowp_shape h1
  exact ⟨_, _, _, rfl, h1, h2⟩

set_option maxRecDepth 100000 in
set_option maxHeartbeats 4000000 in
theorem with_any0 (x : Ga) (v : Value) (h : Rh) (p : Pt) (w : World) (hv : PV w v x.ps) (hl : x.ps.length ≤ 65536) (hs : SrtP x.ps) (hp : p.pa ≠ 0) :
    Calls Try.prog 42 #[gaV x v, hdV h, ptV p] w fun e w' => ∃ v', e = .returned (gaV ⟨x.hd, insP p x.ps, x.ov, x.sp⟩ v') ∧ PV w' v' (insP p x.ps) ∧ (∀ g, v'.ownBlock = some g → w.heap.size ≤ g) ∧ Below w.heap.size w w' := by
  have W4 : WI w ((((w.alloc (.cells (gaC x v) 59)).alloc (.cells (hdL h).toArray 34)).alloc (.cells #[.int .i64 p.pa, .string p.pd, .bool p.pm] 70)).alloc (.cells ga0C 59)) x v p := by
    have a0 := heap_alloc_new w (.cells (gaC x v) 59)
    have b0 := below_one w (.cells (gaC x v) 59)
    generalize hw1 : w.alloc (.cells (gaC x v) 59) = w1 at *
    have s1 : w1.heap.size = w.heap.size + 1 := by rw [← hw1]; simp
    have b1 := below_one w1 (.cells (hdL h).toArray 34)
    generalize hw2 : w1.alloc (.cells (hdL h).toArray 34) = w2 at *
    have s2 : w2.heap.size = w.heap.size + 1 + 1 := by rw [← hw2]; simp [s1]
    have a2 := heap_alloc_new w2 (.cells #[.int .i64 p.pa, .string p.pd, .bool p.pm] 70)
    have b2 := below_one w2 (.cells #[.int .i64 p.pa, .string p.pd, .bool p.pm] 70)
    generalize hw3 : w2.alloc (.cells #[.int .i64 p.pa, .string p.pd, .bool p.pm] 70) = w3 at *
    have s3 : w3.heap.size = w.heap.size + 1 + 1 + 1 := by rw [← hw3]; simp [s2]
    have a3 := heap_alloc_new w3 (.cells ga0C 59)
    have b3 := below_one w3 (.cells ga0C 59)
    rw [s2] at a2
    rw [s3] at a3
    exact ⟨tr2 (tr2 (tr2 b0 b1) b2) b3, (b3.block _ (by omega)).trans ((b2.block _ (by omega)).trans ((b1.block _ (by omega)).trans a0)), (b3.block _ (by omega)).trans a2, a3⟩
  have hne : ((p.pa : Int) == 0) = false := by simpa using hp
  have HS := hide hs
  have HV := hide hv
  obtain ⟨sp, sc, rfl⟩ := pv_shape hv
  have HQ := hide (fun W (hW : Below w.heap.size w W) => search_any (.slice sp x.ps.length sc) x.ps p.pa W (hv.on hW) hs hl)
  have HC := hide (fun W (hW : Below w.heap.size w W) => clonep_any (.slice sp x.ps.length sc) x.ps W (hv.on hW) hl)
  clear hv hs
  go_enter Try.func42, Try.ntmps42
  go_wp2_with fail
  generalize (((w.alloc _).alloc _).alloc _).alloc _ = w4 at *
  refine (unhide HQ _ W4.bel).mono ?_
  rintro e w5 ⟨⟨k, fb, rfl, hk⟩, b5⟩
  have W5 := W4.on b5
  have HI := hide (ins_call (w5 := w5) hl hk)
  clear hk b5 W4 HQ
  obtain ⟨c0, c1, c2, c3, c4, c5, c6, c7, c8, c9, c10, c11, c12⟩ := W5.gc
  obtain ⟨e0, e1, e2⟩ := W5.pc
  have f10 := W5.fx 10
  have hsz := heap_lt W5.hr
  have hb0 : w.heap.size < w5.heap.size := by omega
  have hb2 : w.heap.size + 1 + 1 < w5.heap.size := by omega
  go_wp2_with fail
  go_region_with (first
    | (go_at_call 57; refine (unhide HC _ (by first | exact W5.bel.drew | exact (tr2 W5.bel (below_one _ _)).drew | exact tr2 W5.bel.drew (below_one _ _))).mono ?_; rintro e w6 ⟨v6, rfl, own6, b6⟩; obtain ⟨sp6, sc6, rfl⟩ := rowp_shape own6; have q6 : Below w5.heap.size w5 w6 := (by first | exact undrew' b6 | exact tr2 (below_one w5 _) (undrew' b6) | exact tr2 (undrew' (below_one w5.drew _)) b6); have W6 := W5.on q6; obtain ⟨g0, g1, g2⟩ := W6.pc)
    | (go_at_call 56; refine (unhide HI _ sp6 sc6 _ (by first | exact q6.size | exact (q6.alloc q6.size _).size) (by first | exact own_mono own6 (by first | exact Nat.le_refl _ | simp) | exact (own_mono own6 (by first | exact Nat.le_refl _ | simp)).alloc _) (by first | exact heap_alloc_new w6 _ | exact (b6.block _ (by simp)).trans (heap_alloc_new w5 _)) (by intro e; have e2 := own6.lt _ e; have e3 : w5.drew.heap.size = w5.heap.size := rfl; simp at e2 <;> omega)).mono ?_; rintro e w7 ⟨sp7, n7, sc7, rfl, own7, b7⟩; have q7 : Below w5.heap.size w5 w7 := (by first | exact q6.trans b7 | exact (q6.alloc q6.size _).trans b7); have W7 := W5.on q7; have k10 := W7.gc.c10; have f7 := W7.fx 10))
  all_goals
    have W8 := W7.put (.slice sp7 n7 sc7)
    have HP8 := hide ((own_pv own7).set (b := w.heap.size) (j := 10) (u := .slice sp7 n7 sc7) (fun e => by have := (own7.lt _ e).1; omega))
    have HO8 := hide (fun (g : Nat) (hg : (Value.slice sp7 n7 sc7).ownBlock = some g) => (own7.lt g hg).1)
    have HZ := hide (show w.heap.size + 1 + 1 + 1 < w5.heap.size by omega)
    clear HI HC own7 b7 q7 W7 k10 f7 W6 g0 g1 g2 q6 own6 b6 c0 c1 c2 c3 c4 c5 c6 c7 c8 c9 c10 c11 c12 e0 e1 e2 f10 hsz hb0 hb2
    generalize w7.setCell _ _ = w8 at *
    obtain ⟨c0, c1, c2, c3, c4, c5, c6, c7, c8, c9, c10, c11, c12⟩ := W8.gc
    obtain ⟨r0, r1, r2, r3, r4, r5, r6, r7, r8, r9, r10, r11, r12⟩ := W8.cr
    have fr := W8.fr
    have HB := hide W8.bel
    clear W8 W5
    go_wp2_with fail
    refine bodyPost_ret (v := gaV ⟨x.hd, insP p x.ps, x.ov, x.sp⟩ (.slice sp7 n7 sc7)) (by simp [results, Try.results42, go_sem, r0, r1, r2, r3, r4, r5, r6, r7, r8, r9, r10, r11, r12]) rfl ?_
    exact ⟨_, rfl, put13_pv (unhide HP8) (fun e => by have := unhide HO8 _ e; have := unhide HZ; omega), fun g hg => by have := unhide HO8 g hg; have := unhide HZ; omega, put13_below (unhide HB) (by omega)⟩

end Go.Proofs.Ytekljiakofmhnaa
