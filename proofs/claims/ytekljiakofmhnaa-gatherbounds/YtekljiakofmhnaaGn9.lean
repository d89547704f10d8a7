/- The contract of gathering.with for the part at 0, over the loaded program: what comes back is memory of the call's own; no memory that was there has turned. -/
import Derived.Test.YtekljiakofmhnaaGn8
import Derived.Deep.Cut
namespace Go.Proofs.Ytekljiakofmhnaa
open Go.RowKit

/-- a head written to a box, cell by cell -/
abbrev put10 (w : World) (b : Nat) (h : Rh) : World := ((((((((((w.setCell ⟨b, 0, none⟩ (.int .u8 (h.tos : Int))).setCell ⟨b, 1, none⟩ (.int .u16 (h.id : Int))).setCell ⟨b, 2, none⟩ (.bool h.hold)).setCell ⟨b, 3, none⟩ (.bool h.more)).setCell ⟨b, 4, none⟩ (.int .i64 h.at')).setCell ⟨b, 5, none⟩ (.int .u8 (h.ttl : Int))).setCell ⟨b, 6, none⟩ (.int .u8 (h.proto : Int))).setCell ⟨b, 7, none⟩ (.int .u32 (h.frm : Int))).setCell ⟨b, 8, none⟩ (.int .u32 (h.to : Int))).setCell ⟨b, 9, none⟩ (.string h.op))
structure WX (w0 w : World) (a : Array Value) (p : Pt) : Prop where
  bel : Below w0.heap.size w0 w
  hx : w.heap[w0.heap.size]? = some (.cells a 59 (0, 0))
  hp : w.heap[w0.heap.size + 1 + 1]? = some (.cells #[.int .i64 p.pa, .string p.pd, .bool p.pm] 70 (0, 0))
  hr : w.heap[w0.heap.size + 1 + 1 + 1]? = some (.cells ga0C 59 (0, 0))
theorem WX.set {w0 w : World} {a : Array Value} {p : Pt} (k : WX w0 w a p) (j : Nat) (u : Value) : WX w0 (w.setCell ⟨w0.heap.size, j, none⟩ u) (a.setIfInBounds j u) p :=
  ⟨k.bel.setCell (p := ⟨w0.heap.size, j, none⟩) (Nat.le_refl _) _, heap_setCell_same w w0.heap.size j a _ u k.hx, (heap_setCell_other w ⟨w0.heap.size, j, none⟩ _ u (by show _ ≠ w0.heap.size; omega)).trans k.hp, (heap_setCell_other w ⟨w0.heap.size, j, none⟩ _ u (by show _ ≠ w0.heap.size; omega)).trans k.hr⟩
theorem WI.hd {w0 w : World} {x : Ga} {v : Value} {p : Pt} (k : WI w0 w x v p) (h : Rh) : WI w0 (put10 w w0.heap.size h) ⟨h, x.ps, x.ov, x.sp⟩ v p := by
  have q0 : WX w0 w (gaC x v) p := ⟨k.bel, k.hx, k.hp, k.hr⟩
  have q := ((((((((((q0.set 0 (.int .u8 (h.tos : Int))).set 1 (.int .u16 (h.id : Int))).set 2 (.bool h.hold)).set 3 (.bool h.more)).set 4 (.int .i64 h.at')).set 5 (.int .u8 (h.ttl : Int))).set 6 (.int .u8 (h.proto : Int))).set 7 (.int .u32 (h.frm : Int))).set 8 (.int .u32 (h.to : Int))).set 9 (.string h.op))
  have e : (((((((((((gaC x v).setIfInBounds 0 (.int .u8 (h.tos : Int))).setIfInBounds 1 (.int .u16 (h.id : Int))).setIfInBounds 2 (.bool h.hold)).setIfInBounds 3 (.bool h.more)).setIfInBounds 4 (.int .i64 h.at')).setIfInBounds 5 (.int .u8 (h.ttl : Int))).setIfInBounds 6 (.int .u8 (h.proto : Int))).setIfInBounds 7 (.int .u32 (h.frm : Int))).setIfInBounds 8 (.int .u32 (h.to : Int))).setIfInBounds 9 (.string h.op)) = gaC ⟨h, x.ps, x.ov, x.sp⟩ v := by simp
  rw [e] at q
  exact ⟨q.bel, q.hx, q.hp, q.hr⟩

set_option maxRecDepth 100000 in
set_option maxHeartbeats 4000000 in
theorem with_any1 (x : Ga) (v : Value) (h : Rh) (pd : ByteArray) (pm : Bool) (w : World) (hv : PV w v x.ps) (hl : x.ps.length ≤ 65536) (hs : SrtP x.ps) :
    Calls Try.prog 42 #[gaV x v, hdV h, ptV ⟨0, pd, pm⟩] w fun e w' => ∃ v', e = .returned (gaV ⟨h, insP ⟨0, pd, pm⟩ x.ps, x.ov, x.sp⟩ v') ∧ PV w' v' (insP ⟨0, pd, pm⟩ x.ps) ∧ (∀ g, v'.ownBlock = some g → w.heap.size ≤ g) ∧ Below w.heap.size w w' := by
  have W4 : WI w ((((w.alloc (.cells (gaC x v) 59)).alloc (.cells (hdL h).toArray 34)).alloc (.cells #[.int .i64 0, .string pd, .bool pm] 70)).alloc (.cells ga0C 59)) x v ⟨0, pd, pm⟩ ∧ HC ((((w.alloc (.cells (gaC x v) 59)).alloc (.cells (hdL h).toArray 34)).alloc (.cells #[.int .i64 0, .string pd, .bool pm] 70)).alloc (.cells ga0C 59)) (w.heap.size + 1) h := by
    have a0 := heap_alloc_new w (.cells (gaC x v) 59)
    have b0 := below_one w (.cells (gaC x v) 59)
    generalize hw1 : w.alloc (.cells (gaC x v) 59) = w1 at *
    have s1 : w1.heap.size = w.heap.size + 1 := by rw [← hw1]; simp
    have b1 := below_one w1 (.cells (hdL h).toArray 34)
    generalize hw2 : w1.alloc (.cells (hdL h).toArray 34) = w2 at *
    have s2 : w2.heap.size = w.heap.size + 1 + 1 := by rw [← hw2]; simp [s1]
    have a2 := heap_alloc_new w2 (.cells #[.int .i64 0, .string pd, .bool pm] 70)
    have b2 := below_one w2 (.cells #[.int .i64 0, .string pd, .bool pm] 70)
    generalize hw3 : w2.alloc (.cells #[.int .i64 0, .string pd, .bool pm] 70) = w3 at *
    have s3 : w3.heap.size = w.heap.size + 1 + 1 + 1 := by rw [← hw3]; simp [s2]
    have a3 := heap_alloc_new w3 (.cells ga0C 59)
    have b3 := below_one w3 (.cells ga0C 59)
    rw [s2] at a2
    rw [s3] at a3
    have h1 : HC w2 (w.heap.size + 1) h := by
      have := HC.box w1 h 34
      rw [hw2, s1] at this
      exact this
    exact ⟨⟨tr2 (tr2 (tr2 b0 b1) b2) b3, (b3.block _ (by omega)).trans ((b2.block _ (by omega)).trans ((b1.block _ (by omega)).trans a0)), (b3.block _ (by omega)).trans a2, a3⟩, (h1.on b2).on b3⟩
  obtain ⟨W4, HH⟩ := W4
  have HS := hide hs
  have HV := hide hv
  obtain ⟨sp, sc, rfl⟩ := pv_shape hv
  have HQ := hide (fun W (hW : Below w.heap.size w W) => search_any (.slice sp x.ps.length sc) x.ps 0 W (hv.on hW) hs hl)
  have HC := hide (fun W (hW : Below w.heap.size w W) => clonep_any (.slice sp x.ps.length sc) x.ps W (hv.on hW) hl)
  clear hv hs
  go_enter Try.func42, Try.ntmps42
  go_upto_if 11 with fail
  generalize (((w.alloc _).alloc _).alloc _).alloc _ = w4 at *
  obtain ⟨c0, c1, c2, c3, c4, c5, c6, c7, c8, c9, c10, c11, c12⟩ := W4.gc
  obtain ⟨i0, i1, i2, i3, i4, i5, i6, i7, i8, i9⟩ := HH
  obtain ⟨e0, e1, e2⟩ := W4.pc
  have ff := W4.fx
  have W4 := W4.hd h
  have c10' := W4.gc.c10
  have e0' := W4.pc.c0
  go_wp2_with fail
  clear c0 c1 c2 c3 c4 c5 c6 c7 c8 c9 c10 c11 c12 i0 i1 i2 i3 i4 i5 i6 i7 i8 i9 e0 e1 e2 ff c10' e0'
  obtain ⟨w4', hw4⟩ : ∃ w4', w4' = put10 w4 w.heap.size h := ⟨_, rfl⟩
  rw [← hw4] at W4
  unfold put10 at hw4
  rw [← hw4]
  clear hw4
  refine (unhide HQ _ W4.bel).mono ?_
  rintro e w5 ⟨⟨k, fb, rfl, hk⟩, b5⟩
  have W5 := W4.on b5
  have HI := hide (ins_call (w5 := w5) (x := x) (p := ⟨0, pd, pm⟩) hl hk)
  clear hk b5 W4 HQ
  obtain ⟨c0, c1, c2, c3, c4, c5, c6, c7, c8, c9, c10, c11, c12⟩ := W5.gc
  simp only at c0 c1 c2 c3 c4 c5 c6 c7 c8 c9 c10 c11 c12
  obtain ⟨e0, e1, e2⟩ := W5.pc
  simp only at e0 e1 e2
  have f10 := W5.fx 10
  have hsz := heap_lt W5.hr
  have hb0 : w.heap.size < w5.heap.size := by omega
  have hb2 : w.heap.size + 1 + 1 < w5.heap.size := by omega
  go_wp2_with fail
  go_region_with (first
    | (go_at_call 57; refine (unhide HC _ (by first | exact W5.bel.drew | exact (tr2 W5.bel (below_one _ _)).drew | exact tr2 W5.bel.drew (below_one _ _))).mono ?_; rintro e w6 ⟨v6, rfl, own6, b6⟩; obtain ⟨sp6, sc6, rfl⟩ := rowp_shape own6; have q6 : Below w5.heap.size w5 w6 := (by first | exact undrew' b6 | exact tr2 (below_one w5 _) (undrew' b6) | exact tr2 (undrew' (below_one w5.drew _)) b6); have W6 := W5.on q6; obtain ⟨g0, g1, g2⟩ := W6.pc; simp only at g0 g1 g2)
    | (go_at_call 56; refine (unhide HI _ sp6 sc6 _ (by first | exact q6.size | exact (q6.alloc q6.size _).size) (by first | exact own_mono own6 (by first | exact Nat.le_refl _ | simp) | exact (own_mono own6 (by first | exact Nat.le_refl _ | simp)).alloc _) (by first | exact heap_alloc_new w6 _ | exact (b6.block _ (by simp)).trans (heap_alloc_new w5 _)) (by intro e; have e2 := own6.lt _ e; have e3 : w5.drew.heap.size = w5.heap.size := rfl; simp at e2 <;> omega)).mono ?_; rintro e w7 ⟨sp7, n7, sc7, rfl, own7, b7⟩; have q7 : Below w5.heap.size w5 w7 := (by first | exact q6.trans b7 | exact (q6.alloc q6.size _).trans b7); have W7 := W5.on q7; have k10 := W7.gc.c10; have f7 := W7.fx 10))
  all_goals
    have W8 := W7.put (.slice sp7 n7 sc7)
    have HP8 := hide ((own_pv own7).set (b := w.heap.size) (j := 10) (u := .slice sp7 n7 sc7) (fun e => by have := (own7.lt _ e).1; omega))
    have HO8 := hide (fun (g : Nat) (hg : (Value.slice sp7 n7 sc7).ownBlock = some g) => (own7.lt g hg).1)
    have HZ := hide (show w.heap.size + 1 + 1 + 1 < w5.heap.size by omega)
    clear HI HC own7 b7 q7 W7 k10 f7 W6 g0 g1 g2 q6 own6 b6 c0 c1 c2 c3 c4 c5 c6 c7 c8 c9 c10 c11 c12 e0 e1 e2 f10 hsz hb0 hb2
    obtain ⟨w8, hw8⟩ : ∃ w8, w8 = w7.setCell ⟨w.heap.size, 10, none⟩ (.slice sp7 n7 sc7) := ⟨_, rfl⟩
    rw [← hw8] at W8 HP8
    rw [← hw8]
    clear hw8
    obtain ⟨c0, c1, c2, c3, c4, c5, c6, c7, c8, c9, c10, c11, c12⟩ := W8.gc
    simp only at c0 c1 c2 c3 c4 c5 c6 c7 c8 c9 c10 c11 c12
    obtain ⟨r0, r1, r2, r3, r4, r5, r6, r7, r8, r9, r10, r11, r12⟩ := W8.cr
    have fr := W8.fr
    have HB := hide W8.bel
    clear W8 W5
    go_wp2_with fail
    refine bodyPost_ret (v := gaV ⟨h, insP ⟨0, pd, pm⟩ x.ps, x.ov, x.sp⟩ (.slice sp7 n7 sc7)) (by simp [results, Try.results42, go_sem, r0, r1, r2, r3, r4, r5, r6, r7, r8, r9, r10, r11, r12]) rfl ?_
    exact ⟨_, rfl, put13_pv (x := ⟨h, x.ps, x.ov, x.sp⟩) (unhide HP8) (fun e => by have := unhide HO8 _ e; have := unhide HZ; omega), fun g hg => by have := unhide HO8 g hg; have := unhide HZ; omega, put13_below (x := ⟨h, x.ps, x.ov, x.sp⟩) (unhide HB) (by omega)⟩

theorem with_any (x : Ga) (v : Value) (h : Rh) (p : Pt) (w : World) (hv : PV w v x.ps) (hl : x.ps.length ≤ 65536) (hs : SrtP x.ps) :
    Calls Try.prog 42 #[gaV x v, hdV h, ptV p] w fun e w' => ∃ v', e = .returned (gaV (withG x h p) v') ∧ PV w' v' (insP p x.ps) ∧ (∀ g, v'.ownBlock = some g → w.heap.size ≤ g) ∧ Below w.heap.size w w' := by
  unfold withG
  by_cases hp : p.pa = 0
  · rw [if_pos hp]
    obtain ⟨pa, pd, pm⟩ := p
    simp only at hp
    subst hp
    exact with_any1 x v h pd pm w hv hl hs
  · rw [if_neg hp]
    exact with_any0 x v h p w hv hl hs hp

end Go.Proofs.Ytekljiakofmhnaa
