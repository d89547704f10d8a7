/- The contract of the document's Add to a table of routes (layer 11), over the loaded program. -/
import Derived.Test.YtmicgkoicmeflaaRv11
import Derived.Lib.QuietBelow
namespace Go.Proofs.Ytmicgkoicmeflaa
open Go.RowKit

/-- what comes behind what has been laid -/
def restP (r : Rt) : Bool → List Rt → List Rt
  | true, l => l
  | false, l => putR r l
theorem drop_at' {D : List Rt} {k : Nat} (h : k < D.length) : D.drop k = D[k] :: D.drop (k + 1) := List.drop_eq_getElem_cons h
theorem rest_done {r y : Rt} {acc t P : List Rt} (h : P = acc ++ restP r true (y :: t)) : P = (acc ++ [y]) ++ restP r true t := by rw [h]; simp [restP]
theorem rest_not {r y : Rt} {acc t P : List Rt} (h : P = acc ++ restP r false (y :: t)) (hn : ¬ ahd r y) : P = (acc ++ [y]) ++ restP r false t := by
  rw [h]
  show acc ++ putR r (y :: t) = _
  unfold putR
  rw [if_neg hn]
  simp [restP]
theorem rest_now {r y : Rt} {acc t P : List Rt} (h : P = acc ++ restP r false (y :: t)) (hn : ahd r y) : P = ((acc ++ [r]) ++ [y]) ++ restP r true t := by
  rw [h]
  show acc ++ putR r (y :: t) = _
  unfold putR
  rw [if_pos hn]
  simp [restP]
/-- the slice that was there comes back -/
theorem rd_back {w w2 : World} {x : Nat} {L : List Rt} {sv u : Value} (hr : RtsAt w sv L) (hn : ∀ a n c, sv = .slice (some a) n c → L ≠ [] → a.block ≠ x) (hg : w.grownBy w2 (some x)) (hb : w2.heap[x]? = some (.cells #[u] 29 (0, 0))) : RD (w2.setCell ⟨x, 0, none⟩ sv) x L ∧ w.grownBy (w2.setCell ⟨x, 0, none⟩ sv) (some x) :=
  ⟨⟨sv, heap_setCell_same w2 x 0 _ _ sv hb, rts_grown (rts_grown hr hn hg) hn (grown_setCell w2 x sv), hn⟩, grown_trans hg (grown_setCell w2 x sv)⟩
theorem rd_set' {w w2 W : World} {x : Nat} {D L' : List Rt} {v : Value} (h : RD w2 x D) (hg : w.grownBy w2 (some x)) (hB : Below w2.heap.size w2 W) (hrow : W.ownsRow w2.heap.size 32 5 v L'.length (cellsR L')) : RD (W.setCell ⟨x, 0, none⟩ v) x L' ∧ w.grownBy (W.setCell ⟨x, 0, none⟩ v) (some x) := by
  obtain ⟨h1, h2⟩ := rd_set h hB hrow
  exact ⟨h1, grown_trans hg h2⟩
theorem RD.cell {w : World} {x : Nat} {L : List Rt} (h : RD w x L) : ∃ sv, w.cell? ⟨x, 0, none⟩ = some sv ∧ w.frozen? ⟨x, 0, none⟩ = false ∧ RtsAt w sv L := by
  obtain ⟨sv, hb, hr, _⟩ := h
  exact ⟨sv, by simp [World.cell?, hb], by simp [World.frozen?, hb], hr⟩

set_option maxRecDepth 100000 in
set_option maxHeartbeats 1000000 in
theorem radd_no {w : World} {x : Nat} {L : List Rt} (_ : RD w x L) (r : Rt) (hr : Rin r) (hm : ¬ mayR r) :
    Calls Try.prog 11 #[.pointer (some ⟨x, 0, none⟩), rtV r] w fun e w' => e = .returned (.int .i64 2) ∧ Below w.heap.size w w' := by
  have H2 := may_any r (w.alloc (.cells (rtCs r) 32)) hr
  rw [decide_eq_false hm] at H2
  have H2 := hide H2
  have B0 := hide (below_one w (.cells (rtCs r) 32))
  clear hm
  go_enter Try.func11, Try.ntmps11
  go_wp2_with fail
  refine (unhide H2).mono ?_
  rintro e w2 ⟨rfl, b2⟩
  have B2 := hide (tr2 (unhide B0) b2)
  clear b2
  go_wp2_with fail
  go_ret
  exact ⟨rfl, unhide B2⟩

set_option maxRecDepth 100000 in
set_option maxHeartbeats 4000000 in
theorem radd_ok {w : World} {x : Nat} {L : List Rt} (h : RD w x L) (hs : Srt L) (hl : L.length ≤ 1024) (r : Rt) (hr : Rin r) (hm : mayR r) (E : Int) (L' : List Rt) (hE : Hid (addE r L = E ∧ addT r L = L')) :
    Calls Try.prog 11 #[.pointer (some ⟨x, 0, none⟩), rtV r] w fun e w' => e = .returned (.int .i64 E) ∧ RD w' x L' ∧ w.grownBy w' (some x) := by
  obtain ⟨i0, hi, hz0, hz1, hz2⟩ := info_parts (P := Try.prog) (e := 32) (z := rtZ) (size := 5) (bytes := 40) (by kernel_rfl)
  have H2 := may_any r (w.alloc (.cells (rtCs r) 32)) hr
  rw [decide_eq_true hm] at H2
  have H2 := hide H2
  have B0 := hide (below_one w (.cells (rtCs r) 32))
  have e0 := heap_alloc_new w (.cells (rtCs r) 32)
  have hx := h.lt
  have HR := hide h
  have hsz : (w.alloc (.cells (rtCs r) 32)).heap.size = w.heap.size + 1 := by simp
  -- what is told, and what is left
  have HE : Hid ((lookR r.n r.b L).isSome = false → ¬ L.length < 1024 → addE r L = 6 ∧ addT r L = L) := fun a b => by
    have e6 : addE r L = 6 := by
      unfold addE
      rw [if_neg (Classical.not_not.2 hm), if_pos ⟨a, by omega⟩]
    exact ⟨e6, by unfold addT; rw [if_neg (by rw [e6]; decide)]⟩
  have HO : Hid ((lookR r.n r.b L).isSome = true ∨ L.length < 1024 → addE r L = 0 ∧ addT r L = putR r (delR r.n r.b L)) := fun a => by
    have e6 := addE_ok hm a
    exact ⟨e6, by unfold addT; rw [if_pos e6]; rfl⟩
  have HLD : Hid ((lookR r.n r.b L).isSome = false → (delR r.n r.b L).length = L.length) := fun a => by
    have := len_del hs r.n r.b
    rw [a] at this
    simpa using this
  have hDl : (delR r.n r.b L).length ≤ 1024 := Nat.le_trans (List.length_filter_le _ _) hl
  have HDrop := hide (fun W (hW : RD W x L) => rdrop_any hW hs hl r.n r.b)
  clear h hm hs
  generalize delR r.n r.b L = D at *
  generalize (lookR r.n r.b L).isSome = t at *
  go_enter Try.func11, Try.ntmps11
  go_wp2_with fail
  refine (unhide H2).mono ?_
  rintro e w1 ⟨rfl, b1⟩
  have c0 := below_cell (cell_of_row _ _ 0 _ _ _ e0) b1
  have c1 := below_cell (cell_of_row _ _ 1 _ _ _ e0) b1
  have c2 := below_cell (cell_of_row _ _ 2 _ _ _ e0) b1
  have c3 := below_cell (cell_of_row _ _ 3 _ _ _ e0) b1
  have c4 := below_cell (cell_of_row _ _ 4 _ _ _ e0) b1
  have B1 := hide (tr2 (unhide B0) b1)
  have D1 := (unhide HR).below (unhide B1)
  obtain ⟨sv, hb1, hr1, hn1⟩ := D1
  have hcx : w1.cell? ⟨x, 0, none⟩ = some sv := by simp [World.cell?, hb1]
  have HW1 := hide (And.intro hr1 hn1)
  have hbx : w.heap.size ≠ x := by omega
  obtain ⟨sa, scap, rfl⟩ := hr1.slice
  have HDrop := hide (unhide HDrop w1 ((unhide HR).below (unhide B1)))
  clear hr1 hn1 e0 hsz b1 HR H2 B0
  go_wp2_with fail
  refine (unhide HDrop).mono ?_
  rintro e w2 ⟨rfl, D2, g2⟩
  have q0 := keep_cell g2 hbx c0
  have q1 := keep_cell g2 hbx c1
  have q2 := keep_cell g2 hbx c2
  have q3 := keep_cell g2 hbx c3
  have q4 := keep_cell g2 hbx c4
  have hBlt : w.heap.size < w2.heap.size := cell_lt' q0
  have HD2 := hide D2
  have G2 := hide (grown_trans (grown_of (unhide B1) (some x)) g2)
  have G12 := hide g2
  have hx2 := D2.lt
  obtain ⟨u, hb2, hr2, _⟩ := D2
  obtain ⟨ua, ucap, rfl⟩ := hr2.slice
  have hcx2 : w2.cell? ⟨x, 0, none⟩ = some (.slice ua D.length ucap) := by simp [World.cell?, hb2]
  have hfx2 : w2.frozen? ⟨x, 0, none⟩ = false := by simp [World.frozen?, hb2]
  have HR2 := hide hr2
  have HB2 := hide hb2
  clear c0 c1 c2 c3 c4 HDrop g2 hr2 hb1 hb2 hcx B1
  by_cases hfull : t = false ∧ ¬ L.length < 1024
  · obtain ⟨rfl, hge⟩ := hfull
    obtain ⟨e6, eT⟩ := unhide HE rfl hge
    have hDL := unhide HLD rfl
    have d1 : decide ((1024 : Int) ≤ (D.length : Int)) = true := decide_eq_true (by omega)
    obtain rfl : E = 6 := (unhide hE).1.symm.trans e6
    have hLL : L = L' := eT.symm.trans (unhide hE).2
    subst hLL
    have hrn := unhide HW1
    have HF := hide (rd_back hrn.1 hrn.2 (unhide G12) (unhide HB2))
    have G1 : Hid (w.grownBy w2 (some x)) := G2
    have HG := hide (grown_trans (unhide G2) (grown_setCell w2 x (.slice sa L.length scap)))
    clear hrn e6 eT hE hge hDL q0 q1 q2 q3 q4
    go_wp2_with fail
    go_ret
    exact ⟨rfl, (unhide HF).1, unhide HG⟩
  · have hor : t = true ∨ L.length < 1024 := by
      cases t
      · exact .inr (Classical.not_not.1 fun k => hfull ⟨rfl, k⟩)
      · exact .inl rfl
    obtain ⟨e6, eT⟩ := unhide HO hor
    obtain rfl : E = 0 := (unhide hE).1.symm.trans e6
    obtain rfl : L' = putR r D := (unhide hE).2.symm.trans eT
    have HG : Hid (t = false → decide ((1024 : Int) ≤ (D.length : Int)) = false) := fun a => by
      have := unhide HLD a
      refine decide_eq_false ?_
      rcases hor with b | b
      · rw [a] at b; cases b
      · omega
    clear hfull hor e6 eT HE HO HLD hE
    cases t
    all_goals
      first
        | (have d1 := unhide HG rfl)
        | skip
      go_wp2_with fail
      go_loopw [7, 8, 9] (fun v d i wr => ∃ (k : Nat) (acc : List Rt) (t : Bool), k ≤ D.length ∧ i = .int .i64 (k : Int) ∧ d = .bool t ∧ Hid (acc.length ≤ k + t.toNat ∧ putR r D = acc ++ restP r t (D.drop k)) ∧ wr.ownsRow w2.heap.size 32 5 v acc.length (cellsR acc) ∧ Below w2.heap.size w2 wr) (fun _ _ i _ => D.length - (intOf i).toNat)
      case atStart => exact ⟨0, [], false, Nat.zero_le _, rfl, rfl, ⟨Nat.zero_le _, rfl⟩, World.ownsRow_nil _ _ _ _, Below.refl _ _⟩
      case round =>
        obtain ⟨k, acc, tt, hk, rfl, rfl, hI, hown, hB⟩ := hrel
        have hcw := (hB.cell (p := ⟨x, 0, none⟩) hx2).trans hcx2
        have p0 := (hB.cell (p := ⟨w.heap.size, 0, none⟩) hBlt).trans q0
        have p1 := (hB.cell (p := ⟨w.heap.size, 1, none⟩) hBlt).trans q1
        have p2 := (hB.cell (p := ⟨w.heap.size, 2, none⟩) hBlt).trans q2
        have p3 := (hB.cell (p := ⟨w.heap.size, 3, none⟩) hBlt).trans q3
        have p4 := (hB.cell (p := ⟨w.heap.size, 4, none⟩) hBlt).trans q4
        have hacc : acc.length ≤ 1025 := by have := (unhide hI).1; cases tt <;> simp at this <;> omega
        obtain ⟨m, hm⟩ : ∃ m, acc.length = m := ⟨_, rfl⟩
        rw [hm] at hown hacc
        have HM := hide hm
        clear hm
        have hsw := hB.size
        have hlt1 := hown.lt
        by_cases hlt : k < D.length
        · have hkI : (k : Int) < (D.length : Int) := by omega
          obtain ⟨g, off, rfl, _, hg, z0, z1, z2, z3, z4⟩ := rts_cells (unhide HR2) hlt
          have y0 := (hB.cell (p := ⟨g, off + k * 5, none⟩) hg).trans z0
          have y1 := (hB.cell (p := ⟨g, off + k * 5 + 1, none⟩) hg).trans z1
          have y2 := (hB.cell (p := ⟨g, off + k * 5 + 2, none⟩) hg).trans z2
          have y3 := (hB.cell (p := ⟨g, off + k * 5 + 3, none⟩) hg).trans z3
          have y4 := (hB.cell (p := ⟨g, off + k * 5 + 4, none⟩) hg).trans z4
          have HDk := hide (drop_at' hlt)
          obtain ⟨y, hy⟩ : ∃ y, y = D[k] := ⟨_, rfl⟩
          rw [← hy] at y0 y1 y2 y3 y4 HDk
          have HC : Hid (∀ W, Below w2.heap.size w2 W → W.cell? ⟨x, 0, none⟩ = some (.slice (some ⟨g, off, none⟩) D.length ucap) ∧ W.cell? ⟨g, off + k * 5, none⟩ = some (.int .u32 (y.n : Int)) ∧ W.cell? ⟨g, off + k * 5 + 1, none⟩ = some (.int .i64 y.b) ∧ W.cell? ⟨g, off + k * 5 + 2, none⟩ = some (.int .u32 (y.v : Int)) ∧ W.cell? ⟨g, off + k * 5 + 3, none⟩ = some (.int .i64 y.c) ∧ W.cell? ⟨g, off + k * 5 + 4, none⟩ = some (.int .u32 (y.s : Int))) := fun W hb => by
            rw [← hy] at z0 z1 z2 z3 z4
            exact ⟨(hb.cell (p := ⟨x, 0, none⟩) hx2).trans hcx2, (hb.cell (p := ⟨g, off + k * 5, none⟩) hg).trans z0, (hb.cell (p := ⟨g, off + k * 5 + 1, none⟩) hg).trans z1, (hb.cell (p := ⟨g, off + k * 5 + 2, none⟩) hg).trans z2, (hb.cell (p := ⟨g, off + k * 5 + 3, none⟩) hg).trans z3, (hb.cell (p := ⟨g, off + k * 5 + 4, none⟩) hg).trans z4⟩
          clear hy z0 z1 z2 z3 z4
          cases tt with
          | true =>
            have HI2 : Hid ((acc ++ [y]).length ≤ k + 1 + true.toNat ∧ putR r D = (acc ++ [y]) ++ restP r true (D.drop (k + 1))) := ⟨by rw [List.length_append]; have := (unhide hI).1; simp at this; simp; omega, rest_done (by have := (unhide hI).2; rwa [unhide HDk] at this)⟩
            go_wp2_with fail
            go_quiet (fail)
            have hcw2 : (wr.drewN nq).cell? ⟨x, 0, none⟩ = some (.slice (some ⟨g, off, none⟩) D.length ucap) := hcw
            have y0 := below_cell y0 (below_drewN wr nq)
            have y1 := below_cell y1 (below_drewN wr nq)
            have y2 := below_cell y2 (below_drewN wr nq)
            have y3 := below_cell y3 (below_drewN wr nq)
            have y4 := below_cell y4 (below_drewN wr nq)
            have hown2 := row_below hown (below_drewN wr nq)
            have hB2 := tr2 hB (below_drewN wr nq)
            have hsw2 := hB2.size
            have hlt2 := hown2.lt
            generalize wr.drewN nq = wq at *
            go_wp2_with (at_builtin; refine wpList_append_lies _ rfl _ _ 27 rfl w2.heap.size 32 i0 _ 5 40 Try.underlying27 hi hz0 hz1 hz2 rfl (by decide) u7 m _ rfl (hown2.alloc _) ⟨wq.heap.size, 0, none⟩ 1 1 (rtCs y).toList rfl rfl (five_news _ _ _ _ _ _ _) (by intro u hu; simp at hu; rcases hu with rfl | rfl | rfl | rfl | rfl <;> rfl) (by decide) (by unfold maxLen; omega) (by omega) (by simp; omega) _ rfl ?_; intro g3 cap3 w5 hown5 hgrow5 hat5 hlt5)
            have hB5 := (hB2.alloc hsw2 (.cells (rtCs y) 32)).grown hgrow5 (by simp; omega) (fun j hj => (hlt2 j hj).1)
            refine ⟨⟨k + 1, acc ++ [y], true, by omega, by go_num, rfl, unhide HI2, ?_, hB5⟩, ?_⟩
            · rw [cellsR_snoc, List.length_append, unhide HM]
              exact hown5
            · simp [intOf]
              omega
          | false => 
            have HAH := fun W => ahead_any r y W
            by_cases ha : ahd r y
            · rw [decide_eq_true ha] at HAH
              have HI2 : Hid (((acc ++ [r]) ++ [y]).length ≤ k + 1 + true.toNat ∧ putR r D = ((acc ++ [r]) ++ [y]) ++ restP r true (D.drop (k + 1))) := ⟨by rw [List.length_append, List.length_append]; have := (unhide hI).1; simp at this; simp; omega, rest_now (by have := (unhide hI).2; rwa [unhide HDk] at this) ha⟩
              have HAH := hide HAH
              clear ha
              go_wp2_with fail
              have hcwr := cell_regrown hcw
              have r0 := cell_regrown p0
              have r1 := cell_regrown p1
              have r2 := cell_regrown p2
              have r3 := cell_regrown p3
              have r4 := cell_regrown p4
              have s0 := cell_regrown y0
              have s1 := cell_regrown y1
              have s2 := cell_regrown y2
              have s3 := cell_regrown y3
              have s4 := cell_regrown y4
              have qa := rgB (w := wr) (unhide HAH)
              refine wp_region_quiet_below (by kernel_rfl) (by kernel_rfl) ?_
              repeat (go_big_quiet_step (fail))
              go_big_quiet_step (exact qa _ _)
              repeat (go_big_quiet_step (fail))
              refine wpQuiet_nil ?_
              intro _ hw'
              obtain ⟨⟨dq, osq⟩, hw''⟩ := hw'
              subst hw''
              clear hcwr r0 r1 r2 r3 r4 s0 s1 s2 s3 s4 qa
              have BQ := below_regrown wr dq osq
              have hcw := below_cell hcw BQ
              have p0 := below_cell p0 BQ
              have p1 := below_cell p1 BQ
              have p2 := below_cell p2 BQ
              have p3 := below_cell p3 BQ
              have p4 := below_cell p4 BQ
              have y0 := below_cell y0 BQ
              have y1 := below_cell y1 BQ
              have y2 := below_cell y2 BQ
              have y3 := below_cell y3 BQ
              have y4 := below_cell y4 BQ
              have hown2 := row_below hown BQ
              have hB2 := tr2 hB BQ
              have hsw2 := hB2.size
              have hlt2 := hown2.lt
              clear BQ
              generalize Sort.grow (redrawn wr dq) osq = wq at *
              have tok1 := trivial
              clear hown hB
              go_wp2_with (first
                | (at_builtin; have _t := tok1; refine wpList_append_lies _ rfl _ _ 27 rfl w2.heap.size 32 i0 _ 5 40 Try.underlying27 hi hz0 hz1 hz2 rfl (by decide) u7 m _ rfl (hown2.alloc _) ⟨wq.heap.size, 0, none⟩ 1 1 (rtCs r).toList rfl rfl (five_news _ _ _ _ _ _ _) (by intro u hu; simp at hu; rcases hu with rfl | rfl | rfl | rfl | rfl <;> rfl) (by decide) (by unfold maxLen; omega) (by omega) (by simp; omega) _ rfl ?_; intro g3 cap3 w5 hown5 hgrow5 hat5 hlt5; have hB5 := (hB2.alloc hsw2 (.cells (rtCs r) 32)).grown hgrow5 (by simp; omega) (fun j hj => (hlt2 j hj).1); clear hcw y0 y1 y2 y3 y4; obtain ⟨hcw, y0, y1, y2, y3, y4⟩ := unhide HC w5 hB5; have hsw5 := hB5.size; have hlt5' := hown5.lt; clear tok1 hown2 hgrow5 hlt2)
                | (at_builtin; refine wpList_append_lies _ rfl _ _ 27 rfl w2.heap.size 32 i0 _ 5 40 Try.underlying27 hi hz0 hz1 hz2 rfl (by decide) (.slice (some ⟨g3, 0, none⟩) (m + 1) cap3) (m + 1) _ rfl (hown5.alloc _) ⟨w5.heap.size, 0, none⟩ 1 1 (rtCs y).toList rfl rfl (five_news _ _ _ _ _ _ _) (by intro u hu; simp at hu; rcases hu with rfl | rfl | rfl | rfl | rfl <;> rfl) (by decide) (by unfold maxLen; omega) (by omega) (by simp; omega) _ rfl ?_; intro g4 cap4 w6 hown6 hgrow6 hat6 hlt6))
              have hB6 := (hB5.alloc hsw5 (.cells (rtCs y) 32)).grown hgrow6 (by simp; omega) (fun j hj => (hlt5' j hj).1)
              refine ⟨⟨k + 1, (acc ++ [r]) ++ [y], true, by omega, by go_num, rfl, unhide HI2, ?_, hB6⟩, ?_⟩
              · rw [cellsR_snoc, cellsR_snoc, List.length_append, List.length_append, unhide HM]
                exact hown6
              · simp [intOf]
                omega
            · rw [decide_eq_false ha] at HAH
              have HI2 : Hid ((acc ++ [y]).length ≤ k + 1 + false.toNat ∧ putR r D = (acc ++ [y]) ++ restP r false (D.drop (k + 1))) := ⟨by rw [List.length_append]; have := (unhide hI).1; simp at this; simp; omega, rest_not (by have := (unhide hI).2; rwa [unhide HDk] at this) ha⟩
              have HAH := hide HAH
              clear ha
              go_wp2_with fail
              have hcwr := cell_regrown hcw
              have r0 := cell_regrown p0
              have r1 := cell_regrown p1
              have r2 := cell_regrown p2
              have r3 := cell_regrown p3
              have r4 := cell_regrown p4
              have s0 := cell_regrown y0
              have s1 := cell_regrown y1
              have s2 := cell_regrown y2
              have s3 := cell_regrown y3
              have s4 := cell_regrown y4
              have qa := rgB (w := wr) (unhide HAH)
              refine wp_region_quiet_below (by kernel_rfl) (by kernel_rfl) ?_
              repeat (go_big_quiet_step (fail))
              go_big_quiet_step (exact qa _ _)
              repeat (go_big_quiet_step (fail))
              refine wpQuiet_nil ?_
              intro _ hw'
              obtain ⟨⟨dq, osq⟩, hw''⟩ := hw'
              subst hw''
              clear hcwr r0 r1 r2 r3 r4 s0 s1 s2 s3 s4 qa
              have BQ := below_regrown wr dq osq
              have hcw := below_cell hcw BQ
              have p0 := below_cell p0 BQ
              have p1 := below_cell p1 BQ
              have p2 := below_cell p2 BQ
              have p3 := below_cell p3 BQ
              have p4 := below_cell p4 BQ
              have y0 := below_cell y0 BQ
              have y1 := below_cell y1 BQ
              have y2 := below_cell y2 BQ
              have y3 := below_cell y3 BQ
              have y4 := below_cell y4 BQ
              have hown2 := row_below hown BQ
              have hB2 := tr2 hB BQ
              have hsw2 := hB2.size
              have hlt2 := hown2.lt
              clear BQ
              generalize Sort.grow (redrawn wr dq) osq = wq at *
              clear hown hB
              go_wp2_with (at_builtin; refine wpList_append_lies _ rfl _ _ 27 rfl w2.heap.size 32 i0 _ 5 40 Try.underlying27 hi hz0 hz1 hz2 rfl (by decide) u7 m _ rfl (hown2.alloc _) ⟨wq.heap.size, 0, none⟩ 1 1 (rtCs y).toList rfl rfl (five_news _ _ _ _ _ _ _) (by intro u hu; simp at hu; rcases hu with rfl | rfl | rfl | rfl | rfl <;> rfl) (by decide) (by unfold maxLen; omega) (by omega) (by simp; omega) _ rfl ?_; intro g3 cap3 w5 hown5 hgrow5 hat5 hlt5)
              have hB5 := (hB2.alloc hsw2 (.cells (rtCs y) 32)).grown hgrow5 (by simp; omega) (fun j hj => (hlt2 j hj).1)
              refine ⟨⟨k + 1, acc ++ [y], false, by omega, by go_num, rfl, unhide HI2, ?_, hB5⟩, ?_⟩
              · rw [cellsR_snoc, List.length_append, unhide HM]
                exact hown5
              · simp [intOf]
                omega
        · obtain rfl : k = D.length := by omega
          have hfx : wr.frozen? ⟨x, 0, none⟩ = false := by rw [← hfx2]; exact hB.frozen (p := ⟨x, 0, none⟩) hx2
          have hI2 := (unhide hI).2
          rw [List.drop_length] at hI2
          cases tt with
          | true =>
            have hI3 : putR r D = acc := by rw [hI2]; simp [restP]
            rw [← unhide HM, ← hI3] at hown
            obtain ⟨sp, sc, rfl⟩ := row_shape hown
            have HF := hide (rd_set' (unhide HD2) (unhide G2) hB hown)
            clear hown hI2 hI3 hlt
            go_wp2_with fail
            go_ret
            exact ⟨rfl, unhide HF⟩
          | false =>
            have hI3 : putR r D = acc ++ [r] := by rw [hI2]; rfl
            clear hI2 hlt
            go_wp2_with (at_builtin; refine wpList_append_lies _ rfl _ _ 27 rfl w2.heap.size 32 i0 _ 5 40 Try.underlying27 hi hz0 hz1 hz2 rfl (by decide) u7 m _ rfl (hown.alloc _) ⟨wr.heap.size, 0, none⟩ 1 1 (rtCs r).toList rfl rfl (five_news _ _ _ _ _ _ _) (by intro u hu; simp at hu; rcases hu with rfl | rfl | rfl | rfl | rfl <;> rfl) (by decide) (by unfold maxLen; omega) (by omega) (by simp; omega) _ rfl ?_; intro g3 cap3 w5 hown5 hgrow5 hat5 hlt5; have hB5 := (hB.alloc hsw (.cells (rtCs r) 32)).grown hgrow5 (by simp; omega) (fun j hj => (hlt1 j hj).1); have HF := hide (rd_set' (v := .slice (some ⟨g3, 0, none⟩) (m + 1) cap3) (L' := putR r D) (unhide HD2) (unhide G2) hB5 (by rw [hI3, cellsR_snoc, List.length_append, unhide HM]; exact hown5)); have hc5 := (hB5.cell (p := ⟨x, 0, none⟩) hx2).trans hcx2; have hf5 : w5.frozen? ⟨x, 0, none⟩ = false := (by rw [← hfx2]; exact hB5.frozen (p := ⟨x, 0, none⟩) hx2); clear hown5 hgrow5 hB5)
            go_ret
            exact ⟨rfl, unhide HF⟩

theorem radd_any {w : World} {x : Nat} {L : List Rt} (h : RD w x L) (hL : OkL L) (r : Rt) (hr : Rin r) :
    Calls Try.prog 11 #[.pointer (some ⟨x, 0, none⟩), rtV r] w fun e w' => e = .returned (.int .i64 (addE r L)) ∧ RD w' x (addT r L) ∧ w.grownBy w' (some x) := by
  by_cases hm : mayR r
  · exact radd_ok h hL.srt hL.len r hr hm _ _ ⟨rfl, rfl⟩
  · have e0 : addE r L = 2 := if_pos hm
    unfold addT
    rw [e0, if_neg (by decide)]
    exact (radd_no h r hr hm).mono fun _ _ k => ⟨k.1, h.below k.2, grown_of k.2 _⟩
end Go.Proofs.Ytmicgkoicmeflaa
