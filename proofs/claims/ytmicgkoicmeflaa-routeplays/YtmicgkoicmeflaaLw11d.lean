/- The statement RoutePlays of layer 11, as a contract over the loaded program. -/
import Derived.Test.YtmicgkoicmeflaaLw11c
import Derived.Test.YtmicgkoicmeflaaRxg
import Derived.Deep.Cut
import Derived.Deep.CutBlock
import Derived.Deep.CutRange
namespace Go.Proofs.Ytmicgkoicmeflaa
open Go.RowKit

theorem getD_set_self {l : Array Bool} {i : Nat} (h : l.getD i true = false) : (l.setIfInBounds i true).getD i false = true := by
  have hi : i < l.size := by
    apply Classical.byContradiction
    intro hn
    simp [Array.getD, hn] at h
  simp [Array.getD, hi]
/-- what memory holds while both tables are told of a route, the one by operation i, the other by operation j -/
structure TW (w0 : World) (p b x q : Nat) (r : Rt) (L T : List Rt) (i j : Nat) (l : Array Bool) (W : World) : Prop where
  pt : PT W p b (if l.getD i false = true then T else L)
  rd : RD W x (if l.getD j false = true then T else L)
  bel : Below w0.heap.size w0 W
  box : W.heap[q]? = some (.cells (rtCs r) 32 (0, 0))
  nb : w0.heap.size ≤ b
  nx : w0.heap.size ≤ x
  px : p ≠ x
  bx : b ≠ x
  qx : q ≠ x
  qb : q ≠ b
section
variable {w0 W w' : World} {p b x q : Nat} {r : Rt} {L T : List Rt} {i j : Nat} {l : Array Bool}
theorem TW.same (h : TW w0 p b x q r L T i j l W) {k : Nat} (h1 : k ≠ i) (h2 : k ≠ j) : TW w0 p b x q r L T i j (l.setIfInBounds k true) W := by
  refine ⟨?_, ?_, h.bel, h.box, h.nb, h.nx, h.px, h.bx, h.qx, h.qb⟩
  · rw [getD_upd h1]; exact h.pt
  · rw [getD_upd h2]; exact h.rd
theorem TW.ptL (h : TW w0 p b x q r L T i j l W) (hu : l.getD i true = false) : PT W p b L := by
  have := h.pt
  rwa [getD_ft hu, if_neg (by decide)] at this
theorem TW.rdL (h : TW w0 p b x q r L T i j l W) (hu : l.getD j true = false) : RD W x L := by
  have := h.rd
  rwa [getD_ft hu, if_neg (by decide)] at this
theorem TW.atI (h : TW w0 p b x q r L T i j l W) (hu : l.getD i true = false) (hij : i ≠ j) (hP : PT w' p b T) (g : W.grownBy w' (some b)) : TW w0 p b x q r L T i j (l.setIfInBounds i true) w' := by
  obtain ⟨es, c, hm⟩ := h.pt.isMap
  refine ⟨?_, ?_, h.bel.trans (grown_below g h.bel.size h.nb), ?_, h.nb, h.nx, h.px, h.bx, h.qx, h.qb⟩
  · rw [getD_set_self hu, if_pos rfl]; exact hP
  · rw [getD_upd hij]; exact h.rd.keep g hm
  · exact (g.block q (Array.getElem?_eq_some_iff.1 h.box).1 (fun e => h.qb (Option.some.inj e))).trans h.box
theorem TW.atJ (h : TW w0 p b x q r L T i j l W) (hu : l.getD j true = false) (hij : i ≠ j) (hR : RD w' x T) (g : W.grownBy w' (some x)) : TW w0 p b x q r L T i j (l.setIfInBounds j true) w' := by
  refine ⟨?_, ?_, h.bel.trans (grown_below g h.bel.size h.nx), ?_, h.nb, h.nx, h.px, h.bx, h.qx, h.qb⟩
  · rw [getD_upd (Ne.symm hij)]; exact h.pt.keep g (fun e => h.px (Option.some.inj e)) (fun e => h.bx (Option.some.inj e))
  · rw [getD_set_self hu, if_pos rfl]; exact hR
  · exact (g.block q (Array.getElem?_eq_some_iff.1 h.box).1 (fun e => h.qx (Option.some.inj e))).trans h.box
theorem TW.done (h : TW w0 p b x q r L T i j l W) (hi : l.getD i false = true) (hj : l.getD j false = true) : PT W p b T ∧ RD W x T ∧ Below w0.heap.size w0 W := by
  have h1 := h.pt
  have h2 := h.rd
  rw [hi, if_pos rfl] at h1
  rw [hj, if_pos rfl] at h2
  exact ⟨h1, h2, h.bel⟩
theorem TW.start {n : Nat} (hP : PT W p b L) (hR : RD W x L) (hB : Below w0.heap.size w0 W) (hb : W.heap[q]? = some (.cells (rtCs r) 32 (0, 0))) (h1 : w0.heap.size ≤ b) (h2 : w0.heap.size ≤ x) (h3 : p ≠ x) (h4 : b ≠ x) (h5 : q ≠ x) (h6 : q ≠ b) : TW w0 p b x q r L T i j (Array.replicate n false) { W with drawn := W.drawn + 1 } := by
  have hd := below_drewN W 1
  refine ⟨?_, ?_, hB.trans (hd.mono hB.size), hb, h1, h2, h3, h4, h5, h6⟩
  · rw [getD_rep, if_neg (by decide)]; exact hP.below hd
  · rw [getD_rep, if_neg (by decide)]; exact hR.below hd
end

/-- what memory holds while the last of a round is asked -/
structure AW (w0 : World) (L : List Rt) (c : Option Addr × Nat) (l : Array Bool) (W : World) : Prop where
  bel : Below w0.heap.size w0 W
  rts : l.getD 10 false = true → RtsAt W (.slice c.1 L.length c.2) L
theorem AW.same {w0 W : World} {L : List Rt} {c : Option Addr × Nat} {l : Array Bool} (h : AW w0 L c l W) {k : Nat} (hk : k ≠ 10) : AW w0 L c (l.setIfInBounds k true) W :=
  ⟨h.bel, fun e => h.rts (by rwa [getD_upd hk] at e)⟩
theorem AW.go {w0 W w' : World} {L : List Rt} {c : Option Addr × Nat} {l : Array Bool} (h : AW w0 L c l W) (hb : Below W.heap.size W w') : AW w0 L c (l.setIfInBounds 15 true) w' :=
  ⟨h.bel.trans (hb.mono h.bel.size), fun e => (h.rts (by rwa [getD_upd (by decide)] at e)).below hb⟩
theorem AW.start {w0 : World} {L : List Rt} {c : Option Addr × Nat} {n : Nat} : AW w0 L c (Array.replicate n false) { w0 with drawn := w0.drawn + 1 } :=
  ⟨below_drewN w0 1, fun e => by rw [getD_rep] at e; cases e⟩

set_option maxRecDepth 100000 in
set_option maxHeartbeats 4000000 in
theorem routePlays_walk (lv : Value) (l : List Ask) (w : World) (hl : IsAsks w lv l) :
    Calls Try.prog 3 #[lv] w fun e w' => e = .returned (.bool true) ∧ Below w.heap.size w w' := by
  have HX := hide alive_any
  have HN := hide (new_any w)
  obtain ⟨a, ca, rfl⟩ := hl.1.slice
  by_cases h200 : l.length ≤ 200
  · have d0 : decide ((200 : Int) < (l.length : Int)) = false := decide_eq_false (by omega)
    have HA := hide hl.1
    have HI := hide hl.2
    clear hl
    go_enter Try.func3, Try.ntmps3
    go_wp2_with fail
    refine (unhide HN).mono ?_
    rintro e w1 ⟨p, b, rfl, P1, B1, hp, hb⟩
    have P2 := hide (P1.below (below_one w1 (.cells #[.slice none 0 0] 29)))
    have B2 := hide (B1.alloc B1.size (.cells #[.slice none 0 0] 29))
    have R2 : Hid (RD (w1.alloc (.cells #[.slice none 0 0] 29)) w1.heap.size []) := ⟨.slice none 0 0, heap_alloc_new w1 _, .inl ⟨⟨none, 0, rfl⟩, rfl⟩, fun a n c e => by cases e⟩
    have hpx : p < w1.heap.size := P1.plt
    have hbx : b < w1.heap.size := P1.blt
    have hx : w.heap.size ≤ w1.heap.size := B1.size
    clear P1 B1 HN
    go_wp2_with fail
    generalize w1.alloc (.cells #[.slice none 0 0] 29) = w2 at *
    generalize w1.heap.size = x at *
    go_loopw [5] (fun i wr => ∃ (k : Nat) (L : List Rt), k ≤ l.length ∧ i = .int .i64 (k : Int) ∧ Hid (PT wr p b L) ∧ Hid (RD wr x L) ∧ Hid (Below w.heap.size w wr)) (fun i _ => l.length - (intOf i).toNat)
    case atStart => exact ⟨0, [], Nat.zero_le _, rfl, P2, R2, B2⟩
    case round =>
      clear P2 R2 B2
      obtain ⟨k, L, hk, rfl, hP, hR, hB⟩ := hrel
      by_cases hlt : k < l.length
      · have hkI : (k : Int) < (l.length : Int) := by omega
        obtain ⟨g, off, rfl, hg, z0, z1, z2, z3, z4, z5, z6⟩ := AsksAt.cells (unhide HA) hlt
        have HC : Hid (∀ W, Below w.heap.size w W → W.cell? ⟨g, off + k * 7, none⟩ = some (.int .u8 (l[k].d : Int)) ∧ W.cell? ⟨g, off + k * 7 + 1, none⟩ = some (.int .u32 (l[k].r.n : Int)) ∧ W.cell? ⟨g, off + k * 7 + 2, none⟩ = some (.int .i64 l[k].r.b) ∧ W.cell? ⟨g, off + k * 7 + 3, none⟩ = some (.int .u32 (l[k].r.v : Int)) ∧ W.cell? ⟨g, off + k * 7 + 4, none⟩ = some (.int .i64 l[k].r.c) ∧ W.cell? ⟨g, off + k * 7 + 5, none⟩ = some (.int .u32 (l[k].r.s : Int)) ∧ W.cell? ⟨g, off + k * 7 + 6, none⟩ = some (.int .u32 (l[k].ip : Int))) := fun W hb => by
          refine ⟨?_, ?_, ?_, ?_, ?_, ?_, ?_⟩
          all_goals (refine (hb.cell ?_).trans ?_ <;> first | exact hg | assumption)
        clear z0 z1 z2 z3 z4 z5 z6
        have HIn := (unhide HI) l[k] (List.getElem_mem hlt)
        generalize l[k] = q at *
        obtain ⟨dd, r, ip⟩ := q
        obtain ⟨hd8, hrin, hip⟩ := HIn
        have hrin := hide hrin
        have c1' := (unhide HC _ (unhide hB))
        have BA := below_one wr (.cells (rtCs r) 32)
        have B3 := hide ((unhide hB).trans (BA.mono (unhide hB).size))
        obtain ⟨c0, c1, c2, c3, c4, c5, c6⟩ := c1'
        simp only at c0 c1 c2 c3 c4 c5 c6
        have a0 := below_cell c0 BA
        have P3 := hide ((unhide hP).below BA)
        have R3 := hide ((unhide hR).below BA)
        have E3 := hide (heap_alloc_new wr (.cells (rtCs r) 32))
        clear BA
        have HQ := hide (And.intro (Nat.ne_of_gt (unhide hR).lt) (Nat.ne_of_gt (unhide hP).blt))
        clear hP hR hB
        go_upto_block 2 with fail
        clear c0 c1 c2 c3 c4 c5 c6 a0
        generalize wr.alloc (.cells (rtCs r) 32) = w3 at *
        generalize wr.heap.size = q at *
        go_cut [] from 18 to 98 (fun wx => ∃ L', Hid (PT wx p b L') ∧ Hid (RD wx x L') ∧ Hid (Below w.heap.size w wx))
        case first =>
          have hok := (unhide P3).ok
          have hpx2 : p ≠ x := Nat.ne_of_lt hpx
          have hbx2 : b ≠ x := Nat.ne_of_lt hbx
          have hm : ((dd : Int) % 5 = 0 ∨ (dd : Int) % 5 = 1 ∨ (dd : Int) % 5 = 2) ∨ (dd : Int) % 5 = 3 ∨ (dd : Int) % 5 = 4 := by omega
          rcases hm with hm | hm | hm
          · obtain ⟨E, hE⟩ : ∃ E, addE r L = E := ⟨_, rfl⟩
            obtain ⟨T, hT⟩ : ∃ T, addT r L = T := ⟨_, rfl⟩
            have HTA := hide (fun W (hW : PT W p b L) => add_at hW r (unhide hrin) E T ⟨hE, hT⟩)
            have HXA := fun W (hW : RD W x L) => radd_any hW hok r (unhide hrin)
            rw [hE, hT] at HXA
            replace HXA := hide HXA
            clear hE hT
            rcases hm with hm | hm | hm
            all_goals
              rw [hm]
              go_upto_region 13 with fail
              have nq : ([39, 40, 41, 42, 43, 44, 45] : List Nat).Nodup := by decide
              have hs : ∀ d ∈ ([39, 40, 41, 42, 43, 44, 45] : List Nat), d < 100 := by decide
              refine wp_region_fg [39, 40, 41, 42, 43, 44, 45] (fun _ : Unit => [.pointer (some ⟨p, 0, none⟩), rtV r, .int .i64 E, .pointer (some ⟨x, 0, none⟩), rtV r, .int .i64 E, .bool false]) (fun _ => TW w p b x q r L T 2 5) (by kernel_rfl) (by kernel_rfl) nq (fun _ => rfl) hs (by decide) ⟨(), TW.start (unhide P3) (unhide R3) (unhide B3) (unhide E3) hb hx hpx2 hbx2 (unhide HQ).1 (unhide HQ).2⟩ ⟨
                stepG_val (.pointer (some ⟨p, 0, none⟩)) nq hs (.inl rfl) rfl rfl (fun _ => rfl) (fun l a w _ hd hu k hW => by
                  have e3 := k.evalOut 3 (by decide) (v := .pointer (some ⟨p, 0, none⟩)) rfl
                  generalize a.eval = ρ at *
                  exact ⟨by simp [execOp, go_sem, e3], hW.same (by decide) (by decide)⟩),
                stepG_val (rtV r) nq hs (.inl rfl) rfl rfl (fun _ => rfl) (fun l a w _ hd hu k hW => by
                  have e6 := k.evalOut 6 (by decide) (v := .pointer (some ⟨q, 0, none⟩)) rfl
                  have f0 := cell_of_row _ _ 0 _ _ _ hW.box
                  have f1 := cell_of_row _ _ 1 _ _ _ hW.box
                  have f2 := cell_of_row _ _ 2 _ _ _ hW.box
                  have f3 := cell_of_row _ _ 3 _ _ _ hW.box
                  have f4 := cell_of_row _ _ 4 _ _ _ hW.box
                  generalize a.eval = ρ at *
                  exact ⟨by simp [execOp, go_sem, e6, f0, f1, f2, f3, f4], hW.same (by decide) (by decide)⟩),
                stepG_call (.int .i64 E) 10 #[.pointer (some ⟨p, 0, none⟩), rtV r] nq hs (.inl rfl) rfl rfl (fun _ => rfl) (fun l a w _ hd hu k hW => by
                  have e39 := k.eval 0 rfl (hd ⟨0, .data⟩ (by simp) rfl) (v := .pointer (some ⟨p, 0, none⟩)) rfl
                  have e40 := k.eval 1 rfl (hd ⟨1, .data⟩ (by simp) rfl) (v := rtV r) rfl
                  have ef : ∀ f, a.eval (.func f) = .func (.func f) #[] #[] := fun _ => rfl
                  generalize a.eval = ρ at *
                  exact ⟨by simp [execOp, go_sem, ef, e39, e40], (unhide HTA w (hW.ptL hu)).mono (fun e w2 hh => ⟨hh.1, hW.atI hu (by decide) hh.2.1 hh.2.2⟩)⟩),
                stepG_val (.pointer (some ⟨x, 0, none⟩)) nq hs (.inl rfl) rfl rfl (fun _ => rfl) (fun l a w _ hd hu k hW => by
                  have e4 := k.evalOut 4 (by decide) (v := .pointer (some ⟨x, 0, none⟩)) rfl
                  generalize a.eval = ρ at *
                  exact ⟨by simp [execOp, go_sem, e4], hW.same (by decide) (by decide)⟩),
                stepG_val (rtV r) nq hs (.inl rfl) rfl rfl (fun _ => rfl) (fun l a w _ hd hu k hW => by
                  have e6 := k.evalOut 6 (by decide) (v := .pointer (some ⟨q, 0, none⟩)) rfl
                  have f0 := cell_of_row _ _ 0 _ _ _ hW.box
                  have f1 := cell_of_row _ _ 1 _ _ _ hW.box
                  have f2 := cell_of_row _ _ 2 _ _ _ hW.box
                  have f3 := cell_of_row _ _ 3 _ _ _ hW.box
                  have f4 := cell_of_row _ _ 4 _ _ _ hW.box
                  generalize a.eval = ρ at *
                  exact ⟨by simp [execOp, go_sem, e6, f0, f1, f2, f3, f4], hW.same (by decide) (by decide)⟩),
                stepG_call (.int .i64 E) 11 #[.pointer (some ⟨x, 0, none⟩), rtV r] nq hs (.inl rfl) rfl rfl (fun _ => rfl) (fun l a w _ hd hu k hW => by
                  have e42 := k.eval 3 rfl (hd ⟨3, .data⟩ (by simp) rfl) (v := .pointer (some ⟨x, 0, none⟩)) rfl
                  have e43 := k.eval 4 rfl (hd ⟨4, .data⟩ (by simp) rfl) (v := rtV r) rfl
                  have ef : ∀ f, a.eval (.func f) = .func (.func f) #[] #[] := fun _ => rfl
                  generalize a.eval = ρ at *
                  exact ⟨by simp [execOp, go_sem, ef, e42, e43], (unhide HXA w (hW.rdL hu)).mono (fun e w2 hh => ⟨hh.1, hW.atJ hu (by decide) hh.2.1 hh.2.2⟩)⟩),
                stepG_val (.bool false) nq hs (.inl rfl) rfl rfl (fun _ => rfl) (fun l a w _ hd hu k hW => by
                  have e41 := k.eval 2 rfl (hd ⟨2, .data⟩ (by simp) rfl) (v := .int .i64 E) rfl
                  have e44 := k.eval 5 rfl (hd ⟨5, .data⟩ (by simp) rfl) (v := .int .i64 E) rfl
                  generalize a.eval = ρ at *
                  exact ⟨by simp [execOp, go_sem, e41, e44], hW.same (by decide) (by decide)⟩), trivial⟩ ?_
              intro _ l5 w5 hal hW
              obtain ⟨P5, R5, B5⟩ := hW.done (hal 2 (by decide)) (hal 5 (by decide))
              replace P5 := hide P5
              replace R5 := hide R5
              replace B5 := hide B5
              clear hW hal nq hs P3 R3 B3 E3 HTA HXA
              simp only [fill, List.setIfInBounds_toArray, List.set_cons_succ, List.set_cons_zero]
              go_wp2_with fail
              go_meet
              exact ⟨T, P5, R5, B5⟩
          · obtain ⟨E, hE⟩ : ∃ E, (lookR r.n r.b L).isSome = E := ⟨_, rfl⟩
            obtain ⟨T, hT⟩ : ∃ T, delR r.n r.b L = T := ⟨_, rfl⟩
            have HTD := fun W (hW : PT W p b L) => drop_any hW r.n r.b (unhide hrin).key
            have HXD := fun W (hW : RD W x L) => rdrop_any hW hok.srt hok.len r.n r.b
            rw [hE, hT] at HTD HXD
            replace HTD := hide HTD
            replace HXD := hide HXD
            clear hE hT
            rw [hm]
            go_upto_region 16 with fail
            have nq : ([48, 49, 50, 51, 52, 53, 54, 55, 56, 57, 58, 59, 60] : List Nat).Nodup := by decide
            have hs : ∀ d ∈ ([48, 49, 50, 51, 52, 53, 54, 55, 56, 57, 58, 59, 60] : List Nat), d < 100 := by decide
            refine wp_region_fg [48, 49, 50, 51, 52, 53, 54, 55, 56, 57, 58, 59, 60] (fun _ : Unit => [.pointer (some ⟨p, 0, none⟩), .pointer (some ⟨q, 0, none⟩), .int .u32 (r.n : Int), .pointer (some ⟨q, 1, none⟩), .int .i64 r.b, .bool E, .pointer (some ⟨x, 0, none⟩), .pointer (some ⟨q, 0, none⟩), .int .u32 (r.n : Int), .pointer (some ⟨q, 1, none⟩), .int .i64 r.b, .bool E, .bool false]) (fun _ => TW w p b x q r L T 5 11) (by kernel_rfl) (by kernel_rfl) nq (fun _ => rfl) hs (by decide) ⟨(), TW.start (unhide P3) (unhide R3) (unhide B3) (unhide E3) hb hx hpx2 hbx2 (unhide HQ).1 (unhide HQ).2⟩ ⟨
              stepG_val (.pointer (some ⟨p, 0, none⟩)) nq hs (.inl rfl) rfl rfl (fun _ => rfl) (fun l a w _ hd hu k hW => by
                have e3 := k.evalOut 3 (by decide) (v := .pointer (some ⟨p, 0, none⟩)) rfl
                generalize a.eval = ρ at *
                exact ⟨by simp [execOp, go_sem, e3], hW.same (by decide) (by decide)⟩),
              stepG_val (.pointer (some ⟨q, 0, none⟩)) nq hs (.inl rfl) rfl rfl (fun _ => rfl) (fun l a w _ hd hu k hW => by
                have e6 := k.evalOut 6 (by decide) (v := .pointer (some ⟨q, 0, none⟩)) rfl
                generalize a.eval = ρ at *
                exact ⟨by simp [execOp, go_sem, e6], hW.same (by decide) (by decide)⟩),
              stepG_val (.int .u32 (r.n : Int)) nq hs (.inl rfl) rfl rfl (fun _ => rfl) (fun l a w _ hd hu k hW => by
                have e49 := k.eval 1 rfl (hd ⟨1, .data⟩ (by simp) rfl) (v := .pointer (some ⟨q, 0, none⟩)) rfl
                have f0 := cell_of_row _ _ 0 _ _ _ hW.box
                generalize a.eval = ρ at *
                exact ⟨by simp [execOp, go_sem, e49, f0], hW.same (by decide) (by decide)⟩),
              stepG_val (.pointer (some ⟨q, 1, none⟩)) nq hs (.inl rfl) rfl rfl (fun _ => rfl) (fun l a w _ hd hu k hW => by
                have e6 := k.evalOut 6 (by decide) (v := .pointer (some ⟨q, 0, none⟩)) rfl
                generalize a.eval = ρ at *
                exact ⟨by simp [execOp, go_sem, e6], hW.same (by decide) (by decide)⟩),
              stepG_val (.int .i64 r.b) nq hs (.inl rfl) rfl rfl (fun _ => rfl) (fun l a w _ hd hu k hW => by
                have e51 := k.eval 3 rfl (hd ⟨3, .data⟩ (by simp) rfl) (v := .pointer (some ⟨q, 1, none⟩)) rfl
                have f1 := cell_of_row _ _ 1 _ _ _ hW.box
                generalize a.eval = ρ at *
                exact ⟨by simp [execOp, go_sem, e51, f1], hW.same (by decide) (by decide)⟩),
              stepG_call (.bool E) 12 #[.pointer (some ⟨p, 0, none⟩), .int .u32 (r.n : Int), .int .i64 r.b] nq hs (.inl rfl) rfl rfl (fun _ => rfl) (fun l a w _ hd hu k hW => by
                have e48 := k.eval 0 rfl (hd ⟨0, .data⟩ (by simp) rfl) (v := .pointer (some ⟨p, 0, none⟩)) rfl
                have e50 := k.eval 2 rfl (hd ⟨2, .data⟩ (by simp) rfl) (v := .int .u32 (r.n : Int)) rfl
                have e52 := k.eval 4 rfl (hd ⟨4, .data⟩ (by simp) rfl) (v := .int .i64 r.b) rfl
                have ef : ∀ f, a.eval (.func f) = .func (.func f) #[] #[] := fun _ => rfl
                generalize a.eval = ρ at *
                exact ⟨by simp [execOp, go_sem, ef, e48, e50, e52], (unhide HTD w (hW.ptL hu)).mono (fun e w2 hh => ⟨hh.1, hW.atI hu (by decide) hh.2.1 hh.2.2⟩)⟩),
              stepG_val (.pointer (some ⟨x, 0, none⟩)) nq hs (.inl rfl) rfl rfl (fun _ => rfl) (fun l a w _ hd hu k hW => by
                have e4 := k.evalOut 4 (by decide) (v := .pointer (some ⟨x, 0, none⟩)) rfl
                generalize a.eval = ρ at *
                exact ⟨by simp [execOp, go_sem, e4], hW.same (by decide) (by decide)⟩),
              stepG_val (.pointer (some ⟨q, 0, none⟩)) nq hs (.inl rfl) rfl rfl (fun _ => rfl) (fun l a w _ hd hu k hW => by
                have e6 := k.evalOut 6 (by decide) (v := .pointer (some ⟨q, 0, none⟩)) rfl
                generalize a.eval = ρ at *
                exact ⟨by simp [execOp, go_sem, e6], hW.same (by decide) (by decide)⟩),
              stepG_val (.int .u32 (r.n : Int)) nq hs (.inl rfl) rfl rfl (fun _ => rfl) (fun l a w _ hd hu k hW => by
                have e55 := k.eval 7 rfl (hd ⟨7, .data⟩ (by simp) rfl) (v := .pointer (some ⟨q, 0, none⟩)) rfl
                have f0 := cell_of_row _ _ 0 _ _ _ hW.box
                generalize a.eval = ρ at *
                exact ⟨by simp [execOp, go_sem, e55, f0], hW.same (by decide) (by decide)⟩),
              stepG_val (.pointer (some ⟨q, 1, none⟩)) nq hs (.inl rfl) rfl rfl (fun _ => rfl) (fun l a w _ hd hu k hW => by
                have e6 := k.evalOut 6 (by decide) (v := .pointer (some ⟨q, 0, none⟩)) rfl
                generalize a.eval = ρ at *
                exact ⟨by simp [execOp, go_sem, e6], hW.same (by decide) (by decide)⟩),
              stepG_val (.int .i64 r.b) nq hs (.inl rfl) rfl rfl (fun _ => rfl) (fun l a w _ hd hu k hW => by
                have e57 := k.eval 9 rfl (hd ⟨9, .data⟩ (by simp) rfl) (v := .pointer (some ⟨q, 1, none⟩)) rfl
                have f1 := cell_of_row _ _ 1 _ _ _ hW.box
                generalize a.eval = ρ at *
                exact ⟨by simp [execOp, go_sem, e57, f1], hW.same (by decide) (by decide)⟩),
              stepG_call (.bool E) 13 #[.pointer (some ⟨x, 0, none⟩), .int .u32 (r.n : Int), .int .i64 r.b] nq hs (.inl rfl) rfl rfl (fun _ => rfl) (fun l a w _ hd hu k hW => by
                have e54 := k.eval 6 rfl (hd ⟨6, .data⟩ (by simp) rfl) (v := .pointer (some ⟨x, 0, none⟩)) rfl
                have e56 := k.eval 8 rfl (hd ⟨8, .data⟩ (by simp) rfl) (v := .int .u32 (r.n : Int)) rfl
                have e58 := k.eval 10 rfl (hd ⟨10, .data⟩ (by simp) rfl) (v := .int .i64 r.b) rfl
                have ef : ∀ f, a.eval (.func f) = .func (.func f) #[] #[] := fun _ => rfl
                generalize a.eval = ρ at *
                exact ⟨by simp [execOp, go_sem, ef, e54, e56, e58], (unhide HXD w (hW.rdL hu)).mono (fun e w2 hh => ⟨hh.1, hW.atJ hu (by decide) hh.2.1 hh.2.2⟩)⟩),
              stepG_val (.bool false) nq hs (.inl rfl) rfl rfl (fun _ => rfl) (fun l a w _ hd hu k hW => by
                have e53 := k.eval 5 rfl (hd ⟨5, .data⟩ (by simp) rfl) (v := .bool E) rfl
                have e59 := k.eval 11 rfl (hd ⟨11, .data⟩ (by simp) rfl) (v := .bool E) rfl
                generalize a.eval = ρ at *
                exact ⟨by simp [execOp, go_sem, e53, e59], hW.same (by decide) (by decide)⟩), trivial⟩ ?_
            intro _ l5 w5 hal hW
            obtain ⟨P5, R5, B5⟩ := hW.done (hal 5 (by decide)) (hal 11 (by decide))
            replace P5 := hide P5
            replace R5 := hide R5
            replace B5 := hide B5
            clear hW hal nq hs P3 R3 B3 E3 HTD HXD
            simp only [fill, List.setIfInBounds_toArray, List.set_cons_succ, List.set_cons_zero]
            go_wp2_with fail
            go_meet
            exact ⟨T, P5, R5, B5⟩
          · rw [hm]
            go_wp2_with fail
            go_meet
            exact ⟨L, P3, R3, B3⟩
        case rest =>
          obtain ⟨L', hP, hR, hB⟩ := hcut
          have hok := (unhide hP).ok
          have hle := hok.len
          have HF := find_any (unhide hP) ip hip
          have HG := fun W (hW : RD W x L') => rfind_any hW hok ip hip
          rw [elim_rt] at HF
          simp only [elim_rt] at HG
          generalize (findR ip L').getD RZ = R at *
          generalize (findR ip L').isSome = F at *
          replace HF := hide HF
          replace HG := hide HG
          obtain ⟨-, -, -, -, -, -, c6⟩ := unhide HC _ (unhide hB)
          simp only at c6
          clear P3 R3 B3 E3 HQ hok
          go_wp2_with fail
          refine (unhide HF).mono ?_
          rintro e w4 ⟨rfl, b4⟩
          have b5 := tr2 b4 (below_one w4 (.cells (rtCs R) 32))
          have P5 := hide ((unhide hP).below b5)
          have R5 := hide ((unhide hR).below b5)
          have B5 := hide ((unhide hB).trans (b5.mono (unhide hB).size))
          have E5 := hide (heap_alloc_new w4 (.cells (rtCs R) 32))
          have H45 : w4.heap.size < (w4.alloc (.cells (rtCs R) 32)).heap.size := by simp
          have c6 := below_cell c6 b5
          clear b5 b4 HF hP hR hB
          go_upto_region 19 with fail
          generalize w4.alloc (.cells (rtCs R) 32) = w5 at *
          have HG := hide (unhide HG _ (unhide R5))
          go_wp2_with fail
          refine (unhide HG).mono ?_
          rintro e w6 ⟨rfl, b6⟩
          have b7 := tr2 b6 (below_one w6 (.cells (rtCs R) 32))
          have P7 := hide ((unhide P5).below b7)
          have R7 := hide ((unhide R5).below b7)
          have B7 := hide ((unhide B5).trans (b7.mono (unhide B5).size))
          have E7 := hide ((b7.block _ H45).trans (unhide E5))
          have E9 := hide (heap_alloc_new w6 (.cells (rtCs R) 32))
          clear b6 b7 HG P5 R5 B5 E5 c6 H45
          go_upto_region 20 with fail
          generalize w6.alloc (.cells (rtCs R) 32) = w7 at *
          generalize w4.heap.size = q7 at *
          generalize w6.heap.size = q9 at *
          obtain ⟨sv, hbx7, hr7, -⟩ := unhide R7
          obtain ⟨ux, ucap, rfl⟩ := hr7.slice
          have cX7 : w7.cell? ⟨x, 0, none⟩ = some (.slice ux L'.length ucap) := by simp [World.cell?, hbx7]
          have RX7 := hide hr7
          have ld7 : ∀ {W : World}, Below w7.heap.size w7 W → W.heap[q7]? = some (.cells (rtCs R) 32 (0, 0)) := fun hb => (hb.block _ (Array.getElem?_eq_some_iff.1 (unhide E7)).1).trans (unhide E7)
          have ld9 : ∀ {W : World}, Below w7.heap.size w7 W → W.heap[q9]? = some (.cells (rtCs R) 32 (0, 0)) := fun hb => (hb.block _ (Array.getElem?_eq_some_iff.1 (unhide E9)).1).trans (unhide E9)
          clear hbx7 hr7
          have nq : ([81, 82, 83, 84, 85, 86, 87, 88, 89, 90, 91, 92, 93, 94, 95, 96, 97, 98] : List Nat).Nodup := by decide
          have hs : ∀ d ∈ ([81, 82, 83, 84, 85, 86, 87, 88, 89, 90, 91, 92, 93, 94, 95, 96, 97, 98] : List Nat), d < 100 := by decide
          refine wp_region_fg [81, 82, 83, 84, 85, 86, 87, 88, 89, 90, 91, 92, 93, 94, 95, 96, 97, 98] (fun c : Option Addr × Nat => [rtV R, rtV R, .bool false, .bool false, .bool F, .bool F, .bool false, .bool false, .bool false, .pointer (some ⟨p, 0, none⟩), .slice c.1 L'.length c.2, .pointer (some ⟨x, 0, none⟩), .pointer (some ⟨x, 0, none⟩), .pointer (some ⟨x, 0, none⟩), .slice ux L'.length ucap, .bool true, .bool false, .bool false]) (AW w7 L') (by kernel_rfl) (by kernel_rfl) nq (fun _ => rfl) hs (by decide) ⟨(none, 0), AW.start⟩ ⟨
            stepG_val (rtV R) nq hs (.inl rfl) rfl rfl (fun _ => rfl) (fun l a w _ hd hu k hW => by
              have e7 := k.evalOut 7 (by decide) (v := .pointer (some ⟨q7, 0, none⟩)) rfl
              have f0 := cell_of_row _ _ 0 _ _ _ (ld7 hW.bel)
              have f1 := cell_of_row _ _ 1 _ _ _ (ld7 hW.bel)
              have f2 := cell_of_row _ _ 2 _ _ _ (ld7 hW.bel)
              have f3 := cell_of_row _ _ 3 _ _ _ (ld7 hW.bel)
              have f4 := cell_of_row _ _ 4 _ _ _ (ld7 hW.bel)
              generalize a.eval = ρ at *
              exact ⟨by simp [execOp, go_sem, e7, f0, f1, f2, f3, f4], hW.same (by decide)⟩),
            stepG_val (rtV R) nq hs (.inl rfl) rfl rfl (fun _ => rfl) (fun l a w _ hd hu k hW => by
              have e9 := k.evalOut 9 (by decide) (v := .pointer (some ⟨q9, 0, none⟩)) rfl
              have f0 := cell_of_row _ _ 0 _ _ _ (ld9 hW.bel)
              have f1 := cell_of_row _ _ 1 _ _ _ (ld9 hW.bel)
              have f2 := cell_of_row _ _ 2 _ _ _ (ld9 hW.bel)
              have f3 := cell_of_row _ _ 3 _ _ _ (ld9 hW.bel)
              have f4 := cell_of_row _ _ 4 _ _ _ (ld9 hW.bel)
              generalize a.eval = ρ at *
              exact ⟨by simp [execOp, go_sem, e9, f0, f1, f2, f3, f4], hW.same (by decide)⟩),
            stepG_val (.bool false) nq hs (.inl rfl) rfl rfl (fun _ => rfl) (fun l a w _ hd hu k hW => by
              have e81 := k.eval 0 rfl (hd ⟨0, .data⟩ (by simp) rfl) (v := rtV R) rfl
              have e82 := k.eval 1 rfl (hd ⟨1, .data⟩ (by simp) rfl) (v := rtV R) rfl
              generalize a.eval = ρ at *
              exact ⟨by simp [execOp, go_sem, e81, e82], hW.same (by decide)⟩),
            stepG_val (.bool false) nq hs (.inl rfl) rfl rfl (fun _ => rfl) (fun l a w _ hd hu k hW => by
              have e83 := k.eval 2 rfl (hd ⟨2, .data⟩ (by simp) rfl) (v := .bool false) rfl
              generalize a.eval = ρ at *
              exact ⟨by simp [execOp, go_sem, e83], hW.same (by decide)⟩),
            stepG_val (.bool F) nq hs (.inr ⟨3, 84, false, rfl, rfl, rfl, fun _ => rfl, ⟨⟨3, .guard⟩, by simp, rfl, rfl⟩⟩) rfl rfl (fun _ => rfl) (fun l a w _ hd hu k hW => by
              have e8 := k.evalOut 8 (by decide) (v := .bool F) rfl
              generalize a.eval = ρ at *
              exact ⟨by simp [execOp, go_sem, e8], hW.same (by decide)⟩),
            stepG_val (.bool F) nq hs (.inr ⟨3, 84, false, rfl, rfl, rfl, fun _ => rfl, ⟨⟨3, .guard⟩, by simp, rfl, rfl⟩⟩) rfl rfl (fun _ => rfl) (fun l a w _ hd hu k hW => by
              have e10 := k.evalOut 10 (by decide) (v := .bool F) rfl
              generalize a.eval = ρ at *
              exact ⟨by simp [execOp, go_sem, e10], hW.same (by decide)⟩),
            stepG_val (.bool false) nq hs (.inr ⟨3, 84, false, rfl, rfl, rfl, fun _ => rfl, ⟨⟨3, .guard⟩, by simp, rfl, rfl⟩⟩) rfl rfl (fun _ => rfl) (fun l a w _ hd hu k hW => by
              have e85 := k.eval 4 rfl (hd ⟨4, .data⟩ (by simp) rfl) (v := .bool F) rfl
              have e86 := k.eval 5 rfl (hd ⟨5, .data⟩ (by simp) rfl) (v := .bool F) rfl
              generalize a.eval = ρ at *
              exact ⟨by simp [execOp, go_sem, e85, e86], hW.same (by decide)⟩),
            stepG_val (.bool false) nq hs (.inl rfl) rfl rfl (fun _ => rfl) (fun l a w _ hd hu k hW => by
              have e84 := k.eval 3 rfl (hd ⟨3, .data⟩ (by simp) rfl) (v := .bool false) rfl
              have e87 := k.eval 6 rfl (hd ⟨6, .data⟩ (by simp) rfl) (v := .bool false) rfl
              generalize a.eval = ρ at *
              exact ⟨by simp [execOp, go_sem, e84, e87], hW.same (by decide)⟩),
            stepG_val (.bool false) nq hs (.inl rfl) rfl rfl (fun _ => rfl) (fun l a w _ hd hu k hW => by
              have e88 := k.eval 7 rfl (hd ⟨7, .data⟩ (by simp) rfl) (v := .bool false) rfl
              generalize a.eval = ρ at *
              exact ⟨by simp [execOp, go_sem, e88], hW.same (by decide)⟩),
            stepG_val (.pointer (some ⟨p, 0, none⟩)) nq hs (.inr ⟨8, 89, false, rfl, rfl, rfl, fun _ => rfl, ⟨⟨8, .guard⟩, by simp, rfl, rfl⟩⟩) rfl rfl (fun _ => rfl) (fun l a w _ hd hu k hW => by
              have e3 := k.evalOut 3 (by decide) (v := .pointer (some ⟨p, 0, none⟩)) rfl
              generalize a.eval = ρ at *
              exact ⟨by simp [execOp, go_sem, e3], hW.same (by decide)⟩),
            stepG_pick (fun c => .slice c.1 L'.length c.2) nq hs (.inr ⟨8, 89, false, rfl, rfl, rfl, fun _ => rfl, ⟨⟨8, .guard⟩, by simp, rfl, rfl⟩⟩) rfl rfl (fun _ => rfl) (fun p p2 j hj => match j, hj with | 0, _ => rfl | 1, _ => rfl | 2, _ => rfl | 3, _ => rfl | 4, _ => rfl | 5, _ => rfl | 6, _ => rfl | 7, _ => rfl | 8, _ => rfl | 9, _ => rfl | 10, h => absurd rfl h | 11, _ => rfl | 12, _ => rfl | 13, _ => rfl | 14, _ => rfl | 15, _ => rfl | 16, _ => rfl | 17, _ => rfl | n + 18, _ => rfl) (fun l a w c hd hu k hW => by
              have e90 := k.eval 9 rfl (hd ⟨9, .data⟩ (by simp) rfl) (v := .pointer (some ⟨p, 0, none⟩)) rfl
              have ef : ∀ f, a.eval (.func f) = .func (.func f) #[] #[] := fun _ => rfl
              generalize a.eval = ρ at *
              refine ⟨17, #[.pointer (some ⟨p, 0, none⟩)], by simp [execOp, go_sem, ef, e90], (all_any ((unhide P7).below hW.bel)).mono ?_⟩
              rintro e w2 ⟨sp, cap, rfl, hr, hb2⟩
              exact ⟨(sp, cap), rfl, hW.bel.trans (hb2.mono hW.bel.size), fun _ => hr⟩),
            stepG_val (.pointer (some ⟨x, 0, none⟩)) nq hs (.inr ⟨8, 89, false, rfl, rfl, rfl, fun _ => rfl, ⟨⟨8, .guard⟩, by simp, rfl, rfl⟩⟩) rfl rfl (fun _ => rfl) (fun l a w _ hd hu k hW => by
              have e4 := k.evalOut 4 (by decide) (v := .pointer (some ⟨x, 0, none⟩)) rfl
              generalize a.eval = ρ at *
              exact ⟨by simp [execOp, go_sem, e4], hW.same (by decide)⟩),
            stepG_val (.pointer (some ⟨x, 0, none⟩)) nq hs (.inr ⟨8, 89, false, rfl, rfl, rfl, fun _ => rfl, ⟨⟨8, .guard⟩, by simp, rfl, rfl⟩⟩) rfl rfl (fun _ => rfl) (fun l a w _ hd hu k hW => by
              have e92 := k.eval 11 rfl (hd ⟨11, .data⟩ (by simp) rfl) (v := .pointer (some ⟨x, 0, none⟩)) rfl
              generalize a.eval = ρ at *
              exact ⟨by simp [execOp, go_sem, e92], hW.same (by decide)⟩),
            stepG_val (.pointer (some ⟨x, 0, none⟩)) nq hs (.inr ⟨8, 89, false, rfl, rfl, rfl, fun _ => rfl, ⟨⟨8, .guard⟩, by simp, rfl, rfl⟩⟩) rfl rfl (fun _ => rfl) (fun l a w _ hd hu k hW => by
              have e93 := k.eval 12 rfl (hd ⟨12, .data⟩ (by simp) rfl) (v := .pointer (some ⟨x, 0, none⟩)) rfl
              generalize a.eval = ρ at *
              exact ⟨by simp [execOp, go_sem, e93], hW.same (by decide)⟩),
            stepG_val (.slice ux L'.length ucap) nq hs (.inr ⟨8, 89, false, rfl, rfl, rfl, fun _ => rfl, ⟨⟨8, .guard⟩, by simp, rfl, rfl⟩⟩) rfl rfl (fun _ => rfl) (fun l a w _ hd hu k hW => by
              have e94 := k.eval 13 rfl (hd ⟨13, .data⟩ (by simp) rfl) (v := .pointer (some ⟨x, 0, none⟩)) rfl
              have f0 := below_cell cX7 hW.bel
              generalize a.eval = ρ at *
              exact ⟨by simp [execOp, go_sem, e94, f0], hW.same (by decide)⟩),
            stepG_callp (.bool true) 16 (fun c => #[.slice c.1 L'.length c.2, .slice ux L'.length ucap]) nq hs (.inr ⟨8, 89, false, rfl, rfl, rfl, fun _ => rfl, ⟨⟨8, .guard⟩, by simp, rfl, rfl⟩⟩) rfl rfl (fun _ => rfl) (fun l a w c hd hu k hW => by
              have e91 := k.eval 10 rfl (hd ⟨10, .data⟩ (by simp) rfl) (v := .slice c.1 L'.length c.2) rfl
              have e95 := k.eval 14 rfl (hd ⟨14, .data⟩ (by simp) rfl) (v := .slice ux L'.length ucap) rfl
              have ef : ∀ f, a.eval (.func f) = .func (.func f) #[] #[] := fun _ => rfl
              have hr := hW.rts (hd ⟨10, .data⟩ (by simp) rfl)
              have hsm := same_any hr ((unhide RX7).below hW.bel) (by omega)
              rw [decide_eq_true rfl] at hsm
              generalize a.eval = ρ at *
              exact ⟨by simp [execOp, go_sem, ef, e91, e95], hsm.mono (fun e w2 hh => ⟨hh.1, hW.go hh.2⟩)⟩),
            stepG_val (.bool false) nq hs (.inr ⟨8, 89, false, rfl, rfl, rfl, fun _ => rfl, ⟨⟨8, .guard⟩, by simp, rfl, rfl⟩⟩) rfl rfl (fun _ => rfl) (fun l a w _ hd hu k hW => by
              have e96 := k.eval 15 rfl (hd ⟨15, .data⟩ (by simp) rfl) (v := .bool true) rfl
              generalize a.eval = ρ at *
              exact ⟨by simp [execOp, go_sem, e96], hW.same (by decide)⟩),
            stepG_val (.bool false) nq hs (.inl rfl) rfl rfl (fun _ => rfl) (fun l a w _ hd hu k hW => by
              have e89 := k.eval 8 rfl (hd ⟨8, .data⟩ (by simp) rfl) (v := .bool false) rfl
              have e97 := k.eval 16 rfl (hd ⟨16, .data⟩ (by simp) rfl) (v := .bool false) rfl
              generalize a.eval = ρ at *
              exact ⟨by simp [execOp, go_sem, e89, e97], hW.same (by decide)⟩), trivial⟩ ?_
          intro c l5 w9 hal hW
          have P9 := hide ((unhide P7).below hW.bel)
          have R9 := hide ((unhide R7).below hW.bel)
          have B9 := hide ((unhide B7).trans (hW.bel.mono (unhide B7).size))
          clear hW hal nq hs P7 R7 B7 E7 E9 ld7 ld9 RX7 cX7
          simp only [fill, List.setIfInBounds_toArray, List.set_cons_succ, List.set_cons_zero]
          go_wp2_with fail
          go_roundw
          case rel =>
            exact ⟨k + 1, L', by omega, by go_num, P9, R9, B9⟩
          case measure => simp [intOf]; omega
      · obtain rfl : k = l.length := by omega
        have BB := hB
        clear hP hR
        go_wp2_with fail
        refine (unhide HX _).mono ?_
        rintro e w9 ⟨rfl, b9⟩
        have BF := hide ((unhide BB).trans (b9.mono (unhide BB).size))
        clear b9
        go_wp2_with fail
        go_ret
        exact ⟨rfl, unhide BF⟩
  · have d0 : decide ((200 : Int) < (l.length : Int)) = true := decide_eq_true (by omega)
    clear hl h200 HN
    go_enter Try.func3, Try.ntmps3
    go_wp2_with fail
    refine (unhide HX _).mono ?_
    rintro e w9 ⟨rfl, b9⟩
    go_wp2_with fail
    go_ret
    exact ⟨rfl, b9⟩
end Go.Proofs.Ytmicgkoicmeflaa
