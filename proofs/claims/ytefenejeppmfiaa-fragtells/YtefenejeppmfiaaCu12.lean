/- The contract of package frag's Cut where a packet is cut, over the loaded program; no memory that was there has turned. -/
import Derived.Test.YtefenejeppmfiaaCt12
namespace Go.Proofs.Ytefenejeppmfiaa
open Go.RowKit Go.Shelf

attribute [local go_sem] Oper.semAt_some

/-- a part has come: its head stands in a box of the round's own -/
def CB (n5 Bo : Nat) (W5 : World) (all : List Pc) (No' : Nat → Prop) (pre : List Pc) (x : Pc) (a : Act) (W : World) : Prop :=
  ∃ (B1 : Nat) (t0 t1 t2 t3 t4 t5 t6 t7 t8 t9 t10 t14 t15 t16 t17 t18 t19 t20 t21 t22 t23 t24 t25 t26 t27 t28 t29 t30 t31 t32 t33 t34 t35 t36 t37 t38 t39 t40 t41 t42 t43 t44 t45 t46 t47 t48 t49 t50 t51 t52 t53 : Value), a = { tmps := #[t0, t1, t2, t3, t4, t5, t6, t7, t8, t9, t10, .pointer (some ⟨Bo, 0, none⟩), .pointer (some ⟨B1, 0, none⟩), .string x.2, t14, t15, t16, t17, t18, t19, t20, t21, t22, t23, t24, t25, t26, t27, t28, t29, t30, t31, t32, t33, t34, t35, t36, t37, t38, t39, t40, t41, t42, t43, t44, t45, t46, t47, t48, t49, t50, t51, t52, t53], defers := [] } ∧ W.heap[B1]? = some (.cells (hdL x.1).toArray 25 (0, 0)) ∧ CX n5 Bo W5 No' pre W ∧ pre ++ [x] <+: all
theorem pre_get {pre all : List Pc} {x : Pc} (h : pre ++ [x] <+: all) : x ∈ all ∧ pre.length < all.length := by
  obtain ⟨t, rfl⟩ := h
  exact ⟨by simp, by simp⟩
theorem hc_heap {w : World} {b : Nat} {h : Rh} {t : TypeId} (e : w.heap[b]? = some (.cells (hdL h).toArray t (0, 0))) : HC w b h :=
  ⟨cell_of_row _ _ 0 _ _ _ e, cell_of_row _ _ 1 _ _ _ e, cell_of_row _ _ 2 _ _ _ e, cell_of_row _ _ 3 _ _ _ e, cell_of_row _ _ 4 _ _ _ e, cell_of_row _ _ 5 _ _ _ e, cell_of_row _ _ 6 _ _ _ e, cell_of_row _ _ 7 _ _ _ e, cell_of_row _ _ 8 _ _ _ e, cell_of_row _ _ 9 _ _ _ e⟩
theorem HC.ks {No : Nat → Prop} {w w' : World} {b : Nat} {h : Rh} (k : HC w b h) (q : Ks No w w') (hN : No b) : HC w' b h :=
  ⟨q.cell k.c0 hN, q.cell k.c1 hN, q.cell k.c2 hN, q.cell k.c3 hN, q.cell k.c4 hN, q.cell k.c5 hN, q.cell k.c6 hN, q.cell k.c7 hN, q.cell k.c8 hN, q.cell k.c9 hN⟩
theorem pcs_len (k : ByteArray) (R : Nat) : ∀ (f : Nat) (h : Rh) (d : ByteArray), (pcs k R f h d).length ≤ f + 1
  | 0, _, _ => Nat.le_refl _
  | f + 1, h, d => by
    simp only [pcs]
    split
    · simp
    · have := pcs_len k R f (nxt h (most R h / 8 * 8) k) (d.extract (most R h / 8 * 8) d.size)
      simp only [List.length_cons]
      omega
/-- what the boxes of the loop's beginning hold -/
theorem boxes5 (w2 : World) (h : Rh) (d : ByteArray) (R : Nat) (W5 : World) (e : W5 = (((w2.alloc (.cells #[.slice none 0 0] 28)).alloc (.cells (hdL h).toArray 25)).alloc (.cells #[.string d] 9)).alloc (.cells #[.int .i64 (R : Int)] 3)) :
    W5.heap.size = w2.heap.size + 4 ∧ Below w2.heap.size w2 W5 ∧ W5.heap[w2.heap.size]? = some (.cells #[.slice none 0 0] 28 (0, 0)) ∧ HC W5 (w2.heap.size + 1) h ∧ W5.cell? ⟨w2.heap.size + 2, 0, none⟩ = some (.string d) ∧ W5.cell? ⟨w2.heap.size + 3, 0, none⟩ = some (.int .i64 (R : Int)) := by
  subst e
  have k := ((((Tab.zero w2).alloc rfl [.slice none 0 0] 28).alloc (by simp) (hdL h) 25).alloc (by simp) [.string d] 9).alloc (by simp) [.int .i64 (R : Int)] 3
  refine ⟨by simp, k.bel, ?_, ⟨k.cells 1 0 _ rfl, k.cells 1 1 _ rfl, k.cells 1 2 _ rfl, k.cells 1 3 _ rfl, k.cells 1 4 _ rfl, k.cells 1 5 _ rfl, k.cells 1 6 _ rfl, k.cells 1 7 _ rfl, k.cells 1 8 _ rfl, k.cells 1 9 _ rfl⟩, k.cells 2 0 _ rfl, k.cells 3 0 _ rfl⟩
  exact (Below.heap_alloc _ _ _ (by simp; omega)).trans ((Below.heap_alloc _ _ _ (by simp; omega)).trans ((Below.heap_alloc _ _ _ (by simp)).trans (heap_alloc_new w2 _)))

set_option maxRecDepth 100000 in
set_option maxHeartbeats 4000000 in
theorem cut_cut (h : Rh) (d : ByteArray) (room : Int) (w : World) (hv : HOk h d.size) (hl : room < ((20 + h.op.size + d.size : Nat) : Int)) (hh : h.hold = false) (hr : ((28 + h.op.size : Nat) : Int) ≤ room) (M : List Po) (hM : optsR h.op = some (M.map Po.op)) :
    CallsIn Fence.wide 3 Try.prog 9 #[hdV h, .string d, .int .i64 room] w (CutPost w (pieces (keptB h.op) room.toNat h d) 0) := by
  have hrm : room ≤ 65535 := by have := hv.r; have := hv.m.1; unfold roomB at *; omega
  have hd : d.size ≤ 65535 := by have := hv.r; have := hv.m.1; unfold roomB at *; omega
  obtain ⟨R, hR⟩ : ∃ R, room.toNat = R := ⟨_, rfl⟩
  obtain rfl : room = (R : Int) := by omega
  have H1 := hide (fun w => encode_any h d w hv.i (by omega) (enc_of hv))
  have hs : (pcB (h, d)).size = 20 + h.op.size + d.size := pcB_size (h, d)
  have H2 := hide (fun w => refused_any h R w hv.m.2.2.2.1 0 (by show refE h R = 0; unfold refE; rw [hh, if_neg (by simp), if_neg (by omega), if_neg (by rw [hM]; simp)]))
  have H3 := hide (fun w n => parts_in h d R w n)
  have BEL := hide (below_one w (.cells (hdL h).toArray 25))
  have k := HC.box w h 25
  obtain ⟨S, hS⟩ : ∃ S, pcB (h, d) = S := ⟨_, rfl⟩
  rw [hS] at H1 hs
  rw [hR]
  have hle : decide (((S.size : Nat) : Int) ≤ (R : Int)) = false := decide_eq_false (by rw [hs]; omega)
  have hle2 : decide (S.size ≤ R) = false := decide_eq_false (by rw [hs]; omega)
  have HF := hide (And.intro hv (And.intro hM (And.intro hr hrm)))
  simp only [hdL] at BEL k
  clear hs hS hl hM hr hrm hv hR hh
  refine callsIn_of_wp_marks Try.func9 rfl trivial ?_ rfl
  simp only [Try.ntmps9, List.size_toArray, List.length_cons, List.length_nil, Nat.reduceAdd, Nat.reduceSub, Array.replicate_succ, Array.replicate_zero, List.push_toArray, List.append_toArray, List.nil_append, List.cons_append]
  gi_wp2_with fail
  refine ⟨trivial, (callsIn_wide.2 (unhide H1 _)).mono ?_⟩
  rintro e w1 ⟨rfl, b1⟩
  have k1 := k.on b1
  obtain ⟨c0, c1, c2, c3, c4, c5, c6, c7, c8, c9⟩ := id k1
  have HB := hide (tr2 (unhide BEL) b1)
  clear b1 BEL k
  gi_wp2_with fail
  refine ⟨trivial, (callsIn_wide.2 (unhide H2 _)).mono ?_⟩
  rintro e w2 ⟨rfl, b2⟩
  have k2 := k1.on b2
  have k3 := k2.on (below_one w2 (.cells #[.slice none 0 0] 28))
  have HB2 := hide (tr2 (unhide HB) b2)
  clear b2 HB c0 c1 c2 c3 c4 c5 c6 c7 c8 c9 k1 k2
  obtain ⟨c0, c1, c2, c3, c4, c5, c6, c7, c8, c9⟩ := k3
  gi_wp2_with fail
  refine ⟨trivial, (unhide H3 _ _).mono ?_⟩
  rintro e w3 ⟨rfl, rfl⟩
  clear c0 c1 c2 c3 c4 c5 c6 c7 c8 c9
  gi_wp2_with fail
  simp only [Nat.add_assoc, Nat.reduceAdd]
  obtain ⟨W5, e5⟩ : ∃ W5, W5 = (((w2.alloc (.cells #[.slice none 0 0] 28)).alloc (.cells (hdL h).toArray 25)).alloc (.cells #[.string d] 9)).alloc (.cells #[.int .i64 (R : Int)] 3) := ⟨_, rfl⟩
  have K5 := boxes5 w2 h d R W5 e5
  have HB5 := hide (unhide HB2)
  rw [← e5]
  obtain ⟨Bo, hBo⟩ : ∃ Bo, w2.heap.size = Bo := ⟨_, rfl⟩
  rw [hBo] at K5 ⊢
  obtain ⟨hz5, hb5, hbx, hch, hcd, hcr⟩ := K5
  obtain ⟨hv, hM, hr, hrm⟩ := unhide HF
  have hKL := kept_le hv.m.2.2.2.1 hv.m.2.2.2.2 hM
  have hP := (pieces_ok (keptB h.op) R (by omega) hKL.2 d.size h d (Nat.le_refl _) (by omega) hKL.1 hv)
  have hlen : (pieces (keptB h.op) R h d).length ≤ 65536 := Nat.le_trans (pcs_len _ _ _ _ _) (by omega)
  obtain ⟨all, hall⟩ : ∃ all, pieces (keptB h.op) R h d = all := ⟨_, rfl⟩
  rw [hall] at hP hlen ⊢
  refine range_all (No := fun i => i < W5.heap.size ∧ i ≠ Bo) rfl (by decide) (gf := 50) (lb := #[.pointer (some ⟨Bo + 1, 0, none⟩), .pointer (some ⟨Bo + 2, 0, none⟩), .pointer (some ⟨Bo + 3, 0, none⟩)]) rfl trivial (fun _ _ => rfl) (encs := encPc) (fun _ => rfl)
    (fun No' pre W => CX W5.heap.size Bo W5 No' pre W)
    (fun No' pre x W => CX W5.heap.size Bo W5 No' pre W ∧ pre ++ [x] <+: all)
    (CB W5.heap.size Bo W5 all)
    (fun xs => xs = all)
    ?h0 ?hIn ?hJn ?hseq ?assign ?body ?done
  case h0 =>
    intro r
    have hb2 := tr2 (below_one W5 (.deferred (some []))) (below_one _ (.loop r))
    have hs2 : ((W5.alloc (.deferred (some []))).alloc (.loop r)).heap.size = W5.heap.size + 2 := by simp
    refine ⟨.slice none 0 0, fun i h1 h2 => .inl ⟨h1, h2⟩, Ks.of_below hb2, ?_, by omega, by omega, (hb2.block _ (by omega)).trans hbx, World.ownsRow_nil _ _ _ _, (fun g hg => by cases hg), ?_⟩
    · rintro (hx | hx | hx) <;> omega
    · rintro i (hx | hx | hx) <;> omega
  case hIn =>
    rintro No' pre W ⟨v, hc⟩ r o' hl
    exact ⟨v, hc.put o' hl (by omega)⟩
  case hJn =>
    rintro No' pre x a₁ W ⟨B1, t0, t1, t2, t3, t4, t5, t6, t7, t8, t9, t10, t14, t15, t16, t17, t18, t19, t20, t21, t22, t23, t24, t25, t26, t27, t28, t29, t30, t31, t32, t33, t34, t35, t36, t37, t38, t39, t40, t41, t42, t43, t44, t45, t46, t47, t48, t49, t50, t51, t52, t53, rfl, hb, ⟨v, hc⟩, hpre⟩ r o' hl
    exact ⟨B1, t0, t1, t2, t3, t4, t5, t6, t7, t8, t9, t10, t14, t15, t16, t17, t18, t19, t20, t21, t22, t23, t24, t25, t26, t27, t28, t29, t30, t31, t32, t33, t34, t35, t36, t37, t38, t39, t40, t41, t42, t43, t44, t45, t46, t47, t48, t49, t50, t51, t52, t53, rfl, (World.putObj_heap_other (fun e => by rw [e, hl] at hb; cases hb)).trans hb, ⟨v, hc.put o' hl (by omega)⟩, hpre⟩
  case hseq =>
    intro RR W1 hRR hz1 hY h0 hR1
    obtain ⟨v0, h0⟩ := h0
    refine (parts1_in 2 (by decide) (W5.heap.size + 1) (Bo + 1) (Bo + 2) (Bo + 3) h d R hv (by omega) (by omega) M hM (fun No' pre W => CX W5.heap.size Bo W5 No' pre W) RR (W5.heap.size + 2) (fun i => (i < W5.heap.size ∧ i ≠ Bo) ∨ i = W5.heap.size ∨ i = W5.heap.size + 1)
      (fun No' pre A B hx k => hx.below k) (fun No' pre A b j u hx hb h5 => hx.set hb (by omega) j u) hRR (.inl ⟨by omega, by omega⟩) ?_ W1 hz1 (hch.ks h0.ks ⟨by omega, by omega⟩) (h0.ks.cell hcd ⟨by show Bo + 2 < _; omega, by show Bo + 2 ≠ _; omega⟩) (h0.ks.cell hcr ⟨by show Bo + 3 < _; omega, by show Bo + 3 ≠ _; omega⟩) ?_ hR1).mono ?_
    · intro No' pre x W hsub hpre hX hr
      rw [hall] at hpre
      exact hY No' pre x W (hsub _ (.inr (.inl rfl))) (hsub _ (.inr (.inr rfl))) ⟨hX, hpre⟩ hr
    · intro W' q hb hq hq2
      have h1 := h0.below hb
      have hl5 := h0.le
      have hlt := h0.lt
      refine ⟨v0, fun i h2 h3 => .inl (.inl ⟨h2, h3⟩), h1.ks, ?_, h1.lt, h1.le, h1.box, h1.row, ?_, ?_⟩
      · rintro (hx | hx)
        · exact h0.nb hx
        · omega
      · rintro g hg (hx | hx)
        · exact h0.nr g hg hx
        · have := (h0.row.lt g hg).2; omega
      · rintro i (hx | hx)
        · exact h1.nlt i hx
        · omega
    · rintro e W' ⟨hv', No', xs, hsub, hxs, hX, hr⟩
      exact ⟨hv', No', xs, hxs.trans hall, hX, hr⟩
  case assign =>
    rintro l No' pre x W ⟨hX, hpre⟩
    obtain ⟨⟨x0, x1, x2, x3, x4, x5, x6, x7, x8, x9⟩, xd⟩ := x
    simp only [encPc]
    gi_wp2
    have hb1 := below_one W (.cells (hdL ⟨x0, x1, x2, x3, x4, x5, x6, x7, x8, x9⟩).toArray 25)
    exact ⟨hb1, W.heap.size, _, _, _, _, _, _, _, _, _, _, _, _, _, _, _, _, _, _, _, _, _, _, _, _, _, _, _, _, _, _, _, _, _, _, _, _, _, _, _, _, _, _, _, _, _, _, _, _, _, _, _, rfl, heap_alloc_new _ _, hX.below hb1, hpre⟩
  case body =>
    rintro l No' pre x a₁ W ⟨B1, t0, t1, t2, t3, t4, t5, t6, t7, t8, t9, t10, t14, t15, t16, t17, t18, t19, t20, t21, t22, t23, t24, t25, t26, t27, t28, t29, t30, t31, t32, t33, t34, t35, t36, t37, t38, t39, t40, t41, t42, t43, t44, t45, t46, t47, t48, t49, t50, t51, t52, t53, rfl, hb, ⟨v, hX⟩, hpre⟩
    obtain ⟨hmem, hpl⟩ := pre_get hpre
    have hvx := hP.1.val x hmem
    have hdx : x.2.size ≤ 65535 := by have := hvx.r; have := hvx.m.1; unfold roomB at *; omega
    have HE := hide (fun w => encode_any x.1 x.2 w hvx.i (by omega) (enc_of hvx))
    obtain ⟨c0, c1, c2, c3, c4, c5, c6, c7, c8, c9⟩ := hc_heap hb
    have HM := hide (fun (W2 : World) (b2 : Below W.heap.size W W2) => (hX.below b2).more (by simp; omega) x)
    have HV := hide (fun (W2 : World) (b2 : Below W.heap.size W W2) => (hX.below b2).box)
    obtain ⟨sp, sc, hsv⟩ := row_shape hX.row
    simp only [List.length_map] at hsv
    have HK := hide (fun (W2 : World) (b2 : Below W.heap.size W W2) => (Ks.of_below b2 : Ks No' W W2))
    rw [hsv] at HM HV
    clear hX hb hvx hdx hmem hP hall hlen hbx hch hcd hcr hb5 hz5 hv hM hr hrm hKL e5 HF HB5 HB2
    obtain ⟨xh, xd⟩ := x
    simp only at *
    have hpc : pcB (xh, xd) = pcB (xh, xd) := rfl
    generalize pcB (xh, xd) = sx at HE HM
    gi_wp2_with fail
    refine ⟨trivial, (CallsIn.inRound l (callsIn_wide.2 (unhide HE _))).mono ?_⟩
    rintro e W2 ⟨rfl, b2⟩
    obtain ⟨v2, D2, hrun, q1, q2, q3, hk, hX3⟩ := unhide HM _ b2
    obtain ⟨u, hu⟩ := Option.isSome_iff_exists.1 q1
    have hbo := cell_of_row _ _ 0 _ _ _ (unhide HV _ b2)
    have HK2 := hide (unhide HK _ b2)
    have HZ := hide (And.intro hk hX3)
    obtain ⟨sp2, sc2, hs2⟩ := row_shape hX3.row
    simp only [List.length_map, List.length_append, List.length_cons, List.length_nil, Nat.zero_add] at hs2
    rw [hs2] at hrun HZ
    clear b2 HM HV HK HE c0 c1 c2 c3 c4 c5 c6 c7 c8 c9 hk hX3 q1 q3 hs2
    gi_wp2_with (first | (gi_at_builtin; refine unhide ?_) | (rw [Oper.semAt_eq _ _ _ (fun c h => by cases h)]; go_simp; try go_bits))
    refine hide ?_
    refine wpListIn_app rfl _ _ _ rfl rfl rfl hrun ?_
    gi_wp2
    exact ⟨(unhide HK2).trans (unhide HZ).1, _, (unhide HZ).2⟩
  case done =>
    rintro No' xs W rfl ⟨v, hX⟩ hK
    have hbo := cell_of_row _ _ 0 _ _ _ hX.box
    have HX := hide hX
    obtain ⟨sp, sc, hsv⟩ := row_shape hX.row
    simp only [List.length_map] at hsv
    have hbl := hX.lt
    have hbw : Hid (w.heap.size ≤ Bo) := by rw [← hBo]; exact (unhide HB5).size
    have hb5' := hide hb5
    rw [hsv] at hbo
    have HALL := hide hall
    clear hX hP hall hlen hbx hch hcd hcr hb5 hv hM hr hrm hKL e5 HF
    gi_wp2_with fail
    refine ⟨by simp, .inl ⟨_, _, rfl, run_takeDeferred hK, ?_⟩⟩
    refine ⟨.tuple #[.slice sp xs.length sc, .int .i64 0], by simp [results, Try.results9, go_sem], ?_⟩
    have hX := unhide HX
    have hrow : (W.putObj W5.heap.size (.deferred none)).ownsRow W5.heap.size 9 1 v (xs.map pcB).length (strV (xs.map pcB)) := row_at' hX.row fun g hg => World.putObj_heap_other (fun e => by
      rcases hX.row.2 with ⟨rfl, _⟩ | ⟨g', cap, cur, rfl, _, h3, _⟩
      · cases hg
      · have : g' = g := by simpa [Value.ownBlock] using hg
        rw [this, e, hK] at h3
        cases h3)
    have hst := own_strs hrow
    rw [hsv] at hst
    rw [unhide HALL]
    refine ⟨sp, sc, rfl, hst, ?_⟩
    have hks : Below w2.heap.size W5 W := hX.ks.below (by omega) (fun k hk => ⟨by omega, by omega⟩)
    have hbw2 : w.heap.size ≤ w2.heap.size := (unhide HB5).size
    have hall : Below w.heap.size w W := ((unhide HB5).trans ((unhide hb5').mono (by omega))).trans (hks.mono hbw2)
    exact ⟨hall.os, hall.tape, hall.output, by simpa using hall.size, fun i hi => (World.putObj_heap_other (by omega)).trans (hall.block i hi)⟩

theorem cut_any {h : Rh} {d : ByteArray} {room : Int} {L : List Pc} {e : Int} (hc : CutIs h d room L e) (hi : h.In) (hd : d.size ≤ 1073741824) (w : World) :
    Calls Try.prog 9 #[hdV h, .string d, .int .i64 room] w (CutPost w L e) := by
  refine (callsIn_wide (n := 3)).1 ?_
  cases hc with
  | enc hz => exact cut_enc h d room w hi hd _ rfl hz
  | one hv hl => exact cut_one h d room w hv hl
  | held hv hl hh => exact cut_ref h d room w hv hl 4 (by unfold refE; rw [hh]; rfl) (by decide)
  | full hv hl hh h3 => exact cut_ref h d room w hv hl 6 (by unfold refE; rw [hh, if_neg (by simp), if_pos h3]) (by decide)
  | opts hv hl hh h3 h4 => exact cut_ref h d room w hv hl 2 (by unfold refE; rw [hh, if_neg (by simp), if_neg (by omega), if_pos h4]) (by decide)
  | cut M hv hl hh h3 h4 => exact cut_cut h d room w hv hl hh h3 M h4
end Go.Proofs.Ytefenejeppmfiaa
