/- The contract of drop of package gather, over the loaded program. Conditions: keys in their kinds' bounds. -/
import Derived.Test.YtekljiakofmhnaaGq4
namespace Go.Proofs.Ytekljiakofmhnaa
open Go.RowKit

theorem heldE_drop {k : Pk} {L : List En} (hn : (L.map (·.k)).Nodup) {e : En} (he : lookE k L = some e) : heldE (dropE k L) + sumP e.a.ps = heldE L := by
  induction L with
  | nil => simp [lookE] at he
  | cons y r ih =>
    simp only [List.map_cons, List.nodup_cons] at hn
    by_cases hy : y.k = k
    · have e1 : dropE k (y :: r) = r := by
        have : dropE k (y :: r) = dropE k r := by simp [dropE, hy]
        rw [this]
        unfold dropE
        rw [List.filter_eq_self]
        intro z hz
        have : z.k ≠ k := fun x => hn.1 (by rw [hy, ← x]; exact List.mem_map_of_mem hz)
        simpa using this
      have e2 : y = e := by simpa [lookE, hy] using he
      subst e2
      rw [e1]
      simp [heldE]
      omega
    · have h' : lookE k r = some e := by simpa [lookE, hy] using he
      have := ih hn.2 h'
      have e1 : dropE k (y :: r) = y :: dropE k r := by simp [dropE, hy]
      rw [e1]
      simp only [heldE, List.map_cons, List.sum_cons] at *
      omega
theorem keys_drop (k : Pk) (L : List En) : (dropE k L).map (·.k) = (L.map (·.k)).filter (nk k) := by
  unfold dropE
  induction L with
  | nil => rfl
  | cons y r ih =>
    rw [List.map_cons, List.filter_cons, List.filter_cons]
    by_cases hy : y.k = k
    · rw [if_neg (by simp [hy]), if_neg (by simp [hy, nk])]; exact ih
    · rw [if_pos (by simp [hy]), if_pos (by simp [hy, nk]), List.map_cons, ih]
theorem KB.set {w : World} {B : Nat} {k : Pk} (h : KB w B k) {b j : Nat} {v : Value} (hne : B ≠ b) : KB (w.setCell ⟨b, j, none⟩ v) B k :=
  have e : ∀ i, (w.setCell ⟨b, j, none⟩ v).cell? ⟨B, i, none⟩ = w.cell? ⟨B, i, none⟩ := fun _ => World.cell?_setCell_other _ _ _ _ (fun x => hne (congrArg Addr.block x).symm)
  ⟨(e 0).trans h.c0, (e 1).trans h.c1, (e 2).trans h.c2, (e 3).trans h.c3⟩
theorem KB.gb {w w' : World} {B b : Nat} {k : Pk} (h : KB w B k) (hg : w.grownBy w' (some b)) (hne : B ≠ b) : KB w' B k := by
  have hb := hg.block B h.lt (fun e => hne (Option.some.inj e))
  have e : ∀ i, w'.cell? ⟨B, i, none⟩ = w.cell? ⟨B, i, none⟩ := fun i => by simp only [World.cell?, hb]
  exact ⟨(e 0).trans h.c0, (e 1).trans h.c1, (e 2).trans h.c2, (e 3).trans h.c3⟩
theorem mem_drop {k : Pk} {L : List En} {e : En} (h : e ∈ dropE k L) : e ∈ L := (List.mem_filter.1 h).1
theorem wp_of_run {P : Program} {o : Oper} {a : Act} {w w2 : World} {K : Act → World → Prop} {Q : Exit → Act → World → Prop} {n : Next} (hr : (execOp a.eval o).run P w = .ok n w2) (hk : o.upon P a K Q (.ok n w2)) : o.wp P a w K Q := by
  unfold Oper.wp; rw [hr]; exact hk
section
variable {No : Nat → Prop} {w : World} {p b : Nat} {c : Cf} {L : List En} {o : Value} {last : Int}

set_option maxRecDepth 20000 in
set_option maxHeartbeats 4000000 in
theorem drop_any (h : GX No w p b c L (L.map (·.k)) o (heldE L : Nat) last) {k : Pk} (hin : k.In) {e : En} (he : lookE k L = some e) (hn : (L.map (·.k)).Nodup) (hL : L.length ≤ 65536) (hb : heldE L ≤ 67108864) (hps : e.a.ps.length ≤ 65536) (hpi : ∀ q ∈ e.a.ps, q.In) :
    Calls Try.prog 20 #[.pointer (some ⟨p, 0, none⟩), pkV k] w fun x w' => x = .returned (.tuple #[]) ∧ (∃ o', GX No w' p b c (dropE k L) ((dropE k L).map (·.k)) o' (heldE (dropE k L) : Nat) last) ∧ Ks No w w' := by
  obtain ⟨so, sco, rfl⟩ := rowp_shape h.row
  have B0 := below_one w (.cells #[.int .u32 (k.frm : Int), .int .u32 (k.dst : Int), .int .u8 (k.pr : Int), .int .u16 (k.idn : Int)] 56)
  have K0 := KB.box w k 56
  have hd := heldE_drop hn he
  have hpv := h.pv e (lookE_some he).1
  obtain ⟨sp, sc, hv⟩ := pv_shape hpv
  go_enter Try.func20, Try.ntmps20
  go_wp2_with fail
  generalize hw1 : w.alloc _ = w1 at *
  have H1 := h.below B0
  have hB : w.heap.size < w1.heap.size := K0.lt
  have c4 : w1.cell? ⟨p, 4, none⟩ = some (.map (some b)) := H1.cell rfl
  have c6 : w1.cell? ⟨p, 6, none⟩ = some (.int .i64 (heldE L : Nat)) := H1.cell rfl
  obtain ⟨k0, k1, k2, k3⟩ := K0
  have hl := fun d os => (H1.below (below_regrown w1 d os)).map.look_some hin he false
  simp only [Bool.false_eq_true, if_false] at hl
  rw [hv] at hl
  simp only [gaV] at hl
  have hsz : ∀ d os, Calls Try.prog 27 #[.agg #[.int .u8 (e.a.hd.tos : Int), .int .u16 (e.a.hd.id : Int), .bool e.a.hd.hold, .bool e.a.hd.more, .int .i64 e.a.hd.at', .int .u8 (e.a.hd.ttl : Int), .int .u8 (e.a.hd.proto : Int), .int .u32 (e.a.hd.frm : Int), .int .u32 (e.a.hd.to : Int), .string e.a.hd.op, .slice sp e.a.ps.length sc, .int .i64 e.a.ov, .bool e.a.sp]] (Sort.grow (redrawn w1 d) os) fun x w'' => x = .returned (.int .i64 (sumP e.a.ps : Nat)) ∧ ∃ p : Regrown, w'' = Sort.grow (redrawn w1 p.d) p.os := fun d os =>
    Calls.regrown_of (by have := size_any e.a e.v (Sort.grow (redrawn w1 d) os) (hpv.on (tr2 B0 (below_regrown w1 d os))) hps hpi; rw [hv] at this; exact this)
  have hsub : IntKind.i64.wrap (((heldE L : Nat) : Int) - ((sumP e.a.ps : Nat) : Int)) = ((heldE (dropE k L) : Nat) : Int) := by rw [IntKind.wrap_i64]; omega
  have r4 := cell_regrown c4
  have r6 := cell_regrown c6
  have q0 := cell_regrown k0
  have q1 := cell_regrown k1
  have q2 := cell_regrown k2
  have q3 := cell_regrown k3
  have HH := hide H1
  clear hpv hv he hd
  generalize heldE L = hl0 at *
  generalize sumP e.a.ps = sz at *
  generalize e.a.ps.length = m at *
  refine wp_region_last (by repeat (first | exact Split.one _ | apply Split.cons)) (by kernel_rfl) (by kernel_rfl) rfl ?_
  repeat (go_big_quiet_step (fail))
  go_big_quiet_step (exact hsz _ _)
  repeat (go_big_quiet_step (fail))
  refine wpQuiet_nil ?_
  intro _ hw'
  obtain ⟨⟨dq, osq⟩, hw''⟩ := hw'
  subst hw''
  have HW := (unhide HH).below (below_regrown w1 dq osq)
  have BW := below_regrown w1 dq osq
  have KW := hide ((KB.mk k0 k1 k2 k3).on BW)
  have g6 : (Sort.grow (redrawn w1 dq) osq).cell? ⟨p, 6, none⟩ = some (.int .i64 (hl0 : Int)) := r6 dq osq
  have z6 := HW.fz 6
  clear r4 r6 q0 q1 q2 q3 hl hsz c4 c6 k0 k1 k2 k3
  have BW := hide (tr2 B0 BW)
  generalize Sort.grow (redrawn w1 dq) osq = W at *
  refine wp_of_run (w2 := W.setCell ⟨p, 6, none⟩ (.int .i64 ((heldE (dropE k L) : Nat) : Int))) (n := .skip) ?_ ?_
  · simp only [execOp]
    go_simp
  · simp only [Oper.upon, Act.put]
    have H2 := HW.setHeld ((heldE (dropE k L) : Nat) : Int)
    have hpB : w.heap.size ≠ p := by have := h.plt; omega
    have K2 := (unhide KW).set (b := p) (j := 6) (v := .int .i64 ((heldE (dropE k L) : Nat) : Int)) hpB
    have KS2 := hide ((Ks.of_below (No := No) (unhide BW)).trans (Ks.setCell W p 6 (.int .i64 ((heldE (dropE k L) : Nat) : Int)) h.shp))
    have hsz2 : w.heap.size < (W.setCell ⟨p, 6, none⟩ (.int .i64 ((heldE (dropE k L) : Nat) : Int))).heap.size := K2.lt
    obtain ⟨W2, hW2⟩ : ∃ W2, W2 = W.setCell ⟨p, 6, none⟩ (.int .i64 ((heldE (dropE k L) : Nat) : Int)) := ⟨_, rfl⟩
    rw [← hW2] at H2 K2 KS2 hsz2
    rw [← hW2]
    clear hW2 HW z6 g6 KW BW HH
    have c4 : W2.cell? ⟨p, 4, none⟩ = some (.map (some b)) := H2.cell rfl
    have KK := K2
    obtain ⟨k0, k1, k2, k3⟩ := K2
    have r4 := cell_regrown c4
    have q0 := cell_regrown k0
    have q1 := cell_regrown k1
    have q2 := cell_regrown k2
    have q3 := cell_regrown k3
    have HH := hide H2
    clear H2
    go_wp2_with fail
    refine wp_region_last (by repeat (first | exact Split.one _ | apply Split.cons)) (by kernel_rfl) (by kernel_rfl) rfl ?_
    repeat (go_big_quiet_step (fail))
    refine wpQuiet_nil ?_
    intro _ hw'
    obtain ⟨⟨dq, osq⟩, hw''⟩ := hw'
    subst hw''
    have HW := (unhide HH).below (below_regrown W2 dq osq)
    obtain ⟨w3, hrun, hm3, hg3⟩ := HW.map.drop hin hn 0
    have K3 := KK.on (below_regrown W2 dq osq)
    have KS3 := hide ((unhide KS2).trans (Ks.of_below (below_regrown W2 dq osq)))
    clear r4 q0 q1 q2 q3 c4 k0 k1 k2 k3 KK KS2 HH
    generalize Sort.grow (redrawn W2 dq) osq = W3 at *
    refine wp_of_run (w2 := w3) (n := .value (.tuple #[])) ?_ ?_
    · simp only [execOp]
      go_simp
    · simp only [Oper.upon, Act.put]
      obtain ⟨H3, KS3'⟩ := HW.mapped hg3 hm3 (fun x hx => ⟨HW.pv x (mem_drop hx), HW.ap x (mem_drop hx)⟩)
      have K4 := K3.gb hg3 (by have := h.blt; omega)
      have KS4 := hide ((unhide KS3).trans KS3')
      clear hrun hm3 hg3 K3 KS3 KS3' HW
      have HD := hide (deletek_any (.slice so (L.map (·.k)).length sco) (L.map (·.k)) k w.heap.size 0 w3 (by simpa using hL) K4 (fun e => by have := h.olt _ e; omega) H3.row)
      have c5 : w3.cell? ⟨p, 5, none⟩ = some (.slice so (L.map (·.k)).length sco) := H3.cell rfl
      have HO := hide (fun (W4 : World) (o' : Value) (g4 : w3.grownBy W4 (Value.slice so (L.map (·.k)).length sco).ownBlock) (own4 : W4.ownsRow 0 56 4 o' ((L.map (·.k)).filter (nk k)).length (flatK ((L.map (·.k)).filter (nk k)))) (hob : o'.ownBlock = (Value.slice so (L.map (·.k)).length sco).ownBlock) => H3.order g4 own4 (.inl hob))
      have HP5 := hide (fun (W4 : World) (g4 : w3.grownBy W4 (Value.slice so (L.map (·.k)).length sco).ownBlock) => (g4.block p H3.plt (fun e => H3.one.1 e.symm)).trans H3.box)
      have hpl := H3.plt
      clear H3 K4
      generalize (L.map (·.k)).length = no at *
      go_wp2_with fail
      refine (unhide HD).mono ?_
      rintro x w4 ⟨sp4, n4, sc4, rfl, own4, g4, hob⟩
      obtain ⟨H5, KS5⟩ := unhide HO w4 _ g4 own4 hob
      have bx := unhide HP5 w4 g4
      have c5' : w4.cell? ⟨p, 5, none⟩ = some (.slice so no sco) := by rw [cell_of_row _ _ 5 _ _ _ bx]; rfl
      have f5' : w4.frozen? ⟨p, 5, none⟩ = false := by simp [World.frozen?, bx]
      clear own4 g4 hob bx HO HP5 HD c5
      go_wp2_with fail
      refine bodyPost_end (v := .tuple #[]) (by simp [results, Try.results20, go_sem]) rfl ?_
      rw [keys_drop]
      exact ⟨rfl, ⟨_, H5⟩, (unhide KS4).trans KS5⟩
end

end Go.Proofs.Ytekljiakofmhnaa
