/- The contract of spoil of package gather, over the loaded program. Conditions: keys in their kinds' bounds. -/
import Derived.Test.YtekljiakofmhnaaGq5
namespace Go.Proofs.Ytekljiakofmhnaa
open Go.RowKit

theorem setE_some {k : Pk} {x : Ga} {v : Value} {L : List En} {e : En} (he : lookE k L = some e) : setE k x v L = L.map (fun e => if e.k = k then ⟨k, x, v⟩ else e) := by
  unfold setE
  rw [he]
  rfl
theorem keys_set {k : Pk} {x : Ga} {v : Value} {L : List En} {e : En} (he : lookE k L = some e) : (setE k x v L).map (·.k) = L.map (·.k) := by
  rw [setE_some he, List.map_map]
  apply List.map_congr_left
  intro y _
  simp only [Function.comp]
  split
  · rename_i h; exact h.symm
  · rfl
theorem heldE_set {k : Pk} {x : Ga} {v : Value} {L : List En} {e : En} (hn : (L.map (·.k)).Nodup) (he : lookE k L = some e) : heldE (setE k x v L) + sumP e.a.ps = heldE L + sumP x.ps := by
  rw [setE_some he]
  induction L with
  | nil => simp [lookE] at he
  | cons y r ih =>
    simp only [List.map_cons, List.nodup_cons] at hn
    by_cases hy : y.k = k
    · have e2 : y = e := by simpa [lookE, hy] using he
      subst e2
      have e1 : r.map (fun e => if e.k = k then (⟨k, x, v⟩ : En) else e) = r := by
        conv => rhs; rw [← List.map_id r]
        apply List.map_congr_left
        intro z hz
        have : z.k ≠ k := fun w => hn.1 (by rw [hy, ← w]; exact List.mem_map_of_mem hz)
        simp [this]
      rw [List.map_cons, e1]
      simp [heldE, hy]
      omega
    · have h' : lookE k r = some e := by simpa [lookE, hy] using he
      have := ih hn.2 h'
      rw [List.map_cons, if_neg hy]
      simp only [heldE, List.map_cons, List.sum_cons] at *
      omega
theorem mem_set {k : Pk} {x : Ga} {v : Value} {L : List En} {y : En} (h : y ∈ setE k x v L) : y = ⟨k, x, v⟩ ∨ y ∈ L := by
  unfold setE at h
  split at h
  · rw [List.mem_map] at h
    obtain ⟨z, hz, rfl⟩ := h
    split
    · exact .inl rfl
    · exact .inr hz
  · rcases List.mem_append.1 h with h | h
    · exact .inr h
    · exact .inl (List.mem_singleton.1 h)
/-- a gathering that is spoilt -/
abbrev rh0 : Rh := ⟨0, 0, false, false, 0, 0, 0, 0, 0, ⟨#[]⟩⟩
def spoiltG (ov : Int) : Ga := ⟨rh0, [], ov, true⟩
section
variable {No : Nat → Prop} {w : World} {p b : Nat} {c : Cf} {L : List En} {o : Value} {last : Int}

set_option maxRecDepth 20000 in
set_option maxHeartbeats 4000000 in
theorem spoil_any (h : GX No w p b c L (L.map (·.k)) o (heldE L : Nat) last) {k : Pk} (hin : k.In) {e : En} (he : lookE k L = some e) (hn : (L.map (·.k)).Nodup) (hL : L.length ≤ 65536) (hb : heldE L ≤ 67108864) (hps : e.a.ps.length ≤ 65536) (hpi : ∀ q ∈ e.a.ps, q.In) :
    Calls Try.prog 46 #[.pointer (some ⟨p, 0, none⟩), pkV k] w fun x w' => x = .returned (.tuple #[]) ∧ (∃ o', GX No w' p b c (setE k (spoiltG e.a.ov) (.slice none 0 0) L) ((setE k (spoiltG e.a.ov) (.slice none 0 0) L).map (·.k)) o' (heldE (setE k (spoiltG e.a.ov) (.slice none 0 0) L) : Nat) last) ∧ Ks No w w' := by
  obtain ⟨so, sco, rfl⟩ := rowp_shape h.row
  have B0 := below_one w (.cells #[.int .u32 (k.frm : Int), .int .u32 (k.dst : Int), .int .u8 (k.pr : Int), .int .u16 (k.idn : Int)] 56)
  have K0 := KB.box w k 56
  have hd := heldE_set (x := spoiltG e.a.ov) (v := .slice none 0 0) hn he
  have hk := keys_set (x := spoiltG e.a.ov) (v := .slice none 0 0) he
  simp only [spoiltG, sumP, Nat.add_zero] at hd
  have hpv := h.pv e (lookE_some he).1
  obtain ⟨sp, sc, hv⟩ := pv_shape hpv
  go_enter Try.func46, Try.ntmps46
  go_wp2_with fail
  generalize hw1 : w.alloc _ = w1 at *
  have H1 := h.below B0
  have hB : w.heap.size < w1.heap.size := K0.lt
  have c4 : w1.cell? ⟨p, 4, none⟩ = some (.map (some b)) := H1.cell rfl
  have KK := K0
  obtain ⟨k0, k1, k2, k3⟩ := K0
  have hpl := H1.plt
  have hl := (H1.below ((Below.refl _ _).drew)).map.look_some hin he false
  have hl2 := (H1.below ((below_one w1 (.cells ga0C 59)).drew)).map.look_some hin he false
  simp only [Bool.false_eq_true, if_false] at hl hl2
  rw [hv] at hl hl2
  simp only [gaV] at hl hl2
  have HH := hide H1
  have KH := hide KK
  clear H1 KK
  have BG := (below_one w1 (.cells #[.int .u8 (e.a.hd.tos : Int), .int .u16 (e.a.hd.id : Int), .bool e.a.hd.hold, .bool e.a.hd.more, .int .i64 e.a.hd.at', .int .u8 (e.a.hd.ttl : Int), .int .u8 (e.a.hd.proto : Int), .int .u32 (e.a.hd.frm : Int), .int .u32 (e.a.hd.to : Int), .string e.a.hd.op, .slice sp e.a.ps.length sc, .int .i64 e.a.ov, .bool e.a.sp] 59)).drew
  have GG : GC (w1.alloc (.cells #[.int .u8 (e.a.hd.tos : Int), .int .u16 (e.a.hd.id : Int), .bool e.a.hd.hold, .bool e.a.hd.more, .int .i64 e.a.hd.at', .int .u8 (e.a.hd.ttl : Int), .int .u8 (e.a.hd.proto : Int), .int .u32 (e.a.hd.frm : Int), .int .u32 (e.a.hd.to : Int), .string e.a.hd.op, .slice sp e.a.ps.length sc, .int .i64 e.a.ov, .bool e.a.sp] 59)).drew w1.heap.size e.a (.slice sp e.a.ps.length sc) := (GC.box w1 e.a (.slice sp e.a.ps.length sc) 59).on ((Below.refl _ _).drew)
  have hne1 : w1.heap.size ≠ p := by omega
  go_region
  all_goals
    have H2 := (unhide HH).below BG
    have K2 := (unhide KH).on BG
    have B2 := hide (tr2 B0 BG)
    have P2 := hpv.on (tr2 B0 BG)
    have hs2 := BG.size
    obtain ⟨W, hW⟩ : ∃ W, W = (w1.alloc (.cells #[.int .u8 (e.a.hd.tos : Int), .int .u16 (e.a.hd.id : Int), .bool e.a.hd.hold, .bool e.a.hd.more, .int .i64 e.a.hd.at', .int .u8 (e.a.hd.ttl : Int), .int .u8 (e.a.hd.proto : Int), .int .u32 (e.a.hd.frm : Int), .int .u32 (e.a.hd.to : Int), .string e.a.hd.op, .slice sp e.a.ps.length sc, .int .i64 e.a.ov, .bool e.a.sp] 59)).drew := ⟨_, rfl⟩
    rw [← hW] at H2 K2 B2 P2 GG hs2
    rw [← hW]
    clear hW BG hl hl2 k0 k1 k2 k3 c4 HH KH
    have c6 : W.cell? ⟨p, 6, none⟩ = some (.int .i64 (heldE L : Nat)) := H2.cell rfl
    have r6 := cell_regrown c6
    obtain ⟨g0, g1, g2, g3, g4, g5, g6, g7, g8, g9, g10, g11, g12⟩ := GG
    have m0 := cell_regrown g0
    have m1 := cell_regrown g1
    have m2 := cell_regrown g2
    have m3 := cell_regrown g3
    have m4 := cell_regrown g4
    have m5 := cell_regrown g5
    have m6 := cell_regrown g6
    have m7 := cell_regrown g7
    have m8 := cell_regrown g8
    have m9 := cell_regrown g9
    have m10 := cell_regrown g10
    have m11 := cell_regrown g11
    have m12 := cell_regrown g12
    have hsz : ∀ d os, Calls Try.prog 27 #[.agg #[.int .u8 (e.a.hd.tos : Int), .int .u16 (e.a.hd.id : Int), .bool e.a.hd.hold, .bool e.a.hd.more, .int .i64 e.a.hd.at', .int .u8 (e.a.hd.ttl : Int), .int .u8 (e.a.hd.proto : Int), .int .u32 (e.a.hd.frm : Int), .int .u32 (e.a.hd.to : Int), .string e.a.hd.op, .slice sp e.a.ps.length sc, .int .i64 e.a.ov, .bool e.a.sp]] (Sort.grow (redrawn W d) os) fun x w'' => x = .returned (.int .i64 (sumP e.a.ps : Nat)) ∧ ∃ p : Regrown, w'' = Sort.grow (redrawn W p.d) p.os := fun d os =>
      Calls.regrown_of (by have := size_any e.a e.v (Sort.grow (redrawn W d) os) (P2.on (below_regrown W d os)) hps hpi; rw [hv] at this; exact this)
    have hsub : IntKind.i64.wrap (((heldE L : Nat) : Int) - ((sumP e.a.ps : Nat) : Int)) = ((heldE (setE k (spoiltG e.a.ov) (.slice none 0 0) L) : Nat) : Int) := by rw [IntKind.wrap_i64]; simp only [spoiltG]; omega
    have HH := hide H2
    have KH := hide K2
    clear hpv hd H2 K2 P2
    generalize heldE L = hl0 at *
    generalize sumP e.a.ps = sz at *
    go_wp2_with fail
    refine wp_region_last (by repeat (first | exact Split.one _ | apply Split.cons)) (by kernel_rfl) (by kernel_rfl) rfl ?_
    repeat (go_big_quiet_step (fail))
    go_big_quiet_step (exact hsz _ _)
    repeat (go_big_quiet_step (fail))
    refine wpQuiet_nil ?_
    intro _ hw'
    obtain ⟨⟨dq, osq⟩, hw''⟩ := hw'
    subst hw''
    have BR := below_regrown W dq osq
    have HR := (unhide HH).below BR
    have KR := (unhide KH).on BR
    have n11 := m11 dq osq
    have n6 := r6 dq osq
    have z6 := HR.fz 6
    have BB := hide (tr2 (unhide B2) BR)
    have hbs := BR.size
    clear r6 m0 m1 m2 m3 m4 m5 m6 m7 m8 m9 m10 m11 m12 c6 g0 g1 g2 g3 g4 g5 g6 g7 g8 g9 g10 g11 g12 hsz HH KH
    generalize Sort.grow (redrawn W dq) osq = W1 at *
    refine wp_of_run (w2 := W1.setCell ⟨p, 6, none⟩ (.int .i64 ((heldE (setE k (spoiltG e.a.ov) (.slice none 0 0) L) : Nat) : Int))) (n := .skip) ?_ ?_
    · simp only [execOp]
      go_simp
    · simp only [Oper.upon, Act.put]
      have H3 := HR.setHeld ((heldE (setE k (spoiltG e.a.ov) (.slice none 0 0) L) : Nat) : Int)
      have hpB : w.heap.size ≠ p := by have := h.plt; omega
      have K3 := KR.set (b := p) (j := 6) (v := .int .i64 ((heldE (setE k (spoiltG e.a.ov) (.slice none 0 0) L) : Nat) : Int)) hpB
      have n11' : (W1.setCell ⟨p, 6, none⟩ (.int .i64 ((heldE (setE k (spoiltG e.a.ov) (.slice none 0 0) L) : Nat) : Int))).cell? ⟨w1.heap.size, 11, none⟩ = some (.int .i64 e.a.ov) := (World.cell?_setCell_other _ _ _ _ (fun x => hne1 (congrArg Addr.block x).symm)).trans n11
      have KS3 := hide ((Ks.of_below (No := No) (unhide BB)).trans (Ks.setCell W1 p 6 (.int .i64 ((heldE (setE k (spoiltG e.a.ov) (.slice none 0 0) L) : Nat) : Int)) h.shp))
      obtain ⟨W2, hW2⟩ : ∃ W2, W2 = W1.setCell ⟨p, 6, none⟩ (.int .i64 ((heldE (setE k (spoiltG e.a.ov) (.slice none 0 0) L) : Nat) : Int)) := ⟨_, rfl⟩
      rw [← hW2] at H3 K3 n11' KS3
      rw [← hW2]
      clear hW2 HR KR n11 n6 z6 BB
      have c4 : W2.cell? ⟨p, 4, none⟩ = some (.map (some b)) := H3.cell rfl
      obtain ⟨k0, k1, k2, k3⟩ := K3
      have r4 := cell_regrown c4
      have r11 := cell_regrown n11'
      have q0 := cell_regrown k0
      have q1 := cell_regrown k1
      have q2 := cell_regrown k2
      have q3 := cell_regrown k3
      have HH := hide H3
      clear H3
      go_wp2_with fail
      refine wp_region_last (by repeat (first | exact Split.one _ | apply Split.cons)) (by kernel_rfl) (by kernel_rfl) rfl ?_
      repeat (go_big_quiet_step (fail))
      refine wpQuiet_nil ?_
      intro _ hw'
      obtain ⟨⟨dq, osq⟩, hw''⟩ := hw'
      subst hw''
      have HW := (unhide HH).below (below_regrown W2 dq osq)
      obtain ⟨w3, hrun, hm3, hg3⟩ := HW.map.store hin hL (spoiltG e.a.ov) (.slice none 0 0)
      have KS4 := hide ((unhide KS3).trans (Ks.of_below (below_regrown W2 dq osq)))
      clear r4 q0 q1 q2 q3 r11 c4 k0 k1 k2 k3 KS3 HH
      generalize Sort.grow (redrawn W2 dq) osq = W3 at *
      have hrun : (Instr.mapUpdate 49 (.map (some b)) (pkV k) (.agg #[.int .u8 0, .int .u16 0, .bool false, .bool false, .int .i64 0, .int .u8 0, .int .u8 0, .int .u32 0, .int .u32 0, .string ⟨#[]⟩, .slice none 0 0, .int .i64 e.a.ov, .bool true])).run Try.prog W3 = .ok () w3 := hrun
      refine wp_of_run (w2 := w3) (n := .skip) ?_ ?_
      · simp only [execOp]
        go_simp
      · simp only [Oper.upon, Act.put]
        obtain ⟨H4, KS5⟩ := HW.mapped hg3 hm3 (fun x hx => by
          rcases mem_set hx with rfl | hx
          · exact ⟨.inl ⟨rfl, rfl⟩, fun g hg => by simp [Value.ownBlock] at hg⟩
          · exact ⟨HW.pv x hx, HW.ap x hx⟩)
        rw [← hk] at H4
        go_wp2_with fail
        refine bodyPost_end (v := .tuple #[]) (by simp [results, Try.results46, go_sem]) rfl ?_
        exact ⟨rfl, ⟨_, H4⟩, (unhide KS4).trans KS5⟩
end

end Go.Proofs.Ytekljiakofmhnaa
