/- The body of Tick's loop, case by case. -/
import Derived.Test.YtjcigoojlmalnaaNt3
import Derived.Test.YtjcigoojlmalnaaRg
namespace Go.Proofs.Ytjcigoojlmalnaa
open Go.RowKit Go.Shelf Go.Maps Go.Sort

attribute [local go_sem] Oper.semAt_some

def rngBody : Code → Option Code
  | .rangeFunc _ _ _ body => some body
  | .seq a b => match rngBody a with
    | some c => some c
    | none => rngBody b
  | .block _ c => rngBody c
  | .scope c => rngBody c
  | .cond _ a b => match rngBody a with
    | some c => some c
    | none => rngBody b
  | _ => none
noncomputable def tickBody : Code := (Try.f10.body.bind rngBody).getD .skip

theorem drawn_regrown (w : World) (p : Regrown) : Below w.heap.size w (grow (redrawn w p.d) p.os) := below_regrown w p.d p.os

theorem wp_of_run {P : Program} {o : Oper} {a : Act} {w w2 : World} {K : Act → World → Prop} {Q : Exit → Act → World → Prop} {n : Next} (hr : (execOp a.eval o).run P w = .ok n w2) (hk : o.upon P a K Q (.ok n w2)) : o.wp P a w K Q := by
  unfold Oper.wp; rw [hr]; exact hk

section
variable {W : World} {Bn Ba Bl Bm B1 p b now T ip mc tm a s wn sc l : Nat} {sq : Option Addr}
set_option maxRecDepth 100000 in
set_option maxHeartbeats 2000000 in
theorem body_stale {kn : Nat} {Q : Exit → Act → World → Prop}
    (c3 : W.cell? ⟨p, 3, none⟩ = some (.int .i64 (kn : Int))) (c6 : W.cell? ⟨p, 6, none⟩ = some (.map (some b))) (c7 : W.cell? ⟨p, 7, none⟩ = some (.int .i64 (T : Int)))
    (e0 : W.cell? ⟨B1, 0, none⟩ = some (.int .u8 2)) (e1 : W.cell? ⟨B1, 1, none⟩ = some (.int .u64 (mc : Int))) (en : W.cell? ⟨Bn, 0, none⟩ = some (.pointer (some ⟨p, 0, none⟩)))
    (hwr : IntKind.i64.wrap ((T : Int) + (kn : Int)) = (T : Int) + (kn : Int))
    (HF : ∀ W1, Below W.heap.size W W1 → ∃ w2, (Instr.mapUpdate 53 (.map (some b)) (.int .u32 (ip : Int)) (.agg #[.int .u8 3, .int .u64 (mc : Int), .int .i64 ((T : Int) + (kn : Int)), .int .i64 0, .slice none 0 0])).run Try.prog W1 = .ok () w2 ∧ ∀ a', Q .normal a' w2) :
    tickBody.wpIn (Fence.wide.inRound l) 1 Try.prog Q { tmps := #[.pointer (some ⟨p, 0, none⟩), .int .i64 (now : Int), .pointer (some ⟨Bn, 0, none⟩), undef, .pointer (some ⟨Ba, 0, none⟩), .pointer (some ⟨Bl, 0, none⟩), .int .u32 (ip : Int), .pointer (some ⟨B1, 0, none⟩), .pointer (some ⟨p, 0, none⟩), .bool true, .bool false, .pointer (some ⟨p, 0, none⟩), .pointer (some ⟨p, 0, none⟩), .int .i64 (now : Int), .int .i64 (T : Int), .pointer (some ⟨p, 0, none⟩), .pointer (some ⟨p, 7, none⟩), .pointer (some ⟨p, 0, none⟩), .func (.func 27) #[] #[.pointer (some ⟨Bm, 0, none⟩)], .int .u32 (ip : Int), .agg #[.int .u8 (s : Int), .int .u64 (mc : Int), .int .i64 (tm : Int), .int .i64 (a : Int), .slice sq wn sc], undef, undef, undef, undef, undef, undef, undef, undef, undef, undef, undef, undef, undef, undef, undef, undef, undef, undef, undef, undef, undef, undef, undef, undef, undef, undef, undef, undef, undef, undef, undef, undef, undef, undef, undef, undef, undef, undef, undef, undef, undef, undef, undef, undef, undef, undef, undef, undef, undef, undef, undef, undef, undef, undef, undef, undef, undef, undef, undef], defers := [] } W := by
  have HF := hide HF
  conv => arg 4; whnf
  gi_wp2_with fail
  have c3 := cell_regrown c3
  have c6 := cell_regrown c6
  have c7 := cell_regrown c7
  have e1 := cell_regrown e1
  have en := cell_regrown en
  refine round_last (by repeat (first | exact Split.one _ | apply Split.cons)) (by kernel_rfl) (by kernel_rfl) rfl ?_
  repeat (go_big_quiet_step (fail))
  refine wpQuiet_nil ?_
  intro _ hw'
  obtain ⟨⟨dq, osq⟩, hw''⟩ := hw'
  subst hw''
  obtain ⟨w2, hrun, hq⟩ := unhide HF _ (below_regrown W dq osq)
  refine wp_of_run (w2 := w2) (n := .skip) ?_ ?_
  · simp only [execOp]
    go_simp
  · exact hq _

set_option maxRecDepth 100000 in
set_option maxHeartbeats 2000000 in
theorem body_gone0 {asks on : Nat} {sb : Option Addr} {cb : Nat} {Q : Exit → Act → World → Prop}
    (c4 : W.cell? ⟨p, 4, none⟩ = some (.int .i64 (asks : Int))) (c6 : W.cell? ⟨p, 6, none⟩ = some (.map (some b)))
    (e0 : W.cell? ⟨B1, 0, none⟩ = some (.int .u8 (s : Int))) (e3 : W.cell? ⟨B1, 3, none⟩ = some (.int .i64 0)) (en : W.cell? ⟨Bn, 0, none⟩ = some (.pointer (some ⟨p, 0, none⟩)))
    (hs2 : ((s : Int) == 2) = false)
    (HF : ∀ W1, Below W.heap.size W W1 → ∃ w2, (Builtin.delete_ #[53, 35] 0 #[.map (some b), .int .u32 (ip : Int)]).run Try.prog W1 = .ok (.tuple #[]) w2 ∧ w2.cell? ⟨Bl, 0, none⟩ = some (.slice sb on cb) ∧ w2.cell? ⟨B1, 4, none⟩ = some (.slice sq wn sc) ∧
            ∃ sp cap w3, (Builtin.append_ #[36, 36] 36 #[.slice sb on cb, .slice sq wn sc]).run Try.prog w2 = .ok (.slice sp (on + wn) cap) w3 ∧ w3.cell? ⟨Bl, 0, none⟩ = some (.slice sb on cb) ∧ w3.frozen? ⟨Bl, 0, none⟩ = false ∧ ∀ a', Q .normal a' (w3.setCell ⟨Bl, 0, none⟩ (.slice sp (on + wn) cap))) :
    tickBody.wpIn (Fence.wide.inRound l) 1 Try.prog Q { tmps := #[.pointer (some ⟨p, 0, none⟩), .int .i64 (now : Int), .pointer (some ⟨Bn, 0, none⟩), undef, .pointer (some ⟨Ba, 0, none⟩), .pointer (some ⟨Bl, 0, none⟩), .int .u32 (ip : Int), .pointer (some ⟨B1, 0, none⟩), .pointer (some ⟨p, 0, none⟩), .bool true, .bool false, .pointer (some ⟨p, 0, none⟩), .pointer (some ⟨p, 0, none⟩), .int .i64 (now : Int), .int .i64 (T : Int), .pointer (some ⟨p, 0, none⟩), .pointer (some ⟨p, 7, none⟩), .pointer (some ⟨p, 0, none⟩), .func (.func 27) #[] #[.pointer (some ⟨Bm, 0, none⟩)], .int .u32 (ip : Int), .agg #[.int .u8 (s : Int), .int .u64 (mc : Int), .int .i64 (tm : Int), .int .i64 (a : Int), .slice sq wn sc], undef, undef, undef, undef, undef, undef, undef, undef, undef, undef, undef, undef, undef, undef, undef, undef, undef, undef, undef, undef, undef, undef, undef, undef, undef, undef, undef, undef, undef, undef, undef, undef, undef, undef, undef, undef, undef, undef, undef, undef, undef, undef, undef, undef, undef, undef, undef, undef, undef, undef, undef, undef, undef, undef, undef, undef, undef, undef, undef], defers := [] } W := by
  have HF := hide HF
  conv => arg 4; whnf
  gi_wp2_with fail
  have d6 := cell_regrown c6
  have dn := cell_regrown en
  have d3 := cell_regrown e3
  have d4 := cell_regrown c4
  refine round_quiet (by kernel_rfl) (by kernel_rfl) ?_
  repeat (go_big_quiet_step (fail))
  refine wpQuiet_nil ?_
  intro _ hw'
  obtain ⟨⟨dq, osq⟩, hw''⟩ := hw'
  subst hw''
  have f6 := d6 dq osq
  have fn := dn dq osq
  obtain ⟨w2, hrun, q1, q2, sp, cap, w3, hrun3, q3, q4, HZ⟩ := unhide HF _ (below_regrown W dq osq)
  have HZ := hide HZ
  generalize grow (redrawn W dq) osq = W1 at *
  clear d6 dn d3 d4 HF
  gi_wp2_with (first | (gi_at_builtin; refine unhide ?_) | (rw [Oper.semAt_eq _ _ _ (fun c h => by cases h)]; go_simp; try go_bits))
  refine hide ?_
  refine wpListIn_app rfl _ _ _ rfl rfl rfl hrun3 ?_
  gi_wp2
  exact unhide HZ _

set_option maxRecDepth 100000 in
set_option maxHeartbeats 2000000 in
theorem body_gone1 {asks on : Nat} {sb : Option Addr} {cb : Nat} {Q : Exit → Act → World → Prop}
    (c4 : W.cell? ⟨p, 4, none⟩ = some (.int .i64 (asks : Int))) (c6 : W.cell? ⟨p, 6, none⟩ = some (.map (some b)))
    (e0 : W.cell? ⟨B1, 0, none⟩ = some (.int .u8 (s : Int))) (e3 : W.cell? ⟨B1, 3, none⟩ = some (.int .i64 (asks : Int))) (en : W.cell? ⟨Bn, 0, none⟩ = some (.pointer (some ⟨p, 0, none⟩)))
    (hs2 : ((s : Int) == 2) = false) (ha : ((asks : Int) == 0) = false)
    (HF : ∀ W1, Below W.heap.size W W1 → ∃ w2, (Builtin.delete_ #[53, 35] 0 #[.map (some b), .int .u32 (ip : Int)]).run Try.prog W1 = .ok (.tuple #[]) w2 ∧ w2.cell? ⟨Bl, 0, none⟩ = some (.slice sb on cb) ∧ w2.cell? ⟨B1, 4, none⟩ = some (.slice sq wn sc) ∧
            ∃ sp cap w3, (Builtin.append_ #[36, 36] 36 #[.slice sb on cb, .slice sq wn sc]).run Try.prog w2 = .ok (.slice sp (on + wn) cap) w3 ∧ w3.cell? ⟨Bl, 0, none⟩ = some (.slice sb on cb) ∧ w3.frozen? ⟨Bl, 0, none⟩ = false ∧ ∀ a', Q .normal a' (w3.setCell ⟨Bl, 0, none⟩ (.slice sp (on + wn) cap))) :
    tickBody.wpIn (Fence.wide.inRound l) 1 Try.prog Q { tmps := #[.pointer (some ⟨p, 0, none⟩), .int .i64 (now : Int), .pointer (some ⟨Bn, 0, none⟩), undef, .pointer (some ⟨Ba, 0, none⟩), .pointer (some ⟨Bl, 0, none⟩), .int .u32 (ip : Int), .pointer (some ⟨B1, 0, none⟩), .pointer (some ⟨p, 0, none⟩), .bool true, .bool false, .pointer (some ⟨p, 0, none⟩), .pointer (some ⟨p, 0, none⟩), .int .i64 (now : Int), .int .i64 (T : Int), .pointer (some ⟨p, 0, none⟩), .pointer (some ⟨p, 7, none⟩), .pointer (some ⟨p, 0, none⟩), .func (.func 27) #[] #[.pointer (some ⟨Bm, 0, none⟩)], .int .u32 (ip : Int), .agg #[.int .u8 (s : Int), .int .u64 (mc : Int), .int .i64 (tm : Int), .int .i64 (a : Int), .slice sq wn sc], undef, undef, undef, undef, undef, undef, undef, undef, undef, undef, undef, undef, undef, undef, undef, undef, undef, undef, undef, undef, undef, undef, undef, undef, undef, undef, undef, undef, undef, undef, undef, undef, undef, undef, undef, undef, undef, undef, undef, undef, undef, undef, undef, undef, undef, undef, undef, undef, undef, undef, undef, undef, undef, undef, undef, undef, undef, undef, undef], defers := [] } W := by
  have HF := hide HF
  conv => arg 4; whnf
  gi_wp2_with fail
  have d6 := cell_regrown c6
  have dn := cell_regrown en
  have d3 := cell_regrown e3
  have d4 := cell_regrown c4
  refine round_quiet (by kernel_rfl) (by kernel_rfl) ?_
  repeat (go_big_quiet_step (fail))
  refine wpQuiet_nil ?_
  intro _ hw'
  obtain ⟨⟨dq, osq⟩, hw''⟩ := hw'
  subst hw''
  have f6 := d6 dq osq
  have fn := dn dq osq
  obtain ⟨w2, hrun, q1, q2, sp, cap, w3, hrun3, q3, q4, HZ⟩ := unhide HF _ (below_regrown W dq osq)
  have HZ := hide HZ
  generalize grow (redrawn W dq) osq = W1 at *
  clear d6 dn d3 d4 HF
  gi_wp2_with (first | (gi_at_builtin; refine unhide ?_) | (rw [Oper.semAt_eq _ _ _ (fun c h => by cases h)]; go_simp; try go_bits))
  refine hide ?_
  refine wpListIn_app rfl _ _ _ rfl rfl rfl hrun3 ?_
  gi_wp2
  exact unhide HZ _

set_option maxRecDepth 100000 in
set_option maxHeartbeats 2000000 in
theorem body_again {asks an : Nat} {sa : Option Addr} {ca pz a2 : Nat} {Q : Exit → Act → World → Prop}
    (c4 : W.cell? ⟨p, 4, none⟩ = some (.int .i64 (asks : Int))) (c6 : W.cell? ⟨p, 6, none⟩ = some (.map (some b)))
    (e0 : W.cell? ⟨B1, 0, none⟩ = some (.int .u8 (s : Int))) (e1 : W.cell? ⟨B1, 1, none⟩ = some (.int .u64 (mc : Int))) (e2 : W.cell? ⟨B1, 2, none⟩ = some (.int .i64 (tm : Int))) (e3 : W.cell? ⟨B1, 3, none⟩ = some (.int .i64 (a : Int))) (e4 : W.cell? ⟨B1, 4, none⟩ = some (.slice sq wn sc)) (en : W.cell? ⟨Bn, 0, none⟩ = some (.pointer (some ⟨p, 0, none⟩)))
    (hs2 : ((s : Int) == 2) = false) (ha0 : ((a : Int) == 0) = false) (ha1 : ((a : Int) == (asks : Int)) = false)
    (HA : ∀ W1, Below W.heap.size W W1 → Calls Try.prog 24 #[.pointer (some ⟨p, 0, none⟩), .agg #[.int .u8 (s : Int), .int .u64 (mc : Int), .int .i64 (tm : Int), .int .i64 (a : Int), .slice sq wn sc]] W1 fun e w' =>
      e = .returned (.agg #[.int .u8 (s : Int), .int .u64 (mc : Int), .int .i64 (pz : Int), .int .i64 (a2 : Int), .slice sq wn sc]) ∧ Below W1.heap.size W1 w')
    (HF : ∀ W1, Below W.heap.size W W1 → ∃ w2, (Instr.mapUpdate 53 (.map (some b)) (.int .u32 (ip : Int)) (.agg #[.int .u8 (s : Int), .int .u64 (mc : Int), .int .i64 (pz : Int), .int .i64 (a2 : Int), .slice sq wn sc])).run Try.prog W1 = .ok () w2 ∧ w2.cell? ⟨Ba, 0, none⟩ = some (.slice sa an ca) ∧
            ∃ sp cap w3, (Builtin.append_ #[40, 40] 40 #[.slice sa an ca, .slice (some ⟨w2.heap.size, 0, none⟩) 1 1]).run Try.prog (w2.alloc (.cells #[.int .u32 (ip : Int)] 35)) = .ok (.slice sp (an + 1) cap) w3 ∧ w3.cell? ⟨Ba, 0, none⟩ = some (.slice sa an ca) ∧ w3.frozen? ⟨Ba, 0, none⟩ = false ∧ ∀ a', Q .normal a' (w3.setCell ⟨Ba, 0, none⟩ (.slice sp (an + 1) cap))) :
    tickBody.wpIn (Fence.wide.inRound l) 1 Try.prog Q { tmps := #[.pointer (some ⟨p, 0, none⟩), .int .i64 (now : Int), .pointer (some ⟨Bn, 0, none⟩), undef, .pointer (some ⟨Ba, 0, none⟩), .pointer (some ⟨Bl, 0, none⟩), .int .u32 (ip : Int), .pointer (some ⟨B1, 0, none⟩), .pointer (some ⟨p, 0, none⟩), .bool true, .bool false, .pointer (some ⟨p, 0, none⟩), .pointer (some ⟨p, 0, none⟩), .int .i64 (now : Int), .int .i64 (T : Int), .pointer (some ⟨p, 0, none⟩), .pointer (some ⟨p, 7, none⟩), .pointer (some ⟨p, 0, none⟩), .func (.func 27) #[] #[.pointer (some ⟨Bm, 0, none⟩)], .int .u32 (ip : Int), .agg #[.int .u8 (s : Int), .int .u64 (mc : Int), .int .i64 (tm : Int), .int .i64 (a : Int), .slice sq wn sc], undef, undef, undef, undef, undef, undef, undef, undef, undef, undef, undef, undef, undef, undef, undef, undef, undef, undef, undef, undef, undef, undef, undef, undef, undef, undef, undef, undef, undef, undef, undef, undef, undef, undef, undef, undef, undef, undef, undef, undef, undef, undef, undef, undef, undef, undef, undef, undef, undef, undef, undef, undef, undef, undef, undef, undef, undef, undef, undef], defers := [] } W := by
  have HF := hide HF
  have HA := hide HA
  conv => arg 4; whnf
  gi_wp2_with fail
  have d3 := cell_regrown e3
  have d4 := cell_regrown c4
  have dn := cell_regrown en
  refine round_quiet (by kernel_rfl) (by kernel_rfl) ?_
  repeat (go_big_quiet_step (fail))
  refine wpQuiet_nil ?_
  intro _ hw'
  obtain ⟨⟨dq, osq⟩, hw''⟩ := hw'
  subst hw''
  clear d3 d4 dn
  have hB := below_regrown W dq osq
  have f0 := cell_regrown e0 dq osq
  have f1 := cell_regrown e1 dq osq
  have f2 := cell_regrown e2 dq osq
  have f3 := cell_regrown e3 dq osq
  have f4 := cell_regrown e4 dq osq
  have f6 := cell_regrown c6 dq osq
  have fn := cell_regrown en dq osq
  generalize grow (redrawn W dq) osq = W1 at *
  gi_wp2_with fail
  have g0 := cell_regrown f0
  have g1 := cell_regrown f1
  have g2 := cell_regrown f2
  have g3 := cell_regrown f3
  have g4 := cell_regrown f4
  have g6 := cell_regrown f6
  have gn := cell_regrown fn
  have q1 : ∀ d os, Calls Try.prog 24 #[.pointer (some ⟨p, 0, none⟩), .agg #[.int .u8 (s : Int), .int .u64 (mc : Int), .int .i64 (tm : Int), .int .i64 (a : Int), .slice sq wn sc]] (grow (redrawn W1 d) os) fun e w'' =>
      e = .returned (.agg #[.int .u8 (s : Int), .int .u64 (mc : Int), .int .i64 (pz : Int), .int .i64 (a2 : Int), .slice sq wn sc]) ∧ ∃ p : Regrown, w'' = grow (redrawn W1 p.d) p.os := fun d os => Calls.regrown_of (unhide HA _ (tr2 hB (below_regrown W1 d os)))
  refine round_last (by repeat (first | exact Split.one _ | apply Split.cons)) (by kernel_rfl) (by kernel_rfl) rfl ?_
  repeat (go_big_quiet_step (fail))
  go_big_quiet_step (exact q1 _ _)
  refine wpQuiet_nil ?_
  intro _ hw'
  obtain ⟨⟨dr, osr⟩, hw''⟩ := hw'
  subst hw''
  obtain ⟨w2, hrun, k1, sp, cap, w3, hrun3, k2, k3, HZ⟩ := unhide HF _ (tr2 hB (below_regrown W1 dr osr))
  have HZ := hide HZ
  refine wp_of_run (w2 := w2) (n := .skip) ?_ ?_
  · simp only [execOp]
    go_simp
  · clear hrun HF HA q1 g0 g1 g2 g3 g4 g6 gn
    simp only [Oper.upon, Act.put]
    gi_wp2_with (first | (gi_at_builtin; refine unhide ?_) | (rw [Oper.semAt_eq _ _ _ (fun c h => by cases h)]; go_simp; try go_bits))
    refine hide ?_
    refine wpListIn_app rfl _ _ _ rfl rfl rfl hrun3 ?_
    gi_wp2
    exact unhide HZ _
end
end Go.Proofs.Ytjcigoojlmalnaa
