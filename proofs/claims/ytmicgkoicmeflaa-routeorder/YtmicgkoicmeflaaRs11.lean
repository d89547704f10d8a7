/- The contract of package route's compare, over the loaded program. -/
import Derived.Test.YtmicgkoicmeflaaRc11
namespace Go.Proofs.Ytmicgkoicmeflaa
open Go.RowKit Go.Shelf Go.Sort

theorem stepO_call {P : Program} {Q : Exit → Act → World → Prop} {a0 : Act} {ds : List (Option Nat)} {vs : List Value} {W : Array Bool → World → Prop} {i d : Nat} {o : Oper} (v : Value) (f : Nat) (args : Array Value) (hn : uniqB ds = true) (hs : ∀ d, some d ∈ ds → d < a0.tmps.size) (ho : o.dst = some d) (hd : ds[i]? = some (some d)) (hv : v = vs.getD i undef)
    (hrun : ∀ l a w, (∀ e ∈ o.after, Region.binds .any e = true → l.getD e.on false = true) → l.getD i true = false → Fo a0 ds vs l a → W l w → (execOp a.eval o).run P w = .ok (.enter f args) w ∧ (Calls P f args w fun e w' => e = .returned v ∧ w' = w) ∧ W (l.setIfInBounds i true) w) : StepO P Q a0 ds vs W i o := by
  intro l a w hdep hu k hw
  obtain ⟨h1, h2, h3⟩ := hrun l a w hdep hu k hw
  refine op_call (R := fun w' => w' = w) h1 h2 ?_
  rintro w' rfl
  refine ⟨?_, h3⟩
  rw [ho]
  exact k.step hn hs hd hv

/-- what memory holds while two routes are compared -/
structure CW (w0 : World) (c d : Int) (l : Array Bool) (w : World) : Prop where
  z0 : l.getD 10 false = false → w = w0.drew
  z1 : l.getD 10 false = true → w = w0.drew.alloc (.cells #[.int .i64 c, .int .i64 d] 3)
theorem CW.bel {w0 w : World} {c d : Int} {l : Array Bool} (h : CW w0 c d l w) : Below w0.heap.size w0 w := by
  cases e : l.getD 10 false with
  | false => rw [h.z0 e]; exact below_drew _
  | true => rw [h.z1 e]; exact tr2 (below_drew _) (below_one _ _)
theorem CW.same {w0 w : World} {c d : Int} {l : Array Bool} (h : CW w0 c d l w) {i : Nat} (h1 : i ≠ 10) : CW w0 c d (l.setIfInBounds i true) w :=
  ⟨fun a => h.z0 (by rwa [getD_upd h1] at a), fun a => h.z1 (by rwa [getD_upd h1] at a)⟩
theorem CW.make {w0 : World} {c d : Int} {l : Array Bool} (hu : l.getD 10 true = false) : CW w0 c d (l.setIfInBounds 10 true) (w0.drew.alloc (.cells #[.int .i64 c, .int .i64 d] 3)) :=
  ⟨(fun a => by rw [getD_set_t hu] at a; cases a), fun _ => rfl⟩
theorem CW.c0 {w0 w : World} {c d : Int} {l : Array Bool} (h : CW w0 c d l w) (e : l.getD 10 false = true) : w.cell? ⟨w0.heap.size, 0, none⟩ = some (.int .i64 c) := by
  rw [h.z1 e]
  exact cell_of_row _ _ 0 _ _ _ (heap_alloc_new w0.drew (.cells #[.int .i64 c, .int .i64 d] 3))
theorem CW.c1 {w0 w : World} {c d : Int} {l : Array Bool} (h : CW w0 c d l w) (e : l.getD 10 false = true) : w.cell? ⟨w0.heap.size, 1, none⟩ = some (.int .i64 d) := by
  rw [h.z1 e]
  exact cell_of_row _ _ 1 _ _ _ (heap_alloc_new w0.drew (.cells #[.int .i64 c, .int .i64 d] 3))

set_option maxRecDepth 100000 in
set_option maxHeartbeats 2000000 in
theorem compare_any (x y : Rt) (w0 : World) :
    Calls Try.prog 27 #[rtV x, rtV y] w0 fun e w' => e = .returned (.int .i64 (cfR x y)) ∧ ∃ q os, w' = grow (w0.drewN q) os := by
  have k0 := (((Tab.zero w0).alloc rfl (rtCs x).toList 32).alloc (by simp) (rtCs y).toList 32)
  have x0 := k0.cells 0 0 _ rfl
  have x1 := k0.cells 0 1 _ rfl
  have y0 := k0.cells 1 0 _ rfl
  have y1 := k0.cells 1 1 _ rfl
  simp only [Nat.add_zero] at x0 x1
  have H1 := hide (cmpI_any y.b x.b)
  have H2 := hide (cmpU_any (x.n : Int) (y.n : Int))
  obtain ⟨r, hr⟩ : ∃ r, cfR x y = r := ⟨_, rfl⟩
  have HR := hide hr
  rw [hr]
  unfold cfR at hr
  generalize cmpI y.b x.b = c at *
  generalize cmpI (x.n : Int) (y.n : Int) = d at *
  have H3 := fun g w h0 h1 => or_any c d g w h0 h1
  rw [hr] at H3
  have H3 := hide (fun w => H3 (w0.heap.size + 2) w)
  have HE : Hid (∃ q os, ((w0.alloc (.cells (rtCs x) 32)).alloc (.cells (rtCs y) 32)).drew.alloc (.cells #[.int .i64 c, .int .i64 d] 3) = grow (w0.drewN q) os) := by
    refine ⟨1, #[.cells (rtCs x) 32] ++ #[.cells (rtCs y) 32] ++ #[.cells #[.int .i64 c, .int .i64 d] 3], ?_⟩
    rw [alloc_eq_grow, alloc_eq_grow, alloc_eq_grow]
    have e : ∀ A B, (grow (grow w0 A) B).drew = grow (grow (w0.drewN 1) A) B := fun _ _ => rfl
    rw [e, grow_grow, grow_grow]
    exact rfl
  have hz : ((w0.alloc (.cells (rtCs x) 32)).alloc (.cells (rtCs y) 32)).heap.size = w0.heap.size + 2 := by simp
  have HZ := hide hz
  clear k0 hr
  go_enter Try.func27, Try.ntmps27
  go_wp2_with fail
  generalize (w0.alloc (.cells (rtCs x) 32)).alloc (.cells (rtCs y) 32) = w2 at *
  rw [← hz] at H3
  clear hz
  have nq : uniqB [some 5, some 6, some 7, some 8, some 9, some 10, some 11, some 12, some 13, some 14, some 15, some 16, some 4] = true := by kernel_rfl
  have hs : ∀ d, some d ∈ [some 5, some 6, some 7, some 8, some 9, some 10, some 11, some 12, some 13, some 14, some 15, some 16, some 4] → d < 17 := by
    intro d hd
    simp at hd
    omega
  refine wp_region_fo [some 5, some 6, some 7, some 8, some 9, some 10, some 11, some 12, some 13, some 14, some 15, some 16, some 4] [.pointer (some ⟨w0.heap.size + 1, 1, none⟩), .int .i64 y.b, .pointer (some ⟨w0.heap.size, 1, none⟩), .int .i64 x.b, .int .i64 c, .pointer (some ⟨w0.heap.size, 0, none⟩), .int .u32 (x.n : Int), .pointer (some ⟨w0.heap.size + 1, 0, none⟩), .int .u32 (y.n : Int), .int .i64 d, .slice (some ⟨w2.heap.size, 0, none⟩) 2 2, .int .i64 r, .int .i64 r] (CW w2 c d) (by kernel_rfl) (by kernel_rfl) nq rfl hs rfl ⟨fun _ => rfl, (fun a => by rw [getD_rep] at a; cases a)⟩
    ⟨stepO_val (.pointer (some ⟨w0.heap.size + 1, 1, none⟩)) nq hs rfl rfl rfl (fun l a w hd hu k hW => by
      have e3 := k.evalOut 3 (by decide) (v := .pointer (some ⟨w0.heap.size + 1, 0, none⟩)) rfl
      have ef : ∀ f, a.eval (.func f) = .func (.func f) #[] #[] := fun _ => rfl
      generalize a.eval = ρ at *
      exact ⟨w, by simp [execOp, go_sem, e3], hW.same (by decide)⟩),
    stepO_val (.int .i64 y.b) nq hs rfl rfl rfl (fun l a w hd hu k hW => by
      have cc := below_cell y1 hW.bel
      have e5 := k.eval 0 rfl (hd ⟨0, .data⟩ (by simp) rfl) (v := .pointer (some ⟨w0.heap.size + 1, 1, none⟩)) rfl
      have ef : ∀ f, a.eval (.func f) = .func (.func f) #[] #[] := fun _ => rfl
      generalize a.eval = ρ at *
      exact ⟨w, by simp [execOp, go_sem, e5, cc], hW.same (by decide)⟩),
    stepO_val (.pointer (some ⟨w0.heap.size, 1, none⟩)) nq hs rfl rfl rfl (fun l a w hd hu k hW => by
      have e2 := k.evalOut 2 (by decide) (v := .pointer (some ⟨w0.heap.size, 0, none⟩)) rfl
      have ef : ∀ f, a.eval (.func f) = .func (.func f) #[] #[] := fun _ => rfl
      generalize a.eval = ρ at *
      exact ⟨w, by simp [execOp, go_sem, e2], hW.same (by decide)⟩),
    stepO_val (.int .i64 x.b) nq hs rfl rfl rfl (fun l a w hd hu k hW => by
      have cc := below_cell x1 hW.bel
      have e7 := k.eval 2 rfl (hd ⟨2, .data⟩ (by simp) rfl) (v := .pointer (some ⟨w0.heap.size, 1, none⟩)) rfl
      have ef : ∀ f, a.eval (.func f) = .func (.func f) #[] #[] := fun _ => rfl
      generalize a.eval = ρ at *
      exact ⟨w, by simp [execOp, go_sem, e7, cc], hW.same (by decide)⟩),
    stepO_call (.int .i64 c) 35 #[.int .i64 y.b, .int .i64 x.b] nq hs rfl rfl rfl (fun l a w hd hu k hW => by
      have e6 := k.eval 1 rfl (hd ⟨1, .data⟩ (by simp) rfl) (v := .int .i64 y.b) rfl; have e8 := k.eval 3 rfl (hd ⟨3, .data⟩ (by simp) rfl) (v := .int .i64 x.b) rfl
      have ef : ∀ f, a.eval (.func f) = .func (.func f) #[] #[] := fun _ => rfl
      generalize a.eval = ρ at *
      exact ⟨by simp [execOp, go_sem, ef, e6, e8], unhide H1 _, hW.same (by decide)⟩),
    stepO_val (.pointer (some ⟨w0.heap.size, 0, none⟩)) nq hs rfl rfl rfl (fun l a w hd hu k hW => by
      have e2 := k.evalOut 2 (by decide) (v := .pointer (some ⟨w0.heap.size, 0, none⟩)) rfl
      have ef : ∀ f, a.eval (.func f) = .func (.func f) #[] #[] := fun _ => rfl
      generalize a.eval = ρ at *
      exact ⟨w, by simp [execOp, go_sem, e2], hW.same (by decide)⟩),
    stepO_val (.int .u32 (x.n : Int)) nq hs rfl rfl rfl (fun l a w hd hu k hW => by
      have cc := below_cell x0 hW.bel
      have e10 := k.eval 5 rfl (hd ⟨5, .data⟩ (by simp) rfl) (v := .pointer (some ⟨w0.heap.size, 0, none⟩)) rfl
      have ef : ∀ f, a.eval (.func f) = .func (.func f) #[] #[] := fun _ => rfl
      generalize a.eval = ρ at *
      exact ⟨w, by simp [execOp, go_sem, e10, cc], hW.same (by decide)⟩),
    stepO_val (.pointer (some ⟨w0.heap.size + 1, 0, none⟩)) nq hs rfl rfl rfl (fun l a w hd hu k hW => by
      have e3 := k.evalOut 3 (by decide) (v := .pointer (some ⟨w0.heap.size + 1, 0, none⟩)) rfl
      have ef : ∀ f, a.eval (.func f) = .func (.func f) #[] #[] := fun _ => rfl
      generalize a.eval = ρ at *
      exact ⟨w, by simp [execOp, go_sem, e3], hW.same (by decide)⟩),
    stepO_val (.int .u32 (y.n : Int)) nq hs rfl rfl rfl (fun l a w hd hu k hW => by
      have cc := below_cell y0 hW.bel
      have e12 := k.eval 7 rfl (hd ⟨7, .data⟩ (by simp) rfl) (v := .pointer (some ⟨w0.heap.size + 1, 0, none⟩)) rfl
      have ef : ∀ f, a.eval (.func f) = .func (.func f) #[] #[] := fun _ => rfl
      generalize a.eval = ρ at *
      exact ⟨w, by simp [execOp, go_sem, e12, cc], hW.same (by decide)⟩),
    stepO_call (.int .i64 d) 36 #[.int .u32 (x.n : Int), .int .u32 (y.n : Int)] nq hs rfl rfl rfl (fun l a w hd hu k hW => by
      have e11 := k.eval 6 rfl (hd ⟨6, .data⟩ (by simp) rfl) (v := .int .u32 (x.n : Int)) rfl; have e13 := k.eval 8 rfl (hd ⟨8, .data⟩ (by simp) rfl) (v := .int .u32 (y.n : Int)) rfl
      have ef : ∀ f, a.eval (.func f) = .func (.func f) #[] #[] := fun _ => rfl
      generalize a.eval = ρ at *
      exact ⟨by simp [execOp, go_sem, ef, e11, e13], unhide H2 _, hW.same (by decide)⟩),
    stepO_val (.slice (some ⟨w2.heap.size, 0, none⟩) 2 2) nq hs rfl rfl rfl (fun l a w hd hu k hW => by
      have e9 := k.eval 4 rfl (hd ⟨4, .data⟩ (by simp) rfl) (v := .int .i64 c) rfl; have e14 := k.eval 9 rfl (hd ⟨9, .data⟩ (by simp) rfl) (v := .int .i64 d) rfl
      have hz := hW.z0 (getD_ft hu)
      generalize a.eval = ρ at *
      refine ⟨_, ?_, CW.make hu⟩
      rw [hz]
      simp [execOp, go_sem, e9, e14]),
    stepO_call (.int .i64 r) 34 #[.slice (some ⟨w2.heap.size, 0, none⟩) 2 2] nq hs rfl rfl rfl (fun l a w hd hu k hW => by
      have e15 := k.eval 10 rfl (hd ⟨10, .data⟩ (by simp) rfl) (v := .slice (some ⟨w2.heap.size, 0, none⟩) 2 2) rfl
      have ef : ∀ f, a.eval (.func f) = .func (.func f) #[] #[] := fun _ => rfl
      generalize a.eval = ρ at *
      exact ⟨by simp [execOp, go_sem, ef, e15], unhide H3 _ (hW.c0 (hd ⟨10, .data⟩ (by simp) rfl)) (hW.c1 (hd ⟨10, .data⟩ (by simp) rfl)), hW.same (by decide)⟩),
    stepO_val (.int .i64 r) nq hs rfl rfl rfl (fun l a w hd hu k hW => by
      have e16 := k.eval 11 rfl (hd ⟨11, .data⟩ (by simp) rfl) (v := .int .i64 r) rfl
      have ef : ∀ f, a.eval (.func f) = .func (.func f) #[] #[] := fun _ => rfl
      generalize a.eval = ρ at *
      exact ⟨w, by simp [execOp, go_sem, e16], hW.same (by decide)⟩), trivial⟩ ?_
  intro l w5 hal hW
  have hw5 := hW.z1 (hal 10 (by decide))
  subst hw5
  simp only [fillO, List.setIfInBounds_toArray, List.set_cons_succ, List.set_cons_zero]
  go_wp2
  go_ret
  exact ⟨rfl, unhide HE⟩
end Go.Proofs.Ytmicgkoicmeflaa
