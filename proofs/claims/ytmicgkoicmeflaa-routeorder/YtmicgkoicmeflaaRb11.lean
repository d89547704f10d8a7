/- slices.AppendSeq and slices.Collect at routes, over the loaded program. -/
import Derived.Test.YtmicgkoicmeflaaRa11
import Derived.Deep.AppendLies
namespace Go.Proofs.Ytmicgkoicmeflaa
open Go.RowKit Go.Shelf Go.Maps

def cellsR (l : List Rt) : List Value := l.flatMap fun r => (rtCs r).toList
theorem cellsR_snoc (l : List Rt) (r : Rt) : cellsR (l ++ [r]) = cellsR l ++ (rtCs r).toList := by simp [cellsR]
theorem row_shape {w : World} {base e size n : Nat} {v : Value} {xs : List Value} (h : w.ownsRow base e size v n xs) : ∃ sp sc, v = .slice sp n sc := by
  rcases h.2 with ⟨rfl, rfl⟩ | ⟨g, cap, cur, rfl, _⟩
  · exact ⟨_, _, rfl⟩
  · exact ⟨_, _, rfl⟩
theorem row_at {w w' : World} {base e size n : Nat} {v : Value} {xs : List Value} (h : w.ownsRow base e size v n xs) (k : ∀ g, v.ownBlock = some g → w'.heap[g]? = w.heap[g]?) : w'.ownsRow base e size v n xs := by
  refine ⟨h.1, ?_⟩
  rcases h.2 with hn | ⟨g, cap, cur, rfl, hb, hgg, rest⟩
  · exact .inl hn
  · exact .inr ⟨g, cap, cur, rfl, hb, (k g rfl).trans hgg, rest⟩
theorem row_cells {w : World} {base e size n : Nat} {v : Value} {xs : List Value} (h : w.ownsRow base e size v n xs) {g : Nat} (hg : v.ownBlock = some g) : ∃ cur, w.heap[g]? = some (.cells cur e (0, 0)) := by
  rcases h.2 with ⟨rfl, _⟩ | ⟨g', cap, cur, rfl, _, hgg, _⟩
  · simp [Value.ownBlock] at hg
  · simp [Value.ownBlock] at hg
    subst hg
    exact ⟨cur, hgg⟩
theorem row_ne {W : World} {base e size n : Nat} {v : Value} {xs : List Value} (h : W.ownsRow base e size v n xs) {j : Nat} {o : Obj} (hj : W.heap[j]? = some o) (hno : ∀ cur, o ≠ .cells cur e (0, 0)) : v.ownBlock ≠ some j := by
  intro k
  obtain ⟨cur, hc⟩ := row_cells h k
  rw [hj] at hc
  exact hno cur (by cases hc; rfl)

/-- between two rounds: a box with a row of what has come -/
structure Ap (w : World) (Bs : Nat) (ss : List Rt) (W : World) : Prop where
  box : ∃ v, W.heap[Bs]? = some (.cells #[v] 27 (0, 0)) ∧ W.ownsRow w.heap.size 32 5 v ss.length (cellsR ss)
  below : Below w.heap.size w W
theorem Ap.own (w : World) (Bs : Nat) : OwnFrom w.heap.size (Ap w Bs) := fun s A B row h hg hr => by
  obtain ⟨v, hv, hrow⟩ := h.box
  have hz : ∀ (k : Nat) (o : Obj), A.heap[k]? = some o → o.isCells = true → B.heap[k]? = some o := fun k o hk ho => by
    refine (hg.block k (Array.getElem?_eq_some_iff.1 hk).1 (fun e => ?_)).trans hk
    obtain ⟨_, o', ho', hc⟩ := hr k e.symm
    rw [hk] at ho'
    cases ho'
    rw [ho] at hc
    cases hc
  refine ⟨⟨v, hz _ _ hv rfl, row_at hrow (fun g hg' => ?_)⟩, h.below.grown hg h.below.size (fun k e => (hr k e).1)⟩
  obtain ⟨cur, hc⟩ := row_cells hrow hg'
  rw [hc]
  exact hz _ _ hc rfl
theorem Ap.below' {w W W' : World} {Bs : Nat} {ss : List Rt} (h : Ap w Bs ss W) (hb : Below W.heap.size W W') : Ap w Bs ss W' := by
  obtain ⟨v, hv, hrow⟩ := h.box
  exact ⟨⟨v, (hb.block _ (Array.getElem?_eq_some_iff.1 hv).1).trans hv, row_at hrow (fun g hg => hb.block g (hrow.lt g hg).2)⟩, tr2 h.below hb⟩
theorem five_news (w : World) (v0 v1 v2 v3 v4 : Value) (t : TypeId) : ∀ j u, [v0, v1, v2, v3, v4][j]? = some u → (w.alloc (.cells #[v0, v1, v2, v3, v4] t)).cell? ((⟨w.heap.size, 0, none⟩ : Addr).add j) = some u := by
  have q := World.news_of_block (heap_alloc_new w (.cells #[v0, v1, v2, v3, v4] t))
  simpa using q

set_option maxRecDepth 100000 in
set_option maxHeartbeats 2000000 in
theorem append_in (gf : Nat) (lb : Array Value) (N : Nat) (hN : N ≤ 1024) (S : List Rt → Prop) (w : World) (heg : ∀ args w, (callFunc gf args).run Try.prog w = .ok (.enter gf args) w)
    (hseq : SeqStopsK Fence.wide (3 - 1) Try.prog gf lb encR KeepsWalks S (fun _ => True) N w) :
    CallsIn Fence.wide 3 Try.prog 37 #[.slice none 0 0, .func (.func gf) #[] lb] w fun e W' => ∃ sp ss cap, e = .returned (.slice sp ss.length cap) ∧ S ss ∧ W'.ownsRow w.heap.size 32 5 (.slice sp ss.length cap) ss.length (cellsR ss) ∧ Below w.heap.size w W' := by
  obtain ⟨i0, hi, hz0, hz1, hz2⟩ := info_parts (P := Try.prog) (e := 32) (z := rtZ) (size := 5) (bytes := 40) (by kernel_rfl)
  refine callsIn_of_wp_marks Try.func37 rfl trivial ?_ rfl
  simp only [Try.ntmps37, List.size_toArray, List.length_cons, List.length_nil, Nat.reduceAdd, Nat.reduceSub, Array.replicate_succ, Array.replicate_zero, List.push_toArray, List.append_toArray, List.nil_append, List.cons_append]
  gi_wp2
  have hB0 : Below w.heap.size w (w.alloc (.cells #[.slice none 0 0] 27)) := (Below.refl _ w).alloc (Nat.le_refl _) _
  refine wpIn_rangeFunc_ownH rfl (by decide) (gf := gf) (lb := lb) rfl trivial heg
    hseq walksK_t (walksK_b (w := w.alloc (.cells #[.slice none 0 0] 27))) hB0 (fun _ => rfl)
    (Ap w w.heap.size)
    (fun _ _ _ => False)
    (fun s A B row h hg hr => Ap.own w w.heap.size s A B row h hg (fun r e => ⟨by have := (hr r e).1; simp at this; omega, (hr r e).2⟩))
    (fun _ _ _ _ _ hs _ _ => hs)
    ⟨⟨_, heap_alloc_new w _, World.ownsRow_nil _ _ _ _⟩, hB0⟩
    (fun x a' W => ∃ Bx, w.heap.size < Bx ∧ W.heap[Bx]? = some (.cells (rtCs x) 32 (0, 0)) ∧
      a' = { tmps := #[.slice none 0 0, .func (.func gf) #[] lb, .pointer (some ⟨w.heap.size, 0, none⟩), undef, .slice none 0 0, .pointer (some ⟨Bx, 0, none⟩), .func (.func gf) #[] lb, rtV x, undef, undef, undef, undef, undef], defers := [] })
    ?hAx ?assign ?body ?done ?stop
  case hAx =>
    rintro x a' s A B row ⟨Bx, h1, h2, h3⟩ hg hr
    refine ⟨Bx, h1, (hg.block Bx (Array.getElem?_eq_some_iff.1 h2).1 (fun e => ?_)).trans h2, h3⟩
    obtain ⟨_, o, ho, hc⟩ := hr Bx e.symm
    rw [h2] at ho
    cases ho
    cases hc
  case assign =>
    rintro l pre x W K hA hK
    gi_wp2_with (rw [Oper.semAt_eq _ _ _ (fun c h => by cases h)]; go_simp; try go_bits)
    obtain ⟨v, hv, _⟩ := hA.box
    exact hK _ _ ((KeepsOthers.alloc _ _).from _) (KeepsOthers.alloc _ _).walks (hA.below' (below_one _ _)) ⟨W.heap.size, (Array.getElem?_eq_some_iff.1 hv).1, heap_alloc_new W _, rfl⟩
  case body =>
    rintro l pre x a' W hl ⟨r, hr⟩ ⟨⟨v, hv, hrow⟩, hB⟩ ⟨Bx, hBx, hX, rfl⟩ hpl
    obtain ⟨sp, sc, rfl⟩ := row_shape hrow
    have hc : W.cell? ⟨w.heap.size, 0, none⟩ = some (.slice sp pre.length sc) := by simp [World.cell?, hv]
    have x0 := cell_of_row _ _ 0 _ _ _ hX
    have x1 := cell_of_row _ _ 1 _ _ _ hX
    have x2 := cell_of_row _ _ 2 _ _ _ hX
    have x3 := cell_of_row _ _ 3 _ _ _ hX
    have x4 := cell_of_row _ _ 4 _ _ _ hX
    have hBlt : w.heap.size < W.heap.size := (Array.getElem?_eq_some_iff.1 hv).1
    have hne := row_ne hrow hv (fun cur e => by cases e)
    have hlt : ∀ g, (Value.slice sp pre.length sc).ownBlock = some g → w.heap.size ≤ g ∧ g < W.heap.size := hrow.lt
    have hrow1 := row_at (w' := W.alloc (.cells (rtCs x) 32)) hrow (fun g hg => Below.heap_alloc _ _ g (hlt g hg).2)
    have hcl : ∀ g, (Value.slice sp pre.length sc).ownBlock = some g → ∃ cur, W.heap[g]? = some (.cells cur 32 (0, 0)) := fun g hg => row_cells hrow hg
    have hlen : pre.length ≤ 1023 := by omega
    obtain ⟨k, hk⟩ : ∃ k, pre.length = k := ⟨_, rfl⟩
    rw [hk] at hv hrow hc hne hlt hrow1 hcl hlen hpl
    have HK := hide hk
    clear hk
    have b1 : Hid (k + 1 ≤ maxLen) := by unfold Hid maxLen; omega
    have b2 : Hid ((k + 1) * 40 ≤ 140737488355328) := by unfold Hid; omega
    gi_wp2_with (first | (gi_at_builtin; refine unhide ?_) | (rw [Oper.semAt_eq _ _ _ (fun c h => by cases h)]; go_simp; try go_bits))
    refine hide ?_
    refine wpListIn_append_own (F := Fence.wide.inRound l) _ rfl _ _ 27 rfl w.heap.size 32 i0 rtZ 5 40 Try.underlying27 hi hz0 hz1 hz2 rfl (by decide) (.slice sp k sc) k (cellsR pre) rfl hrow1 ⟨W.heap.size, 0, none⟩ 1 1 (rtCs x).toList rfl rfl ?_ ?_ (unhide b1) (unhide b2) ?_ ?_
    · exact five_news _ _ _ _ _ _ _
    · intro u hu
      simp at hu
      rcases hu with rfl | rfl | rfl | rfl | rfl <;> rfl
    · simp; omega
    intro v' w3 hown' hg3 _
    have hv3 : w3.heap[w.heap.size]? = some (.cells #[.slice sp k sc] 27 (0, 0)) := (hg3.block w.heap.size (by simp; omega) (fun e => hne e.symm)).trans ((Below.heap_alloc _ _ _ hBlt).trans hv)
    obtain ⟨sp', sc', rfl⟩ := row_shape hown'
    have hc3 : w3.cell? ⟨w.heap.size, 0, none⟩ = some (.slice sp k sc) := by simp [World.cell?, hv3]
    have hf3 : w3.frozen? ⟨w.heap.size, 0, none⟩ = false := by simp [World.frozen?, hv3]
    have hK3 : KeepsOthers W w3 := (KeepsOthers.alloc W _).trans (KeepsOthers.of_grownBy hg3 (fun j o hj ho => by
      obtain ⟨cur, hcur⟩ := hcl j hj
      rw [Below.heap_alloc _ _ _ (hlt j hj).2, hcur] at ho
      cases ho; rfl))
    have hW3 : KeepsWalks W w3 := hK3.walks
    have hB3 : Below w.heap.size w w3 := (hB.alloc hB.size _).grown hg3 (by simp; omega) (fun g e => (hlt g e).1)
    have hne3 := row_ne hown' hv3 (fun cur e => by cases e)
    go_frame
    gi_wp2_with (rw [Oper.semAt_eq _ _ _ (fun c h => by cases h)]; go_simp; try go_bits)
    refine ⟨(hK3.trans (KeepsOthers.setCell _ _ _)).from _, hW3.trans (KeepsWalks.setCell _ _ _), ⟨⟨_, heap_setCell_same _ _ _ _ _ _ hv3, ?_⟩, hB3.setCell (p := ⟨w.heap.size, 0, none⟩) (Nat.le_refl _) _⟩⟩
    have := row_at hown' (w' := w3.setCell ⟨w.heap.size, 0, none⟩ (.slice sp' (k + 1) sc')) (fun g hg => heap_setCell_other w3 _ g _ (fun e => hne3 (by rw [hg, e])))
    rw [List.length_append, unhide HK, cellsR_snoc]
    exact this
  case done =>
    rintro D ys W hD hS ⟨⟨v, hv, hrow⟩, hB⟩ hK
    obtain ⟨sp, sc, rfl⟩ := row_shape hrow
    have hc : W.cell? ⟨w.heap.size, 0, none⟩ = some (.slice sp ys.length sc) := by simp [World.cell?, hv]
    gi_wp2
    refine ⟨by simp, .inl ⟨_, _, rfl, run_takeDeferred hK, ?_⟩⟩
    refine ⟨_, results_tmp rfl _ _ _, sp, ys, sc, rfl, hS, row_at hrow (fun g hg => World.putObj_heap_other (fun e => ?_)), hB.trans (belowK_b (w := w) (Nat.le_refl _) W D _ _ (by simp at hD; omega) hK rfl rfl)⟩
    subst e
    exact row_ne hrow hK (fun cur e => by cases e) hg
  case stop =>
    rintro D c pre W _ _ h _
    exact h.elim

set_option maxHeartbeats 1000000 in
theorem collect_any (gf : Nat) (lb : Array Value) (N : Nat) (hN : N ≤ 1024) (S : List Rt → Prop) (w : World) (heg : ∀ args w, (callFunc gf args).run Try.prog w = .ok (.enter gf args) w)
    (hseq : SeqStopsK Fence.wide (3 - 1) Try.prog gf lb encR KeepsWalks S (fun _ => True) N w) :
    Calls Try.prog 31 #[.func (.func gf) #[] lb] w fun e W' => ∃ sp ss cap, e = .returned (.slice sp ss.length cap) ∧ S ss ∧ W'.ownsRow w.heap.size 32 5 (.slice sp ss.length cap) ss.length (cellsR ss) ∧ Below w.heap.size w W' := by
  have HA := hide (callsIn_wide.1 (append_in gf lb N hN S w heg hseq))
  go_enter Try.func31, Try.ntmps31
  go_wp2_with fail
  refine (unhide HA).mono ?_
  rintro e w' ⟨sp, ss, cap, rfl, h1, h2, h3⟩
  go_wp2
  go_ret
  exact ⟨sp, ss, cap, rfl, h1, h2, h3⟩
end Go.Proofs.Ytmicgkoicmeflaa
