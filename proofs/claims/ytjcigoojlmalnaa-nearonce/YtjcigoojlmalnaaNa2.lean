/- slices.AppendSeq and slices.Collect at uint32, over the loaded program. -/
import Derived.Test.YtjcigoojlmalnaaNa1
namespace Go.Proofs.Ytjcigoojlmalnaa
open Go.RowKit Go.Shelf Go.Maps

/-- between two rounds: a box with a row of what has come -/
structure Ap (w : World) (Bs : Nat) (ss : List Nat) (W : World) : Prop where
  box : ∃ v, W.heap[Bs]? = some (.cells #[v] 40 (0, 0)) ∧ W.ownsRow w.heap.size 35 1 v ss.length (ss.map v32)
  below : Below w.heap.size w W

theorem ap_row_ne {W : World} {base size n : Nat} {v : Value} {xs : List Value} (h : W.ownsRow base 35 size v n xs) {j : Nat} {o : Obj} (hj : W.heap[j]? = some o) (hno : ∀ cur, o ≠ .cells cur 35 (0, 0)) : v.ownBlock ≠ some j := by
  intro e
  obtain ⟨cur, hc⟩ := row_cells h e
  rw [hj] at hc
  exact hno cur (by cases hc; rfl)
theorem Ap.own (w : World) (Bs : Nat) : OwnFrom w.heap.size (Ap w Bs) := fun s A B row h hg hr => by
  obtain ⟨v, hv, hrow⟩ := h.box
  have hz : ∀ (k : Nat) (o : Obj), A.heap[k]? = some o → o.isCells = true → B.heap[k]? = some o := fun k o hk ho => by
    refine (hg.block k (Array.getElem?_eq_some_iff.1 hk).1 (fun e => ?_)).trans hk
    obtain ⟨_, o', ho', hc⟩ := hr k e.symm
    rw [hk] at ho'
    cases ho'
    rw [ho] at hc
    cases hc
  refine ⟨⟨v, hz _ _ hv rfl, row_at hrow (fun g hg' => ?_)⟩, h.below.grown hg h.below.size (fun k e => (hr k e).1)⟩
  obtain ⟨cur, hc⟩ := row_cells hrow hg'
  rw [hc]
  exact hz _ _ hc rfl

set_option maxRecDepth 100000 in
set_option maxHeartbeats 2000000 in
theorem append_in (gf : Nat) (lb : Array Value) (N : Nat) (hN : N ≤ 12) (S : List Nat → Prop) (w : World) (heg : ∀ args w, (callFunc gf args).run Try.prog w = .ok (.enter gf args) w)
    (hseq : SeqStopsK Fence.wide (3 - 1) Try.prog gf lb enc32 KeepsWalks S (fun _ => True) N w) :
    CallsIn Fence.wide 3 Try.prog 33 #[.slice none 0 0, .func (.func gf) #[] lb] w fun e W' => ∃ sp ss cap, e = .returned (.slice sp ss.length cap) ∧ S ss ∧ W'.ownsRow w.heap.size 35 1 (.slice sp ss.length cap) ss.length (ss.map v32) ∧ Below w.heap.size w W' := by
  obtain ⟨i0, hi, hz0, hz1, hz2⟩ := info_parts (P := Try.prog) (e := 35) (z := .int .u32 0) (size := 1) (bytes := 4) (by kernel_rfl)
  refine callsIn_of_wp_marks Try.func33 rfl trivial ?_ rfl
  simp only [Try.ntmps33, List.size_toArray, List.length_cons, List.length_nil, Nat.reduceAdd, Nat.reduceSub, Array.replicate_succ, Array.replicate_zero, List.push_toArray, List.append_toArray, List.nil_append, List.cons_append]
  gi_wp2
  have hB0 : Below w.heap.size w (w.alloc (.cells #[.slice none 0 0] 40)) := (Below.refl _ w).alloc (Nat.le_refl _) _
  refine wpIn_rangeFunc_ownF rfl (by decide) (gf := gf) (lb := lb) rfl trivial heg
    hseq walksK_t (walksK_b (w := w.alloc (.cells #[.slice none 0 0] 40))) hB0 (fun _ => rfl)
    (Ap w w.heap.size)
    (fun _ _ _ => False)
    (fun s A B row h hg hr => Ap.own w w.heap.size s A B row h hg (fun r e => ⟨by have := (hr r e).1; simp at this; omega, (hr r e).2⟩))
    (fun _ _ _ _ _ hs _ _ => hs)
    ⟨⟨_, heap_alloc_new w _, World.ownsRow_nil _ _ _ _⟩, hB0⟩
    (fun x => { tmps := #[.slice none 0 0, .func (.func gf) #[] lb, .pointer (some ⟨w.heap.size, 0, none⟩), undef, .slice none 0 0, .int .u32 (x : Int), .func (.func gf) #[] lb, .int .u32 (x : Int), undef, undef, undef, undef, undef], defers := [] }) ?assign ?body ?done ?stop
  case assign =>
    intro l x W K hK
    gi_wp2_with (rw [Oper.semAt_eq _ _ _ (fun c h => by cases h)]; go_simp; try go_bits)
    exact hK
  case body =>
    rintro l pre x W ⟨⟨v, hv, hrow⟩, hB⟩ hpl
    obtain ⟨sp, sc, rfl⟩ := row_shape hrow
    have hc : W.cell? ⟨w.heap.size, 0, none⟩ = some (.slice sp pre.length sc) := by simp [World.cell?, hv]
    have hBlt : w.heap.size < W.heap.size := (Array.getElem?_eq_some_iff.1 hv).1
    have hne := ap_row_ne hrow hv (fun cur e => by cases e)
    have hlt : ∀ g, (Value.slice sp pre.length sc).ownBlock = some g → w.heap.size ≤ g ∧ g < W.heap.size := hrow.lt
    have hrow1 := row_at (w' := W.alloc (.cells #[.int .u32 (x : Int)] 35)) hrow (fun g hg => Below.heap_alloc _ _ g (hlt g hg).2)
    have hcl : ∀ g, (Value.slice sp pre.length sc).ownBlock = some g → ∃ cur, W.heap[g]? = some (.cells cur 35 (0, 0)) := fun g hg => row_cells hrow hg
    have hlen : pre.length ≤ 11 := by omega
    obtain ⟨k, hk⟩ : ∃ k, pre.length = k := ⟨_, rfl⟩
    rw [hk] at hv hrow hc hne hlt hrow1 hcl hlen hpl
    have HK := hide hk
    clear hk
    have b1 : Hid (k + 1 ≤ maxLen) := by unfold Hid maxLen; omega
    have b2 : Hid ((k + 1) * 4 ≤ 140737488355328) := by unfold Hid; omega
    gi_wp2_with (first | (gi_at_builtin; refine unhide ?_) | (rw [Oper.semAt_eq _ _ _ (fun c h => by cases h)]; go_simp; try go_bits))
    refine hide ?_
    refine wpListIn_append_own (F := Fence.wide.inRound l) _ rfl _ _ 40 rfl w.heap.size 35 i0 (.int .u32 0) 1 4 Try.underlying40 hi hz0 hz1 hz2 rfl Nat.one_pos (.slice sp k sc) k (pre.map v32) rfl hrow1 ⟨W.heap.size, 0, none⟩ 1 1 [.int .u32 (x : Int)] rfl rfl ?_ ?_ (unhide b1) (unhide b2) ?_ ?_
    · exact cell_one_new _ _ _
    · simp [Value.oneCell']
    · simp; omega
    intro v' w3 hown' hg3 _
    have hv3 : w3.heap[w.heap.size]? = some (.cells #[.slice sp k sc] 40 (0, 0)) := (hg3.block w.heap.size (by simp; omega) (fun e => hne e.symm)).trans ((Below.heap_alloc _ _ _ hBlt).trans hv)
    obtain ⟨sp', sc', rfl⟩ := row_shape hown'
    have hc3 : w3.cell? ⟨w.heap.size, 0, none⟩ = some (.slice sp k sc) := by simp [World.cell?, hv3]
    have hf3 : w3.frozen? ⟨w.heap.size, 0, none⟩ = false := by simp [World.frozen?, hv3]
    have hK3 : KeepsOthers W w3 := (KeepsOthers.alloc W _).trans (KeepsOthers.of_grownBy hg3 (fun j o hj ho => by
      obtain ⟨cur, hcur⟩ := hcl j hj
      rw [Below.heap_alloc _ _ _ (hlt j hj).2, hcur] at ho
      cases ho; rfl))
    have hW3 : KeepsWalks W w3 := hK3.walks
    have hB3 : Below w.heap.size w w3 := (hB.alloc hB.size _).grown hg3 (by simp; omega) (fun g e => (hlt g e).1)
    have hne3 := ap_row_ne hown' hv3 (fun cur e => by cases e)
    go_frame
    gi_wp2_with (rw [Oper.semAt_eq _ _ _ (fun c h => by cases h)]; go_simp; try go_bits)
    refine ⟨hK3.trans (KeepsOthers.setCell _ _ _), hW3.trans (KeepsWalks.setCell _ _ _), ⟨⟨_, heap_setCell_same _ _ _ _ _ _ hv3, ?_⟩, hB3.setCell (p := ⟨w.heap.size, 0, none⟩) (Nat.le_refl _) _⟩⟩
    have := row_at hown' (w' := w3.setCell ⟨w.heap.size, 0, none⟩ (.slice sp' (k + 1) sc')) (fun g hg => heap_setCell_other w3 _ g _ (fun e => hne3 (by rw [hg, e])))
    rw [List.length_append, unhide HK, List.map_append]
    exact this
  case done =>
    rintro D ys W hD hS ⟨⟨v, hv, hrow⟩, hB⟩ hK
    obtain ⟨sp, sc, rfl⟩ := row_shape hrow
    have hc : W.cell? ⟨w.heap.size, 0, none⟩ = some (.slice sp ys.length sc) := by simp [World.cell?, hv]
    gi_wp2
    refine ⟨by simp, .inl ⟨_, _, rfl, run_takeDeferred hK, ?_⟩⟩
    refine ⟨_, results_tmp rfl _ _ _, sp, ys, sc, rfl, hS, row_at hrow (fun g hg => World.putObj_heap_other (fun e => ?_)), hB.trans (belowK_b (w := w) (Nat.le_refl _) W D _ _ (by simp at hD; omega) hK rfl rfl)⟩
    subst e
    exact ap_row_ne hrow hK (fun cur e => by cases e) hg
  case stop =>
    rintro D c pre W _ _ h _
    exact h.elim

set_option maxHeartbeats 1000000 in
theorem collect_any (gf : Nat) (lb : Array Value) (N : Nat) (hN : N ≤ 12) (S : List Nat → Prop) (w : World) (heg : ∀ args w, (callFunc gf args).run Try.prog w = .ok (.enter gf args) w)
    (hseq : SeqStopsK Fence.wide (3 - 1) Try.prog gf lb enc32 KeepsWalks S (fun _ => True) N w) :
    Calls Try.prog 30 #[.func (.func gf) #[] lb] w fun e W' => ∃ sp ss cap, e = .returned (.slice sp ss.length cap) ∧ S ss ∧ W'.ownsRow w.heap.size 35 1 (.slice sp ss.length cap) ss.length (ss.map v32) ∧ Below w.heap.size w W' := by
  have HA := hide (callsIn_wide.1 (append_in gf lb N hN S w heg hseq))
  go_enter Try.func30, Try.ntmps30
  go_wp2_with fail
  refine (unhide HA).mono ?_
  rintro e w' ⟨sp, ss, cap, rfl, h1, h2, h3⟩
  go_wp2
  go_ret
  exact ⟨sp, ss, cap, rfl, h1, h2, h3⟩
end Go.Proofs.Ytjcigoojlmalnaa
