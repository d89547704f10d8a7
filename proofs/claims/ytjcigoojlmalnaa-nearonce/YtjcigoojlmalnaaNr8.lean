/- wait of package near where there is no entry, over the loaded program. -/
import Derived.Test.YtjcigoojlmalnaaNr7
namespace Go.Proofs.Ytjcigoojlmalnaa
open Go.RowKit Go.Maps
attribute [local go_sem ↓] Go.wp_at_zero Go.wp_at_succ

/-- a box of five cells, written anew -/
theorem set5 {w1 : World} {B : Nat} {a0 a1 a2 a3 a4 : Value} {t : TypeId} (bx : w1.heap[B]? = some (.cells #[a0, a1, a2, a3, a4] t (0, 0))) (v0 v1 v2 v3 v4 : Value) :
    (((((w1.setCell ⟨B, 0, none⟩ v0).setCell ⟨B, 1, none⟩ v1).setCell ⟨B, 2, none⟩ v2).setCell ⟨B, 3, none⟩ v3).setCell ⟨B, 4, none⟩ v4).heap[B]? = some (.cells #[v0, v1, v2, v3, v4] t (0, 0)) ∧
    ∀ n, n ≤ B → Below n w1 (((((w1.setCell ⟨B, 0, none⟩ v0).setCell ⟨B, 1, none⟩ v1).setCell ⟨B, 2, none⟩ v2).setCell ⟨B, 3, none⟩ v3).setCell ⟨B, 4, none⟩ v4) := by
  have e0 := heap_setCell_same w1 B 0 _ _ v0 bx
  have e1 := heap_setCell_same _ B 1 _ _ v1 e0
  have e2 := heap_setCell_same _ B 2 _ _ v2 e1
  have e3 := heap_setCell_same _ B 3 _ _ v3 e2
  have e4 := heap_setCell_same _ B 4 _ _ v4 e3
  refine ⟨by rw [e4]; rfl, fun n hn => ?_⟩
  exact (((((Below.refl n w1).setCell (p := ⟨B, 0, none⟩) hn v0).setCell (p := ⟨B, 1, none⟩) hn v1).setCell (p := ⟨B, 2, none⟩) hn v2).setCell (p := ⟨B, 3, none⟩) hn v3).setCell (p := ⟨B, 4, none⟩) hn v4

section
variable {No : Nat → Prop} {w : World} {p b : Nat} {c : Cf} {last : Nat} {L : Ens}

set_option maxRecDepth 100000 in
set_option maxHeartbeats 2000000 in
theorem wait_none (h : PN No w p b c last L) {ip num : Nat} (hip : ip < 12) (hnum : num < 18446744073709551616) (he : lookN ip L = none) (hroom : tot L < c.waits) :
    Calls Try.prog 21 #[.pointer (some ⟨p, 0, none⟩), .int .u32 (ip : Int), .int .u64 (num : Int)] w fun e w' => e = .returned (.bool true) ∧ PN No w' p b c last (insN (ip, ⟨1, 0, last + c.pause, 1, [num]⟩) L) ∧ Ks No w w' := by
  have hP := h
  obtain ⟨f, h⟩ := h
  have hc := box6 h
  have hp := h.plt
  have hl := h.look_none hip he true
  simp only [if_true] at hl
  have hnw : WL c last (insN (ip, ⟨1, 0, last + c.pause, 1, [num]⟩) L) := by
    have h1 := h.wl.lst
    have h2 := h.ok.p2
    refine h.wl.ins hip ⟨.inl rfl, by show 0 < _; omega, by show last + c.pause ≤ _; omega, h.ok.a1, fun n hn => ?_, fun _ => ⟨Nat.le_refl _, Nat.le_refl _⟩, fun e => absurd rfl e⟩ ?_
    · rw [List.mem_singleton.1 hn]; exact hnum
    · rw [tot_none _ he]; show tot L + 1 ≤ _; omega
  have hblt := h.blt
  have hrlt : ∀ y ∈ L, ∀ g, (f y.1).ownBlock = some g → g < w.heap.size := fun y hy g hg => ((h.row y hy).lt g hg).2
  have hnB : ¬ No w.heap.size := fun k => by have := h.nlt _ k; omega
  obtain ⟨i0, hi, hz0, hz1, hz2⟩ := info_parts (P := Try.prog) (e := 31) (z := .int .u64 0) (size := 1) (bytes := 8) (by kernel_rfl)
  have HP : Hid (∀ {w1 w2 : World} {g cap : Nat}, Below w.heap.size w w1 → w.heap.size < w1.heap.size → w1.grownBy w2 none → w2.ownsRow 0 31 1 (.slice (some ⟨g, 0, none⟩) (0 + 1) cap) (0 + 1) [.int .u64 (num : Int)] →
      (none = some g ∨ g = w1.heap.size) → ∀ u d, ∃ w4, (Instr.mapUpdate 53 (.map (some b)) (.int .u32 (ip : Int)) (.agg #[.int .u8 1, .int .u64 0, .int .i64 ((last + c.pause : Nat) : Int), .int .i64 1, .slice (some ⟨g, 0, none⟩) (0 + 1) cap])).run Try.prog ((w2.setCell ⟨w.heap.size, d, none⟩ u).drew) = .ok () w4 ∧
        PN No w4 p b c last (insN (ip, ⟨1, 0, last + c.pause, 1, [num]⟩) L) ∧ Ks No w w4 ∧ w2.cell? ⟨p, 6, none⟩ = some (.map (some b))) := by
    intro w1 w2 g cap hb1 hlt hgrow hown hat u d
    have h1 := h.below hb1
    obtain ⟨w4, hrun, hp4, hk4, hc4⟩ := put_row (sp := none) (k := 0) (sc := 0) (ws := []) (num := num) (ip := ip) h1 (World.ownsRow_nil _ _ _ _) hgrow hown hat hlt (fun g hg => by simp [Value.ownBlock] at hg) hp hblt hrlt hnB (fun g hg => by simp [Value.ownBlock] at hg) (fun x _ _ g hg => by simp [Value.ownBlock] at hg) hip (e := ⟨1, 0, last + c.pause, 1, [num]⟩) hnw rfl rfl u d
    exact ⟨w4, hrun, hp4, (Ks.of_below hb1).trans hk4, hc4⟩
  have HA : Hid (∀ W, PN No W p b c last L → Calls Try.prog 24 #[.pointer (some ⟨p, 0, none⟩), .agg #[.int .u8 1, .int .u64 0, .int .i64 0, .int .i64 0, .slice none 0 0]] W fun e w' =>
      e = .returned (.agg #[.int .u8 1, .int .u64 0, .int .i64 ((last + c.pause : Nat) : Int), .int .i64 1, .slice none 0 0]) ∧ Below W.heap.size W w') := fun W hW => again_any hW 1 0 0 0 none 0 0 (by omega)
  have hPa := hP.below (below_one w (.cells #[.int .u8 0, .int .u64 0, .int .i64 0, .int .i64 0, .slice none 0 0] 58))
  have HPA := hide hPa
  clear hnw h hrlt he hroom hnum hP hPa
  generalize last + c.pause = T at *
  go_enter Try.func21, Try.ntmps21
  go_wp2_with fail
  refine (unhide HA _ (unhide HPA)).mono ?_
  rintro e w1 ⟨rfl, hb1⟩
  have hsz : w.heap.size < w1.heap.size := by have := hb1.size; simp at this; omega
  have hB1 : Below w.heap.size w w1 := tr2 (below_one w _) hb1
  have bx : w1.heap[w.heap.size]? = some (.cells #[.int .u8 0, .int .u64 0, .int .i64 0, .int .i64 0, .slice none 0 0] 58 (0, 0)) := (hb1.block w.heap.size (by simp)).trans (heap_alloc_new w _)
  obtain ⟨c0, f0⟩ := box_cell bx (j := 0) (v := .int .u8 0) rfl
  obtain ⟨c1, f1⟩ := box_cell bx (j := 1) (v := .int .u64 0) rfl
  obtain ⟨c2, f2⟩ := box_cell bx (j := 2) (v := .int .i64 0) rfl
  obtain ⟨c3, f3⟩ := box_cell bx (j := 3) (v := .int .i64 0) rfl
  obtain ⟨c4, f4⟩ := box_cell bx (j := 4) (v := .slice none 0 0) rfl
  clear hb1
  go_wp2_with (at_builtin; refine wpList_append_lies _ rfl _ _ 36 rfl 0 31 i0 _ 1 8 Try.underlying36 hi hz0 hz1 hz2 rfl (by decide) (.slice none 0 0) 0 _ rfl (World.ownsRow_nil _ _ _ _) _ 1 1 [.int .u64 (num : Int)] rfl rfl ?_ (by simp [Value.oneCell']) (by decide) (by unfold maxLen; omega) (by omega) (Nat.zero_le _) _ rfl ?_)
  · intro j u hj
    have := new_one (((((w1.setCell ⟨w.heap.size, 0, none⟩ (.int .u8 1)).setCell ⟨w.heap.size, 1, none⟩ (.int .u64 0)).setCell ⟨w.heap.size, 2, none⟩ (.int .i64 (T : Int))).setCell ⟨w.heap.size, 3, none⟩ (.int .i64 1)).setCell ⟨w.heap.size, 4, none⟩ (.slice none 0 0)) (.int .u64 (num : Int)) 31 j u hj
    simpa using this
  · intro g cap w2 hown2 hgrow2 hat2 hlt2
    obtain ⟨s5, k5⟩ := set5 bx (.int .u8 1) (.int .u64 0) (.int .i64 (T : Int)) (.int .i64 1) (.slice none 0 0)
    have hB5 : Below w.heap.size w (((((w1.setCell ⟨w.heap.size, 0, none⟩ (.int .u8 1)).setCell ⟨w.heap.size, 1, none⟩ (.int .u64 0)).setCell ⟨w.heap.size, 2, none⟩ (.int .i64 (T : Int))).setCell ⟨w.heap.size, 3, none⟩ (.int .i64 1)).setCell ⟨w.heap.size, 4, none⟩ (.slice none 0 0)) := hB1.trans (k5 w.heap.size (Nat.le_refl _))
    have hz5 : (((((w1.setCell ⟨w.heap.size, 0, none⟩ (.int .u8 1)).setCell ⟨w.heap.size, 1, none⟩ (.int .u64 0)).setCell ⟨w.heap.size, 2, none⟩ (.int .i64 (T : Int))).setCell ⟨w.heap.size, 3, none⟩ (.int .i64 1)).setCell ⟨w.heap.size, 4, none⟩ (.slice none 0 0)).heap.size = w1.heap.size := by simp
    clear c0 c1 c2 c3 c4 f0 f1 f2 f3 f4 k5 bx hB1
    generalize ((((w1.setCell ⟨w.heap.size, 0, none⟩ (.int .u8 1)).setCell ⟨w.heap.size, 1, none⟩ (.int .u64 0)).setCell ⟨w.heap.size, 2, none⟩ (.int .i64 (T : Int))).setCell ⟨w.heap.size, 3, none⟩ (.int .i64 1)).setCell ⟨w.heap.size, 4, none⟩ (.slice none 0 0) = w5 at *
    have hB6 := hB5.alloc hB5.size (.cells #[.int .u64 (num : Int)] 31)
    have hx2 : w2.heap[w.heap.size]? = some (.cells #[.int .u8 1, .int .u64 0, .int .i64 (T : Int), .int .i64 1, .slice none 0 0] 58 (0, 0)) := by
      rw [hgrow2.block w.heap.size (by simp; omega) (by simp [Value.ownBlock]), Below.heap_alloc _ _ _ (by omega)]
      exact s5
    obtain ⟨c0, f0⟩ := box_cell hx2 (j := 0) (v := .int .u8 1) rfl
    obtain ⟨c1, f1⟩ := box_cell hx2 (j := 1) (v := .int .u64 0) rfl
    obtain ⟨c2, f2⟩ := box_cell hx2 (j := 2) (v := .int .i64 (T : Int)) rfl
    obtain ⟨c3, f3⟩ := box_cell hx2 (j := 3) (v := .int .i64 1) rfl
    obtain ⟨c4, f4⟩ := box_cell hx2 (j := 4) (v := .slice none 0 0) rfl
    obtain ⟨w4, hrun, hP4, hK4, hc2⟩ := unhide HP hB6 (by simp; omega) hgrow2 hown2 (.inr (by rcases hat2 with h | h; simp [Value.ownBlock] at h; simp; omega)) (.slice (some ⟨g, 0, none⟩) 1 cap) 4
    simp only [Nat.zero_add] at hrun
    clear hgrow2 hown2 hat2 hx2 HP hB5 hB6 s5 hz5
    go_wp2_with fail
    go_region
    all_goals (go_wp2; go_ret; exact ⟨rfl, hP4, hK4⟩)
end

end Go.Proofs.Ytjcigoojlmalnaa
