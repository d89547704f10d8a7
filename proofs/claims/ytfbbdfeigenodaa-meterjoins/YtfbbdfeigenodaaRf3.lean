/- What Add of the document's meter leaves at its first counter, and where there is one. -/
import Derived.Test.YtfbbdfeigenodaaRf2
namespace Go.Proofs.Ytfbbdfeigenodaa
open Go.RowKit Go.Maps
attribute [local go_sem ↓] Go.wp_at_zero Go.wp_at_succ

set_option maxRecDepth 100000 in
set_option maxHeartbeats 1000000 in
theorem radd_first (r : Nat) (s : ByteArray) (n m : Nat) (w : World) (h : RM w r (.slice none 0 0) []) (hm : mayL s.data.toList = true) (hn0 : n ≤ 4503599627370496) (hm0 : m ≤ 4503599627370496) :
    Calls Try.prog 23 #[.pointer (some ⟨r, 0, none⟩), .string s, .int .i64 (n : Int), .int .i64 (m : Int)] w fun e w' => e = .returned (.int .i64 0) ∧ ∃ v', RM w' r v' [(s.data.toList, n, m)] ∧ Kp [r] w w' ∧ (∀ i, v'.ownBlock = some i → w.heap.size ≤ i) := by
  have HM := may_any s w
  rw [hm] at HM
  have HM := hide HM
  have HA := hide (at_none r _ [] s w h rfl (by simp))
  have hc := h.cell
  have h1 : ¬ ((n : Int) < 0) := by omega
  have h2 : ¬ (4503599627370496 < (n : Int)) := by omega
  have h3 : ¬ ((m : Int) < 0) := by omega
  have h4 : ¬ (4503599627370496 < (m : Int)) := by omega
  have HR := hide h
  clear h hm hn0 hm0
  go_enter Try.func23, Try.ntmps23
  go_wp2_with fail
  refine (unhide HM).mono ?_
  rintro e w1 ⟨rfl, rfl⟩
  go_wp2_with fail
  refine (unhide HA).mono ?_
  rintro e w1 ⟨rfl, rfl⟩
  go_wp2
  go_loop [10] (fun i => i = .int .i64 0) (fun _ => 0)
  case atStart => exact rfl
  case round =>
    obtain rfl := hrel
    have tok1 : True := trivial
    have tok2 : True := trivial
    have HK : Hid (∀ w', Kp [] w1 w' → RM w' r (.slice none 0 0) []) := fun w' hk' => (unhide HR).kept hk' (by simp) (by simp)
    go_wp2_with (first
      | (at_builtin; have _t := tok1; refine wpList_append_x rfl _ _ rfl w1.heap.size (.slice none 0 0) 0 [] rfl (World.ownsRow_nil _ _ _ _) none 0 0 [] rfl (.inl ⟨rfl, rfl, rfl, rfl⟩) (by simp) (by omega) (Nat.le_refl _) ?_; intro v1 w2 hown1 hgrow1 hloc1; clear tok1; have hK2 : Kp [] w1 w2 := ⟨hgrow1.os, hgrow1.tape, hgrow1.output, hgrow1.size, fun i hi _ => hgrow1.block i hi (by simp [Value.ownBlock])⟩; clear hgrow1)
      | (at_builtin; have _t := tok2; refine wpList_append_x rfl _ _ rfl w1.heap.size v1 (0 + 0) _ rfl (hown1.alloc _) (some ⟨w2.heap.size, 0, none⟩) 1 1 [.string s, .int .i64 (n : Int), .int .i64 (m : Int)] rfl (.inr ⟨_, rfl, rfl, World.news_of_block (heap_alloc_new w2 _)⟩) (by intro u hu; simp at hu; rcases hu with rfl | rfl | rfl <;> rfl) (by omega) (by simp; exact Nat.le_trans hK2.size (Nat.le_succ _)) ?_; intro v2 w3 hown2 hgrow2 hloc2; clear tok2; have hK3 : Kp [] w1 w3 := kp_grow hK2 hgrow2 hloc1; have hR3 := unhide HK w3 hK3; have hc3 := hR3.cell; clear hgrow2 hown1)
      | (at_builtin; have _t := hR3; refine wpList_append_x rfl _ _ rfl w1.heap.size v2 (0 + 0 + 1) _ rfl hown2 none 0 0 [] rfl (.inl ⟨rfl, rfl, rfl, rfl⟩) (by simp) (by omega) hK3.size ?_; intro v3 w4 hown3 hgrow3 hloc3; obtain ⟨p3, c3, rfl⟩ := row_slice hown3; have hK4 : Kp [] w1 w4 := kp_grow2 hK3 hgrow3 hloc2; have hR4 := unhide HK w4 hK4; have hc4 := hR4.cell; have hf4 := hR4.frozen; clear hgrow3 hown2 hR3 hc3)
      | go_in)
    go_ret
    have hfin := rm_store (L' := [(s.data.toList, n, m)]) (unhide HR).rlt hK4 hR4 hown3 (by simp) (by unfold cellsL; rw [List.flatMap_cons, cellsE_str]; simp) hloc3
    exact ⟨rfl, _, hfin.1, hfin.2, hloc3⟩

set_option maxRecDepth 100000 in
set_option maxHeartbeats 1000000 in
theorem radd_over (r g c : Nat) (L : List Ent) (s : ByteArray) (n m : Nat) (w : World) (h : RM w r (.slice (some ⟨g, 0, none⟩) L.length c) L) (hm : mayL s.data.toList = true) (hn0 : n ≤ 4503599627370496) (hm0 : m ≤ 4503599627370496)
    (q : Nat × Nat) (hl : lookE s.data.toList L = some q) (hL : Cnt L) (hov : 4503599627370496 < q.1 + n ∨ 4503599627370496 < q.2 + m) :
    Calls Try.prog 23 #[.pointer (some ⟨r, 0, none⟩), .string s, .int .i64 (n : Int), .int .i64 (m : Int)] w fun e w' => e = .returned (.int .i64 9) ∧ Below w.heap.size w w' := by
  have HM := may_any s w
  rw [hm] at HM
  have HM := hide HM
  have HA := hide (at_some r _ L s w h q hl hL.room hL.srt)
  have hc := h.cell
  have h1 : ¬ ((n : Int) < 0) := by omega
  have h2 : ¬ (4503599627370496 < (n : Int)) := by omega
  have h3 : ¬ ((m : Int) < 0) := by omega
  have h4 : ¬ (4503599627370496 < (m : Int)) := by omega
  have hq := hL.at hl
  obtain ⟨hnc, hg, HC⟩ : L.length ≤ c ∧ g < w.heap.size ∧ Hid (∀ k x, L[k]? = some x → w.cell? ⟨g, k * 3, none⟩ = some (encStr x.1) ∧ w.cell? ⟨g, k * 3 + 1, none⟩ = some (.int .i64 (x.2.1 : Int)) ∧ w.cell? ⟨g, k * 3 + 2, none⟩ = some (.int .i64 (x.2.2 : Int))) := by
    rcases h.form with ⟨h0, _⟩ | ⟨g', c', hv, hnc, hg, hcell⟩
    · cases h0
    · obtain ⟨rfl, rfl⟩ : g = g' ∧ c = c' := by simpa using hv
      exact ⟨hnc, hg, hcell⟩
  obtain ⟨x, y⟩ := q
  simp only at hov hq
  clear h hl hm hL
  have e52 : True := trivial
  by_cases ho : 4503599627370496 < x + n
  · have o1 : ((4503599627370496 : Int) - (n : Int)) < (x : Int) := by omega
    clear hov ho
    go_enter Try.func23, Try.ntmps23
    go_wp2_with fail
    refine (unhide HM).mono ?_
    rintro e w1 ⟨rfl, rfl⟩
    go_wp2_with fail
    refine (unhide HA).mono ?_
    rintro e w1 ⟨k, rfl, rfl, hx⟩
    obtain ⟨c0, c1, c2⟩ := unhide HC k _ hx
    have hlt : k < L.length := (List.getElem?_eq_some_iff.1 hx).1
    have hi1 : (0 : Int) ≤ (k : Int) := by omega
    have hi2 : (k : Int) < (L.length : Int) := by omega
    have hi3 : (L.length : Int) ≤ (c : Int) := by omega
    clear hx
    go_wp2
    go_ret
    exact ⟨rfl, below_one _ _⟩
  · have o1 : ¬ ((4503599627370496 : Int) - (n : Int)) < (x : Int) := by omega
    have o2 : ((4503599627370496 : Int) - (m : Int)) < (y : Int) := by omega
    clear hov ho
    go_enter Try.func23, Try.ntmps23
    go_wp2_with fail
    refine (unhide HM).mono ?_
    rintro e w1 ⟨rfl, rfl⟩
    go_wp2_with fail
    refine (unhide HA).mono ?_
    rintro e w1 ⟨k, rfl, rfl, hx⟩
    obtain ⟨c0, c1, c2⟩ := unhide HC k _ hx
    have hlt : k < L.length := (List.getElem?_eq_some_iff.1 hx).1
    have hi1 : (0 : Int) ≤ (k : Int) := by omega
    have hi2 : (k : Int) < (L.length : Int) := by omega
    have hi3 : (L.length : Int) ≤ (c : Int) := by omega
    clear hx
    go_wp2
    go_ret
    exact ⟨rfl, below_one _ _⟩

theorem frozen_row {w : World} {r g c : Nat} {L : List Ent} (h : RM w r (.slice (some ⟨g, 0, none⟩) L.length c) L) (j : Nat) : w.frozen? ⟨g, j, none⟩ = false := by
  rcases h.row.2 with ⟨hv, _⟩ | ⟨g', cap, cur, hv, _, hg, _, _, _, ht⟩
  · cases hv
  · obtain ⟨rfl, rfl⟩ : g = g' ∧ c = cap := by simpa using hv
    simp [World.frozen?, hg]

theorem cellsL_set (x : Ent) : ∀ (L : List Ent) (k : Nat), k < L.length → cellsL (L.set k x) = (((cellsL L).set (k * 3) (encStr x.1)).set (k * 3 + 1) (.int .i64 (x.2.1 : Int))).set (k * 3 + 2) (.int .i64 (x.2.2 : Int))
  | [], _, h => by simp at h
  | y :: r, 0, _ => by
    show cellsL (x :: r) = _
    have e : ∀ z : Ent, cellsL (z :: r) = cellsE z ++ cellsL r := fun z => by unfold cellsL; rw [List.flatMap_cons]
    rw [e, e]
    rfl
  | y :: r, k + 1, h => by
    have e : ∀ q : List Ent, cellsL (y :: q) = cellsE y ++ cellsL q := fun q => by unfold cellsL; rw [List.flatMap_cons]
    have hl : (cellsE y).length = 3 := rfl
    rw [List.set_cons_succ, e, e, cellsL_set x r k (by simpa using h), List.set_append_right _ _ (by omega), List.set_append_right _ _ (by omega), List.set_append_right _ _ (by omega), hl]
    rw [show (k + 1) * 3 - 3 = k * 3 by omega, show (k + 1) * 3 + 1 - 3 = k * 3 + 1 by omega, show (k + 1) * 3 + 2 - 3 = k * 3 + 2 by omega]

theorem heap_set_at {w : World} {g o : Nat} {cur : Array Value} {t : TypeId} {v : Value} (h : w.heap[g]? = some (.cells cur t)) : (w.setCell ⟨g, o, none⟩ v).heap[g]? = some (.cells (cur.setIfInBounds o v) t) := by
  simp [World.setCell, Array.getElem?_modify, h]

theorem rm_set {w : World} {r g c k : Nat} {L : List Ent} {x z : Ent} (h : RM w r (.slice (some ⟨g, 0, none⟩) L.length c) L) (hz : L[k]? = some z) (o : Obj) :
    RM ((((w.setCell ⟨g, k * 3, none⟩ (encStr x.1)).setCell ⟨g, k * 3 + 1, none⟩ (.int .i64 (x.2.1 : Int))).setCell ⟨g, k * 3 + 2, none⟩ (.int .i64 (x.2.2 : Int))).alloc o).drew r (.slice (some ⟨g, 0, none⟩) L.length c) (L.set k x) ∧
    Kp [g] w ((((w.setCell ⟨g, k * 3, none⟩ (encStr x.1)).setCell ⟨g, k * 3 + 1, none⟩ (.int .i64 (x.2.1 : Int))).setCell ⟨g, k * 3 + 2, none⟩ (.int .i64 (x.2.2 : Int))).alloc o).drew := by
  have hlt : k < L.length := (List.getElem?_eq_some_iff.1 hz).1
  have hne : g ≠ r := fun e => h.ne (by rw [e]; rfl)
  obtain ⟨cap, cur, hv, hg, hn, hcap, hcs, ht⟩ : ∃ cap cur, c = cap ∧ w.heap[g]? = some (.cells cur 49 (0, 0)) ∧ L.length ≤ cap ∧ cap ≤ maxLen ∧ cur.size = cap * 3 ∧ cur.toList.take (L.length * 3) = cellsL L := by
    rcases h.row.2 with ⟨hv, _⟩ | ⟨g', cap, cur, hv, _, hg, hn, hcap, hcs, ht⟩
    · cases hv
    · obtain ⟨rfl, rfl⟩ : g = g' ∧ c = cap := by simpa using hv
      exact ⟨_, _, rfl, hg, hn, hcap, hcs, ht⟩
  subst hv
  have hglt : g < w.heap.size := (Array.getElem?_eq_some_iff.1 hg).1
  obtain ⟨W, hW⟩ : ∃ W, W = ((w.setCell ⟨g, k * 3, none⟩ (encStr x.1)).setCell ⟨g, k * 3 + 1, none⟩ (.int .i64 (x.2.1 : Int))).setCell ⟨g, k * 3 + 2, none⟩ (.int .i64 (x.2.2 : Int)) := ⟨_, rfl⟩
  have hWg : W.heap[g]? = some (.cells (((cur.setIfInBounds (k * 3) (encStr x.1)).setIfInBounds (k * 3 + 1) (.int .i64 (x.2.1 : Int))).setIfInBounds (k * 3 + 2) (.int .i64 (x.2.2 : Int))) 49) := by
    rw [hW]
    exact heap_set_at (heap_set_at (heap_set_at hg))
  have hWo : ∀ i, i ≠ g → W.heap[i]? = w.heap[i]? := fun i hi => by
    rw [hW, Below.heap_setCell _ _ _ _ hi, Below.heap_setCell _ _ _ _ hi, Below.heap_setCell _ _ _ _ hi]
  have hWs : W.heap.size = w.heap.size := by rw [hW]; simp [World.setCell]
  rw [← hW]
  have hrlt := h.rlt
  have hal : ∀ i, i < w.heap.size → (W.alloc o).drew.heap[i]? = W.heap[i]? := fun i hi => Below.heap_alloc W o i (by omega)
  refine ⟨⟨(hal r hrlt).trans ((hWo r (Ne.symm hne)).trans h.box), ?_⟩, ⟨by rw [hW]; rfl, by rw [hW]; rfl, by rw [hW]; rfl, ?_, fun i hi hn => ?_⟩⟩
  · refine ⟨by rw [cellsL_len], .inr ⟨g, c, _, by rw [List.length_set], Nat.zero_le _, (hal g hglt).trans hWg, by rw [List.length_set]; exact hn, hcap, by simpa using hcs, ?_⟩⟩
    rw [List.length_set, cellsL_set x L k hlt, ← ht]
    simp [List.take_set]
  · show w.heap.size ≤ (W.heap.push o).size
    rw [Array.size_push]
    omega
  · rw [hal i hi, hWo i (by simpa using hn)]

set_option maxRecDepth 100000 in
set_option maxHeartbeats 1000000 in
theorem radd_more (r g c : Nat) (L : List Ent) (s : ByteArray) (n m : Nat) (w : World) (h : RM w r (.slice (some ⟨g, 0, none⟩) L.length c) L) (hm : mayL s.data.toList = true)
    (x y : Nat) (hl : lookE s.data.toList L = some (x, y)) (hL : Cnt L) (hx : x + n ≤ 4503599627370496) (hy : y + m ≤ 4503599627370496) :
    Calls Try.prog 23 #[.pointer (some ⟨r, 0, none⟩), .string s, .int .i64 (n : Int), .int .i64 (m : Int)] w fun e w' => e = .returned (.int .i64 0) ∧ RM w' r (.slice (some ⟨g, 0, none⟩) L.length c) (insE (s.data.toList, x + n, y + m) L) ∧ Kp [g] w w' := by
  have HM := may_any s w
  rw [hm] at HM
  have HM := hide HM
  have HA := hide (at_some r _ L s w h _ hl hL.room hL.srt)
  have hc := h.cell
  have h1 : ¬ ((n : Int) < 0) := by omega
  have h2 : ¬ (4503599627370496 < (n : Int)) := by omega
  have h3 : ¬ ((m : Int) < 0) := by omega
  have h4 : ¬ (4503599627370496 < (m : Int)) := by omega
  obtain ⟨hnc, hg, HC⟩ : L.length ≤ c ∧ g < w.heap.size ∧ Hid (∀ k x, L[k]? = some x → w.cell? ⟨g, k * 3, none⟩ = some (encStr x.1) ∧ w.cell? ⟨g, k * 3 + 1, none⟩ = some (.int .i64 (x.2.1 : Int)) ∧ w.cell? ⟨g, k * 3 + 2, none⟩ = some (.int .i64 (x.2.2 : Int))) := by
    rcases h.form with ⟨h0, _⟩ | ⟨g', c', hv, hnc, hg, hcell⟩
    · cases h0
    · obtain ⟨rfl, rfl⟩ : g = g' ∧ c = c' := by simpa using hv
      exact ⟨hnc, hg, hcell⟩
  have HF := hide (frozen_row h)
  have HR := hide h
  have HS := hide hL.srt
  have hrlt := h.rlt
  clear h hl hm hL
  have o1 : ¬ ((4503599627370496 : Int) - (n : Int)) < (x : Int) := by omega
  have o2 : ¬ ((4503599627370496 : Int) - (m : Int)) < (y : Int) := by omega
  go_enter Try.func23, Try.ntmps23
  go_wp2_with fail
  refine (unhide HM).mono ?_
  rintro e w1 ⟨rfl, rfl⟩
  go_wp2_with fail
  refine (unhide HA).mono ?_
  rintro e w1 ⟨k, rfl, rfl, hk⟩
  obtain ⟨c0, c1, c2⟩ := unhide HC k _ hk
  have f0 := unhide HF (k * 3)
  have f1 := unhide HF (k * 3 + 1)
  have f2 := unhide HF (k * 3 + 2)
  have hlt : k < L.length := (List.getElem?_eq_some_iff.1 hk).1
  have hi1 : (0 : Int) ≤ (k : Int) := by omega
  have hi2 : (k : Int) < (L.length : Int) := by omega
  have hi3 : (L.length : Int) ≤ (c : Int) := by omega
  have HX := hide hk
  clear hk
  go_wp2_with fail
  go_region
  have hfin := rm_set (x := (s.data.toList, x + n, y + m)) (unhide HR) (unhide HX) (.cells #[.string ⟨s.data⟩, .int .i64 ((x : Int) + (n : Int)), .int .i64 ((y : Int) + (m : Int))] 49)
  have HE := set_insE (x := (s.data.toList, x + n, y + m)) (unhide HS) (unhide HX) rfl
  rw [HE] at hfin
  have HF2 := hide hfin
  clear hfin HE
  go_wp2
  go_ret
  exact ⟨rfl, (unhide HF2).1, (unhide HF2).2⟩

end Go.Proofs.Ytfbbdfeigenodaa
