/- The contract of the document's Drop of a table of routes (layer 11), over the loaded program. -/
import Derived.Test.YtmicgkoicmeflaaRu11
import Derived.Deep.AppendLies
namespace Go.Proofs.Ytmicgkoicmeflaa
open Go.RowKit

/-- the document's table: a box with a slice of the routes, which lie elsewhere -/
def RD (w : World) (x : Nat) (L : List Rt) : Prop := ∃ sv, w.heap[x]? = some (.cells #[sv] 29 (0, 0)) ∧ RtsAt w sv L ∧ ∀ a n c, sv = .slice (some a) n c → L ≠ [] → a.block ≠ x
theorem RD.lt {w : World} {x : Nat} {L : List Rt} (h : RD w x L) : x < w.heap.size := by
  obtain ⟨sv, hb, _⟩ := h
  exact (Array.getElem?_eq_some_iff.1 hb).1
theorem RD.below {w w' : World} {x : Nat} {L : List Rt} (h : RD w x L) (k : Below w.heap.size w w') : RD w' x L := by
  obtain ⟨sv, hb, hr, hn⟩ := h
  exact ⟨sv, (k.block x (Array.getElem?_eq_some_iff.1 hb).1).trans hb, hr.below k, hn⟩
theorem RD.keep {w w' : World} {x : Nat} {L : List Rt} (h : RD w x L) {b : Nat} (k : w.grownBy w' (some b)) {es : Array MapEntry} {c : Nat} (hb : w.heap[b]? = some (.map es c)) : RD w' x L := by
  obtain ⟨sv, hx, hr, hn⟩ := h
  refine ⟨sv, (k.block x (Array.getElem?_eq_some_iff.1 hx).1 (fun e => ?_)).trans hx, hr.keep k hb, hn⟩
  cases e
  rw [hb] at hx
  cases hx
theorem rts_grown {w w' : World} {x : Nat} {sv : Value} {L : List Rt} (h : RtsAt w sv L) (hn : ∀ a n c, sv = .slice (some a) n c → L ≠ [] → a.block ≠ x) (k : w.grownBy w' (some x)) : RtsAt w' sv L := by
  rcases h with h | ⟨g, off, cap, e, hg, hc⟩
  · exact .inl h
  · by_cases hL : L = []
    · subst hL
      exact .inl ⟨⟨_, _, e⟩, rfl⟩
    · have hne := hn _ _ _ e hL
      refine .inr ⟨g, off, cap, e, Nat.lt_of_lt_of_le hg k.size, fun i r hi j v hj => ?_⟩
      rw [World.cell?_of_block (k.block g hg (fun e => hne (by cases e; rfl)))]
      exact hc i r hi j v hj
theorem grown_setCell (w : World) (x : Nat) (v : Value) : w.grownBy (w.setCell ⟨x, 0, none⟩ v) (some x) :=
  ⟨rfl, rfl, rfl, by simp, fun k _ hn => heap_setCell_other w _ k _ (fun e => hn (by rw [e]))⟩
theorem rts_of_row {w : World} {base : Nat} {v : Value} {L : List Rt} (h : w.ownsRow base 32 5 v L.length (cellsR L)) : RtsAt w v L := by
  by_cases hL : L = []
  · subst hL
    obtain ⟨sp, sc, rfl⟩ := row_shape h
    exact .inl ⟨⟨_, _, rfl⟩, rfl⟩
  · rcases h.2 with ⟨hn, hz⟩ | ⟨g', cap', cur, hv, hb, hg, h1, h2, h3, h4⟩
    · exact absurd (List.eq_nil_of_length_eq_zero hz) hL
    · refine .inr ⟨g', 0, cap', hv, (Array.getElem?_eq_some_iff.1 hg).1, fun i r hi j u hj => ?_⟩
      have hl : j < 5 := by have := (Array.getElem?_eq_some_iff.1 hj).1; simpa using this
      have hi' : i < L.length := (List.getElem?_eq_some_iff.1 hi).1
      have h5 := cellsR_get L i j r u hi hj
      rw [← h4, List.getElem?_take_of_lt (by omega)] at h5
      rw [show 0 + i * 5 + j = i * 5 + j by omega]
      simpa [World.cell?, hg] using h5
/-- the table's slice is another one -/
theorem rd_set {w W : World} {x : Nat} {L L' : List Rt} {v : Value} (h : RD w x L) (hB : Below w.heap.size w W) (hrow : W.ownsRow w.heap.size 32 5 v L'.length (cellsR L')) : RD (W.setCell ⟨x, 0, none⟩ v) x L' ∧ w.grownBy (W.setCell ⟨x, 0, none⟩ v) (some x) := by
  have hx := h.lt
  obtain ⟨sv, hb, _⟩ := h
  have hb' : W.heap[x]? = some (.cells #[sv] 29 (0, 0)) := (hB.block x hx).trans hb
  have hne : ∀ a n c, v = .slice (some a) n c → L' ≠ [] → a.block ≠ x := fun a n c e hL => by
    rcases hrow.2 with ⟨hn, hz⟩ | ⟨g', cap', cur, hv, hb, _⟩
    · exact absurd (List.eq_nil_of_length_eq_zero hz) hL
    · rw [e] at hv
      injection hv with h1 h2 h3
      cases h1
      show g' ≠ x
      omega
  refine ⟨⟨v, heap_setCell_same W x 0 _ _ v hb', rts_grown (rts_of_row hrow) hne (grown_setCell W x v), hne⟩, ?_⟩
  exact grown_trans (grown_of hB _) (grown_setCell W x v)
theorem rts_cells {w : World} {a : Option Addr} {n cap : Nat} {L : List Rt} (h : RtsAt w (.slice a n cap) L) {i : Nat} (hi : i < L.length) : ∃ g off, a = some ⟨g, off, none⟩ ∧ n = L.length ∧ g < w.heap.size ∧ w.cell? ⟨g, off + i * 5, none⟩ = some (.int .u32 (L[i].n : Int)) ∧ w.cell? ⟨g, off + i * 5 + 1, none⟩ = some (.int .i64 L[i].b) ∧ w.cell? ⟨g, off + i * 5 + 2, none⟩ = some (.int .u32 (L[i].v : Int)) ∧ w.cell? ⟨g, off + i * 5 + 3, none⟩ = some (.int .i64 L[i].c) ∧ w.cell? ⟨g, off + i * 5 + 4, none⟩ = some (.int .u32 (L[i].s : Int)) := by
  rcases h with ⟨_, e⟩ | ⟨g, off, cap', e, hg, hc⟩
  · rw [e] at hi; exact absurd hi (Nat.not_lt_zero _)
  · injection e with e1 e2 e3
    have := hc i L[i] (List.getElem?_eq_getElem hi)
    exact ⟨g, off, e1, e2, hg, this 0 _ rfl, this 1 _ rfl, this 2 _ rfl, this 3 _ rfl, this 4 _ rfl⟩
theorem take_snoc' {α : Type} (l : List α) (k : Nat) (h : k < l.length) : l.take (k + 1) = l.take k ++ [l[k]] := by
  rw [List.take_succ_eq_append_getElem h]
theorem row_below {w w' : World} {base e size n : Nat} {v : Value} {xs : List Value} (h : w.ownsRow base e size v n xs) (hb : Below w.heap.size w w') : w'.ownsRow base e size v n xs :=
  row_at h (fun g hg => hb.block g (h.lt g hg).2)

set_option maxRecDepth 100000 in
set_option maxHeartbeats 2000000 in
theorem rdrop_any {w : World} {x : Nat} {L : List Rt} (h : RD w x L) (hs : Srt L) (hl : L.length ≤ 1024) (n : Nat) (c : Int) :
    Calls Try.prog 13 #[.pointer (some ⟨x, 0, none⟩), .int .u32 (n : Int), .int .i64 c] w fun e w' => e = .returned (.bool (lookR n c L).isSome) ∧ RD w' x (delR n c L) ∧ w.grownBy w' (some x) := by
  obtain ⟨i0, hi, hz0, hz1, hz2⟩ := info_parts (P := Try.prog) (e := 32) (z := rtZ) (size := 5) (bytes := 40) (by kernel_rfl)
  have HD := hide h
  have hx := h.lt
  obtain ⟨sv, hb, hr, _⟩ := h
  obtain ⟨a, cap, rfl⟩ := hr.slice
  have HR := hide hr
  have hc0 : w.cell? ⟨x, 0, none⟩ = some (.slice a L.length cap) := by simp [World.cell?, hb]
  have HL : Hid (∀ D : List Rt, D = delR n c L → decide (D.length < L.length) = (lookR n c L).isSome) := fun D e => by rw [e]; exact del_lt hs n c
  clear hr hs
  generalize (lookR n c L).isSome = t at *
  go_enter Try.func13, Try.ntmps13
  go_wp2_with fail
  go_loopw [7, 8] (fun v i wr => ∃ k : Nat, k ≤ L.length ∧ i = .int .i64 (k : Int) ∧ wr.ownsRow w.heap.size 32 5 v (delR n c (L.take k)).length (cellsR (delR n c (L.take k))) ∧ Below w.heap.size w wr) (fun _ i _ => L.length - (intOf i).toNat)
  case atStart => exact ⟨0, Nat.zero_le _, rfl, World.ownsRow_nil _ _ _ _, Below.refl _ _⟩
  case round =>
    obtain ⟨k, hk, rfl, hown, hB⟩ := hrel
    have hcx := (hB.cell (p := ⟨x, 0, none⟩) hx).trans hc0
    by_cases hlt : k < L.length
    · obtain ⟨g, off, rfl, _, hg, q0, q1, q2, q3, q4⟩ := rts_cells (unhide HR) hlt
      have c0 := (hB.cell (p := ⟨g, off + k * 5, none⟩) hg).trans q0
      have c1 := (hB.cell (p := ⟨g, off + k * 5 + 1, none⟩) hg).trans q1
      have c2 := (hB.cell (p := ⟨g, off + k * 5 + 2, none⟩) hg).trans q2
      have c3 := (hB.cell (p := ⟨g, off + k * 5 + 3, none⟩) hg).trans q3
      have c4 := (hB.cell (p := ⟨g, off + k * 5 + 4, none⟩) hg).trans q4
      clear q0 q1 q2 q3 q4
      have HS := hide (take_snoc' L k hlt)
      obtain ⟨y, hy⟩ : ∃ y, y = L[k] := ⟨_, rfl⟩
      rw [← hy] at c0 c1 c2 c3 c4 HS
      clear hy
      obtain ⟨A, hA⟩ : ∃ A, delR n c (L.take k) = A := ⟨_, rfl⟩
      have hAl : A.length ≤ 1024 := by
        rw [← hA]
        have h1 : (delR n c (L.take k)).length ≤ (L.take k).length := List.length_filter_le _ _
        have h2 : (L.take k).length ≤ k := List.length_take_le _ _
        omega
      rw [hA] at hown
      have HA := hide hA
      clear hA
      by_cases hky : keyE y n c
      · have HE : Hid (delR n c (L.take (k + 1)) = A) := by
          rw [unhide HS, ← unhide HA]
          unfold delR
          rw [List.filter_append, List.filter_cons_of_neg (by simpa using hky)]
          simp [Hid]
        have e1 : ((y.n : Int) != (n : Int)) = false := by rw [bne_eq_false_iff_eq]; have := hky.1; omega
        have e2 : (y.b != c) = false := by rw [bne_eq_false_iff_eq]; exact hky.2
        clear hky
        go_wp2_with fail
        go_roundw
        case rel => exact ⟨k + 1, by omega, by go_num, by rw [unhide HE]; exact hown, hB⟩
        case measure => simp [intOf]; omega
      · have HE : Hid (delR n c (L.take (k + 1)) = A ++ [y]) := by
          rw [unhide HS, ← unhide HA]
          unfold delR
          rw [List.filter_append, List.filter_cons_of_pos (by simpa using hky)]
          simp [Hid]
        have hsw := hB.size
        have hlt1 := hown.lt
        obtain ⟨m, hm⟩ : ∃ m, A.length = m := ⟨_, rfl⟩
        rw [hm] at hown hAl
        have HM := hide hm
        clear hm
        by_cases e1 : y.n = n
        · have e1' : ((y.n : Int) != (n : Int)) = false := by rw [bne_eq_false_iff_eq]; omega
          have e2 : (y.b != c) = true := by rw [bne_iff_ne]; intro e; exact hky ⟨e1, e⟩
          clear hky e1
          go_wp2_with (at_builtin; refine wpList_append_lies _ rfl _ _ 27 rfl w.heap.size 32 i0 _ 5 40 Try.underlying27 hi hz0 hz1 hz2 rfl (by decide) u7 m _ rfl (hown.alloc _) ⟨wr.heap.size, 0, none⟩ 1 1 (rtCs y).toList rfl rfl (five_news _ _ _ _ _ _ _) (by intro u hu; simp at hu; rcases hu with rfl | rfl | rfl | rfl | rfl <;> rfl) (by decide) (by unfold maxLen; omega) (by omega) (by simp; omega) _ rfl ?_; intro g3 cap3 w5 hown5 hgrow5 hat5 hlt5)
          have hB5 := (hB.alloc hsw (.cells (rtCs y) 32)).grown hgrow5 (by simp; omega) (fun j hj => (hlt1 j hj).1)
          refine ⟨⟨k + 1, by omega, by go_num, ?_, hB5⟩, ?_⟩
          · rw [unhide HE, cellsR_snoc, List.length_append, unhide HM]
            exact hown5
          · simp [intOf]
            omega
        · have e1' : ((y.n : Int) != (n : Int)) = true := by rw [bne_iff_ne]; omega
          clear hky e1
          go_wp2_with (at_builtin; refine wpList_append_lies _ rfl _ _ 27 rfl w.heap.size 32 i0 _ 5 40 Try.underlying27 hi hz0 hz1 hz2 rfl (by decide) u7 m _ rfl (hown.alloc _) ⟨wr.heap.size, 0, none⟩ 1 1 (rtCs y).toList rfl rfl (five_news _ _ _ _ _ _ _) (by intro u hu; simp at hu; rcases hu with rfl | rfl | rfl | rfl | rfl <;> rfl) (by decide) (by unfold maxLen; omega) (by omega) (by simp; omega) _ rfl ?_; intro g3 cap3 w5 hown5 hgrow5 hat5 hlt5)
          have hB5 := (hB.alloc hsw (.cells (rtCs y) 32)).grown hgrow5 (by simp; omega) (fun j hj => (hlt1 j hj).1)
          refine ⟨⟨k + 1, by omega, by go_num, ?_, hB5⟩, ?_⟩
          · rw [unhide HE, cellsR_snoc, List.length_append, unhide HM]
            exact hown5
          · simp [intOf]
            omega
    · obtain rfl : k = L.length := by omega
      rw [List.take_length] at hown
      have hd := unhide HL _ rfl
      have hd2 : decide (((delR n c L).length : Int) < (L.length : Int)) = t := by rw [← hd, decide_eq_decide]; omega
      obtain ⟨sp, sc, rfl⟩ := row_shape hown
      have hf := rd_set (unhide HD) hB hown
      have HF := hide hf
      have hfx : wr.frozen? ⟨x, 0, none⟩ = false := by
        have : wr.heap[x]? = some (.cells #[.slice a L.length cap] 29 (0, 0)) := (hB.block x hx).trans hb
        simp [World.frozen?, this]
      generalize (delR n c L).length = m at *
      clear hlt hown hf
      go_wp2_with fail
      go_ret
      exact ⟨rfl, unhide HF⟩
end Go.Proofs.Ytmicgkoicmeflaa
