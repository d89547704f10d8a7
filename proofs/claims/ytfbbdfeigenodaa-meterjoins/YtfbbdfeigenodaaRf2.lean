/- What Add of the document's meter leaves where a counter comes to be. -/
import Derived.Test.YtfbbdfeigenodaaRf1
namespace Go.Proofs.Ytfbbdfeigenodaa
open Go.RowKit Go.Maps

theorem wpList_append_x {w : World} {ops : Array Oper} {rest : List Oper} {o : Oper} {a : Act} {Q : Exit → Act → World → Prop} (hgd : o.guard = none) (s x : Operand)
    (ho : o.op = .call { callee := .builtin .append, args := #[s, x], argTypes := #[46, 46] })
    (base : Nat) (v : Value) (n : Nat) (xs : List Value) (hs : a.eval s = v) (hown : w.ownsRow base 49 3 v n xs)
    (px : Option Addr) (m c : Nat) (news : List Value) (hx : a.eval x = .slice px m c)
    (hpx : (px = none ∧ m = 0 ∧ c = 0 ∧ news = []) ∨ (∃ ad, px = some ad ∧ news.length = m * 3 ∧ ∀ j u, news[j]? = some u → w.cell? (ad.add j) = some u)) (h1 : ∀ u ∈ news, u.oneCell' = true)
    (h63 : n + m ≤ 1000) (hbase : base ≤ w.heap.size)
    (h : ∀ v' w', w'.ownsRow base 49 3 v' (n + m) (xs ++ news) → w.grownBy w' v.ownBlock → (∀ i, v'.ownBlock = some i → base ≤ i) → wpList Try.prog ops Q rest (a.put o.dst v') w') :
    wpList Try.prog ops Q (o :: rest) a w := by
  obtain ⟨i0, hi, hz0, hz1, hz2⟩ := info_parts (P := Try.prog) (e := 49) (z := .agg #[.string ByteArray.empty, .int .i64 0, .int .i64 0]) (size := 3) (bytes := 32) (by kernel_rfl)
  rcases hpx with ⟨rfl, rfl, rfl, rfl⟩ | ⟨ad, rfl, hl, hnews⟩
  · refine wpList_append_own_none hgd s x _ ho base _ i0 3 Try.underlying46 hi v n xs hs hown hx (h v w (by simpa using hown) ⟨rfl, rfl, rfl, Nat.le_refl _, fun _ _ _ => rfl⟩ (fun i hi => (hown.lt i hi).1))
  · refine wpList_append_own_at w hgd s x _ ho base _ i0 _ 3 32 Try.underlying46 hi hz0 hz1 hz2 rfl (by decide) v n xs hs hown ad m c news hx hl hnews h1 (by unfold maxLen; omega) (by omega) hbase fun v' w' g1 g2 _ _ => h v' w' g1 g2 (fun i hi => (g1.lt i hi).1)

theorem cellsL_take (L : List Ent) (k : Nat) : cellsL (L.take k) = (cellsL L).take (k * 3) := by
  induction L generalizing k with
  | nil => simp [cellsL]
  | cons y r ih =>
    cases k with
    | zero => simp [cellsL]
    | succ j =>
      have e : cellsL (y :: r) = cellsE y ++ cellsL r := by unfold cellsL; rw [List.flatMap_cons]
      have e2 : cellsL (y :: r.take j) = cellsE y ++ cellsL (r.take j) := by unfold cellsL; rw [List.flatMap_cons]
      have hl : (cellsE y).length = 3 := rfl
      rw [List.take_succ_cons, e2, ih, e, List.take_append, hl, show (j + 1) * 3 - 3 = j * 3 by omega, List.take_of_length_le (l := cellsE y) (by omega)]
theorem cellsL_drop (L : List Ent) (k : Nat) : cellsL (L.drop k) = (cellsL L).drop (k * 3) := by
  induction L generalizing k with
  | nil => simp [cellsL]
  | cons y r ih =>
    cases k with
    | zero => simp
    | succ j =>
      have e : cellsL (y :: r) = cellsE y ++ cellsL r := by unfold cellsL; rw [List.flatMap_cons]
      have hl : (cellsE y).length = 3 := rfl
      rw [List.drop_succ_cons, ih, e, List.drop_append, hl, show (j + 1) * 3 - 3 = j * 3 by omega, List.drop_of_length_le (l := cellsE y) (by omega), List.nil_append]
theorem cellsL_one {L : List Ent} : ∀ u ∈ cellsL L, u.oneCell' = true := by
  intro u hu
  unfold cellsL at hu
  obtain ⟨x, _, hx⟩ := List.mem_flatMap.1 hu
  simp [cellsE] at hx
  rcases hx with rfl | rfl | rfl <;> rfl

theorem take_lt {L : List Ent} {k : Nat} {s : List UInt8} {x : Ent} (h : ∀ y ∈ L.take k, y.1 < s) (hx : L[k]? = some x) (hs : x.1 < s) : ∀ y ∈ L.take (k + 1), y.1 < s := by
  intro y hy
  rw [List.take_add_one, hx] at hy
  rcases List.mem_append.1 hy with hy | hy
  · exact h y hy
  · simp at hy
    subst hy
    exact hs

theorem lss_eq (x : List UInt8) (s : ByteArray) : Op.bytesLess x s.toList = decide (x < s.data.toList) := by
  rw [Lib.toList_data, bytesLess_eq]

theorem cellsE_str (s : ByteArray) (n m : Nat) : cellsE (s.data.toList, n, m) = [.string s, .int .i64 (n : Int), .int .i64 (m : Int)] := by
  unfold cellsE
  rfl
theorem add_zero_at (g j : Nat) : (⟨g, 0, none⟩ : Addr).add j = ⟨g, j, none⟩ := by unfold Addr.add; split <;> simp_all
theorem add_at (g o j : Nat) : (⟨g, o, none⟩ : Addr).add j = ⟨g, o + j, none⟩ := by unfold Addr.add; split <;> simp_all
theorem row_all {w : World} {r g c : Nat} {L : List Ent} (h : RM w r (.slice (some ⟨g, 0, none⟩) L.length c) L) : ∀ j u, (cellsL L)[j]? = some u → w.cell? ⟨g, j, none⟩ = some u := by
  intro j u hu
  rcases h.row.2 with ⟨hv, _⟩ | ⟨g', cap, cur, hv, _, hg, _, _, _, ht⟩
  · cases hv
  · obtain ⟨rfl, rfl⟩ : g = g' ∧ c = cap := by simpa using hv
    exact row_cell hg ht hu
theorem row_take {w : World} {r g c : Nat} {L : List Ent} (h : RM w r (.slice (some ⟨g, 0, none⟩) L.length c) L) (k : Nat) : ∀ j u, (cellsL (L.take k))[j]? = some u → w.cell? ((⟨g, 0, none⟩ : Addr).add j) = some u := by
  intro j u hu
  rw [add_zero_at]
  rw [cellsL_take, List.getElem?_take] at hu
  split at hu
  · exact row_all h j u hu
  · cases hu
theorem row_drop {w : World} {r g c : Nat} {L : List Ent} (h : RM w r (.slice (some ⟨g, 0, none⟩) L.length c) L) (k : Nat) : ∀ j u, (cellsL (L.drop k))[j]? = some u → w.cell? ((⟨g, k * 3, none⟩ : Addr).add j) = some u := by
  intro j u hu
  rw [add_at]
  rw [cellsL_drop, List.getElem?_drop] at hu
  exact row_all h _ u hu
theorem kp_grow {w1 w2 w3 : World} {o : Obj} {row : Option Nat} (h : Kp [] w1 w2) (hg : (w2.alloc o).grownBy w3 row) (hr : ∀ i, row = some i → w1.heap.size ≤ i) : Kp [] w1 w3 := by
  refine ⟨hg.os.trans h.os, hg.tape.trans h.tape, hg.output.trans h.output, Nat.le_trans h.size (Nat.le_trans (by simp) hg.size), fun i hi hn => ?_⟩
  have h2 := h.size
  rw [hg.block i (by simp; omega) (fun e => by have := hr i e.symm; omega), Below.heap_alloc _ _ _ (by omega), h.block i hi hn]

theorem row_slice {w : World} {base e size n : Nat} {v : Value} {xs : List Value} (h : w.ownsRow base e size v n xs) : ∃ p c, v = .slice p n c := by
  rcases h.2 with ⟨rfl, rfl⟩ | ⟨g, cap, cur, rfl, _⟩
  · exact ⟨_, _, rfl⟩
  · exact ⟨_, _, rfl⟩
theorem cellsL_cut (A : List Ent) (x : Ent) (B : List Ent) : cellsL (A ++ x :: B) = cellsL A ++ (cellsE x ++ cellsL B) := by
  unfold cellsL
  rw [List.flatMap_append, List.flatMap_cons]
theorem heap_set_box {w : World} {r : Nat} {u v : Value} {t : TypeId} (h : w.heap[r]? = some (.cells #[u] t)) : (w.setCell ⟨r, 0, none⟩ v).heap[r]? = some (.cells #[v] t) := by
  simp [World.setCell, Array.getElem?_modify, h]
theorem rm_store {w1 w4 : World} {r base : Nat} {u v : Value} {L L' : List Ent} {n : Nat} {xs : List Value} (hr : r < w1.heap.size) (hK : Kp [] w1 w4) (hR : RM w4 r u L) (hown : w4.ownsRow base 49 3 v n xs) (hn : n = L'.length) (hx : xs = cellsL L')
    (hloc : ∀ i, v.ownBlock = some i → w1.heap.size ≤ i) : RM (w4.setCell ⟨r, 0, none⟩ v) r v L' ∧ Kp [r] w1 (w4.setCell ⟨r, 0, none⟩ v) := by
  subst hn
  subst hx
  refine ⟨⟨heap_set_box hR.box, ?_⟩, ?_⟩
  · refine row_base (base := base) ⟨hown.1, ?_⟩ (Nat.zero_le _)
    rcases hown.2 with hn | ⟨g, cap, cur, rfl, hb, hg, rest⟩
    · exact .inl hn
    · refine .inr ⟨g, cap, cur, rfl, hb, ?_, rest⟩
      have : g ≠ r := fun e => by have := hloc g rfl; omega
      rw [Below.heap_setCell _ _ _ _ this]
      exact hg
  · refine ⟨hK.os, hK.tape, hK.output, ?_, fun i hi hn => ?_⟩
    · have := hK.size
      simpa [World.setCell] using this
    · have : i ≠ r := by simpa using hn
      rw [Below.heap_setCell _ _ _ _ this, hK.block i hi (by simp)]
theorem px_end (w : World) (g c k c' : Nat) : ((if c = k then some ⟨g, 0, none⟩ else some ⟨g, k * 3, none⟩ : Option Addr) = none ∧ 0 = 0 ∧ c' = 0 ∧ ([] : List Value) = []) ∨ (∃ ad, (if c = k then some ⟨g, 0, none⟩ else some ⟨g, k * 3, none⟩ : Option Addr) = some ad ∧ ([] : List Value).length = 0 * 3 ∧ ∀ j u, ([] : List Value)[j]? = some u → w.cell? (ad.add j) = some u) := by
  right
  by_cases h : c = k
  · exact ⟨⟨g, 0, none⟩, if_pos h, by simp, by simp⟩
  · exact ⟨⟨g, k * 3, none⟩, if_neg h, by simp, by simp⟩
theorem kp_grow2 {w1 w2 w3 : World} {row : Option Nat} (h : Kp [] w1 w2) (hg : w2.grownBy w3 row) (hr : ∀ i, row = some i → w1.heap.size ≤ i) : Kp [] w1 w3 := by
  refine ⟨hg.os.trans h.os, hg.tape.trans h.tape, hg.output.trans h.output, Nat.le_trans h.size hg.size, fun i hi hn => ?_⟩
  have h2 := h.size
  rw [hg.block i (by omega) (fun e => by have := hr i e.symm; omega), h.block i hi hn]

set_option maxRecDepth 100000 in
set_option maxHeartbeats 1000000 in
theorem radd_new (r g c : Nat) (L : List Ent) (s : ByteArray) (n m : Nat) (w : World) (h : RM w r (.slice (some ⟨g, 0, none⟩) L.length c) L) (hm : mayL s.data.toList = true) (hn0 : n ≤ 4503599627370496) (hm0 : m ≤ 4503599627370496)
    (hl : lookE s.data.toList L = none) (hf : L.length < 64) (hS : Srt L) :
    Calls Try.prog 23 #[.pointer (some ⟨r, 0, none⟩), .string s, .int .i64 (n : Int), .int .i64 (m : Int)] w fun e w' => e = .returned (.int .i64 0) ∧ ∃ v', RM w' r v' (insE (s.data.toList, n, m) L) ∧ Kp [r] w w' ∧ (∀ i, v'.ownBlock = some i → w.heap.size ≤ i) := by
  have HM := may_any s w
  rw [hm] at HM
  have HM := hide HM
  have HA := hide (at_none r _ L s w h hl (by omega))
  have hc := h.cell
  have h1 : ¬ ((n : Int) < 0) := by omega
  have h2 : ¬ (4503599627370496 < (n : Int)) := by omega
  have h3 : ¬ ((m : Int) < 0) := by omega
  have h4 : ¬ (4503599627370496 < (m : Int)) := by omega
  have h5 : ¬ (64 : Int) ≤ (L.length : Int) := by omega
  have HR := hide h
  obtain ⟨hnc, hg, HC⟩ : L.length ≤ c ∧ g < w.heap.size ∧ Hid (∀ k x, L[k]? = some x → w.cell? ⟨g, k * 3, none⟩ = some (encStr x.1)) := by
    rcases h.form with ⟨h0, _⟩ | ⟨g', c', hv, hnc, hg, hcell⟩
    · cases h0
    · obtain ⟨rfl, rfl⟩ : g = g' ∧ c = c' := by simpa using hv
      exact ⟨hnc, hg, fun k x hx => (hcell k x hx).1⟩
  have HL := hide hl
  have HS := hide hS
  clear h hl hm hS hn0 hm0
  go_enter Try.func23, Try.ntmps23
  go_wp2_with fail
  refine (unhide HM).mono ?_
  rintro e w1 ⟨rfl, rfl⟩
  go_wp2_with fail
  refine (unhide HA).mono ?_
  rintro e w1 ⟨rfl, rfl⟩
  go_wp2
  go_loop [10] (fun i => ∃ k : Nat, k ≤ L.length ∧ i = .int .i64 (k : Int) ∧ Hid (∀ y ∈ L.take k, y.1 < s.data.toList)) (fun i => L.length - (intOf i).toNat)
  case atStart => exact ⟨0, Nat.zero_le _, rfl, by intro x hx; simp at hx⟩
  case round =>
    obtain ⟨k, hk, rfl, HB⟩ := hrel
    have hi1 : (0 : Int) ≤ (k : Int) := by omega
    have hi3 : (L.length : Int) ≤ (c : Int) := by omega
    by_cases hgo : ∃ x, L[k]? = some x ∧ x.1 < s.data.toList
    · obtain ⟨x, hx, hs⟩ := hgo
      have hlt : k < L.length := (List.getElem?_eq_some_iff.1 hx).1
      have hc1 := unhide HC k x hx
      have hi2 : (k : Int) < (L.length : Int) := by omega
      have hd : Op.bytesLess x.1 s.toList = true := by rw [lss_eq]; exact decide_eq_true hs
      have HB' := hide (take_lt (unhide HB) hx hs)
      clear hx hs
      go_wp2
      go_round
      case rel => exact ⟨k + 1, by omega, by go_num, HB'⟩
      case measure => simp [intOf]; omega
    · have HE : Hid (L.take k ++ (s.data.toList, n, m) :: L.drop k = insE (s.data.toList, n, m) L) :=
        cut_insE (unhide HS) (unhide HL) hk (unhide HB) (fun y hy hs => hgo ⟨y, hy, hs⟩)
      by_cases hlt : k < L.length
      · obtain ⟨x, hx⟩ : ∃ x, L[k]? = some x := ⟨L[k], List.getElem?_eq_getElem hlt⟩
        have hc1 := unhide HC k x hx
        have hi2 : (k : Int) < (L.length : Int) := by omega
        have hd : Op.bytesLess x.1 s.toList = false := by rw [lss_eq]; exact decide_eq_false (fun hs => hgo ⟨x, hx, hs⟩)
        clear hx hgo
        have tok1 : True := trivial
        have tok2 : True := trivial
        have HN1 : Hid (((some ⟨g, 0, none⟩ : Option Addr) = none ∧ k = 0 ∧ c = 0 ∧ cellsL (L.take k) = []) ∨ (∃ ad, (some ⟨g, 0, none⟩ : Option Addr) = some ad ∧ (cellsL (L.take k)).length = k * 3 ∧ ∀ j u, (cellsL (L.take k))[j]? = some u → w1.cell? (ad.add j) = some u)) := .inr ⟨_, rfl, by rw [cellsL_len, List.length_take]; omega, row_take (unhide HR) k⟩
        have HK : Hid (∀ w', Kp [] w1 w' → RM w' r (.slice (some ⟨g, 0, none⟩) L.length c) L) := fun w' hk' => (unhide HR).kept hk' (by simp) (by simp)
        go_wp2_with (first
          | (at_builtin; have _t := tok1; refine wpList_append_x rfl _ _ rfl w1.heap.size (.slice none 0 0) 0 [] rfl (World.ownsRow_nil _ _ _ _) (some ⟨g, 0, none⟩) k c (cellsL (L.take k)) rfl (unhide HN1) cellsL_one (by omega) (Nat.le_refl _) ?_; intro v1 w2 hown1 hgrow1 hloc1; clear tok1; have hK2 : Kp [] w1 w2 := ⟨hgrow1.os, hgrow1.tape, hgrow1.output, hgrow1.size, fun i hi _ => hgrow1.block i hi (by simp [Value.ownBlock])⟩; clear hgrow1)
          | (at_builtin; have _t := tok2; refine wpList_append_x rfl _ _ rfl w1.heap.size v1 (0 + k) _ rfl (hown1.alloc _) (some ⟨w2.heap.size, 0, none⟩) 1 1 [.string s, .int .i64 (n : Int), .int .i64 (m : Int)] rfl (.inr ⟨_, rfl, rfl, World.news_of_block (heap_alloc_new w2 _)⟩) (by intro u hu; simp at hu; rcases hu with rfl | rfl | rfl <;> rfl) (by omega) (by simp; exact Nat.le_trans hK2.size (Nat.le_succ _)) ?_; intro v2 w3 hown2 hgrow2 hloc2; clear tok2; have hK3 : Kp [] w1 w3 := kp_grow hK2 hgrow2 hloc1; have hR3 := unhide HK w3 hK3; have hc3 := hR3.cell; clear hgrow2 hown1)
          | (at_builtin; have _t := hR3; refine wpList_append_x rfl _ _ rfl w1.heap.size v2 (0 + k + 1) _ rfl hown2 (some ⟨g, k * 3, none⟩) (L.length - k) (c - k) (cellsL (L.drop k)) rfl (.inr ⟨_, rfl, by rw [cellsL_len, List.length_drop], row_drop hR3 k⟩) cellsL_one (by omega) hK3.size ?_; intro v3 w4 hown3 hgrow3 hloc3; obtain ⟨p3, c3, rfl⟩ := row_slice hown3; have hK4 : Kp [] w1 w4 := kp_grow2 hK3 hgrow3 hloc2; have hR4 := unhide HK w4 hK4; have hc4 := hR4.cell; have hf4 := hR4.frozen; clear hgrow3 hown2 hR3 hc3)
          | go_in)
        go_ret
        have hfin := rm_store (L' := insE (s.data.toList, n, m) L) (unhide HR).rlt hK4 hR4 hown3 (by rw [← unhide HE, List.length_append, List.length_cons, List.length_take, List.length_drop]; omega) (by rw [← unhide HE, cellsL_cut, cellsE_str]; simp) hloc3
        simp only [Nat.zero_add] at hfin hloc3
        exact ⟨rfl, _, hfin.1, hfin.2, hloc3⟩
      · obtain rfl : k = L.length := by omega
        clear hgo
        have hi2 : ¬ (L.length : Int) < (L.length : Int) := by omega
        have tok1 : True := trivial
        have tok2 : True := trivial
        have HN1 : Hid (((some ⟨g, 0, none⟩ : Option Addr) = none ∧ L.length = 0 ∧ c = 0 ∧ cellsL (L.take L.length) = []) ∨ (∃ ad, (some ⟨g, 0, none⟩ : Option Addr) = some ad ∧ (cellsL (L.take L.length)).length = L.length * 3 ∧ ∀ j u, (cellsL (L.take L.length))[j]? = some u → w1.cell? (ad.add j) = some u)) := .inr ⟨_, rfl, by rw [cellsL_len, List.length_take]; omega, row_take (unhide HR) L.length⟩
        have HK : Hid (∀ w', Kp [] w1 w' → RM w' r (.slice (some ⟨g, 0, none⟩) L.length c) L) := fun w' hk' => (unhide HR).kept hk' (by simp) (by simp)
        go_wp2_with (first
          | (at_builtin; have _t := tok1; refine wpList_append_x rfl _ _ rfl w1.heap.size (.slice none 0 0) 0 [] rfl (World.ownsRow_nil _ _ _ _) (some ⟨g, 0, none⟩) L.length c (cellsL (L.take L.length)) rfl (unhide HN1) cellsL_one (by omega) (Nat.le_refl _) ?_; intro v1 w2 hown1 hgrow1 hloc1; clear tok1; have hK2 : Kp [] w1 w2 := ⟨hgrow1.os, hgrow1.tape, hgrow1.output, hgrow1.size, fun i hi _ => hgrow1.block i hi (by simp [Value.ownBlock])⟩; clear hgrow1)
          | (at_builtin; have _t := tok2; refine wpList_append_x rfl _ _ rfl w1.heap.size v1 (0 + L.length) _ rfl (hown1.alloc _) (some ⟨w2.heap.size, 0, none⟩) 1 1 [.string s, .int .i64 (n : Int), .int .i64 (m : Int)] rfl (.inr ⟨_, rfl, rfl, World.news_of_block (heap_alloc_new w2 _)⟩) (by intro u hu; simp at hu; rcases hu with rfl | rfl | rfl <;> rfl) (by omega) (by simp; exact Nat.le_trans hK2.size (Nat.le_succ _)) ?_; intro v2 w3 hown2 hgrow2 hloc2; clear tok2; have hK3 : Kp [] w1 w3 := kp_grow hK2 hgrow2 hloc1; have hR3 := unhide HK w3 hK3; have hc3 := hR3.cell; clear hgrow2 hown1)
          | (at_builtin; have _t := hR3; refine wpList_append_x rfl _ _ rfl w1.heap.size v2 (0 + L.length + 1) _ rfl hown2 (if c = L.length then some ⟨g, 0, none⟩ else some ⟨g, L.length * 3, none⟩) 0 _ [] rfl (px_end w3 g c L.length _) (by simp) (by omega) hK3.size ?_; intro v3 w4 hown3 hgrow3 hloc3; obtain ⟨p3, c3, rfl⟩ := row_slice hown3; have hK4 : Kp [] w1 w4 := kp_grow2 hK3 hgrow3 hloc2; have hR4 := unhide HK w4 hK4; have hc4 := hR4.cell; have hf4 := hR4.frozen; clear hgrow3 hown2 hR3 hc3)
          | go_in)
        all_goals
          go_ret
          have hfin := rm_store (L' := insE (s.data.toList, n, m) L) (unhide HR).rlt hK4 hR4 hown3 (by rw [← unhide HE, List.length_append, List.length_cons, List.length_take, List.length_drop]; omega) (by rw [← unhide HE, cellsL_cut, cellsE_str]; simp [cellsL]) hloc3
          simp only [Nat.zero_add, Nat.add_zero] at hfin hloc3
          exact ⟨rfl, _, hfin.1, hfin.2, hloc3⟩

end Go.Proofs.Ytfbbdfeigenodaa
