/- slices.Sort at uint32, of at most twelve numbers that are unlike, over the loaded program. -/
import Derived.Test.YtjcigoojlmalnaaNa2
namespace Go.Proofs.Ytjcigoojlmalnaa
open Go.RowKit Go.Shelf Go.Maps
attribute [local go_sem ↓] Go.wp_at_zero Go.wp_at_succ

theorem nan_any (x : Nat) (w : World) : Calls Try.prog 52 #[.int .u32 (x : Int)] w fun e w' => e = .returned (.bool false) ∧ w' = w := by
  go_enter Try.func52, Try.ntmps52
  go_wp2
  go_ret
  exact ⟨by simp, rfl⟩
set_option maxHeartbeats 1000000 in
theorem less_any (x y : Nat) (w : World) : Calls Try.prog 42 #[.int .u32 (x : Int), .int .u32 (y : Int)] w fun e w' => e = .returned (.bool (decide (x < y))) ∧ w' = w := by
  have H := hide (nan_any x)
  go_enter Try.func42, Try.ntmps42
  go_wp2_with fail
  refine (unhide H _).mono ?_
  rintro e w1 ⟨rfl, rfl⟩
  go_wp2
  go_ret
  refine ⟨?_, rfl⟩
  congr 2

/-- n numbers side by side -/
structure Rf (w : World) (g n cap : Nat) (f : Nat → Nat) : Prop where
  blk : ∃ cur, w.heap[g]? = some (.cells cur 35 (0, 0)) ∧ cur.size = cap
  cell : ∀ i, i < n → w.cell? ⟨g, i, none⟩ = some (.int .u32 (f i : Int))
def swp (f : Nat → Nat) (j : Nat) : Nat → Nat := fun k => if k = j then f (j - 1) else if k = j - 1 then f j else f k
/-- the same numbers, otherwise laid -/
structure Mix (n : Nat) (f f' : Nat → Nat) : Prop where
  mem : ∀ x, (∃ i, i < n ∧ f' i = x) ↔ (∃ i, i < n ∧ f i = x)
  inj : ∀ i j, i < n → j < n → f' i = f' j → i = j
theorem Mix.turn {n : Nat} {f f' : Nat → Nat} (h : Mix n f f') {j : Nat} (h1 : 0 < j) (h2 : j < n) : Mix n f (swp f' j) := by
  have hs : ∀ i, i < n → ∃ i', i' < n ∧ swp f' j i = f' i' ∧ (i = j → i' = j - 1) ∧ (i = j - 1 → i' = j) ∧ (i ≠ j → i ≠ j - 1 → i' = i) := fun i hi => by
    unfold swp
    by_cases e1 : i = j
    · exact ⟨j - 1, by omega, by rw [if_pos e1], fun _ => rfl, fun _ => by omega, fun k => absurd e1 k⟩
    · by_cases e2 : i = j - 1
      · exact ⟨j, h2, by rw [if_neg e1, if_pos e2], fun k => absurd k e1, fun _ => rfl, fun _ k => absurd e2 k⟩
      · exact ⟨i, hi, by rw [if_neg e1, if_neg e2], fun k => absurd k e1, fun k => absurd k e2, fun _ _ => rfl⟩
  have hb : ∀ i, i < n → ∃ i', i' < n ∧ swp f' j i' = f' i := fun i hi => by
    by_cases e1 : i = j
    · refine ⟨j - 1, by omega, ?_⟩
      unfold swp
      rw [if_neg (by omega), if_pos rfl, e1]
    · by_cases e2 : i = j - 1
      · refine ⟨j, h2, ?_⟩
        unfold swp
        rw [if_pos rfl, e2]
      · refine ⟨i, hi, ?_⟩
        unfold swp
        rw [if_neg e1, if_neg e2]
  refine ⟨fun x => ?_, fun a b ha hb' he => ?_⟩
  · rw [← h.mem x]
    constructor
    · rintro ⟨i, hi, rfl⟩
      obtain ⟨i', h3, h4, _⟩ := hs i hi
      exact ⟨i', h3, h4.symm⟩
    · rintro ⟨i, hi, rfl⟩
      obtain ⟨i', h3, h4⟩ := hb i hi
      exact ⟨i', h3, h4⟩
  · obtain ⟨a', a1, a2, a3, a4, a5⟩ := hs a ha
    obtain ⟨b', b1, b2, b3, b4, b5⟩ := hs b hb'
    rw [a2, b2] at he
    have := h.inj a' b' a1 b1 he
    rcases Nat.lt_trichotomy a j with e1 | e1 | e1
    · rcases Nat.lt_or_ge a (j - 1) with e2 | e2
      · have := a5 (by omega) (by omega)
        rcases Nat.lt_trichotomy b j with e3 | e3 | e3
        · rcases Nat.lt_or_ge b (j - 1) with e4 | e4
          · have := b5 (by omega) (by omega); omega
          · have := b4 (by omega); omega
        · have := b3 e3; omega
        · have := b5 (by omega) (by omega); omega
      · have := a4 (by omega)
        rcases Nat.lt_trichotomy b j with e3 | e3 | e3
        · rcases Nat.lt_or_ge b (j - 1) with e4 | e4
          · have := b5 (by omega) (by omega); omega
          · omega
        · have := b3 e3; omega
        · have := b5 (by omega) (by omega); omega
    · have := a3 e1
      rcases Nat.lt_trichotomy b j with e3 | e3 | e3
      · rcases Nat.lt_or_ge b (j - 1) with e4 | e4
        · have := b5 (by omega) (by omega); omega
        · have := b4 (by omega); omega
      · omega
      · have := b5 (by omega) (by omega); omega
    · have := a5 (by omega) (by omega)
      rcases Nat.lt_trichotomy b j with e3 | e3 | e3
      · rcases Nat.lt_or_ge b (j - 1) with e4 | e4
        · have := b5 (by omega) (by omega); omega
        · have := b4 (by omega); omega
      · have := b3 e3; omega
      · have := b5 (by omega) (by omega); omega

/-- in order up to i, but for what stands at j -/
def SrtI (f : Nat → Nat) (i j : Nat) : Prop := ∀ a b, a < b → b ≤ i → b ≠ j → f a ≤ f b
def SrtF (f : Nat → Nat) (i : Nat) : Prop := ∀ a b, a < b → b < i → f a ≤ f b
theorem SrtI.stop {f : Nat → Nat} {i j : Nat} (h : SrtI f i j) (hj : j = 0 ∨ f (j - 1) ≤ f j) : SrtF f (i + 1) := by
  intro a b hab hb
  by_cases e : b = j
  · rcases hj with h0 | h0
    · omega
    · by_cases e2 : a = j - 1
      · rw [e, e2]; exact h0
      · have := h a (j - 1) (by omega) (by omega) (by omega)
        rw [e]; omega
  · exact h a b hab (by omega) e
theorem SrtI.turn {f : Nat → Nat} {i j : Nat} (h : SrtI f i j) (h1 : 0 < j) (h2 : j ≤ i) (hlt : f j < f (j - 1)) : SrtI (swp f j) i (j - 1) := by
  intro a b hab hb hne
  unfold swp
  by_cases b1 : b = j
  · rw [if_neg (by omega : a ≠ j), if_pos b1]
    by_cases a1 : a = j - 1
    · rw [if_pos a1]; omega
    · rw [if_neg a1]
      exact h a (j - 1) (by omega) (by omega) (by omega)
  · rw [if_neg b1, if_neg hne]
    by_cases a1 : a = j
    · rw [if_pos a1]
      exact h (j - 1) b (by omega) hb b1
    · rw [if_neg a1]
      by_cases a2 : a = j - 1
      · rw [if_pos a2]
        exact h j b (by omega) hb b1
      · rw [if_neg a2]
        exact h a b hab hb b1

theorem Rf.drewN {w : World} {g n cap : Nat} {f : Nat → Nat} (h : Rf w g n cap f) (k : Nat) : Rf (w.drewN k) g n cap f := ⟨h.blk, h.cell⟩
theorem Rf.free {w : World} {g n cap : Nat} {f : Nat → Nat} (h : Rf w g n cap f) (i : Nat) : w.frozen? ⟨g, i, none⟩ = false := by
  obtain ⟨cur, hc, _⟩ := h.blk
  simp [World.frozen?, hc]
theorem Rf.set {w w1 : World} {g n cap : Nat} {f : Nat → Nat} (h : Rf w g n cap f) (h0 : w1.heap = w.heap) {r : Nat} (hr : r + 1 < n) :
    Rf ((w1.setCell ⟨g, r + 1, none⟩ (.int .u32 (f r : Int))).setCell ⟨g, r, none⟩ (.int .u32 (f (r + 1) : Int))) g n cap (swp f (r + 1)) := by
  obtain ⟨cur, hc, hz⟩ := h.blk
  have hc1 : w1.heap[g]? = some (.cells cur 35 (0, 0)) := by rw [h0]; exact hc
  have e1 := heap_setCell_same w1 g (r + 1) cur 35 (.int .u32 (f r : Int)) hc1
  have e2 := heap_setCell_same _ g r _ 35 (.int .u32 (f (r + 1) : Int)) e1
  have hcell : ∀ i, i < n → cur[i]? = some (.int .u32 (f i : Int)) := fun i hi => by
    have := h.cell i hi
    simpa [World.cell?, hc] using this
  refine ⟨⟨_, e2, by simpa using hz⟩, fun i hi => ?_⟩
  simp only [World.cell?, e2]
  unfold swp
  have h1 := hcell i hi
  have h2 := hcell r (by omega)
  have h3 := hcell (r + 1) hr
  by_cases a1 : i = r + 1
  · subst a1
    have := (Array.getElem?_eq_some_iff.1 h3).1
    simp [this]
  · by_cases a2 : i = r
    · subst a2
      have := (Array.getElem?_eq_some_iff.1 h2).1
      simp [this]
    · have b1 : ¬ r + 1 = i := fun e => a1 e.symm
      have b2 : ¬ r = i := fun e => a2 e.symm
      simp [a1, a2, b1, b2, h1]
theorem _root_.Go.World.grownBy.drewN {w wr : World} {r : Option Nat} (h : w.grownBy wr r) (k : Nat) : w.grownBy (wr.drewN k) r := ⟨h.os, h.tape, h.output, h.size, h.block⟩
theorem grown_set2 {w wr w1 : World} {g : Nat} (h : w.grownBy wr (some g)) (h0 : w1.heap = wr.heap) (ho : w1.os = wr.os) (ht : w1.tape = wr.tape) (hp : w1.output = wr.output) (a b : Nat) (u v : Value) : w.grownBy ((w1.setCell ⟨g, a, none⟩ u).setCell ⟨g, b, none⟩ v) (some g) :=
  ⟨ho.trans h.os, ht.trans h.tape, hp.trans h.output, by have := h.size; rw [← h0] at this; simpa using this, fun k hk hne => by
    have hg : k ≠ g := fun e => hne (by rw [e])
    rw [heap_setCell_other _ _ k _ hg, heap_setCell_other _ _ k _ hg, h0]
    exact h.block k hk hne⟩

set_option maxRecDepth 100000 in
set_option maxHeartbeats 2000000 in
theorem ins_any (g n cap : Nat) (f : Nat → Nat) (w : World) (hn : n ≤ 12) (hr : Rf w g n cap f) (hm : Mix n f f) :
    Calls Try.prog 36 #[.slice (some ⟨g, 0, none⟩) n cap, .int .i64 0, .int .i64 (n : Int)] w fun e w' => (∃ v, e = .returned v) ∧ ∃ f', Rf w' g n cap f' ∧ Hid (Mix n f f' ∧ SrtF f' n) ∧ w.grownBy w' (some g) := by
  have HL := hide less_any
  go_enter Try.func36, Try.ntmps36
  go_wp2
  go_loopw [6] (fun i wr => ∃ (k : Nat) (f' : Nat → Nat), i = .int .i64 (k : Int) ∧ 1 ≤ k ∧ (k ≤ n ∨ n = 0) ∧ Rf wr g n cap f' ∧ Hid (Mix n f f' ∧ SrtF f' k) ∧ w.grownBy wr (some g))
    (fun i _ => n - (intOf i).toNat)
  case atStart =>
    refine ⟨1, f, rfl, Nat.le_refl _, by omega, hr, ⟨hm, fun a b h1 h2 => by omega⟩, World.grownBy.refl _ _⟩
  case round =>
    obtain ⟨k, f', rfl, hk1, hkn, hR, hM, hG⟩ := hrel
    by_cases hlt : k < n
    · go_wp2
      go_loopw [7] (fun j wr => ∃ (q : Nat) (f' : Nat → Nat), j = .int .i64 (q : Int) ∧ q ≤ k ∧ Rf wr g n cap f' ∧ Hid (Mix n f f' ∧ SrtI f' k q) ∧ w.grownBy wr (some g))
        (fun j _ => (intOf j).toNat)
      case atStart =>
        refine ⟨k, f', rfl, Nat.le_refl _, hR, ⟨(unhide hM).1, fun a b h1 h2 h3 => (unhide hM).2 a b h1 (by omega)⟩, hG⟩
      case round =>
        clear hR hM hG
        obtain ⟨q, f', rfl, hq, hR, hM, hG⟩ := hrel
        cases q with
        | zero =>
          have hd : decide ((0 : Int) < ((0 : Nat) : Int)) = false := by decide
          go_wp2_with fail
          go_quiet (fail)
          go_wp2_with fail
          refine ⟨⟨k + 1, f', by simp, by omega, by omega, hR.drewN _, ⟨(unhide hM).1, (unhide hM).2.stop (.inl rfl)⟩, hG.drewN _⟩, ?_⟩
          simp [intOf]
          omega
        | succ r =>
          have hd : decide ((0 : Int) < ((r + 1 : Nat) : Int)) = true := decide_eq_true (by omega)
          have c1 : wr.cell? ⟨g, r + 1, none⟩ = some (.int .u32 (f' (r + 1) : Int)) := hR.cell (r + 1) (by omega)
          have c0 : wr.cell? ⟨g, r, none⟩ = some (.int .u32 (f' r : Int)) := hR.cell r (by omega)
          by_cases hx : f' (r + 1) < f' r
          · have HL2 := unhide HL (f' (r + 1)) (f' r)
            rw [decide_eq_true hx] at HL2
            have HL2 := hide HL2
            go_wp2_with fail
            go_quiet ((go_at_call 42; exact Calls.quiet_of_same (unhide HL2 _)))
            go_wp2_with fail
            have f1 := hR.free (r + 1)
            have f0 := hR.free r
            obtain ⟨cur, hcur, _⟩ := hR.blk
            have HS := hide (fun W hW => Rf.set (w1 := W) hR hW (r := r) (by omega))
            have HG := hide hG
            go_region
            all_goals
              go_wp2_with fail
              refine ⟨⟨r, swp f' (r + 1), rfl, by omega, unhide HS _ rfl, ⟨(unhide hM).1.turn (by omega) (by omega), ?_⟩, grown_set2 (w1 := wr.drewN (nq + 1)) (unhide HG) rfl rfl rfl rfl _ _ _ _⟩, by simp [intOf]⟩
              exact (unhide hM).2.turn (by omega) hq (by simpa using hx)
          · have HL2 := unhide HL (f' (r + 1)) (f' r)
            rw [decide_eq_false hx] at HL2
            have HL2 := hide HL2
            go_wp2_with fail
            go_quiet ((go_at_call 42; exact Calls.quiet_of_same (unhide HL2 _)))
            go_wp2_with fail
            refine ⟨⟨k + 1, f', by simp, by omega, by omega, hR.drewN _, ⟨(unhide hM).1, (unhide hM).2.stop (.inr (by simp only [Nat.add_sub_cancel]; omega))⟩, hG.drewN _⟩, ?_⟩
            simp [intOf]
            omega
    · go_wp2
      go_end0
      refine ⟨⟨_, rfl⟩, f', hR, ⟨(unhide hM).1, fun a b h1 h2 => (unhide hM).2 a b h1 (by omega)⟩, hG⟩

set_option maxRecDepth 100000 in
theorem len64_any (n : Nat) (hn : n ≤ 12) (w : World) : Calls Try.prog 35 #[.int .u64 (n : Int)] w fun e w' => (∃ x : Int, e = .returned (.int .i64 x)) ∧ w' = w := by
  have H : ∀ n : Nat, n ≤ 12 → Calls Try.prog 46 #[.int .u64 (n : Int)] w fun e w' => (∃ x : Int, e = .returned (.int .i64 x)) ∧ w' = w := by
    intro n hn
    match n, hn with
    | 0, _ => go_enter Try.func46, Try.ntmps46; go_wp2; go_ret; exact ⟨⟨_, rfl⟩, rfl⟩
    | 1, _ => go_enter Try.func46, Try.ntmps46; go_wp2; go_ret; exact ⟨⟨_, rfl⟩, rfl⟩
    | 2, _ => go_enter Try.func46, Try.ntmps46; go_wp2; go_ret; exact ⟨⟨_, rfl⟩, rfl⟩
    | 3, _ => go_enter Try.func46, Try.ntmps46; go_wp2; go_ret; exact ⟨⟨_, rfl⟩, rfl⟩
    | 4, _ => go_enter Try.func46, Try.ntmps46; go_wp2; go_ret; exact ⟨⟨_, rfl⟩, rfl⟩
    | 5, _ => go_enter Try.func46, Try.ntmps46; go_wp2; go_ret; exact ⟨⟨_, rfl⟩, rfl⟩
    | 6, _ => go_enter Try.func46, Try.ntmps46; go_wp2; go_ret; exact ⟨⟨_, rfl⟩, rfl⟩
    | 7, _ => go_enter Try.func46, Try.ntmps46; go_wp2; go_ret; exact ⟨⟨_, rfl⟩, rfl⟩
    | 8, _ => go_enter Try.func46, Try.ntmps46; go_wp2; go_ret; exact ⟨⟨_, rfl⟩, rfl⟩
    | 9, _ => go_enter Try.func46, Try.ntmps46; go_wp2; go_ret; exact ⟨⟨_, rfl⟩, rfl⟩
    | 10, _ => go_enter Try.func46, Try.ntmps46; go_wp2; go_ret; exact ⟨⟨_, rfl⟩, rfl⟩
    | 11, _ => go_enter Try.func46, Try.ntmps46; go_wp2; go_ret; exact ⟨⟨_, rfl⟩, rfl⟩
    | 12, _ => go_enter Try.func46, Try.ntmps46; go_wp2; go_ret; exact ⟨⟨_, rfl⟩, rfl⟩
  have H2 := hide (H n hn)
  clear H
  go_enter Try.func35, Try.ntmps35
  go_wp2_with fail
  refine (unhide H2).mono ?_
  rintro e w' ⟨⟨x, rfl⟩, rfl⟩
  go_wp2
  go_ret
  exact ⟨⟨x, rfl⟩, rfl⟩

set_option maxRecDepth 100000 in
set_option maxHeartbeats 2000000 in
theorem pdq_any (g n cap : Nat) (f : Nat → Nat) (x : Int) (w : World) (hn : n ≤ 12) (hr : Rf w g n cap f) (hm : Mix n f f) :
    Calls Try.prog 34 #[.slice (some ⟨g, 0, none⟩) n cap, .int .i64 0, .int .i64 (n : Int), .int .i64 x] w fun e w' => (∃ v, e = .returned v) ∧ ∃ f', Rf w' g n cap f' ∧ Hid (Mix n f f' ∧ SrtF f' n) ∧ w.grownBy w' (some g) := by
  have HI := hide (fun W hW => ins_any g n cap f W hn hW hm)
  have hd : decide ((n : Int) ≤ 12) = true := decide_eq_true (by omega)
  go_enter Try.func34, Try.ntmps34
  go_wp2_with fail
  refine wp_loop_rounds 1 ?_
  rw [rounds_succ]
  go_wp2_with fail
  refine (unhide HI _ hr).mono ?_
  rintro e w' ⟨⟨v, rfl⟩, f', h1, h2, h3⟩
  go_wp2
  refine bodyPost_ret (results_none rfl _ _ _) rfl ?_
  exact ⟨⟨_, rfl⟩, f', h1, h2, h3⟩

set_option maxRecDepth 100000 in
set_option maxHeartbeats 2000000 in
theorem sort_any (g n cap : Nat) (f : Nat → Nat) (w : World) (hn : n ≤ 12) (hr : Rf w g n cap f) (hm : Mix n f f) :
    Calls Try.prog 31 #[.slice (some ⟨g, 0, none⟩) n cap] w fun e w' => (∃ v, e = .returned v) ∧ ∃ f', Rf w' g n cap f' ∧ Hid (Mix n f f' ∧ SrtF f' n) ∧ w.grownBy w' (some g) := by
  have HI := hide (fun W x hW => pdq_any g n cap f x W hn hW hm)
  have HN := hide (len64_any n hn)
  have hu : IntKind.u64.wrap (n : Int) = (n : Int) := by rw [IntKind.wrap_u64, Int.emod_eq_of_lt (by omega) (by omega)]
  go_enter Try.func31, Try.ntmps31
  go_wp2_with fail
  refine (unhide HN _).mono ?_
  rintro e w1 ⟨⟨x, rfl⟩, rfl⟩
  go_wp2_with fail
  refine (unhide HI _ x hr).mono ?_
  rintro e w' ⟨⟨v, rfl⟩, f', h1, h2, h3⟩
  go_wp2
  go_end0
  exact ⟨⟨_, rfl⟩, f', h1, h2, h3⟩

set_option maxRecDepth 100000 in
theorem sort_nil (w : World) :
    Calls Try.prog 31 #[.slice none 0 0] w fun e w' => (∃ v, e = .returned v) ∧ w' = w := by
  have HI : Hid (∀ W, Calls Try.prog 36 #[.slice none 0 0, .int .i64 0, .int .i64 0] W fun e w' => (∃ v, e = .returned v) ∧ w' = W) := fun W => by
    go_enter Try.func36, Try.ntmps36
    go_wp2_with fail
    refine wp_loop_rounds 1 ?_
    rw [rounds_succ]
    go_wp2
    go_end0
    exact ⟨⟨_, rfl⟩, rfl⟩
  have HP : Hid (∀ W x, Calls Try.prog 34 #[.slice none 0 0, .int .i64 0, .int .i64 0, .int .i64 x] W fun e w' => (∃ v, e = .returned v) ∧ w' = W) := fun W x => by
    go_enter Try.func34, Try.ntmps34
    go_wp2_with fail
    refine wp_loop_rounds 1 ?_
    rw [rounds_succ]
    go_wp2_with fail
    refine (unhide HI _).mono ?_
    rintro e w' ⟨⟨v, rfl⟩, rfl⟩
    go_wp2
    refine bodyPost_ret (results_none rfl _ _ _) rfl ?_
    exact ⟨⟨_, rfl⟩, rfl⟩
  have HN := hide (len64_any 0 (by omega))
  go_enter Try.func31, Try.ntmps31
  go_wp2_with fail
  refine (unhide HN _).mono ?_
  rintro e w1 ⟨⟨x, rfl⟩, rfl⟩
  go_wp2_with fail
  refine (unhide HP _ x).mono ?_
  rintro e w' ⟨⟨v, rfl⟩, rfl⟩
  go_wp2
  go_end0
  exact ⟨⟨_, rfl⟩, rfl⟩
end Go.Proofs.Ytjcigoojlmalnaa
