/- What Add of package meter answers and leaves. -/
import Derived.Test.YtfbbdfeigenodaaMt2
namespace Go.Proofs.Ytfbbdfeigenodaa
open Go.RowKit Go.Maps
attribute [local go_sem ↓] Go.wp_at_zero Go.wp_at_succ

/-- what Add answers, and the counters behind it -/
def addL (L : List Ent) (s : List UInt8) (n m : Int) : Int × List Ent :=
  if ¬ (mayL s = true ∧ (0 ≤ n ∧ n ≤ 4503599627370496) ∧ (0 ≤ m ∧ m ≤ 4503599627370496)) then (2, L)
  else match lookE s L with
    | none => if 64 ≤ L.length then (6, L) else (0, insE (s, n.toNat, m.toNat) L)
    | some q => if 4503599627370496 < q.1 + n.toNat ∨ 4503599627370496 < q.2 + m.toNat then (9, L) else (0, insE (s, q.1 + n.toNat, q.2 + m.toNat) L)

/-- counters as they may be -/
structure Cnt (L : List Ent) : Prop where
  srt : Srt L
  cap : ∀ x ∈ L, x.2.1 ≤ 4503599627370496 ∧ x.2.2 ≤ 4503599627370496
  len : ∀ x ∈ L, x.1.length ≤ 32
  room : L.length ≤ 64

theorem Cnt.at {L : List Ent} (h : Cnt L) {s : List UInt8} {q : Nat × Nat} (hq : lookE s L = some q) : q.1 ≤ 4503599627370496 ∧ q.2 ≤ 4503599627370496 := h.cap (s, q) (lookE_some hq)
theorem Cnt.cnt {L : List Ent} (h : Cnt L) (s : List UInt8) : (cntE s L).1 ≤ 4503599627370496 ∧ (cntE s L).2 ≤ 4503599627370496 := by
  unfold cntE
  cases hq : lookE s L with
  | none => simp
  | some q => exact h.at hq

theorem undrew {w w1 : World} (h : Below w.drew.heap.size w.drew w1) : Below w.heap.size w w1 := (Below.refl _ w).drew.trans h

theorem mayL_le {l : List UInt8} (h : mayL l = true) : l.length ≤ 32 := by
  unfold mayL at h
  simp only [Bool.and_eq_true, decide_eq_true_eq] at h
  exact h.1.2

set_option maxRecDepth 100000 in
theorem add_nil (s : ByteArray) (n m : Int) (w : World) :
    Calls Try.prog 18 #[.pointer none, .string s, .int .i64 n, .int .i64 m] w fun e w' => e = .returned (.int .i64 1) ∧ w' = w := by
  have H := hide (made_nil w)
  go_enter Try.func18, Try.ntmps18
  go_wp2_with fail
  refine (unhide H).mono ?_
  rintro e w1 ⟨rfl, rfl⟩
  go_wp2
  go_ret
  exact ⟨rfl, rfl⟩

set_option maxRecDepth 100000 in
theorem add_arg (p b : Nat) (L : List Ent) (s : ByteArray) (n m : Int) (w : World) (h : PM w p b L)
    (hbad : ¬ (mayL s.data.toList = true ∧ (0 ≤ n ∧ n ≤ 4503599627370496) ∧ (0 ≤ m ∧ m ≤ 4503599627370496))) :
    Calls Try.prog 18 #[.pointer (some ⟨p, 0, none⟩), .string s, .int .i64 n, .int .i64 m] w fun e w' => e = .returned (.int .i64 2) ∧ w' = w := by
  have H := hide (made_ok p b w h.cell)
  by_cases g : (0 ≤ n ∧ n ≤ 4503599627370496) ∧ (0 ≤ m ∧ m ≤ 4503599627370496)
  · have hm : mayL s.data.toList = false := Bool.eq_false_iff.2 (fun e => hbad ⟨e, g⟩)
    obtain ⟨n', rfl⟩ : ∃ n' : Nat, n = (n' : Int) := ⟨n.toNat, by omega⟩
    obtain ⟨m', rfl⟩ : ∃ m' : Nat, m = (m' : Int) := ⟨m.toNat, by omega⟩
    have HM := hide (make_ok n' m' w (by omega) (by omega))
    have HB := mayBe_any s w
    rw [hm] at HB
    have HB := hide HB
    clear h hbad hm g
    go_enter Try.func18, Try.ntmps18
    go_wp2_with fail
    refine (unhide H).mono ?_
    rintro e w1 ⟨rfl, rfl⟩
    go_wp2_with fail
    refine (unhide HM).mono ?_
    rintro e w1 ⟨rfl, rfl⟩
    go_wp2_with fail
    refine (unhide HB).mono ?_
    rintro e w1 ⟨rfl, rfl⟩
    go_wp2
    go_ret
    exact ⟨rfl, rfl⟩
  · have HM := hide (make_no n m w g)
    clear h hbad g
    go_enter Try.func18, Try.ntmps18
    go_wp2_with fail
    refine (unhide H).mono ?_
    rintro e w1 ⟨rfl, rfl⟩
    go_wp2_with fail
    refine (unhide HM).mono ?_
    rintro e w1 ⟨rfl, rfl⟩
    go_wp2
    go_ret
    exact ⟨rfl, rfl⟩

set_option maxRecDepth 100000 in
set_option maxHeartbeats 1000000 in
theorem add_full (p b : Nat) (L : List Ent) (s : ByteArray) (n m : Nat) (w : World) (h : PM w p b L) (hs : s.size ≤ maxLen) (hm : mayL s.data.toList = true) (hn0 : n ≤ 4503599627370496) (hm0 : m ≤ 4503599627370496)
    (hl0 : lookE s.data.toList L = none) (hf : 64 ≤ L.length) :
    Calls Try.prog 18 #[.pointer (some ⟨p, 0, none⟩), .string s, .int .i64 (n : Int), .int .i64 (m : Int)] w fun e w' => e = .returned (.int .i64 6) ∧ w' = w := by
  have H := hide (made_ok p b w h.cell)
  have HM := hide (make_ok n m w hn0 hm0)
  have HB := mayBe_any s w
  rw [hm] at HB
  have HB := hide HB
  have hc := h.cell
  have hl := h.look true hs
  have hn := h.map.len Try.underlying62 3
  rw [dm_size] at hn
  rw [hl0] at hl
  simp only [if_true, Option.isSome_none] at hl
  generalize F (cntE s.data.toList L).1 = x at hl ⊢
  generalize F (cntE s.data.toList L).2 = y at hl ⊢
  have hf' : (64 : Int) ≤ (L.length : Int) := by omega
  generalize L.length = k at hn hf'
  clear h hs hm hf
  go_enter Try.func18, Try.ntmps18
  go_wp2_with fail
  refine (unhide H).mono ?_
  rintro e w1 ⟨rfl, rfl⟩
  go_wp2_with fail
  refine (unhide HM).mono ?_
  rintro e w1 ⟨rfl, rfl⟩
  go_wp2_with fail
  refine (unhide HB).mono ?_
  rintro e w1 ⟨rfl, rfl⟩
  go_wp2
  go_ret
  exact ⟨rfl, rfl⟩

theorem neq_top {a : Nat} (ha : a ≤ 2 ^ 53) : (FloatKind.f64.format.order (F a) (F (min a (2 ^ 52))) == some .eq) = decide (a ≤ 2 ^ 52) := by
  rcases Nat.lt_or_ge (2 ^ 52) a with g | g
  · rw [Nat.min_eq_right (Nat.le_of_lt g), order_top ha, Nat.compare_eq_gt.2 g, decide_eq_false (by omega)]; rfl
  · rw [Nat.min_eq_left g, order_eq_F g g, decide_eq_true rfl, decide_eq_true g]

set_option maxRecDepth 100000 in
set_option maxHeartbeats 1000000 in
theorem add_over (p b : Nat) (L : List Ent) (s : ByteArray) (n m : Nat) (w : World) (h : PM w p b L) (hs : s.size ≤ maxLen) (hm : mayL s.data.toList = true) (hn0 : n ≤ 4503599627370496) (hm0 : m ≤ 4503599627370496) (hL : Cnt L)
    (q : Nat × Nat) (hl0 : lookE s.data.toList L = some q) (hov : 4503599627370496 < q.1 + n ∨ 4503599627370496 < q.2 + m) :
    Calls Try.prog 18 #[.pointer (some ⟨p, 0, none⟩), .string s, .int .i64 (n : Int), .int .i64 (m : Int)] w fun e w' => e = .returned (.int .i64 9) ∧ w' = w := by
  have H := hide (made_ok p b w h.cell)
  have HM := hide (make_ok n m w hn0 hm0)
  have HB := mayBe_any s w
  rw [hm] at HB
  have HB := hide HB
  have hc := h.cell
  have hl := h.look true hs
  have hcap := hL.at hl0
  have ecn : cntE s.data.toList L = q := by unfold cntE; rw [hl0]; rfl
  rw [hl0, ecn] at hl
  simp only [if_true, Option.isSome_some] at hl
  obtain ⟨x, y⟩ := q
  simp only at hl hcap hov
  have e53 : (2 : Nat) ^ 53 = 9007199254740992 := by decide
  have e52 : (2 : Nat) ^ 52 = 4503599627370496 := by decide
  have HD := hide (bounded_any (x + n) (y + m) w (by omega) (by omega))
  have a1 := add_F (a := x) (b := n) (by omega) (by omega)
  have a2 := add_F (a := y) (b := m) (by omega) (by omega)
  have n1 := neq_top (a := x + n) (by omega)
  have n2 := neq_top (a := y + m) (by omega)
  have nn : ((FloatKind.f64.format.order (F (x + n)) (F (min (x + n) (2 ^ 52))) == some .eq) && (FloatKind.f64.format.order (F (y + m)) (F (min (y + m) (2 ^ 52))) == some .eq)) = false := by
    rw [n1, n2]
    rcases hov with g | g
    · rw [decide_eq_false (p := x + n ≤ 2 ^ 52) (by omega)]; rfl
    · rw [decide_eq_false (p := y + m ≤ 2 ^ 52) (by omega)]; simp
  have hadd := fun w => run_complex_sum (P := Try.prog) w .add (.inl rfl) 32 .f64 (F x) (F y) (F n) (F m) (F (x + n)) (F (y + m)) (by unfold cSumBits; rw [a1, a2]; rfl)
  clear h hs hm hL hov hcap e53 e52 ecn hl0 a1 a2 n1 n2 hn0 hm0
  generalize F (x + n) = X at *
  generalize F (y + m) = Y at *
  generalize F (min (x + n) (2 ^ 52)) = X' at *
  generalize F (min (y + m) (2 ^ 52)) = Y' at *
  go_enter Try.func18, Try.ntmps18
  go_wp2_with fail
  refine (unhide H).mono ?_
  rintro e w1 ⟨rfl, rfl⟩
  go_wp2_with fail
  refine (unhide HM).mono ?_
  rintro e w1 ⟨rfl, rfl⟩
  go_wp2_with fail
  refine (unhide HB).mono ?_
  rintro e w1 ⟨rfl, rfl⟩
  go_wp2_with fail
  refine (unhide HD).mono ?_
  rintro e w1 ⟨rfl, rfl⟩
  go_wp2
  go_ret
  exact ⟨rfl, rfl⟩

set_option maxRecDepth 100000 in
set_option maxHeartbeats 1000000 in
theorem add_go (p b : Nat) (L : List Ent) (s : ByteArray) (n m : Nat) (w : World) (h : PM w p b L) (hs : s.size ≤ maxLen) (hm : mayL s.data.toList = true) (hL : Cnt L)
    (x y : Nat) (has : Bool) (hh : (lookE s.data.toList L).isSome = has) (hc0 : cntE s.data.toList L = (x, y)) (hr : has = true ∨ L.length < 64) (hx : x + n ≤ 4503599627370496) (hy : y + m ≤ 4503599627370496) :
    Calls Try.prog 18 #[.pointer (some ⟨p, 0, none⟩), .string s, .int .i64 (n : Int), .int .i64 (m : Int)] w fun e w' => e = .returned (.int .i64 0) ∧ PM w' p b (insE (s.data.toList, x + n, y + m) L) ∧ Kp [b] w w' := by
  have H := hide (made_ok p b w h.cell)
  have HM := hide (make_ok n m w (by omega) (by omega))
  have HB := mayBe_any s w
  rw [hm] at HB
  have HB := hide HB
  have hsz : s.size ≤ 281474976710656 := by
    have h1 := mayL_le hm
    rw [← Lib.size_eq] at h1
    omega
  have HC := hide (fun w => clone_any s w hsz)
  have hc := h.cell
  have hl := h.look true hs
  have hn := h.map.len Try.underlying62 3
  rw [dm_size] at hn
  rw [hh, hc0] at hl
  simp only [if_true] at hl
  have e53 : (2 : Nat) ^ 53 = 9007199254740992 := by decide
  have e52 : (2 : Nat) ^ 52 = 4503599627370496 := by decide
  have HD := bounded_any (x + n) (y + m) w (by omega) (by omega)
  rw [Nat.min_eq_left (by omega), Nat.min_eq_left (by omega)] at HD
  have HD := hide HD
  have a1 := add_F (a := x) (b := n) (by omega) (by omega)
  have a2 := add_F (a := y) (b := m) (by omega) (by omega)
  have nn : ((FloatKind.f64.format.order (F (x + n)) (F (x + n)) == some .eq) && (FloatKind.f64.format.order (F (y + m)) (F (y + m)) == some .eq)) = true := by
    rw [order_eq_F (by omega) (by omega), order_eq_F (by omega) (by omega), decide_eq_true rfl, decide_eq_true rfl]; rfl
  have hadd := fun w => run_complex_sum (P := Try.prog) w .add (.inl rfl) 32 .f64 (F x) (F y) (F n) (F m) (F (x + n)) (F (y + m)) (by unfold cSumBits; rw [a1, a2]; rfl)
  -- behind the clone
  have HS : Hid (∀ w1, Below w.heap.size w w1 → w1.cell? ⟨p, 0, none⟩ = some (.map (some b)) ∧ ∃ w2, (Instr.mapUpdate 62 (.map (some b)) (.string s) (.complex .f64 (F (x + n)) (F (y + m)))).run Try.prog w1 = .ok () w2 ∧ PM w2 p b (insE (s.data.toList, x + n, y + m) L) ∧ Kp [b] w w2) := by
    intro w1 hb1
    have h1 := h.kept (Kp.of_below [] hb1) (by simp) (by simp)
    have hroom : L.length < maxLen := Nat.lt_of_le_of_lt hL.room (by decide)
    obtain ⟨w2, hrun, hown, hturn⟩ := h1.map.store (val := .complex .f64 (F (x + n)) (F (y + m))) law Try.underlying62 hroom (key_of hs) rfl
    have hg := hturn.grown
    rw [show cd (F (x + n)) (F (y + m)) = cd (F (s.data.toList, x + n, y + m).2.1) (F (s.data.toList, x + n, y + m).2.2) from rfl, show Lit.string s.data.toList = Lit.string (s.data.toList, x + n, y + m).1 from rfl, dm_put _ hL.srt] at hown
    have hne := h.ne
    refine ⟨h1.cell, w2, hrun, ⟨(hg.block p h1.plt (by simpa using hne)).trans h1.box, owns_len hown⟩, (Kp.of_below [b] hb1).trans (Kp.of_grown hg) (by simp)⟩
  clear h hs hm hL e53 e52 hc0 a1 a2 hsz hx hy hh
  generalize F (x + n) = X at *
  generalize F (y + m) = Y at *
  rcases Bool.eq_false_or_eq_true has with rfl | rfl
  · clear hr hn
    go_enter Try.func18, Try.ntmps18
    go_wp2_with fail
    refine (unhide H).mono ?_
    rintro e w1 ⟨rfl, rfl⟩
    go_wp2_with fail
    refine (unhide HM).mono ?_
    rintro e w1 ⟨rfl, rfl⟩
    go_wp2_with fail
    refine (unhide HB).mono ?_
    rintro e w1 ⟨rfl, rfl⟩
    go_wp2_with fail
    refine (unhide HD).mono ?_
    rintro e w1 ⟨rfl, rfl⟩
    go_wp2_with fail
    go_region_with (go_at_call 32; refine (unhide HC _).mono ?_; rintro e w1 ⟨rfl, hb1⟩; obtain ⟨hc1, w2, hrun, hP2, hK2⟩ := unhide HS w1 (undrew hb1))
    all_goals (go_wp2; go_ret; exact ⟨rfl, hP2, hK2⟩)
  · have hk : ¬ (64 : Int) ≤ (L.length : Int) := by
      rcases hr with hr | hr
      · cases hr
      · omega
    clear hr
    go_enter Try.func18, Try.ntmps18
    go_wp2_with fail
    refine (unhide H).mono ?_
    rintro e w1 ⟨rfl, rfl⟩
    go_wp2_with fail
    refine (unhide HM).mono ?_
    rintro e w1 ⟨rfl, rfl⟩
    go_wp2_with fail
    refine (unhide HB).mono ?_
    rintro e w1 ⟨rfl, rfl⟩
    go_wp2_with fail
    refine (unhide HD).mono ?_
    rintro e w1 ⟨rfl, rfl⟩
    go_wp2_with fail
    go_region_with (go_at_call 32; refine (unhide HC _).mono ?_; rintro e w1 ⟨rfl, hb1⟩; obtain ⟨hc1, w2, hrun, hP2, hK2⟩ := unhide HS w1 (undrew hb1))
    all_goals (go_wp2; go_ret; exact ⟨rfl, hP2, hK2⟩)

theorem add_any (p b : Nat) (L : List Ent) (s : ByteArray) (n m : Int) (w : World) (h : PM w p b L) (hs : s.size ≤ maxLen) (hL : Cnt L) :
    Calls Try.prog 18 #[.pointer (some ⟨p, 0, none⟩), .string s, .int .i64 n, .int .i64 m] w fun e w' =>
      e = .returned (.int .i64 (addL L s.data.toList n m).1) ∧ PM w' p b (addL L s.data.toList n m).2 ∧ Kp [b] w w' := by
  unfold addL
  by_cases hbad : ¬ (mayL s.data.toList = true ∧ (0 ≤ n ∧ n ≤ 4503599627370496) ∧ (0 ≤ m ∧ m ≤ 4503599627370496))
  · rw [if_pos hbad]
    exact (add_arg p b L s n m w h hbad).mono fun e w' ⟨he, hw⟩ => by subst hw; exact ⟨he, h, Kp.refl _ _⟩
  · rw [if_neg hbad]
    obtain ⟨hm, hn, hm'⟩ := Classical.not_not.1 hbad
    obtain ⟨n, rfl⟩ : ∃ n' : Nat, n = (n' : Int) := ⟨n.toNat, by omega⟩
    obtain ⟨m, rfl⟩ : ∃ m' : Nat, m = (m' : Int) := ⟨m.toNat, by omega⟩
    simp only [Int.toNat_natCast]
    cases hl : lookE s.data.toList L with
    | none =>
      have hc0 : cntE s.data.toList L = (0, 0) := by unfold cntE; rw [hl]; rfl
      by_cases hf : 64 ≤ L.length
      · simp only [if_pos hf]
        exact (add_full p b L s n m w h hs hm (by omega) (by omega) hl hf).mono fun e w' ⟨he, hw⟩ => by subst hw; exact ⟨he, h, Kp.refl _ _⟩
      · simp only [if_neg hf]
        have := add_go p b L s n m w h hs hm hL 0 0 false (by rw [hl]; rfl) hc0 (.inr (by omega)) (by omega) (by omega)
        simpa only [Nat.zero_add] using this
    | some q =>
      have hc0 : cntE s.data.toList L = (q.1, q.2) := by unfold cntE; rw [hl]; rfl
      by_cases ho : 4503599627370496 < q.1 + n ∨ 4503599627370496 < q.2 + m
      · simp only [if_pos ho]
        exact (add_over p b L s n m w h hs hm (by omega) (by omega) hL q hl ho).mono fun e w' ⟨he, hw⟩ => by subst hw; exact ⟨he, h, Kp.refl _ _⟩
      · simp only [if_neg ho]
        exact add_go p b L s n m w h hs hm hL q.1 q.2 true (by rw [hl]; rfl) hc0 (.inl rfl) (by omega) (by omega)

theorem cnt_ins {L : List Ent} (hL : Cnt L) {s : List UInt8} {x y : Nat} (hs : s.length ≤ 32) (hx : x ≤ 4503599627370496) (hy : y ≤ 4503599627370496) (hr : (lookE s L).isSome = true ∨ L.length < 64) : Cnt (insE (s, x, y) L) := by
  refine ⟨srt_insE _ hL.srt, fun z hz => ?_, fun z hz => ?_, ?_⟩
  · rcases mem_insE hz with rfl | hz
    · exact ⟨hx, hy⟩
    · exact hL.cap z hz
  · rcases mem_insE hz with rfl | hz
    · exact hs
    · exact hL.len z hz
  · rw [len_insE hL.srt]
    have := hL.room
    split
    · exact this
    · rcases hr with hr | hr
      · contradiction
      · omega
theorem cnt_addL {L : List Ent} (hL : Cnt L) (s : List UInt8) (n m : Int) : Cnt (addL L s n m).2 := by
  unfold addL
  split
  · exact hL
  · rename_i hg
    obtain ⟨hm, _, _⟩ := Classical.not_not.1 hg
    have h32 := mayL_le hm
    split
    · rename_i hl
      split
      · exact hL
      · exact cnt_ins hL h32 (by omega) (by omega) (.inr (by omega))
    · rename_i q hl
      split
      · exact hL
      · exact cnt_ins hL h32 (by omega) (by omega) (.inl (by rw [hl]; rfl))
theorem cnt_nil : Cnt [] := ⟨List.Pairwise.nil, by simp, by simp, by simp⟩

end Go.Proofs.Ytfbbdfeigenodaa
