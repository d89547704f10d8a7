/- The statement NearAsks of layer 9, as a contract over the loaded program. -/
import Derived.Test.YtjcigoojlmalnaaInp9
namespace Go.Proofs.Ytjcigoojlmalnaa
open Go.RowKit Go.Maps

/-- the entries at the round k of the asks -/
def stA (c : Cf) (k N : Nat) : Ens := if k < c.asks then [(9, ⟨1, 0, N + c.pause, k + 1, [1]⟩)] else []
def stB (c : Cf) (m N : Nat) : Ens := [(9, ⟨2, m, N + c.known, 0, []⟩)]
section
variable {c : Cf} {N : Nat}
theorem asks_first (hm : 1 ≤ c.most) (he : 1 ≤ c.each) (hw : 1 ≤ c.waits) : findN c 0 [] 9 1 0 = ⟨0, false, true, 0, [(9, ⟨1, 0, 0 + c.pause, 1, [1]⟩)], 0⟩ := by
  simp [findN, lookN, tot, insN]
  omega
theorem tick_more {k : Nat} (hk : k + 1 < c.asks) : asksN c (dueN (N + c.pause) [(9, ⟨1, 0, N + c.pause, k + 1, [1]⟩)]) = [9] ∧ lostN c (dueN (N + c.pause) [(9, ⟨1, 0, N + c.pause, k + 1, [1]⟩)]) = [] ∧ tickN c (N + c.pause) [(9, ⟨1, 0, N + c.pause, k + 1, [1]⟩)] = [(9, ⟨1, 0, N + c.pause + c.pause, k + 1 + 1, [1]⟩)] := by
  have h1 : k + 1 ≠ c.asks := by omega
  simp [asksN, lostN, dueN, asksE, goesE, tickN, tickE, stepE, h1]
theorem tick_last {k : Nat} (hk : k + 1 = c.asks) : asksN c (dueN (N + c.pause) [(9, ⟨1, 0, N + c.pause, k + 1, [1]⟩)]) = [] ∧ lostN c (dueN (N + c.pause) [(9, ⟨1, 0, N + c.pause, k + 1, [1]⟩)]) = [1] ∧ tickN c (N + c.pause) [(9, ⟨1, 0, N + c.pause, k + 1, [1]⟩)] = [] := by
  simp [asksN, lostN, dueN, asksE, goesE, tickN, tickE, stepE, hk]
theorem tick_stay {m N2 : Nat} (h : N2 < N + c.known) : asksN c (dueN N2 (stB c m N)) = [] ∧ lostN c (dueN N2 (stB c m N)) = [] ∧ tickN c N2 (stB c m N) = stB c m N := by
  have h1 : ¬ N + c.known ≤ N2 := by omega
  simp [asksN, lostN, dueN, tickN, tickE, stB, h1]
theorem find_stay {m N2 : Nat} : findN c N2 (stB c m N) 9 1 N2 = ⟨m, true, false, 0, stB c m N, N2⟩ := by
  simp [findN, stB, lookN]
theorem hear_stay {m m2 N2 : Nat} : hearN c N2 (stB c m N) 9 m2 false N2 = ([], stB c m2 N2, N2) := by
  simp [hearN, stB, lookN, insN]
theorem hear_first {m : Nat} (hm : 1 ≤ c.most) : hearN c N [] 9 m true N = ([], stB c m N, N) := by
  simp [hearN, stB, lookN, insN]
  omega
end

section
variable {No : Nat → Prop} {p b : Nat} {c : Cf}
theorem asks_F1 (hm1 : 1 ≤ c.most) (ha1 : 1 ≤ c.asks) (he : 1 ≤ c.each) (hw : 1 ≤ c.waits) : ∀ (W : World), PN No W p b c 0 [] → Calls Try.prog 8 #[.pointer (some ⟨p, 0, none⟩), .int .u32 9, .int .u64 1, .int .i64 0] W fun e w' => e = .returned (.tuple #[.int .u64 0, .bool false, .bool true, .int .i64 0]) ∧ FEnd No p b c 0 (stA c 0 0) W w' :=
  find_at (ip := 9) (num := 1) (now := 0) (r := ⟨0, false, true, 0, stA c 0 0, 0⟩) (by rw [asks_first hm1 he hw, stA, if_pos (by omega)]) (by decide) (by decide) (by decide)
theorem asks_FS0 : ∀ (W : World) (N : Nat), PN No W p b c N [] → Calls Try.prog 12 #[.pointer (some ⟨p, 0, none⟩), .int .u32 9] W fun e w' => e = .returned (.int .u8 0) ∧ w' = W := fun W N => state_at (ip := 9) (s := 0) rfl (by decide) W
theorem asks_FS1 : ∀ (W : World) (N t k : Nat), PN No W p b c N [(9, ⟨1, 0, t, k, [1]⟩)] → Calls Try.prog 12 #[.pointer (some ⟨p, 0, none⟩), .int .u32 9] W fun e w' => e = .returned (.int .u8 1) ∧ w' = W := fun W N t k => state_at (ip := 9) (s := 1) rfl (by decide) W
theorem asks_FS2 : ∀ (W : World) (N m : Nat), PN No W p b c N (stB c m N) → Calls Try.prog 12 #[.pointer (some ⟨p, 0, none⟩), .int .u32 9] W fun e w' => e = .returned (.int .u8 2) ∧ w' = W := fun W N m => state_at (ip := 9) (s := 2) rfl (by decide) W
theorem asks_FTm (hpz : c.pause ≤ 1073741824) : ∀ (W : World) (N k : Nat), k + 1 < c.asks → N ≤ 53687091200 → PN No W p b c N [(9, ⟨1, 0, N + c.pause, k + 1, [1]⟩)] → Calls Try.prog 10 #[.pointer (some ⟨p, 0, none⟩), .int .i64 ((N : Int) + (c.pause : Int))] W fun e w' => ∃ sa ca sb cb, e = .returned (.tuple #[.slice sa 1 ca, .slice sb 0 cb]) ∧ PN No w' p b c (N + c.pause) [(9, ⟨1, 0, N + c.pause + c.pause, k + 1 + 1, [1]⟩)] ∧ Ks No W w' := by
  intro W N k hk hN h
  obtain ⟨t1, t2, t3⟩ := tick_more (c := c) (N := N) hk
  rw [← Int.natCast_add]
  refine (tick_at (now := N + c.pause) (T := N + c.pause) (by omega) t1 t2 t3 (by omega) W h).mono ?_
  rintro e w' ⟨sa, ca, sb, cb, rfl, hT⟩
  exact ⟨sa, ca, sb, cb, rfl, hT.pn.less (fun i hi => .inl hi), hT.ks⟩
theorem asks_FTl (hpz : c.pause ≤ 1073741824) : ∀ (W : World) (N k : Nat), k + 1 = c.asks → N ≤ 53687091200 → PN No W p b c N [(9, ⟨1, 0, N + c.pause, k + 1, [1]⟩)] → Calls Try.prog 10 #[.pointer (some ⟨p, 0, none⟩), .int .i64 ((N : Int) + (c.pause : Int))] W fun e w' => ∃ sa ca sb cb, e = .returned (.tuple #[.slice sa 0 ca, .slice sb 1 cb]) ∧ PN No w' p b c (N + c.pause) [] ∧ Ks No W w' := by
  intro W N k hk hN h
  obtain ⟨t1, t2, t3⟩ := tick_last (c := c) (N := N) hk
  rw [← Int.natCast_add]
  refine (tick_at (now := N + c.pause) (T := N + c.pause) (by omega) t1 t2 t3 (by omega) W h).mono ?_
  rintro e w' ⟨sa, ca, sb, cb, rfl, hT⟩
  exact ⟨sa, ca, sb, cb, rfl, hT.pn.less (fun i hi => .inl hi), hT.ks⟩
theorem asks_FTs : ∀ (W : World) (N N2 m : Nat), N2 < N + c.known → N ≤ N2 → N2 ≤ 17592186044416 → PN No W p b c N (stB c m N) → Calls Try.prog 10 #[.pointer (some ⟨p, 0, none⟩), .int .i64 (N2 : Int)] W fun e w' => ∃ sa ca sb cb, e = .returned (.tuple #[.slice sa 0 ca, .slice sb 0 cb]) ∧ PN No w' p b c N2 (stB c m N) ∧ Ks No W w' := by
  intro W N N2 m h1 h2 h3 h
  obtain ⟨t1, t2, t3⟩ := tick_stay (c := c) (N := N) (m := m) h1
  refine (tick_at (now := N2) (T := N2) (by omega) t1 t2 t3 h3 W h).mono ?_
  rintro e w' ⟨sa, ca, sb, cb, rfl, hT⟩
  exact ⟨sa, ca, sb, cb, rfl, hT.pn.less (fun i hi => .inl hi), hT.ks⟩
theorem asks_FF : ∀ (W : World) (N N2 m : Nat), N2 ≤ 17592186044416 → PN No W p b c N2 (stB c m N) → Calls Try.prog 8 #[.pointer (some ⟨p, 0, none⟩), .int .u32 9, .int .u64 1, .int .i64 (N2 : Int)] W fun e w' => e = .returned (.tuple #[.int .u64 (m : Int), .bool true, .bool false, .int .i64 0]) ∧ FEnd No p b c N2 (stB c m N) W w' :=
  fun W N N2 m h3 h => find_at (ip := 9) (num := 1) (now := N2) (r := ⟨m, true, false, 0, stB c m N, N2⟩) find_stay (by decide) (by decide) h3 W h
theorem asks_FH1 (hm1 : 1 ≤ c.most) : ∀ (W : World) (N m : Nat), m < 18446744073709551616 → N ≤ 17592186044416 → PN No W p b c N [] → Calls Try.prog 9 #[.pointer (some ⟨p, 0, none⟩), .int .u32 9, .int .u64 (m : Int), .bool true, .int .i64 (N : Int)] W fun e w' => ∃ sp sc, e = .returned (.slice sp 0 sc) ∧ PN No w' p b c N (stB c m N) ∧ Ks No W w' := by
  intro W N m hm hN h
  refine (hear_at (ip := 9) (mac := m) (now := N) (asked := true) (hear_first hm1) (by decide) hm hN W h).mono ?_
  rintro e w' ⟨sp, sc, rfl, hT⟩
  exact ⟨sp, sc, rfl, hT.pn.less (fun i hi => .inl hi), hT.ks⟩
theorem asks_FH2 : ∀ (W : World) (N N2 m m2 : Nat), m2 < 18446744073709551616 → N2 ≤ 17592186044416 → PN No W p b c N2 (stB c m N) → Calls Try.prog 9 #[.pointer (some ⟨p, 0, none⟩), .int .u32 9, .int .u64 (m2 : Int), .bool false, .int .i64 (N2 : Int)] W fun e w' => ∃ sp sc, e = .returned (.slice sp 0 sc) ∧ PN No w' p b c N2 (stB c m2 N2) ∧ Ks No W w' := by
  intro W N N2 m m2 hm hN h
  refine (hear_at (ip := 9) (mac := m2) (now := N2) (asked := false) (hear_stay (N := N) (m := m)) (by decide) hm hN W h).mono ?_
  rintro e w' ⟨sp, sc, rfl, hT⟩
  exact ⟨sp, sc, rfl, hT.pn.less (fun i hi => .inl hi), hT.ks⟩
end

theorem bnd_a {N k : Nat} (h : N ≤ k * 1073741824) (hk : k ≤ 50) : N ≤ 17592186044416 ∧ N ≤ (50 + 0) * 1073741824 := by omega

theorem conf_cells {W : World} {g : Nat} {a b c d e f : Value} {t : TypeId} (h : W.heap[g]? = some (.cells #[a, b, c, d, e, f] t (0, 0))) : W.cell? ⟨g, 1, none⟩ = some b ∧ W.cell? ⟨g, 2, none⟩ = some c ∧ W.cell? ⟨g, 3, none⟩ = some d ∧ W.cell? ⟨g, 4, none⟩ = some e ∧ W.cell? ⟨g, 5, none⟩ = some f :=
  ⟨(box_cell h (j := 1) rfl).1, (box_cell h (j := 2) rfl).1, (box_cell h (j := 3) rfl).1, (box_cell h (j := 4) rfl).1, (box_cell h (j := 5) rfl).1⟩

set_option maxRecDepth 100000 in
set_option maxHeartbeats 4000000 in
theorem asks_main (c : Cf) (hok : c.Ok) (h50 : c.asks ≤ 50) (he : 1 ≤ c.each) (hw : 1 ≤ c.waits) (hpz : c.pause ≤ 1073741824) (hkn : c.known ≤ 1073741824) (m0 hd : Nat) (hm0 : m0 < 18446744073709551616) (hhd : hd < 256) (w : World) :
    Calls Try.prog 4 #[cfv c.most c.waits c.each c.known c.asks c.pause, .int .u64 (m0 : Int), .int .u8 (hd : Int)] w fun e w' => e = .returned (.bool true) ∧ Below w.heap.size w w' := by
  have HA := hide alive_any
  obtain ⟨W0, hW0⟩ : ∃ W0, W0 = w.alloc (.cells #[.int .i64 (c.most : Int), .int .i64 (c.waits : Int), .int .i64 (c.each : Int), .int .i64 (c.known : Int), .int .i64 (c.asks : Int), .int .i64 (c.pause : Int)] 23) := ⟨_, rfl⟩
  have hB0 : Below w.heap.size w W0 := by rw [hW0]; exact below_one w _
  have hz0 : W0.heap.size = w.heap.size + 1 := by rw [hW0]; simp
  have hbx : W0.heap[w.heap.size]? = some (.cells #[.int .i64 (c.most : Int), .int .i64 (c.waits : Int), .int .i64 (c.each : Int), .int .i64 (c.known : Int), .int .i64 (c.asks : Int), .int .i64 (c.pause : Int)] 23 (0, 0)) := by rw [hW0]; exact heap_alloc_new w _
  have HN := hide (new_pn (No := fun i => i < W0.heap.size) hok W0 (fun i hi => hi))
  have hcl : ∀ W, Ks (fun i => i < W0.heap.size) W0 W → W.heap[w.heap.size]? = some (.cells #[.int .i64 (c.most : Int), .int .i64 (c.waits : Int), .int .i64 (c.each : Int), .int .i64 (c.known : Int), .int .i64 (c.asks : Int), .int .i64 (c.pause : Int)] 23 (0, 0)) := fun W hK => (hK.block _ (by omega) (by omega)).trans hbx
  have HCL := hide hcl
  have hm1 := hok.m1
  have ha1 := hok.a1
  have hk1 := hok.k1
  have HB0 := hide hB0
  have HW0 := hide hW0
  clear hcl hbx hB0 hok hz0 hW0
  go_enter Try.func4, Try.ntmps4
  go_wp2_with fail
  rw [← unhide HW0]
  refine (unhide HN).mono ?_
  rintro e w2 ⟨p, b, rfl, hP, hB⟩
  have HP := hide hP
  have HK : Hid (Ks (fun i => i < W0.heap.size) W0 w2) := Ks.of_below hB
  obtain ⟨d1, d2, d3, d4, d5⟩ := conf_cells (unhide HCL w2 (unhide HK))
  have F1 := hide (asks_F1 (No := (fun i => i < W0.heap.size)) (p := p) (b := b) (c := c) hm1 ha1 he hw)
  have FS0 := hide (asks_FS0 (No := (fun i => i < W0.heap.size)) (p := p) (b := b) (c := c))
  have FS1 := hide (asks_FS1 (No := (fun i => i < W0.heap.size)) (p := p) (b := b) (c := c))
  have FS2 := hide (asks_FS2 (No := (fun i => i < W0.heap.size)) (p := p) (b := b) (c := c))
  have FTm := hide (asks_FTm (No := (fun i => i < W0.heap.size)) (p := p) (b := b) (c := c) hpz)
  have FTl := hide (asks_FTl (No := (fun i => i < W0.heap.size)) (p := p) (b := b) (c := c) hpz)
  have FTs := hide (asks_FTs (No := (fun i => i < W0.heap.size)) (p := p) (b := b) (c := c))
  have FF := hide (asks_FF (No := (fun i => i < W0.heap.size)) (p := p) (b := b) (c := c))
  have FH1 := hide (asks_FH1 (No := (fun i => i < W0.heap.size)) (p := p) (b := b) (c := c) hm1)
  have FH2 := hide (asks_FH2 (No := (fun i => i < W0.heap.size)) (p := p) (b := b) (c := c))
  have q1 : decide ((50 : Int) < (c.asks : Int)) = false := decide_eq_false (by omega)
  have q2 : decide ((c.each : Int) < 1) = false := decide_eq_false (by omega)
  have q3 : decide ((c.waits : Int) < 1) = false := decide_eq_false (by omega)
  have q4 : decide ((1073741824 : Int) < (c.pause : Int)) = false := decide_eq_false (by omega)
  have q5 : decide ((1073741824 : Int) < (c.known : Int)) = false := decide_eq_false (by omega)
  clear hP hB HN hm1
  go_wp2_with fail
  refine (unhide F1 _ (unhide HP)).mono ?_
  rintro e w3 ⟨rfl, hP, hK⟩
  have HP := hide hP
  have HK := hide ((unhide HK).trans hK)
  clear hP hK F1 d1 d2 d3 d4 d5 q1 q2 q3 q4 q5
  go_wp2_with fail
  go_loopw [13, 14, 15] (fun cn nw i wr => ∃ k N q : Nat, k ≤ c.asks ∧ N ≤ k * 1073741824 ∧ (k < c.asks → q = k + 1) ∧ (k = c.asks → q = c.asks) ∧ cn = .int .i64 (q : Int) ∧ nw = .int .i64 (N : Int) ∧ i = .int .i64 (k : Int) ∧ PN (fun i => i < W0.heap.size) wr p b c N (stA c k N) ∧ Ks (fun i => i < W0.heap.size) W0 wr) (fun _ _ i _ => c.asks - (intOf i).toNat)
  case atStart => exact ⟨0, 0, 1, Nat.zero_le _, Nat.zero_le _, fun _ => rfl, fun h => by omega, rfl, rfl, rfl, unhide HP, unhide HK⟩
  case round =>
    obtain ⟨k, N, q, hk, hN, hq1, hq2, rfl, rfl, rfl, hP, hK⟩ := hrel
    obtain ⟨d1, d2, d3, d4, d5⟩ := conf_cells (unhide HCL wr hK)
    clear d1 d2 HP HK
    by_cases hlt : k < c.asks
    · have hP : PN (fun i => i < W0.heap.size) wr p b c N [(9, ⟨1, 0, N + c.pause, k + 1, [1]⟩)] := by rw [stA, if_pos hlt] at hP; exact hP
      have HP := hide hP
      have HK := hide hK
      have hq := hq1 hlt
      clear hP hK hq1 hq2 d3
      by_cases hl : k + 1 < c.asks
      · go_wp2_with fail
        refine (unhide FS1 _ _ _ _ (unhide HP)).mono ?_
        rintro e w4 ⟨rfl, rfl⟩
        go_wp2_with fail
        refine (unhide FTm _ _ _ hl (by omega) (unhide HP)).mono ?_
        rintro e w5 ⟨sa, ca, sb, cb, rfl, hP5, hK5⟩
        obtain ⟨f1, f2, f3, f4, f5⟩ := conf_cells (unhide HCL w5 ((unhide HK).trans hK5))
        have HP5 := hide hP5
        have HK5 := hide ((unhide HK).trans hK5)
        clear hP5 hK5 f1 f2 f3 f5 d4 d5
        go_wp2
        refine ⟨⟨k + 1, N + c.pause, k + 1 + 1, by omega, by omega, fun _ => rfl, fun h => by omega, by go_num, by go_num, by go_num, ?_, unhide HK5⟩, by simp [intOf]; omega⟩
        rw [stA, if_pos hl]
        exact unhide HP5
      · have hl : k + 1 = c.asks := by omega
        have HL := hide hl
        have hl2 : ((k : Int) == (c.asks : Int) - 1) = true := beq_iff_eq.2 (by omega)
        have hNb : N ≤ 53687091200 := by omega
        clear hl
        subst hq
        go_wp2_with fail
        refine (unhide FS1 _ _ _ _ (unhide HP)).mono ?_
        rintro e w4 ⟨rfl, rfl⟩
        go_wp2_with fail
        refine (unhide FTl _ _ _ (unhide HL) hNb (unhide HP)).mono ?_
        rintro e w5 ⟨sa, ca, sb, cb, rfl, hP5, hK5⟩
        obtain ⟨f1, f2, f3, f4, f5⟩ := conf_cells (unhide HCL w5 ((unhide HK).trans hK5))
        have HP5 := hide hP5
        have HK5 := hide ((unhide HK).trans hK5)
        clear hP5 hK5 f1 f2 f3 f5 d4 d5
        go_wp2
        have hl := unhide HL
        refine ⟨⟨k + 1, N + c.pause, k + 1, by omega, by omega, fun h => by omega, fun h => h, by go_num, by go_num, by go_num, ?_, unhide HK5⟩, by simp [intOf]; omega⟩
        rw [stA, if_neg (by omega)]
        exact unhide HP5
    · have hka : k = c.asks := by omega
      subst hka
      have hP : PN (fun i => i < W0.heap.size) wr p b c N [] := by rw [stA, if_neg hlt] at hP; exact hP
      have HP := hide hP
      have HK := hide hK
      have hq := hq2 rfl
      subst hq
      obtain ⟨hNa, hNb⟩ := bnd_a hN h50
      have HNB := hide hNb
      clear hP hK hq1 hq2 hk d3 d5 hNb hN
      go_wp2_with fail
      refine (unhide FS0 _ _ (unhide HP)).mono ?_
      rintro e w4 ⟨rfl, rfl⟩
      go_wp2_with fail
      refine (unhide FH1 _ _ _ hm0 hNa (unhide HP)).mono ?_
      rintro e w5 ⟨sp, sc, rfl, hP5, hK5⟩
      have HP5 := hide hP5
      have HK5 := hide ((unhide HK).trans hK5)
      clear hP5 hK5 d4 FS0 FS1 FTm FTl FH1 HP HK
      go_wp2_with fail
      go_loopw [1, 14, 18] (fun mv nw i wr => ∃ k N m : Nat, k ≤ hd ∧ N ≤ (50 + k) * 1073741824 ∧ m < 18446744073709551616 ∧ mv = .int .u64 (m : Int) ∧ nw = .int .i64 (N : Int) ∧ i = .int .i64 (k : Int) ∧ PN (fun i => i < W0.heap.size) wr p b c N (stB c m N) ∧ Ks (fun i => i < W0.heap.size) W0 wr) (fun _ _ i _ => hd - (intOf i).toNat)
      case atStart => exact ⟨0, N, m0, Nat.zero_le _, unhide HNB, hm0, rfl, rfl, rfl, unhide HP5, unhide HK5⟩
      case round =>
        obtain ⟨j, N2, m, hj, hN2, hm, rfl, rfl, rfl, hP, hK⟩ := hrel
        obtain ⟨d1, d2, d3, d4, d5⟩ := conf_cells (unhide HCL wr hK)
        have HP := hide hP
        have HK := hide hK
        clear hP hK d1 d2 d4 d5 HP5 HK5 hNa HNB
        by_cases hlt : j < hd
        · obtain ⟨N3, hN3⟩ : ∃ N3 : Nat, (N2 : Int) + (c.known : Int) - 1 = (N3 : Int) := ⟨N2 + c.known - 1, by omega⟩
          obtain ⟨m2, hm2, hm2'⟩ : ∃ m2 : Nat, IntKind.u64.wrap ((m : Int) + 1) = (m2 : Int) ∧ m2 < 18446744073709551616 := ⟨(m + 1) % 18446744073709551616, by rw [IntKind.wrap_u64]; omega, by omega⟩
          have h1 : N3 < N2 + c.known := by omega
          have h2 : N2 ≤ N3 := by omega
          have h3 : N3 ≤ (50 + (j + 1)) * 1073741824 := by omega
          have h4 : N3 ≤ 17592186044416 := by omega
          go_wp2_with fail
          refine (unhide FTs _ _ _ _ h1 h2 h4 (unhide HP)).mono ?_
          rintro e w6 ⟨sa, ca, sb, cb, rfl, hP6, hK6⟩
          have HP6 := hide hP6
          have HK6 := hide ((unhide HK).trans hK6)
          clear hP6 hK6 d3 HP HK
          go_wp2_with fail
          refine (unhide FF _ _ _ _ h4 (unhide HP6)).mono ?_
          rintro e w7 ⟨rfl, hP7, hK7⟩
          have HP7 := hide hP7
          have HK7 := hide ((unhide HK6).trans hK7)
          clear hP7 hK7 HP6 HK6
          go_wp2_with fail
          refine (unhide FH2 _ _ _ _ _ hm2' h4 (unhide HP7)).mono ?_
          rintro e w8 ⟨sp, sc, rfl, hP8, hK8⟩
          have HP8 := hide hP8
          have HK8 := hide ((unhide HK7).trans hK8)
          clear hP8 hK8 HP7 HK7
          go_wp2
          exact ⟨⟨j + 1, N3, m2, by omega, h3, hm2', rfl, rfl, by go_num, unhide HP8, unhide HK8⟩, by simp [intOf]; omega⟩
        · go_wp2_with fail
          refine (unhide FS2 _ _ _ (unhide HP)).mono ?_
          rintro e w6 ⟨rfl, rfl⟩
          go_wp2_with fail
          refine (unhide HA _).mono ?_
          rintro e w7 ⟨rfl, hB7⟩
          go_wp2
          go_ret
          exact ⟨rfl, tr2 (unhide HB0) (tr2 ((unhide HK).below (Nat.le_refl _) (fun _ h => h)) hB7)⟩

set_option maxRecDepth 100000 in
theorem asks_no (m hd a b c d e f : Int) (hm : mayB a b c d e f = false) (w : World) :
    Calls Try.prog 4 #[cfv a b c d e f, .int .u64 m, .int .u8 hd] w fun e w' => e = .returned (.bool true) ∧ Below w.heap.size w w' := by
  have HN := hide (fun w => new_no a b c d e f w hm)
  have HA := hide alive_any
  have HB := hide (below_one w (.cells #[.int .i64 a, .int .i64 b, .int .i64 c, .int .i64 d, .int .i64 e, .int .i64 f] 23))
  clear hm
  go_enter Try.func4, Try.ntmps4
  go_wp2_with fail
  refine (unhide HN _).mono ?_
  rintro en w2 ⟨rfl, hB⟩
  have HB2 := hide (tr2 (unhide HB) hB)
  clear hB HN HB
  go_wp2_with fail
  refine (unhide HA _).mono ?_
  rintro e w3 ⟨rfl, hB3⟩
  go_wp2
  go_ret
  exact ⟨rfl, tr2 (unhide HB2) hB3⟩

set_option maxRecDepth 100000 in
set_option maxHeartbeats 1000000 in
theorem asks_skip0 (c : Cf) (hok : c.Ok) (m hd : Int) (q0 : decide ((50 : Int) < (c.asks : Int)) = true) (w : World) :
    Calls Try.prog 4 #[cfv c.most c.waits c.each c.known c.asks c.pause, .int .u64 m, .int .u8 hd] w fun e w' => e = .returned (.bool true) ∧ Below w.heap.size w w' := by
  have HN := hide (fun w => new_pn (No := fun _ => False) hok w (fun i hi => hi.elim))
  have HA := hide alive_any
  have HB := hide (below_one w (.cells #[.int .i64 (c.most : Int), .int .i64 (c.waits : Int), .int .i64 (c.each : Int), .int .i64 (c.known : Int), .int .i64 (c.asks : Int), .int .i64 (c.pause : Int)] 23))
  have HX := hide (heap_alloc_new w (.cells #[.int .i64 (c.most : Int), .int .i64 (c.waits : Int), .int .i64 (c.each : Int), .int .i64 (c.known : Int), .int .i64 (c.asks : Int), .int .i64 (c.pause : Int)] 23))
  clear hok
  go_enter Try.func4, Try.ntmps4
  go_wp2_with fail
  refine (unhide HN _).mono ?_
  rintro en w2 ⟨p, b, rfl, hP, hB⟩
  have HB2 := hide (tr2 (unhide HB) hB)
  obtain ⟨d1, d2, d3, d4, d5⟩ := conf_cells ((hB.block w.heap.size (by simp)).trans (unhide HX))
  clear hB HN HB hP HX
  go_wp2_with fail
  refine (unhide HA _).mono ?_
  rintro e w3 ⟨rfl, hB3⟩
  go_wp2
  go_ret
  exact ⟨rfl, tr2 (unhide HB2) hB3⟩

set_option maxRecDepth 100000 in
set_option maxHeartbeats 1000000 in
theorem asks_skip1 (c : Cf) (hok : c.Ok) (m hd : Int) (q0 : decide ((50 : Int) < (c.asks : Int)) = false) (q1 : decide ((c.each : Int) < 1) = true) (w : World) :
    Calls Try.prog 4 #[cfv c.most c.waits c.each c.known c.asks c.pause, .int .u64 m, .int .u8 hd] w fun e w' => e = .returned (.bool true) ∧ Below w.heap.size w w' := by
  have HN := hide (fun w => new_pn (No := fun _ => False) hok w (fun i hi => hi.elim))
  have HA := hide alive_any
  have HB := hide (below_one w (.cells #[.int .i64 (c.most : Int), .int .i64 (c.waits : Int), .int .i64 (c.each : Int), .int .i64 (c.known : Int), .int .i64 (c.asks : Int), .int .i64 (c.pause : Int)] 23))
  have HX := hide (heap_alloc_new w (.cells #[.int .i64 (c.most : Int), .int .i64 (c.waits : Int), .int .i64 (c.each : Int), .int .i64 (c.known : Int), .int .i64 (c.asks : Int), .int .i64 (c.pause : Int)] 23))
  clear hok
  go_enter Try.func4, Try.ntmps4
  go_wp2_with fail
  refine (unhide HN _).mono ?_
  rintro en w2 ⟨p, b, rfl, hP, hB⟩
  have HB2 := hide (tr2 (unhide HB) hB)
  obtain ⟨d1, d2, d3, d4, d5⟩ := conf_cells ((hB.block w.heap.size (by simp)).trans (unhide HX))
  clear hB HN HB hP HX
  go_wp2_with fail
  refine (unhide HA _).mono ?_
  rintro e w3 ⟨rfl, hB3⟩
  go_wp2
  go_ret
  exact ⟨rfl, tr2 (unhide HB2) hB3⟩

set_option maxRecDepth 100000 in
set_option maxHeartbeats 1000000 in
theorem asks_skip2 (c : Cf) (hok : c.Ok) (m hd : Int) (q0 : decide ((50 : Int) < (c.asks : Int)) = false) (q1 : decide ((c.each : Int) < 1) = false) (q2 : decide ((c.waits : Int) < 1) = true) (w : World) :
    Calls Try.prog 4 #[cfv c.most c.waits c.each c.known c.asks c.pause, .int .u64 m, .int .u8 hd] w fun e w' => e = .returned (.bool true) ∧ Below w.heap.size w w' := by
  have HN := hide (fun w => new_pn (No := fun _ => False) hok w (fun i hi => hi.elim))
  have HA := hide alive_any
  have HB := hide (below_one w (.cells #[.int .i64 (c.most : Int), .int .i64 (c.waits : Int), .int .i64 (c.each : Int), .int .i64 (c.known : Int), .int .i64 (c.asks : Int), .int .i64 (c.pause : Int)] 23))
  have HX := hide (heap_alloc_new w (.cells #[.int .i64 (c.most : Int), .int .i64 (c.waits : Int), .int .i64 (c.each : Int), .int .i64 (c.known : Int), .int .i64 (c.asks : Int), .int .i64 (c.pause : Int)] 23))
  clear hok
  go_enter Try.func4, Try.ntmps4
  go_wp2_with fail
  refine (unhide HN _).mono ?_
  rintro en w2 ⟨p, b, rfl, hP, hB⟩
  have HB2 := hide (tr2 (unhide HB) hB)
  obtain ⟨d1, d2, d3, d4, d5⟩ := conf_cells ((hB.block w.heap.size (by simp)).trans (unhide HX))
  clear hB HN HB hP HX
  go_wp2_with fail
  refine (unhide HA _).mono ?_
  rintro e w3 ⟨rfl, hB3⟩
  go_wp2
  go_ret
  exact ⟨rfl, tr2 (unhide HB2) hB3⟩

set_option maxRecDepth 100000 in
set_option maxHeartbeats 1000000 in
theorem asks_skip3 (c : Cf) (hok : c.Ok) (m hd : Int) (q0 : decide ((50 : Int) < (c.asks : Int)) = false) (q1 : decide ((c.each : Int) < 1) = false) (q2 : decide ((c.waits : Int) < 1) = false) (q3 : decide ((1073741824 : Int) < (c.pause : Int)) = true) (w : World) :
    Calls Try.prog 4 #[cfv c.most c.waits c.each c.known c.asks c.pause, .int .u64 m, .int .u8 hd] w fun e w' => e = .returned (.bool true) ∧ Below w.heap.size w w' := by
  have HN := hide (fun w => new_pn (No := fun _ => False) hok w (fun i hi => hi.elim))
  have HA := hide alive_any
  have HB := hide (below_one w (.cells #[.int .i64 (c.most : Int), .int .i64 (c.waits : Int), .int .i64 (c.each : Int), .int .i64 (c.known : Int), .int .i64 (c.asks : Int), .int .i64 (c.pause : Int)] 23))
  have HX := hide (heap_alloc_new w (.cells #[.int .i64 (c.most : Int), .int .i64 (c.waits : Int), .int .i64 (c.each : Int), .int .i64 (c.known : Int), .int .i64 (c.asks : Int), .int .i64 (c.pause : Int)] 23))
  clear hok
  go_enter Try.func4, Try.ntmps4
  go_wp2_with fail
  refine (unhide HN _).mono ?_
  rintro en w2 ⟨p, b, rfl, hP, hB⟩
  have HB2 := hide (tr2 (unhide HB) hB)
  obtain ⟨d1, d2, d3, d4, d5⟩ := conf_cells ((hB.block w.heap.size (by simp)).trans (unhide HX))
  clear hB HN HB hP HX
  go_wp2_with fail
  refine (unhide HA _).mono ?_
  rintro e w3 ⟨rfl, hB3⟩
  go_wp2
  go_ret
  exact ⟨rfl, tr2 (unhide HB2) hB3⟩

set_option maxRecDepth 100000 in
set_option maxHeartbeats 1000000 in
theorem asks_skip4 (c : Cf) (hok : c.Ok) (m hd : Int) (q0 : decide ((50 : Int) < (c.asks : Int)) = false) (q1 : decide ((c.each : Int) < 1) = false) (q2 : decide ((c.waits : Int) < 1) = false) (q3 : decide ((1073741824 : Int) < (c.pause : Int)) = false) (q4 : decide ((1073741824 : Int) < (c.known : Int)) = true) (w : World) :
    Calls Try.prog 4 #[cfv c.most c.waits c.each c.known c.asks c.pause, .int .u64 m, .int .u8 hd] w fun e w' => e = .returned (.bool true) ∧ Below w.heap.size w w' := by
  have HN := hide (fun w => new_pn (No := fun _ => False) hok w (fun i hi => hi.elim))
  have HA := hide alive_any
  have HB := hide (below_one w (.cells #[.int .i64 (c.most : Int), .int .i64 (c.waits : Int), .int .i64 (c.each : Int), .int .i64 (c.known : Int), .int .i64 (c.asks : Int), .int .i64 (c.pause : Int)] 23))
  have HX := hide (heap_alloc_new w (.cells #[.int .i64 (c.most : Int), .int .i64 (c.waits : Int), .int .i64 (c.each : Int), .int .i64 (c.known : Int), .int .i64 (c.asks : Int), .int .i64 (c.pause : Int)] 23))
  clear hok
  go_enter Try.func4, Try.ntmps4
  go_wp2_with fail
  refine (unhide HN _).mono ?_
  rintro en w2 ⟨p, b, rfl, hP, hB⟩
  have HB2 := hide (tr2 (unhide HB) hB)
  obtain ⟨d1, d2, d3, d4, d5⟩ := conf_cells ((hB.block w.heap.size (by simp)).trans (unhide HX))
  clear hB HN HB hP HX
  go_wp2_with fail
  refine (unhide HA _).mono ?_
  rintro e w3 ⟨rfl, hB3⟩
  go_wp2
  go_ret
  exact ⟨rfl, tr2 (unhide HB2) hB3⟩

theorem nearAsks_walk (v : Value) (a b c d e f : Int) (m hd : Int) (w : World) (hv : IsConf v a b c d e f) (hm : (Lit.int .u64 m).wf = true) (hh : (Lit.int .u8 hd).wf = true) :
    Calls Try.prog 4 #[v, .int .u64 m, .int .u8 hd] w fun e w' => e = .returned (.bool true) ∧ Below w.heap.size w w' := by
  obtain ⟨rfl, _, _, hc, _, _, _⟩ := hv
  rcases conf_cases a b c d e f hc with ⟨k, hok, rfl, rfl, rfl, rfl, rfl, rfl⟩ | hn
  · by_cases h0 : (50 : Int) < (k.asks : Int)
    · exact asks_skip0 k hok m hd (decide_eq_true h0) w
    · have h0 := decide_eq_false h0
      by_cases h1 : (k.each : Int) < 1
      · exact asks_skip1 k hok m hd h0 (decide_eq_true h1) w
      · have h1 := decide_eq_false h1
        by_cases h2 : (k.waits : Int) < 1
        · exact asks_skip2 k hok m hd h0 h1 (decide_eq_true h2) w
        · have h2 := decide_eq_false h2
          by_cases h3 : (1073741824 : Int) < (k.pause : Int)
          · exact asks_skip3 k hok m hd h0 h1 h2 (decide_eq_true h3) w
          · have h3 := decide_eq_false h3
            by_cases h4 : (1073741824 : Int) < (k.known : Int)
            · exact asks_skip4 k hok m hd h0 h1 h2 h3 (decide_eq_true h4) w
            · obtain ⟨m', rfl, hm'⟩ := nat64 hm
              obtain ⟨hd', rfl, hh'⟩ := nat8 hh
              have h0 := of_decide_eq_false h0
              have h1 := of_decide_eq_false h1
              have h2 := of_decide_eq_false h2
              have h3 := of_decide_eq_false h3
              exact asks_main k hok (by omega) (by omega) (by omega) (by omega) (by omega) m' hd' hm' hh' w
  · exact asks_no m hd a b c d e f hn w
end Go.Proofs.Ytjcigoojlmalnaa
