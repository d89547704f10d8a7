/- Find of package near, over the loaded program. -/
import Derived.Test.YtjcigoojlmalnaaNr8
namespace Go.Proofs.Ytjcigoojlmalnaa
open Go.RowKit Go.Maps
attribute [local go_sem ↓] Go.wp_at_zero Go.wp_at_succ

section
variable {No : Nat → Prop} {w : World} {p b : Nat} {c : Cf} {last : Nat} {L : Ens}
/-- the last time is set -/
theorem PN.setLast (h : PN No w p b c last L) {now : Nat} (hn : now ≤ 17592186044416) : PN No (w.setCell ⟨p, 7, none⟩ (.int .i64 ((max last now : Nat) : Int))) p b c (max last now) L ∧ Ks No w (w.setCell ⟨p, 7, none⟩ (.int .i64 ((max last now : Nat) : Int))) := by
  obtain ⟨f, h⟩ := h
  have := h.wl.lst
  exact ⟨⟨f, h.setLast (h.wl.time (Nat.le_max_left _ _) (by omega))⟩, Ks.setCell w _ _ h.shp⟩
theorem PNf.less {f : Nat → Value} (h : PNf No w p b c last L f) {No' : Nat → Prop} (hN : ∀ i, No' i → No i) : PNf No' w p b c last L f :=
  ⟨h.box, h.map, h.row, h.apart, fun k => h.shp (hN _ k), fun k => h.shb (hN _ k), fun x hx g hg k => h.shr x hx g hg (hN _ k), h.wl, h.ok, fun i hi => h.nlt i (hN i hi)⟩
theorem PN.less (h : PN No w p b c last L) {No' : Nat → Prop} (hN : ∀ i, No' i → No i) : PN No' w p b c last L := by
  obtain ⟨f, h⟩ := h
  exact ⟨f, h.less hN⟩
theorem PN.facts (h : PN No w p b c last L) : w.cell? ⟨p, 6, none⟩ = some (.map (some b)) ∧ w.cell? ⟨p, 7, none⟩ = some (.int .i64 (last : Int)) ∧ w.frozen? ⟨p, 7, none⟩ = false ∧ p < w.heap.size ∧ (∃ cs, w.heap[p]? = some (.cells cs 55 (0, 0))) := by
  obtain ⟨f, h⟩ := h
  exact ⟨box6 h, box7 h, h.frozen 7, h.plt, _, h.box⟩

set_option maxRecDepth 100000 in
set_option maxHeartbeats 1000000 in
theorem find_low (h : PN No w p b c last L) {ip num now : Nat} (hip : ip < 12) (hn : now ≤ 17592186044416) {s m t a sn sc : Nat} {sp : Option Addr}
    (hl : (Instr.lookup 53 (.map (some b)) (.int .u32 (ip : Int)) false).run Try.prog w = .ok (.agg #[.int .u8 (s : Int), .int .u64 (m : Int), .int .i64 (t : Int), .int .i64 (a : Int), .slice sp sn sc]) w)
    (hs : ¬ (s = 2 ∨ s = 3)) (hr : roomB c L ip = true) {asks : Bool} {L' : Ens}
    (HW : Hid (∀ W, PN No W p b c (max last now) L → Calls Try.prog 21 #[.pointer (some ⟨p, 0, none⟩), .int .u32 (ip : Int), .int .u64 (num : Int)] W fun e w' => e = .returned (.bool asks) ∧ PN No w' p b c (max last now) L' ∧ Ks No W w')) :
    Calls Try.prog 8 #[.pointer (some ⟨p, 0, none⟩), .int .u32 (ip : Int), .int .u64 (num : Int), .int .i64 (now : Int)] w fun e w' => e = .returned (.tuple #[.int .u64 0, .bool false, .bool asks, .int .i64 0]) ∧ PN No w' p b c (max last now) L' ∧ Ks No w w' := by
  obtain ⟨c6, c7, _, hp, _⟩ := h.facts
  have HM := hide (made_ok p b w c6)
  have HH := hasCard_any s m t a (.slice sp sn sc)
  rw [decide_eq_false hs] at HH
  have HH := hide HH
  have HR := hide (fun W (hW : PN No W p b c last L) => by have := room_any hW hip; rwa [hr] at this)
  have HC := hide (fun W (hW : PN No W p b c last L) => counted_any p last now W hW.facts.2.1 hn)
  have HS := hide (fun W (hW : PN No W p b c last L) => hW.setLast hn)
  have HP := hide h
  clear h hs hr c7 hn
  go_enter Try.func8, Try.ntmps8
  go_wp2_with fail
  refine (unhide HM).mono ?_
  rintro e w1 ⟨rfl, rfl⟩
  go_wp2_with fail
  refine (unhide HH _).mono ?_
  rintro e w2 ⟨rfl, hb2⟩
  have hB2 := tr2 (below_one _ _) hb2
  have P2 := (unhide HP).below hB2
  clear hl hb2 c6
  go_wp2_with fail
  refine (unhide HR _ P2).mono ?_
  rintro e w3 ⟨rfl, hb3⟩
  have hB3 := tr2 hB2 hb3
  have P3 := P2.below hb3
  clear hb3 hB2 P2
  go_wp2_with fail
  refine (unhide HC _ P3).mono ?_
  rintro e w4 ⟨rfl, rfl⟩
  obtain ⟨c6, c7, f7, hp3, cs, hbx⟩ := P3.facts
  obtain ⟨P5, K5⟩ := unhide HS _ P3
  go_wp2_with fail
  refine (unhide HW _ P5).mono ?_
  rintro e w6 ⟨rfl, P6, K6⟩
  go_wp2
  refine bodyPost_ret (v := .tuple #[.int .u64 0, .bool false, .bool asks, .int .i64 0]) (by simp [results, Try.results8, go_sem]) rfl ⟨rfl, P6, ((Ks.of_below hB3).trans K5).trans K6⟩

set_option maxRecDepth 100000 in
set_option maxHeartbeats 1000000 in
theorem find_full (h : PN No w p b c last L) {ip num now : Nat} (hip : ip < 12) {s m t a sn sc : Nat} {sp : Option Addr}
    (hl : (Instr.lookup 53 (.map (some b)) (.int .u32 (ip : Int)) false).run Try.prog w = .ok (.agg #[.int .u8 (s : Int), .int .u64 (m : Int), .int .i64 (t : Int), .int .i64 (a : Int), .slice sp sn sc]) w)
    (hs : ¬ (s = 2 ∨ s = 3)) (hr : roomB c L ip = false) :
    Calls Try.prog 8 #[.pointer (some ⟨p, 0, none⟩), .int .u32 (ip : Int), .int .u64 (num : Int), .int .i64 (now : Int)] w fun e w' => e = .returned (.tuple #[.int .u64 0, .bool false, .bool false, .int .i64 6]) ∧ PN No w' p b c last L ∧ Ks No w w' := by
  obtain ⟨c6, c7, _, hp, _⟩ := h.facts
  have HM := hide (made_ok p b w c6)
  have HH := hasCard_any s m t a (.slice sp sn sc)
  rw [decide_eq_false hs] at HH
  have HH := hide HH
  have HR := hide (fun W (hW : PN No W p b c last L) => by have := room_any hW hip; rwa [hr] at this)
  have HP := hide h
  clear h hs hr c7
  go_enter Try.func8, Try.ntmps8
  go_wp2_with fail
  refine (unhide HM).mono ?_
  rintro e w1 ⟨rfl, rfl⟩
  go_wp2_with fail
  refine (unhide HH _).mono ?_
  rintro e w2 ⟨rfl, hb2⟩
  have hB2 := tr2 (below_one _ _) hb2
  have P2 := (unhide HP).below hB2
  clear hl hb2 c6
  go_wp2_with fail
  refine (unhide HR _ P2).mono ?_
  rintro e w3 ⟨rfl, hb3⟩
  have hB3 := tr2 hB2 hb3
  have P3 := P2.below hb3
  clear hb3 hB2 P2
  go_wp2
  refine bodyPost_ret (v := .tuple #[.int .u64 0, .bool false, .bool false, .int .i64 6]) (by simp [results, Try.results8, go_sem]) rfl ⟨rfl, P3, Ks.of_below hB3⟩

set_option maxRecDepth 100000 in
set_option maxHeartbeats 1000000 in
theorem find_card (h : PN No w p b c last L) {ip num now : Nat} (hn : now ≤ 17592186044416) {s m t a sn sc : Nat} {sp : Option Addr}
    (hl : (Instr.lookup 53 (.map (some b)) (.int .u32 (ip : Int)) false).run Try.prog w = .ok (.agg #[.int .u8 (s : Int), .int .u64 (m : Int), .int .i64 (t : Int), .int .i64 (a : Int), .slice sp sn sc]) w)
    (hs : s = 2 ∨ s = 3) {asks : Bool} {L' : Ens}
    (HW : Hid (∀ No' W, PN No' W p b c (max last now) L → Calls Try.prog 19 #[.pointer (some ⟨p, 0, none⟩), .int .u32 (ip : Int)] W fun e w' => e = .returned (.bool asks) ∧ PN No' w' p b c (max last now) L' ∧ Ks No' W w')) :
    Calls Try.prog 8 #[.pointer (some ⟨p, 0, none⟩), .int .u32 (ip : Int), .int .u64 (num : Int), .int .i64 (now : Int)] w fun e w' => e = .returned (.tuple #[.int .u64 (m : Int), .bool true, .bool asks, .int .i64 0]) ∧ PN No w' p b c (max last now) L' ∧ Ks No w w' := by
  obtain ⟨c6, c7, _, hp, _⟩ := h.facts
  have HM := hide (made_ok p b w c6)
  have HH := hasCard_any s m t a (.slice sp sn sc)
  rw [decide_eq_true hs] at HH
  have HH := hide HH
  have HC := hide (fun No' W (hW : PN No' W p b c last L) => counted_any p last now W hW.facts.2.1 hn)
  have HS := hide (fun No' W (hW : PN No' W p b c last L) => hW.setLast hn)
  have HP := hide h
  clear h hs c7 hn
  go_enter Try.func8, Try.ntmps8
  go_wp2_with fail
  refine (unhide HM).mono ?_
  rintro e w1 ⟨rfl, rfl⟩
  go_wp2_with fail
  refine (unhide HH _).mono ?_
  rintro e w2 ⟨rfl, hb2⟩
  have hB2 := tr2 (below_one _ _) hb2
  have P2 := (unhide HP).no hB2 (No' := fun i => No i ∨ i = w1.heap.size) (fun i hi => by
    have hz : w1.heap.size < w2.heap.size := by have := hb2.size; simp at this; omega
    rcases hi with hi | hi
    · exact ⟨by have := (unhide HP).choose_spec.nlt i hi; omega, .inl hi⟩
    · exact ⟨by omega, .inr (by omega)⟩)
  have bx : w2.heap[w1.heap.size]? = some (.cells #[.int .u8 (s : Int), .int .u64 (m : Int), .int .i64 (t : Int), .int .i64 (a : Int), .slice sp sn sc] 58 (0, 0)) := (hb2.block w1.heap.size (by simp)).trans (heap_alloc_new w1 _)
  obtain ⟨e1, _⟩ := box_cell bx (j := 1) (v := .int .u64 (m : Int)) rfl
  clear hl hb2 c6
  go_wp2_with fail
  refine (unhide HC _ _ P2).mono ?_
  rintro e w4 ⟨rfl, rfl⟩
  obtain ⟨c6, c7, f7, hp3, cs, hbx⟩ := P2.facts
  obtain ⟨P5, K5⟩ := unhide HS _ _ P2
  go_wp2_with fail
  have hne : w1.heap.size ≠ p := by omega
  have e5 : (w4.setCell ⟨p, 7, none⟩ (.int .i64 ((max last now : Nat) : Int))).cell? ⟨w1.heap.size, 1, none⟩ = some (.int .u64 (m : Int)) := (World.cell?_of_block (heap_setCell_other w4 _ _ _ hne)).trans e1
  have hK := (Ks.of_below hB2 (No := No))
  have K5' := K5.mono (No' := No) (fun i hi => .inl hi)
  have hK5 := hide (hK.trans K5')
  clear e1 bx c6 c7 f7 hbx K5 K5' hK hB2 P2 HP HC HS HH HM
  generalize (w4.setCell ⟨p, 7, none⟩ (.int .i64 ((max last now : Nat) : Int))) = w5 at *
  go_region_with (go_at_call 19; refine (unhide HW _ _ (P5.below ((Below.refl _ _).drew))).mono ?_; rintro e w6 ⟨rfl, P6, K6⟩; have e6 := K6.cell e5 (.inr rfl))
  all_goals go_wp2
  all_goals
    refine bodyPost_ret (v := .tuple #[.int .u64 (m : Int), .bool true, .bool asks, .int .i64 0]) (by simp [results, Try.results8, go_sem]) rfl ⟨rfl, P6.less (fun i hi => .inl hi), (unhide hK5).trans ((Ks.of_below (Below.refl _ _).drew).trans (K6.mono (fun i hi => .inl hi)))⟩

/-- Find, against the plain one -/
theorem find_any (h : PN No w p b c last L) {ip num now : Nat} (hip : ip < 12) (hnum : num < 18446744073709551616) (hn : now ≤ 17592186044416) :
    Calls Try.prog 8 #[.pointer (some ⟨p, 0, none⟩), .int .u32 (ip : Int), .int .u64 (num : Int), .int .i64 (now : Int)] w fun e w' =>
      e = .returned (.tuple #[.int .u64 ((findN c last L ip num now).mac : Int), .bool (findN c last L ip num now).known, .bool (findN c last L ip num now).asks, .int .i64 ((findN c last L ip num now).err : Int)]) ∧
      PN No w' p b c (findN c last L ip num now).last (findN c last L ip num now).L ∧ Ks No w w' := by
  have h0 := h
  obtain ⟨f, h⟩ := h
  unfold findN
  cases he : lookN ip L with
  | some x =>
    have hl := h.look_some hip he false
    simp only [Bool.false_eq_true, if_false, evE] at hl
    obtain ⟨sp, sc, hsl⟩ := row_shape (h.row (ip, x) (lookN_some he))
    simp only at hsl
    rw [hsl] at hl
    have hr : roomB c L ip = decide (x.ws.length < c.each ∧ tot L < c.waits) := by unfold roomB; rw [he]
    have hx := h.wl.look he
    by_cases h1 : x.st = 1
    · simp only [if_pos h1]
      by_cases g : x.ws.length < c.each ∧ tot L < c.waits
      · simp only [if_pos g]
        exact find_low h0 hip hn hl (by omega) (hr.trans (decide_eq_true g)) (hide fun W hW => wait_some hW hip hnum he h1 g.2)
      · simp only [if_neg g]
        exact find_full h0 hip hl (by omega) (hr.trans (decide_eq_false g))
    · have h23 : x.st = 2 ∨ x.st = 3 := by have := hx.st; omega
      simp only [if_neg h1]
      by_cases g : x.st = 3 ∧ x.asked = 0
      · simp only [if_pos g]
        exact find_card h0 hn hl h23 (hide fun No' W hW => stale_yes hW hip he g.1 g.2)
      · simp only [if_neg g]
        exact find_card h0 hn hl h23 (hide fun No' W hW => stale_no hW hip he g)
  | none =>
    have hl := h.look_none hip he false
    simp only [Bool.false_eq_true, if_false] at hl
    have hr : roomB c L ip = decide (L.length < c.most ∧ 0 < c.each ∧ tot L < c.waits) := by unfold roomB; rw [he]
    simp only
    by_cases g : L.length < c.most ∧ 0 < c.each ∧ tot L < c.waits
    · simp only [if_pos g]
      exact find_low (s := 0) (m := 0) (t := 0) (a := 0) h0 hip hn hl (by omega) (hr.trans (decide_eq_true g)) (hide fun W hW => wait_none hW hip hnum he g.2.2)
    · simp only [if_neg g]
      exact find_full (s := 0) (m := 0) (t := 0) (a := 0) h0 hip hl (by omega) (hr.trans (decide_eq_false g))
end

end Go.Proofs.Ytjcigoojlmalnaa
