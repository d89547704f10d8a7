/- What askIfStale and wait of package near answer and leave, over the loaded program. -/
import Derived.Test.YtjcigoojlmalnaaNr5
import Derived.Test.YtjcigoojlmalnaaNl2
namespace Go.Proofs.Ytjcigoojlmalnaa
open Go.RowKit Go.Maps
attribute [local go_sem ↓] Go.wp_at_zero Go.wp_at_succ

theorem int_add (a b : Nat) : ((a + b : Nat) : Int) = (a : Int) + (b : Int) := Int.natCast_add a b

section
variable {No : Nat → Prop} {w : World} {p b : Nat} {c : Cf} {last : Nat} {L : Ens}

set_option maxRecDepth 100000 in
set_option maxHeartbeats 1000000 in
theorem stale_no (h : PN No w p b c last L) {ip : Nat} (hip : ip < 12) {x : En} (he : lookN ip L = some x) (hs : ¬ (x.st = 3 ∧ x.asked = 0)) :
    Calls Try.prog 19 #[.pointer (some ⟨p, 0, none⟩), .int .u32 (ip : Int)] w fun e w' => e = .returned (.bool false) ∧ PN No w' p b c last L ∧ Ks No w w' := by
  have hP := h
  obtain ⟨f, h⟩ := h
  have hc := box6 h
  have hl := h.look_some hip he false
  simp only [Bool.false_eq_true, if_false, evE] at hl
  obtain ⟨sp, sc, hsl⟩ := row_shape (h.row (ip, x) (lookN_some he))
  simp only at hsl
  rw [hsl] at hl
  obtain ⟨s, m, t, a, ws⟩ := x
  simp only at hl hs
  generalize ws.length = k at hl
  have hB := below_one w (.cells #[.int .u8 (s : Int), .int .u64 (m : Int), .int .i64 (t : Int), .int .i64 (a : Int), .slice sp k sc] 58)
  have hfin : Hid (PN No (w.alloc (.cells #[.int .u8 (s : Int), .int .u64 (m : Int), .int .i64 (t : Int), .int .i64 (a : Int), .slice sp k sc] 58)) p b c last L ∧ Ks No w (w.alloc (.cells #[.int .u8 (s : Int), .int .u64 (m : Int), .int .i64 (t : Int), .int .i64 (a : Int), .slice sp k sc] 58))) := ⟨hP.below hB, Ks.of_below hB⟩
  clear hsl he h hP hB
  by_cases h3 : s = 3
  · subst h3
    have e0 : ((a : Int) == 0) = false := beq_eq_false_iff_ne.2 (fun e => hs ⟨rfl, by omega⟩)
    clear hs
    go_enter Try.func19, Try.ntmps19
    go_wp2
    go_ret
    exact ⟨rfl, unhide hfin⟩
  · have e3 : ((s : Int) == 3) = false := beq_eq_false_iff_ne.2 (fun e => h3 (by omega))
    clear hs h3
    go_enter Try.func19, Try.ntmps19
    go_wp2
    go_ret
    exact ⟨rfl, unhide hfin⟩

set_option maxRecDepth 100000 in
set_option maxHeartbeats 1000000 in
theorem stale_yes (h : PN No w p b c last L) {ip : Nat} (hip : ip < 12) {x : En} (he : lookN ip L = some x) (hs : x.st = 3) (ha : x.asked = 0) :
    Calls Try.prog 19 #[.pointer (some ⟨p, 0, none⟩), .int .u32 (ip : Int)] w fun e w' => e = .returned (.bool true) ∧ PN No w' p b c last (insN (ip, { x with asked := 1, tm := last + c.pause }) L) ∧ Ks No w w' := by
  have hP := h
  obtain ⟨f, h⟩ := h
  have hc := box6 h
  have hp := h.plt
  have hl := h.look_some hip he false
  simp only [Bool.false_eq_true, if_false, evE] at hl
  have hro := h.row (ip, x) (lookN_some he)
  obtain ⟨sp, sc, hsl⟩ := row_shape hro
  simp only at hsl
  rw [hsl] at hl
  have hx := h.wl.look he
  have hnw : WL c last (insN (ip, { x with asked := 1, tm := last + c.pause }) L) := by
    refine h.wl.ins hip ⟨hx.st, hx.mac, ?_, h.ok.a1, hx.num, fun e => ?_, hx.no⟩ ?_
    · have h1 := h.wl.lst; have h2 := h.ok.p2; show last + c.pause ≤ _; omega
    · have e' : x.st = 1 := e
      omega
    · have := tot_some { x with asked := 1, tm := last + c.pause } h.wl.srt he
      have h2 := h.wl.tot
      simp only at this
      omega
  have hap : ∀ y ∈ L, y.1 ≠ ip → ∀ g, (f ip).ownBlock = some g → (f y.1).ownBlock ≠ some g := fun y hy hne => h.apart (ip, x) (lookN_some he) y hy (fun e => hne e.symm)
  have hno := h.shr (ip, x) (lookN_some he)
  have HS : Hid (∀ w1, Below (w.alloc (.cells #[.int .u8 (x.st : Int), .int .u64 (x.mac : Int), .int .i64 (x.tm : Int), .int .i64 (x.asked : Int), .slice sp x.ws.length sc] 58)).heap.size (w.alloc (.cells #[.int .u8 (x.st : Int), .int .u64 (x.mac : Int), .int .i64 (x.tm : Int), .int .i64 (x.asked : Int), .slice sp x.ws.length sc] 58)) w1 →
      w1.cell? ⟨p, 6, none⟩ = some (.map (some b)) ∧ ∃ w2, (Instr.mapUpdate 53 (.map (some b)) (.int .u32 (ip : Int)) (.agg #[.int .u8 (x.st : Int), .int .u64 (x.mac : Int), .int .i64 ((last + c.pause : Nat) : Int), .int .i64 1, .slice sp x.ws.length sc])).run Try.prog w1 = .ok () w2 ∧
        PN No w2 p b c last (insN (ip, { x with asked := 1, tm := last + c.pause }) L) ∧ Ks No w w2) := by
    intro w1 hb1
    have hB : Below w.heap.size w w1 := tr2 (below_one w _) hb1
    have h1 := h.below hB
    have hr1 := h1.row (ip, x) (lookN_some he)
    obtain ⟨w2, hrun, hp2, hk2, _⟩ := (h1.x ip).store hip (e := { x with asked := 1, tm := last + c.pause }) hr1 hno hap hnw
    refine ⟨box6 h1, w2, ?_, ⟨_, hp2⟩, (Ks.of_below hB).trans hk2⟩
    rw [← hsl]
    exact hrun
  have hPa := hP.below (below_one w (.cells #[.int .u8 (x.st : Int), .int .u64 (x.mac : Int), .int .i64 (x.tm : Int), .int .i64 (x.asked : Int), .slice sp x.ws.length sc] 58))
  have HA := hide (fun W (hW : PN No W p b c last L) => again_any hW x.st x.mac x.tm x.asked sp x.ws.length sc (by omega))
  rw [hs, ha] at *
  rw [show ((3 : Nat) : Int) = 3 from rfl] at HS
  simp only [Nat.zero_add] at HA
  have hBc : ∀ {W w1 : World}, Below W.drew.heap.size W.drew w1 → Below W.heap.size W w1 := fun h => undrew h
  clear hnw hap hno hx hro hsl h hP
  generalize last + c.pause = T at *
  generalize x.ws.length = k at *
  generalize x.mac = m at *
  generalize x.tm = t at *
  go_enter Try.func19, Try.ntmps19
  go_wp2_with fail
  go_region_with (go_at_call 24; refine (unhide HA _ (hPa.below ((Below.refl _ _).drew))).mono ?_; rintro e w1 ⟨rfl, hb1⟩; obtain ⟨hc1, w2, hrun, hP2, hK2⟩ := unhide HS w1 (undrew hb1))
  all_goals (go_wp2; go_ret; exact ⟨rfl, hP2, hK2⟩)
end

end Go.Proofs.Ytjcigoojlmalnaa
