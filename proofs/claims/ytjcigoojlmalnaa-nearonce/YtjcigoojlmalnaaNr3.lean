/- What askedAgain, New, waiting of package near answer. -/
import Derived.Test.YtjcigoojlmalnaaNr2
namespace Go.Proofs.Ytjcigoojlmalnaa
open Go.RowKit Go.Maps

section
variable {No : Nat → Prop} {w : World} {p b : Nat} {c : Cf} {last : Nat} {L : Ens}

theorem row_shape {w : World} {base e size n : Nat} {v : Value} {xs : List Value} (h : w.ownsRow base e size v n xs) : ∃ sp sc, v = .slice sp n sc := by
  rcases h.2 with ⟨rfl, rfl⟩ | ⟨g, cap, cur, rfl, _⟩
  · exact ⟨_, _, rfl⟩
  · exact ⟨_, _, rfl⟩

set_option maxRecDepth 100000 in
set_option maxHeartbeats 1000000 in
theorem again_any (h : PN No w p b c last L) (s m t a : Nat) (sp : Option Addr) (sn sc : Nat) (ha : a ≤ 1048576) :
    Calls Try.prog 24 #[.pointer (some ⟨p, 0, none⟩), .agg #[.int .u8 (s : Int), .int .u64 (m : Int), .int .i64 (t : Int), .int .i64 (a : Int), .slice sp sn sc]] w fun e w' =>
      e = .returned (.agg #[.int .u8 (s : Int), .int .u64 (m : Int), .int .i64 ((last + c.pause : Nat) : Int), .int .i64 ((a + 1 : Nat) : Int), .slice sp sn sc]) ∧ Below w.heap.size w w' := by
  obtain ⟨f, h⟩ := h
  have h7 := box7 h
  have h5 : w.cell? ⟨p, 5, none⟩ = some (.int .i64 (c.pause : Int)) := h.cell rfl
  have hp := h.plt
  have b1 := h.wl.lst
  have b2 := h.ok.p2
  have b3 : (last : Int) ≤ 17592186044416 := by omega
  have b4 : (c.pause : Int) ≤ 1099511627776 := by omega
  have b5 : (a : Int) ≤ 1048576 := by omega
  clear h b1 b2 ha
  generalize c.pause = q at *
  go_enter Try.func24, Try.ntmps24
  go_wp2_with fail
  go_region
  go_wp2
  refine bodyPost_ret (v := .agg #[.int .u8 (s : Int), .int .u64 (m : Int), .int .i64 ((last : Int) + (q : Int)), .int .i64 ((a : Int) + 1), .slice sp sn sc]) (by simp [results, Try.results24, go_sem]) rfl ⟨?_, ?_⟩
  · rw [Int.natCast_add, Int.natCast_add]; rfl
  · exact (((Below.refl _ _).alloc (Nat.le_refl _) _).alloc (by simp) _).drew

set_option maxRecDepth 100000 in
theorem new_ok (a b c d e f : Nat) (w : World) (hm : mayB a b c d e f = true) :
    Calls Try.prog 6 #[.agg #[.int .i64 (a : Int), .int .i64 (b : Int), .int .i64 (c : Int), .int .i64 (d : Int), .int .i64 (e : Int), .int .i64 (f : Int)]] w fun en w' => ∃ p b', en = .returned (.tuple #[.pointer (some ⟨p, 0, none⟩), .int .i64 0]) ∧ Below w.heap.size w w' ∧
      w.heap.size ≤ p ∧ w.heap.size ≤ b' ∧ w'.heap[p]? = some (.cells (boxOf ⟨a, b, c, d, e, f⟩ b' 0) 55 (0, 0)) ∧ w'.ownsMap Try.prog 35 vE b' 0 (.map []) := by
  have HM := mayBe_any a b c d e f
  rw [hm] at HM
  have HM := hide HM
  have hmm := @run_makeMap Try.prog
  clear hm
  go_enter Try.func6, Try.ntmps6
  go_wp2_with fail
  refine (unhide HM _).mono ?_
  rintro en w1 ⟨rfl, hb⟩
  have hn : w1.heap.size ≥ w.heap.size + 1 := by have := hb.size; simpa using this
  have hB : Below w.heap.size w w1 := ((Below.refl _ _).alloc (Nat.le_refl _) _).trans (hb.mono (by simp))
  have c0 : w1.cell? ⟨w.heap.size, 0, none⟩ = some (.int .i64 (a : Int)) := (hb.cell (by simp)).trans (by simp [go_sem])
  have c1 : w1.cell? ⟨w.heap.size, 1, none⟩ = some (.int .i64 (b : Int)) := (hb.cell (by simp)).trans (by simp [go_sem])
  have c2 : w1.cell? ⟨w.heap.size, 2, none⟩ = some (.int .i64 (c : Int)) := (hb.cell (by simp)).trans (by simp [go_sem])
  have c3 : w1.cell? ⟨w.heap.size, 3, none⟩ = some (.int .i64 (d : Int)) := (hb.cell (by simp)).trans (by simp [go_sem])
  have c4 : w1.cell? ⟨w.heap.size, 4, none⟩ = some (.int .i64 (e : Int)) := (hb.cell (by simp)).trans (by simp [go_sem])
  have c5 : w1.cell? ⟨w.heap.size, 5, none⟩ = some (.int .i64 (f : Int)) := (hb.cell (by simp)).trans (by simp [go_sem])
  clear hb
  go_wp2
  go_ret2
  refine ⟨_, _, rfl, (hB.alloc hB.size _).alloc (by simp; omega) _, by omega, hB.size, ?_, ?_⟩
  · have := heap_alloc_new (w1.alloc (.map #[] 0)) (.cells (boxOf ⟨a, b, c, d, e, f⟩ w1.heap.size 0) 55)
    rw [World.size_alloc] at this
    exact this
  · exact (World.ownsMap_made w1 Try.prog 35 vE).alloc _

set_option maxRecDepth 100000 in
theorem new_no (a b c d e f : Int) (w : World) (hm : mayB a b c d e f = false) :
    Calls Try.prog 6 #[.agg #[.int .i64 a, .int .i64 b, .int .i64 c, .int .i64 d, .int .i64 e, .int .i64 f]] w fun en w' => en = .returned (.tuple #[.pointer none, .int .i64 2]) ∧ Below w.heap.size w w' := by
  have HM := mayBe_any a b c d e f
  rw [hm] at HM
  have HM := hide HM
  clear hm
  go_enter Try.func6, Try.ntmps6
  go_wp2_with fail
  refine (unhide HM _).mono ?_
  rintro en w1 ⟨rfl, hb⟩
  have hB : Below w.heap.size w w1 := ((Below.refl _ _).alloc (Nat.le_refl _) _).trans (hb.mono (by simp))
  clear hb
  go_wp2
  go_ret2
  exact ⟨rfl, hB⟩
end

end Go.Proofs.Ytjcigoojlmalnaa
