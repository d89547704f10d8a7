/- What the small functions of package near answer, over the loaded program. -/
import Derived.Test.YtjcigoojlmalnaaNr1
import Derived.Deep.QuietTactic
import Derived.BigQuiet
namespace Go.Proofs.Ytjcigoojlmalnaa
open Go.RowKit Go.Maps

set_option maxRecDepth 100000 in
theorem made_ok (p b : Nat) (w : World) (hc : w.cell? ⟨p, 6, none⟩ = some (.map (some b))) :
    Calls Try.prog 16 #[.pointer (some ⟨p, 0, none⟩)] w fun e w' => e = .returned (.bool true) ∧ w' = w := by
  have hq := run_neq_map_nil (P := Try.prog) w 53 35 58 (some b) Try.underlying53
  go_enter Try.func16, Try.ntmps16
  go_wp2
  go_ret
  exact ⟨rfl, rfl⟩
theorem bcells {W w1 : World} (hb : Below W.heap.size W w1) : (∀ b o, b < W.heap.size → w1.cell? ⟨b, o, none⟩ = W.cell? ⟨b, o, none⟩) ∧ (∀ b o, b < W.heap.size → w1.frozen? ⟨b, o, none⟩ = W.frozen? ⟨b, o, none⟩) :=
  ⟨fun b o h => hb.cell (p := ⟨b, o, none⟩) h, fun b o h => hb.frozen (p := ⟨b, o, none⟩) h⟩
theorem made_nil (w : World) :
    Calls Try.prog 16 #[.pointer none] w fun e w' => e = .returned (.bool false) ∧ w' = w := by
  go_enter Try.func16, Try.ntmps16
  go_wp2
  go_ret
  exact ⟨rfl, rfl⟩

set_option maxRecDepth 100000 in
theorem counted_any (p last now : Nat) (w : World) (hc : w.cell? ⟨p, 7, none⟩ = some (.int .i64 (last : Int))) (hn : now ≤ 17592186044416) :
    Calls Try.prog 18 #[.pointer (some ⟨p, 0, none⟩), .int .i64 (now : Int)] w fun e w' => e = .returned (.int .i64 ((max last now : Nat) : Int)) ∧ w' = w := by
  have h1 : min (now : Int) 17592186044416 = (now : Int) := by omega
  clear hn
  by_cases g : last < now
  · rw [Nat.max_eq_right (Nat.le_of_lt g)]
    go_enter Try.func18, Try.ntmps18
    go_wp2
    go_ret
    exact ⟨rfl, rfl⟩
  · rw [Nat.max_eq_left (Nat.not_lt.1 g)]
    go_enter Try.func18, Try.ntmps18
    go_wp2
    go_ret
    exact ⟨rfl, rfl⟩

def mayB (a b c d e f : Int) : Bool := decide ((1 ≤ a ∧ a ≤ 1024) ∧ (0 ≤ b ∧ b ≤ 1024) ∧ 0 ≤ c ∧ (1 ≤ d ∧ d ≤ 1099511627776) ∧ (1 ≤ e ∧ e ≤ 1048576) ∧ (1 ≤ f ∧ f ≤ 1099511627776))
theorem ret_bool {a b : Bool} (h : a = b) : Ending.returned (.bool a) = .returned (.bool b) := by rw [h]

set_option maxRecDepth 100000 in
set_option maxHeartbeats 1000000 in
theorem mayBe_any (a b c d e f : Int) (w : World) :
    Calls Try.prog 14 #[.agg #[.int .i64 a, .int .i64 b, .int .i64 c, .int .i64 d, .int .i64 e, .int .i64 f]] w fun en w' => en = .returned (.bool (mayB a b c d e f)) ∧ Below w.heap.size w w' := by
  go_enter Try.func14, Try.ntmps14
  go_wp2
  all_goals
    go_ret
    refine ⟨ret_bool ?_, (Below.refl _ _).alloc (Nat.le_refl _) _⟩
    unfold mayB
    first
      | (symm; apply decide_eq_true; omega)
      | (symm; apply decide_eq_false; omega)
      | (apply decide_eq_decide.2; omega)

theorem hasCard_any (s m t a : Nat) (v : Value) (w : World) :
    Calls Try.prog 17 #[.agg #[.int .u8 (s : Int), .int .u64 (m : Int), .int .i64 (t : Int), .int .i64 (a : Int), v]] w fun e w' => e = .returned (.bool (decide (s = 2 ∨ s = 3))) ∧ Below w.heap.size w w' := by
  by_cases h2 : s = 2
  · subst h2
    go_enter Try.func17, Try.ntmps17
    go_wp2
    go_ret
    exact ⟨rfl, (Below.refl _ _).alloc (Nat.le_refl _) _⟩
  · by_cases h3 : s = 3
    · subst h3
      go_enter Try.func17, Try.ntmps17
      go_wp2
      go_ret
      exact ⟨rfl, (Below.refl _ _).alloc (Nat.le_refl _) _⟩
    · have e2 : ((s : Int) == 2) = false := beq_eq_false_iff_ne.2 (by omega)
      have e3 : ((s : Int) == 3) = false := beq_eq_false_iff_ne.2 (by omega)
      have e : decide (s = 2 ∨ s = 3) = false := decide_eq_false (by omega)
      rw [e]
      clear h2 h3 e
      go_enter Try.func17, Try.ntmps17
      go_wp2
      go_ret
      exact ⟨rfl, (Below.refl _ _).alloc (Nat.le_refl _) _⟩

/-- what is known of an address -/
def stN (ip : Nat) (L : Ens) : Nat := match lookN ip L with | some e => e.st | none => 0

section
variable {No : Nat → Prop} {w : World} {p b : Nat} {c : Cf} {last : Nat} {L : Ens}
theorem box6 {f : Nat → Value} (h : PNf No w p b c last L f) : w.cell? ⟨p, 6, none⟩ = some (.map (some b)) := h.cell rfl
theorem box7 {f : Nat → Value} (h : PNf No w p b c last L f) : w.cell? ⟨p, 7, none⟩ = some (.int .i64 (last : Int)) := h.cell rfl

set_option maxRecDepth 100000 in
theorem state_any (h : PN No w p b c last L) {ip : Nat} (hip : ip < 12) :
    Calls Try.prog 12 #[.pointer (some ⟨p, 0, none⟩), .int .u32 (ip : Int)] w fun e w' => e = .returned (.int .u8 (stN ip L : Int)) ∧ w' = w := by
  obtain ⟨f, h⟩ := h
  have H := hide (made_ok p b w (box6 h))
  have hc := box6 h
  unfold stN
  cases he : lookN ip L with
  | none =>
    have hl := h.look_none hip he false
    simp only [Bool.false_eq_true, if_false] at hl
    have hf : ∀ w, (Instr.field 58 evZ 0).run Try.prog w = .ok (.int .u8 0) w := fun _ => by kernel_rfl
    clear h
    go_enter Try.func12, Try.ntmps12
    go_wp2_with fail
    refine (unhide H).mono ?_
    rintro e w1 ⟨rfl, rfl⟩
    go_wp2
    go_ret
    exact ⟨rfl, rfl⟩
  | some x =>
    have hl := h.look_some hip he false
    simp only [Bool.false_eq_true, if_false, evE] at hl
    obtain ⟨s, m, t, a, ws⟩ := x
    simp only at hl ⊢
    generalize f ip = v at hl
    have hf : ∀ w, (Instr.field 58 (.agg #[.int .u8 (s : Int), .int .u64 (m : Int), .int .i64 (t : Int), .int .i64 (a : Int), v]) 0).run Try.prog w = .ok (.int .u8 (s : Int)) w := fun _ => by kernel_rfl
    clear h he
    go_enter Try.func12, Try.ntmps12
    go_wp2_with fail
    refine (unhide H).mono ?_
    rintro e w1 ⟨rfl, rfl⟩
    go_wp2
    go_ret
    exact ⟨rfl, rfl⟩

set_option maxRecDepth 100000 in
theorem full_any (h : PN No w p b c last L) :
    Calls Try.prog 22 #[.pointer (some ⟨p, 0, none⟩)] w fun e w' => e = .returned (.bool (decide (c.most ≤ L.length))) ∧ ∃ n, w' = w.drewN n := by
  obtain ⟨f, h⟩ := h
  have hc := box6 h
  have h0 : w.cell? ⟨p, 0, none⟩ = some (.int .i64 (c.most : Int)) := h.cell rfl
  have hl : ∀ n, (Builtin.len_ #[53] 3 #[.map (some b)]).run Try.prog (w.drewN n) = .ok (.int .i64 (L.length : Int)) (w.drewN n) := fun n => PNf.size (w := w.drewN n) (h.at (Nat.le_refl _) rfl rfl (fun _ _ _ _ => rfl))
  generalize L.length = k at *
  generalize c.most = m at *
  clear h
  go_enter Try.func22, Try.ntmps22
  go_wp2_with fail
  go_quiet (fail)
  go_wp2
  go_ret
  exact ⟨rfl, _, rfl⟩

end

end Go.Proofs.Ytjcigoojlmalnaa
