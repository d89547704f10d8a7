/- The contracts of package route's New, isMade, mayBe, Add, Drop, over the loaded program. -/
import Derived.Test.YtmicgkoicmeflaaRm11
import Derived.BigRegion
import Derived.Deep.QuietTactic
import Derived.BigQuiet
namespace Go.Proofs.Ytmicgkoicmeflaa
open Go.RowKit Go.Maps

set_option maxRecDepth 100000 in
theorem made_ok (p b : Nat) (w : World) (hc : w.cell? ⟨p, 0, none⟩ = some (.map (some b))) :
    Calls Try.prog 21 #[.pointer (some ⟨p, 0, none⟩)] w fun e w' => e = .returned (.bool true) ∧ w' = w := by
  have hq := run_neq_map_nil (P := Try.prog) w 53 57 32 (some b) Try.underlying53
  go_enter Try.func21, Try.ntmps21
  go_wp2
  go_ret
  exact ⟨rfl, rfl⟩
theorem made_nil (w : World) :
    Calls Try.prog 21 #[.pointer none] w fun e w' => e = .returned (.bool false) ∧ w' = w := by
  go_enter Try.func21, Try.ntmps21
  go_wp2
  go_ret
  exact ⟨rfl, rfl⟩

set_option maxRecDepth 100000 in
theorem new_any (w : World) :
    Calls Try.prog 9 #[] w fun e w' => ∃ p b, e = .returned (.pointer (some ⟨p, 0, none⟩)) ∧ PT w' p b [] ∧ Below w.heap.size w w' ∧ w.heap.size ≤ p ∧ w.heap.size ≤ b := by
  have hmm := @run_makeMap Try.prog
  go_enter Try.func9, Try.ntmps9
  go_wp2
  go_ret
  refine ⟨_, w.heap.size, rfl, ⟨?_, ⟨.map [], ?_, Rep.nil⟩, OkL.nil⟩, ((Below.refl _ _).alloc (Nat.le_refl _) _).alloc (by simp) _, by omega, Nat.le_refl _⟩
  · have := heap_alloc_new (w.alloc (.map #[] 0)) (.cells #[.map (some w.heap.size)] 55)
    rw [World.size_alloc] at this
    exact this
  · exact (World.ownsMap_made w Try.prog 57 vE).alloc _

/-- a fact that is decided, as a letter -/
theorem hidec (p : Prop) [Decidable p] : ∃ b : Bool, Hid (b = true ↔ p) ∧ b = decide p := ⟨decide p, by simp [Hid], rfl⟩
theorem ret_bool {a b : Bool} (h : a = b) : Ending.returned (.bool a) = .returned (.bool b) := by rw [h]
theorem below_drewN (w : World) (n : Nat) : Below w.heap.size w (w.drewN n) := ⟨rfl, rfl, rfl, Nat.le_refl _, fun _ _ => rfl⟩

set_option maxRecDepth 100000 in
set_option maxHeartbeats 1000000 in
theorem mayBe_any (r : Rt) (w : World) (hr : Rin r) :
    Calls Try.prog 22 #[rtV r] w fun e w' => e = .returned (.bool (decide (mayR r))) ∧ Below w.heap.size w w' := by
  have HM := hide (fun w => mask_any r.b w)
  have hb := mk_lt (clip r.b)
  have han : bits .and .u32 (r.n : Int) (mk (clip r.b) : Nat) = ((r.n &&& mk (clip r.b) : Nat) : Int) := u32_and_nat r.n _ hr.n hb
  have hle := hide (below_one w (.cells #[.int .u32 (r.n : Int), .int .i64 r.b, .int .u32 (r.v : Int), .int .i64 r.c, .int .u32 (r.s : Int)] 32))
  have HB := hide (fun k : World => fun n => below_drewN k n)
  have HR : Hid (∀ x : Bool, (x = true ↔ mayR r) → Ending.returned (.bool x) = .returned (.bool (decide (mayR r)))) := fun x h => ret_bool (by rw [Bool.eq_iff_iff, h, decide_eq_true_iff])
  have HN : Hid (¬ (0 ≤ r.b ∧ r.b ≤ 32 ∧ 0 ≤ r.c) → ¬ mayR r) := fun h k => h ⟨k.1.1, k.1.2, k.2.1⟩
  have HY : Hid (0 ≤ r.b → r.b ≤ 32 → 0 ≤ r.c → (mayR r ↔ r.n &&& mk (clip r.b) = r.n)) := fun h1 h2 h3 => ⟨fun h => h.2.2, fun h => ⟨⟨h1, h2⟩, h3, h⟩⟩
  generalize r.n &&& mk (clip r.b) = a at *
  generalize mk (clip r.b) = m at *
  have fin : ∀ W : World, Below W.heap.size W W := fun W => Below.refl _ _
  by_cases h1 : 0 ≤ r.b
  · by_cases h2 : r.b ≤ 32
    · by_cases h3 : 0 ≤ r.c
      · have HY := hide (unhide HY h1 h2 h3)
        have d1 : decide ((0 : Int) ≤ r.b) = true := decide_eq_true h1
        have d2 : decide (r.b ≤ 32) = true := decide_eq_true h2
        have d3 : decide ((0 : Int) ≤ r.c) = true := decide_eq_true h3
        clear HN fin hb
        go_enter Try.func22, Try.ntmps22
        go_wp2_with fail
        go_quiet ((go_at_call 29; exact Calls.quiet_of_same (unhide HM _)))
        go_wp2
        go_ret
        refine ⟨unhide HR _ ?_, tr2 (unhide hle) (unhide HB _ _)⟩
        rw [unhide HY]
        simp
        omega
      · have HF := unhide HN (fun k => h3 k.2.2)
        have d1 : decide ((0 : Int) ≤ r.b) = true := decide_eq_true h1
        have d2 : decide (r.b ≤ 32) = true := decide_eq_true h2
        have d3 : decide ((0 : Int) ≤ r.c) = false := decide_eq_false h3
        have HF := hide HF
        clear HN HY fin hb
        go_enter Try.func22, Try.ntmps22
        go_wp2_with fail
        go_quiet (fail)
        go_wp2
        go_ret
        exact ⟨unhide HR _ (by simp [unhide HF]), tr2 (unhide hle) (unhide HB _ _)⟩
    · have HF := hide (unhide HN (fun k => h2 k.2.1))
      have d1 : decide ((0 : Int) ≤ r.b) = true := decide_eq_true h1
      have d2 : decide (r.b ≤ 32) = false := decide_eq_false h2
      clear HN HY fin hb
      go_enter Try.func22, Try.ntmps22
      go_wp2_with fail
      go_quiet (fail)
      go_wp2
      go_ret
      exact ⟨unhide HR _ (by simp [unhide HF]), tr2 (unhide hle) (unhide HB _ _)⟩
  · have HF := hide (unhide HN (fun k => h1 k.1))
    have d1 : decide ((0 : Int) ≤ r.b) = false := decide_eq_false h1
    clear HN HY fin hb
    go_enter Try.func22, Try.ntmps22
    go_wp2_with fail
    go_quiet (fail)
    go_wp2
    go_ret
    exact ⟨unhide HR _ (by simp [unhide HF]), tr2 (unhide hle) (unhide HB _ _)⟩
end Go.Proofs.Ytmicgkoicmeflaa
