/- The contracts of package ether's For, digit and Text, over the loaded program; no memory that was there has turned. Conditions: numbers in their kinds' bounds. -/
import Derived.Test.YtdgjoconppmihaaEt1
import Derived.Test.YtdgjoconppmihaaEtM
import Derived.Laws.BytesArg
namespace Go.Proofs.Ytdgjoconppmihaa
open Go.RowKit

/-- is a frame to t for o? -/
def forB (t o : Nat) : Bool := t == o || t == 281474976710655

set_option maxHeartbeats 400000 in
theorem for_any (t f k : Nat) (d : ByteArray) (o : Nat) (w : World) :
    Calls Try.prog 18 #[fr t f k d, .int .u64 (o : Int)] w fun e w' => e = .returned (.bool (forB t o)) ∧ Below w.heap.size w w' := by
  have BEL := hide (below_one w (.cells #[.int .u64 (t : Int), .int .u64 (f : Int), .int .u16 (k : Int), .string d] 26))
  by_cases h1 : t = o
  · have e : forB t o = true := by unfold forB; rw [h1]; simp
    have e1 : ((t : Int) == (o : Int)) = true := by rw [h1]; simp
    rw [e]
    clear h1 e
    go_enter Try.func18, Try.ntmps18
    go_wp2
    go_ret
    exact ⟨rfl, unhide BEL⟩
  · have e1 : ((t : Int) == (o : Int)) = false := by
      apply Bool.eq_false_iff.2
      intro e
      rw [beq_iff_eq] at e
      omega
    by_cases h2 : t = 281474976710655
    · have e : forB t o = true := by unfold forB; rw [h2]; simp
      have e2 : ((t : Int) == 281474976710655) = true := by rw [h2]; rfl
      rw [e]
      clear h1 h2 e
      go_enter Try.func18, Try.ntmps18
      go_wp2
      go_ret
      exact ⟨rfl, unhide BEL⟩
    · have e : forB t o = false := by unfold forB; simp [h1, h2]
      have e2 : ((t : Int) == 281474976710655) = false := by
        apply Bool.eq_false_iff.2
        intro e
        rw [beq_iff_eq] at e
        omega
      rw [e]
      clear h1 h2 e
      go_enter Try.func18, Try.ntmps18
      go_wp2
      go_ret
      exact ⟨rfl, unhide BEL⟩

set_option maxHeartbeats 400000 in
theorem digit_some (c : UInt8) (v : Nat) (h : hv c = some v) (w : World) :
    Calls Try.prog 45 #[.int .u8 (c.toNat : Int)] w fun e w' => e = .returned (.tuple #[.int .u8 (v : Int), .bool true]) ∧ w' = w := by
  have H : Hid (∀ w, Calls Try.prog 54 #[.string ⟨#[48, 49, 50, 51, 52, 53, 54, 55, 56, 57, 97, 98, 99, 100, 101, 102]⟩, .int .u8 (c.toNat : Int)] w fun e w' => e = .returned (.int .i64 (v : Int)) ∧ w' = w) := fun w => by
    have := ib_any hxS c w
    rw [ib_hv, h] at this
    exact this
  have hv16 := (hv_some h).1
  clear h
  go_enter Try.func45, Try.ntmps45
  go_wp2_with fail
  refine (unhide H _).mono ?_
  rintro e w1 ⟨rfl, rfl⟩
  go_wp2_with fail
  go_ret2
  exact ⟨rfl, rfl⟩

set_option maxHeartbeats 400000 in
theorem digit_none (c : UInt8) (h : hv c = none) (w : World) :
    Calls Try.prog 45 #[.int .u8 (c.toNat : Int)] w fun e w' => e = .returned (.tuple #[.int .u8 0, .bool false]) ∧ w' = w := by
  have H : Hid (∀ w, Calls Try.prog 54 #[.string ⟨#[48, 49, 50, 51, 52, 53, 54, 55, 56, 57, 97, 98, 99, 100, 101, 102]⟩, .int .u8 (c.toNat : Int)] w fun e w' => e = .returned (.int .i64 (-1)) ∧ w' = w) := fun w => by
    have := ib_any hxS c w
    rw [ib_hv, h] at this
    exact this
  clear h
  go_enter Try.func45, Try.ntmps45
  go_wp2_with fail
  refine (unhide H _).mono ?_
  rintro e w1 ⟨rfl, rfl⟩
  go_wp2_with fail
  go_ret2
  exact ⟨rfl, rfl⟩

theorem digit_any (c : UInt8) (w : World) :
    Calls Try.prog 45 #[.int .u8 (c.toNat : Int)] w fun e w' => e = .returned (.tuple #[.int .u8 (val c : Int), .bool (hv c).isSome]) ∧ w' = w := by
  cases h : hv c with
  | none =>
    have e : val c = 0 := by unfold val; rw [h]; rfl
    rw [e]
    exact digit_none c h w
  | some v =>
    have e : val c = v := by unfold val; rw [h]; rfl
    rw [e]
    exact digit_some c v h w

end Go.Proofs.Ytdgjoconppmihaa
