/- The helper alive of the statements of layer 1 answers true, over the loaded program; no memory that was there has turned. No conditions. -/
import Derived.Test.YtgjalicobalnaaaRef01
namespace Go.Proofs.Ytgjalicobalnaaa
open Go.RowKit

theorem alive_of (w : World) : Calls Try.prog 16 #[.int .u64 258, .int .i64 2] w fun e w' => e = .returned (.string ⟨#[1, 2]⟩) ∧ Below w.heap.size w w' := by
  have h := of_2 258 w (by omega)
  exact h

theorem alive_two0 (w : World) : Calls Try.prog 9 #[.string ⟨#[1, 2]⟩, .int .i64 0] w fun e w' => e = .returned (.tuple #[.int .u16 258, .int .i64 0]) ∧ Below w.heap.size w w' := by
  have h := two_any ⟨#[1, 2]⟩ 0 w (by decide) (by omega)
  rw [show numAt ⟨#[1, 2]⟩ 0 2 = 258 from by rfl, show errAt (ByteArray.size ⟨#[1, 2]⟩) 0 2 = 0 from by rfl] at h
  exact h

theorem alive_two1 (w : World) : Calls Try.prog 9 #[.string ⟨#[1, 2]⟩, .int .i64 1] w fun e w' => e = .returned (.tuple #[.int .u16 0, .int .i64 10]) ∧ Below w.heap.size w w' := by
  have h := two_any ⟨#[1, 2]⟩ 1 w (by decide) (by omega)
  rw [show numAt ⟨#[1, 2]⟩ 1 2 = 0 from by rfl, show errAt (ByteArray.size ⟨#[1, 2]⟩) 1 2 = 10 from by rfl] at h
  exact h

theorem alive_set (w : World) : Calls Try.prog 17 #[.string ⟨#[97, 98, 99, 100]⟩, .int .i64 1, .string ⟨#[120, 121]⟩] w fun e w' => e = .returned (.tuple #[.string ⟨#[97, 120, 121, 100]⟩, .int .i64 0]) ∧ Below w.heap.size w w' := by
  have h := set_any ⟨#[97, 98, 99, 100]⟩ 1 ⟨#[120, 121]⟩ w (by decide) (by omega)
  rw [show setAt ⟨#[97, 98, 99, 100]⟩ 1 ⟨#[120, 121]⟩ = ⟨#[97, 120, 121, 100]⟩ from by rfl, show errAt (ByteArray.size ⟨#[97, 98, 99, 100]⟩) 1 (ByteArray.size ⟨#[120, 121]⟩) = 0 from by rfl] at h
  exact h

theorem alive_text (w : World) : Calls Try.prog 12 #[.string ⟨#[97, 98, 99]⟩, .int .i64 1, .int .i64 2] w fun e w' => e = .returned (.tuple #[.string ⟨#[98, 99]⟩, .int .i64 0]) ∧ Below w.heap.size w w' := by
  have h := text_any ⟨#[97, 98, 99]⟩ 1 2 w (by decide) (by omega)
  rw [show textAt ⟨#[97, 98, 99]⟩ 1 2 = ⟨#[98, 99]⟩ from by rfl, show errAt (ByteArray.size ⟨#[97, 98, 99]⟩) 1 2 = 0 from by rfl] at h
  exact h

theorem alive_rest3 (w : World) : Calls Try.prog 14 #[.string ⟨#[97, 98, 99]⟩, .int .i64 3] w fun e w' => e = .returned (.tuple #[.string ⟨#[]⟩, .int .i64 0]) ∧ Below w.heap.size w w' := by
  have h := rest_any ⟨#[97, 98, 99]⟩ 3 w (by decide) (by omega)
  rw [show restAt ⟨#[97, 98, 99]⟩ 3 = ⟨#[]⟩ from by rfl, show errRest (ByteArray.size ⟨#[97, 98, 99]⟩) 3 = 0 from by rfl] at h
  exact h

theorem alive_rest4 (w : World) : Calls Try.prog 14 #[.string ⟨#[97, 98, 99]⟩, .int .i64 4] w fun e w' => e = .returned (.tuple #[.string ⟨#[]⟩, .int .i64 10]) ∧ Below w.heap.size w w' := by
  have h := rest_any ⟨#[97, 98, 99]⟩ 4 w (by decide) (by omega)
  rw [show restAt ⟨#[97, 98, 99]⟩ 4 = ⟨#[]⟩ from by rfl, show errRest (ByteArray.size ⟨#[97, 98, 99]⟩) 4 = 10 from by rfl] at h
  exact h

theorem alive_byte (w : World) : Calls Try.prog 7 #[.string ⟨#[97]⟩, .int .i64 0] w fun e w' => e = .returned (.tuple #[.int .u8 97, .int .i64 0]) ∧ Below w.heap.size w w' := by
  have h := byte_any ⟨#[97]⟩ 0 w (by decide) (by omega)
  rw [show numAt ⟨#[97]⟩ 0 1 = 97 from by rfl, show errAt (ByteArray.size ⟨#[97]⟩) 0 1 = 0 from by rfl] at h
  exact h

theorem alive_four (w : World) : Calls Try.prog 10 #[.string ⟨#[0, 1, 2, 3]⟩, .int .i64 0] w fun e w' => e = .returned (.tuple #[.int .u32 66051, .int .i64 0]) ∧ Below w.heap.size w w' := by
  have h := four_any ⟨#[0, 1, 2, 3]⟩ 0 w (by decide) (by omega)
  rw [show numAt ⟨#[0, 1, 2, 3]⟩ 0 4 = 66051 from by rfl, show errAt (ByteArray.size ⟨#[0, 1, 2, 3]⟩) 0 4 = 0 from by rfl] at h
  exact h

theorem alive_six (w : World) : Calls Try.prog 11 #[.string ⟨#[0, 0, 0, 0, 1, 0]⟩, .int .i64 0] w fun e w' => e = .returned (.tuple #[.int .u64 256, .int .i64 0]) ∧ Below w.heap.size w w' := by
  have h := six_any ⟨#[0, 0, 0, 0, 1, 0]⟩ 0 w (by decide) (by omega)
  rw [show numAt ⟨#[0, 0, 0, 0, 1, 0]⟩ 0 6 = 256 from by rfl, show errAt (ByteArray.size ⟨#[0, 0, 0, 0, 1, 0]⟩) 0 6 = 0 from by rfl] at h
  exact h

set_option maxHeartbeats 400000 in
set_option maxRecDepth 100000 in
theorem alive_any (w : World) : Calls Try.prog 6 #[] w fun e w' => e = .returned (.bool true) ∧ Below w.heap.size w w' := by
  go_enter Try.func6, Try.ntmps6
  go_wp2_with fail
  refine (alive_of _).mono ?_
  rintro e w0 ⟨rfl, hb0⟩
  go_wp2_with fail
  refine (alive_two0 _).mono ?_
  rintro e w1 ⟨rfl, hb1⟩
  go_wp2_with fail
  refine (alive_two1 _).mono ?_
  rintro e w2 ⟨rfl, hb2⟩
  go_wp2_with fail
  refine (alive_set _).mono ?_
  rintro e w3 ⟨rfl, hb3⟩
  go_wp2_with fail
  refine (alive_text _).mono ?_
  rintro e w4 ⟨rfl, hb4⟩
  go_wp2_with fail
  refine (alive_rest3 _).mono ?_
  rintro e w5 ⟨rfl, hb5⟩
  go_wp2_with fail
  refine (alive_rest4 _).mono ?_
  rintro e w6 ⟨rfl, hb6⟩
  go_wp2_with fail
  refine (alive_byte _).mono ?_
  rintro e w7 ⟨rfl, hb7⟩
  go_wp2_with fail
  refine (alive_four _).mono ?_
  rintro e w8 ⟨rfl, hb8⟩
  go_wp2_with fail
  refine (alive_six _).mono ?_
  rintro e w9 ⟨rfl, hb9⟩
  go_wp2
  go_ret
  refine ⟨rfl, ?_⟩
  have k0 := hb0
  have k1 := k0.trans (hb1.mono k0.size)
  have k2 := k1.trans (hb2.mono k1.size)
  have k3 := k2.trans (hb3.mono k2.size)
  have k4 := k3.trans (hb4.mono k3.size)
  have k5 := k4.trans (hb5.mono k4.size)
  have k6 := k5.trans (hb6.mono k5.size)
  have k7 := k6.trans (hb7.mono k6.size)
  have k8 := k7.trans (hb8.mono k7.size)
  have k9 := k8.trans (hb9.mono k8.size)
  exact k9

end Go.Proofs.Ytgjalicobalnaaa
