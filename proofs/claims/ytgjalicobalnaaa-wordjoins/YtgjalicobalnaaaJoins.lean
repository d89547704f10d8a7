/- The walk of the statement WordJoins over the loaded program: it answers true, and no memory that was there has turned. Conditions: texts no longer than may be. -/
import Derived.Test.YtgjalicobalnaaaAlive01
import Derived.OpenShut
namespace Go.Proofs.Ytgjalicobalnaaa
open Go.RowKit

set_option maxHeartbeats 400000 in
theorem joins_long (a b : ByteArray) (k : Nat) (w : World) (ha : a.size ≤ maxLen) (hb : b.size ≤ maxLen) (hl : 4096 < a.size ∨ 4096 < b.size) :
    Calls Try.prog 5 #[.string a, .string b, .int .u8 (k : Int)] w fun e w' => e = .returned (.bool true) ∧ Below w.heap.size w w' := by
  unfold maxLen at ha hb
  by_cases h1 : 4096 < a.size
  · go_enter Try.func5, Try.ntmps5
    go_wp2_with fail
    refine (alive_any _).mono ?_
    rintro e w1 ⟨rfl, hb1⟩
    go_wp2
    go_ret
    exact ⟨rfl, hb1⟩
  · have h2 : 4096 < b.size := by omega
    go_enter Try.func5, Try.ntmps5
    go_wp2_with fail
    refine (alive_any _).mono ?_
    rintro e w1 ⟨rfl, hb1⟩
    go_wp2
    go_ret
    exact ⟨rfl, hb1⟩

theorem of_shift (X : Nat) (w : World) (hX : X < 4294967296) :
    Calls Try.prog 16 #[.int .u64 ((X : Int) / 65536), .int .i64 2] w fun e w' => e = .returned (.string ⟨(ofB (X / 65536) 2).toArray⟩) ∧ Below w.heap.size w w' :=
  of_2 (X / 65536) w (by omega)

set_option maxHeartbeats 400000 in
theorem cut_of (X : Nat) (w : World) :
    Calls Try.prog 18 #[.string ⟨(ofB X 4).toArray⟩, .int .i64 2] w fun e w' => e = .returned (.string ⟨(ofB (X / 65536) 2).toArray⟩) ∧ w' = w := by
  have hsz : (ByteArray.mk (ofB X 4).toArray).size = 4 := rfl
  have hex : (ByteArray.mk (ofB X 4).toArray).extract 0 2 = ⟨(ofB (X / 65536) 2).toArray⟩ := by
    rw [Lib.extract_eq]
    have := ofB_take X 2 2
    simp only [List.drop_zero, Nat.sub_zero]
    rw [this]
  generalize ByteArray.mk (ofB X 4).toArray = s at hsz hex
  generalize ByteArray.mk (ofB (X / 65536) 2).toArray = t at hex
  have h2 : (2 : Int) ≤ (s.size : Int) := by omega
  go_enter Try.func18, Try.ntmps18
  go_wp2
  go_ret
  exact ⟨rfl, rfl⟩

set_option maxHeartbeats 400000 in
set_option maxRecDepth 100000 in
theorem joins_in (a b p q : ByteArray) (k X : Nat) (E : Int) (w : World) (ha : a.size ≤ 4096) (hb : b.size ≤ 4096) (hk : k ≤ 255) (hkb : k ≤ b.size) (hX : X < 4294967296) (hp : p.size ≤ 4096) (hq : q.size ≤ 4096) (hpq : p ++ q = b)
    (F1 : Hid (∀ w, Calls Try.prog 10 #[.string b, .int .i64 (k : Int)] w fun e w' => e = .returned (.tuple #[.int .u32 (X : Nat), .int .i64 E]) ∧ Below w.heap.size w w'))
    (F2 : Hid (∀ w, Calls Try.prog 10 #[.string (a ++ b), .int .i64 ((a.size : Int) + (k : Int))] w fun e w' => e = .returned (.tuple #[.int .u32 (X : Nat), .int .i64 E]) ∧ Below w.heap.size w w'))
    (T1 : Hid (∀ w, Calls Try.prog 12 #[.string b, .int .i64 0, .int .i64 (k : Int)] w fun e w' => e = .returned (.tuple #[.string p, .int .i64 0]) ∧ Below w.heap.size w w'))
    (R1 : Hid (∀ w, Calls Try.prog 14 #[.string b, .int .i64 (k : Int)] w fun e w' => e = .returned (.tuple #[.string q, .int .i64 0]) ∧ Below w.heap.size w w')) :
    Calls Try.prog 5 #[.string a, .string b, .int .u8 (k : Int)] w fun e w' => e = .returned (.bool true) ∧ Below w.heap.size w w' := by
  go_enter Try.func5, Try.ntmps5
  go_wp2_with fail
  refine (unhide F1 _).mono ?_
  rintro e w1 ⟨rfl, hb1⟩
  go_wp2_with fail
  refine (unhide F2 _).mono ?_
  rintro e w2 ⟨rfl, hb2⟩
  go_wp2_with fail
  refine (unhide T1 _).mono ?_
  rintro e w3 ⟨rfl, hb3⟩
  go_wp2_with fail
  refine (unhide R1 _).mono ?_
  rintro e w4 ⟨rfl, hb4⟩
  go_wp2_with fail
  refine (of_4 X _ (by omega)).mono ?_
  rintro e w5 ⟨rfl, hb5⟩
  go_wp2_with fail
  refine (cut_of X _).mono ?_
  rintro e w6 ⟨rfl, rfl⟩
  go_wp2_with fail
  refine (of_shift X _ hX).mono ?_
  rintro e w7 ⟨rfl, hb7⟩
  go_wp2_with fail
  refine (alive_any _).mono ?_
  rintro e w8 ⟨rfl, hb8⟩
  go_wp2
  go_ret
  refine ⟨rfl, ?_⟩
  have k2 := hb1.trans (hb2.mono hb1.size)
  have k3 := k2.trans (hb3.mono k2.size)
  have k4 := k3.trans (hb4.mono k3.size)
  have k5 := k4.trans (hb5.mono k4.size)
  have k7 := k5.trans (hb7.mono k5.size)
  exact k7.trans (hb8.mono k7.size)

set_option maxHeartbeats 400000 in
set_option maxRecDepth 100000 in
theorem joins_out (a b : ByteArray) (k X : Nat) (E : Int) (w : World) (ha : a.size ≤ 4096) (hb : b.size ≤ 4096) (hk : k ≤ 255) (hkb : b.size < k) (hX : X < 4294967296)
    (F1 : Hid (∀ w, Calls Try.prog 10 #[.string b, .int .i64 (k : Int)] w fun e w' => e = .returned (.tuple #[.int .u32 (X : Nat), .int .i64 E]) ∧ Below w.heap.size w w'))
    (F2 : Hid (∀ w, Calls Try.prog 10 #[.string (a ++ b), .int .i64 ((a.size : Int) + (k : Int))] w fun e w' => e = .returned (.tuple #[.int .u32 (X : Nat), .int .i64 E]) ∧ Below w.heap.size w w'))
    (T1 : Hid (∀ w, Calls Try.prog 12 #[.string b, .int .i64 0, .int .i64 (k : Int)] w fun e w' => e = .returned (.tuple #[.string ⟨#[]⟩, .int .i64 10]) ∧ Below w.heap.size w w'))
    (R1 : Hid (∀ w, Calls Try.prog 14 #[.string b, .int .i64 (k : Int)] w fun e w' => e = .returned (.tuple #[.string ⟨#[]⟩, .int .i64 10]) ∧ Below w.heap.size w w')) :
    Calls Try.prog 5 #[.string a, .string b, .int .u8 (k : Int)] w fun e w' => e = .returned (.bool true) ∧ Below w.heap.size w w' := by
  go_enter Try.func5, Try.ntmps5
  go_wp2_with fail
  refine (unhide F1 _).mono ?_
  rintro e w1 ⟨rfl, hb1⟩
  go_wp2_with fail
  refine (unhide F2 _).mono ?_
  rintro e w2 ⟨rfl, hb2⟩
  go_wp2_with fail
  refine (unhide T1 _).mono ?_
  rintro e w3 ⟨rfl, hb3⟩
  go_wp2_with fail
  refine (unhide R1 _).mono ?_
  rintro e w4 ⟨rfl, hb4⟩
  go_wp2_with fail
  refine (of_4 X _ (by omega)).mono ?_
  rintro e w5 ⟨rfl, hb5⟩
  go_wp2_with fail
  refine (cut_of X _).mono ?_
  rintro e w6 ⟨rfl, rfl⟩
  go_wp2_with fail
  refine (of_shift X _ hX).mono ?_
  rintro e w7 ⟨rfl, hb7⟩
  go_wp2_with fail
  refine (alive_any _).mono ?_
  rintro e w8 ⟨rfl, hb8⟩
  go_wp2
  go_ret
  refine ⟨rfl, ?_⟩
  have k2 := hb1.trans (hb2.mono hb1.size)
  have k3 := k2.trans (hb3.mono k2.size)
  have k4 := k3.trans (hb4.mono k3.size)
  have k5 := k4.trans (hb5.mono k4.size)
  have k7 := k5.trans (hb7.mono k5.size)
  exact k7.trans (hb8.mono k7.size)

theorem size_append (a b : ByteArray) : (a ++ b).size = a.size + b.size := ByteArray.size_append
theorem data_append (a b : ByteArray) : (a ++ b).data.toList = a.data.toList ++ b.data.toList := by rw [ByteArray.data_append]; simp
theorem errAt_append (a b : ByteArray) (k : Nat) (n : Int) : errAt (a ++ b).size ((a.size : Int) + (k : Int)) n = errAt b.size (k : Int) n := by
  unfold errAt
  rw [size_append]
  by_cases h : n < 0
  · rw [if_pos (.inr h), if_pos (.inr h)]
  · have e1 : ¬ ((a.size : Int) + (k : Int) < 0 ∨ n < 0) := by omega
    have e2 : ¬ ((k : Int) < 0 ∨ n < 0) := by omega
    rw [if_neg e1, if_neg e2]
    by_cases h2 : (b.size : Int) - (k : Int) < n
    · rw [if_pos h2, if_pos (by omega)]
    · rw [if_neg h2, if_neg (by omega)]
theorem numAt_append (a b : ByteArray) (k : Nat) (n : Int) : numAt (a ++ b) ((a.size : Int) + (k : Int)) n = numAt b (k : Int) n := by
  unfold numAt
  rw [errAt_append]
  have e : field (a ++ b) ((a.size : Int) + (k : Int)) n = field b (k : Int) n := by
    unfold field
    rw [data_append, show ((a.size : Int) + (k : Int)).toNat = a.data.toList.length + k from by rw [← Lib.size_eq]; omega, List.drop_length_add_append]
    rfl
  rw [e]
theorem extract_join (b : ByteArray) (k : Nat) : b.extract 0 k ++ b.extract k b.size = b := by
  apply ByteArray.ext
  apply Array.toList_inj.1
  rw [data_append, Lib.extract_data, Lib.extract_data, List.drop_zero, Nat.sub_zero, Lib.size_eq b, List.take_of_length_le (l := List.drop k b.data.toList) (by rw [List.length_drop]; omega), List.take_append_drop]

theorem joins_any (a b : ByteArray) (k : Nat) (w : World) (ha : a.size ≤ maxLen) (hb : b.size ≤ maxLen) (hk : k ≤ 255) :
    Calls Try.prog 5 #[.string a, .string b, .int .u8 (k : Int)] w fun e w' => e = .returned (.bool true) ∧ Below w.heap.size w w' := by
  by_cases hl : 4096 < a.size ∨ 4096 < b.size
  · exact joins_long a b k w ha hb hl
  · have hX := numAt_lt4 b k
    have hab : (a ++ b).size ≤ maxLen := by rw [size_append]; unfold maxLen; omega
    have F1 := hide (fun w => four_any b k w hb (by omega))
    have F2 := hide (fun w => four_any (a ++ b) ((a.size : Int) + (k : Int)) w hab (by omega))
    rw [errAt_append, numAt_append] at F2
    have T1 := hide (fun w => text_any b 0 k w (by omega) (by omega))
    have R1 := hide (fun w => rest_any b k w (by omega) (by omega))
    by_cases hkb : k ≤ b.size
    · rw [textAt_ok (by omega) (by omega) (by omega), errAt_ok (by omega) (by omega) (by omega), show ((0 : Int) + (k : Int)).toNat = k from by omega] at T1
      have he : errRest b.size k = 0 := by unfold errRest; rw [if_neg (by omega), if_neg (by omega)]
      have hr : restAt b k = b.extract k b.size := by unfold restAt; rw [if_pos he]; rfl
      rw [he, hr] at R1
      exact joins_in a b _ _ k _ _ w (by omega) (by omega) hk hkb hX (by rw [ByteArray.size_extract]; omega) (by rw [ByteArray.size_extract]; omega) (extract_join b k) F1 F2 T1 R1
    · have h10 : errAt b.size 0 k = 10 := errAt_short (by omega) (by omega) (by omega)
      rw [textAt_no (by omega), h10] at T1
      have he : errRest b.size k = 10 := by unfold errRest; rw [if_neg (by omega), if_pos (by omega)]
      have hr : restAt b k = ⟨#[]⟩ := by unfold restAt; rw [if_neg (by omega)]
      rw [he, hr] at R1
      exact joins_out a b k _ _ w (by omega) (by omega) hk (by omega) hX F1 F2 T1 R1

theorem wordJoins_walk (a b : ByteArray) (k : Int) (w0 : a.size ≤ maxLen) (w1 : b.size ≤ maxLen) (w2 : (Lit.int .u8 k).wf = true) (w : World) :
    Calls Try.prog 5 #[.string a, .string b, .int .u8 k] w fun e w' => e = .returned (.bool true) ∧ Below w.heap.size w w' := by
  have h2 := bounds_u8 w2
  have h := joins_any a b k.toNat w w0 w1 (by omega)
  rw [show ((k.toNat : Nat) : Int) = k from by omega] at h
  exact h

end Go.Proofs.Ytgjalicobalnaaa
