/- The contract of the document's Parse (layer 6), over the loaded program; no memory that was there has turned. Conditions: texts of at most 65536 bytes. -/
import Derived.Test.YtnglkadfnacmcaaDoorRd0
import Derived.Laws.BitsAllLaws
namespace Go.Proofs.YtnglkadfnacmcaaDoor
open Go.RowKit

/-- where the reading stands behind k bytes -/
def stK (l : List UInt8) (k : Nat) : Nat × Nat := if k ≤ l.length then (l.take k).foldl rstep (0, 0) else (rfin (l.foldl rstep (0, 0)), 0)
theorem stK_lt (l : List UInt8) (k : Nat) : (stK l k).1 < 4294967296 ∧ (stK l k).2 < 65536 := by
  unfold stK
  split
  · exact rfold_lt _
  · have := rfold_lt l
    refine ⟨?_, by simp⟩
    show rfin _ < _
    unfold rfin
    omega
theorem stK_next (l : List UInt8) (k : Nat) (h : k < l.length) : stK l (k + 1) = rstep (stK l k) l[k] := by
  unfold stK
  rw [if_pos (by omega), if_pos (by omega), List.take_succ_eq_append_getElem h, List.foldl_append]
  rfl
theorem stK_nextB (s : ByteArray) (k : Nat) (h : k < s.size) : stK s.data.toList (k + 1) = rstep (stK s.data.toList k) s[k] := stK_next s.data.toList k (by rw [← Lib.size_eq]; exact h)
theorem stK_last (l : List UInt8) : stK l (l.length + 1) = (rfin (stK l l.length), 0) := by
  unfold stK
  rw [if_neg (by omega), if_pos (Nat.le_refl _), List.take_of_length_le (Nat.le_refl _)]
theorem and255 (n : Nat) (h : n < 65536) : bits .and .u32 (n : Int) 255 = ((n % 256 : Nat) : Int) := by
  rw [show (255 : Int) = ((255 : Nat) : Int) from rfl, u32_and_nat n 255 (by omega) (by omega), show (255 : Nat) = 2 ^ 8 - 1 from rfl, Nat.and_two_pow_sub_one_eq_mod]
theorem or8 (x m : Nat) (hm : m < 256) : bits .or .u32 ((x : Int) * 256 % 4294967296) (m : Int) = ((x * 256 % 4294967296 + m : Nat) : Int) := by
  have e : ((x : Int) * 256 % 4294967296) = ((x * 256 % 4294967296 : Nat) : Int) := by omega
  rw [e, u32_or_nat _ m (by omega) (by omega)]
  have h1 : x * 256 % 4294967296 = 2 ^ 8 * (x % 16777216) := by omega
  rw [h1, Nat.two_pow_add_eq_or_of_lt (i := 8) (by omega)]

theorem and16 (y c : Nat) : bits .and .u32 ((10 * (y : Int) + (c : Int) - 48) % 4294967296) 65535 = (((10 * y + c + 65488) % 65536 : Nat) : Int) := by
  obtain ⟨Z, hZ⟩ : ∃ Z : Nat, (10 * (y : Int) + (c : Int) - 48) % 4294967296 = (Z : Int) := ⟨((10 * (y : Int) + (c : Int) - 48) % 4294967296).toNat, by omega⟩
  have hZl : Z < 4294967296 := by omega
  rw [hZ, show (65535 : Int) = ((65535 : Nat) : Int) from rfl, u32_and_nat Z 65535 hZl (by omega), show (65535 : Nat) = 2 ^ 16 - 1 from rfl, Nat.and_two_pow_sub_one_eq_mod]
  have : Z % 65536 = (10 * y + c + 65488) % 65536 := by omega
  exact congrArg _ this

set_option maxRecDepth 20000 in
set_option maxHeartbeats 1000000 in
theorem rparse_eq (s : ByteArray) (hs : s.size ≤ 65536) (w : World) (R : Nat) (T : ByteArray) (HR : Hid ((stK s.data.toList (s.size + 1)).1 = R)) (hb : (T.toList == s.toList) = true)
    (H : Hid (∀ w, Calls Tryd.prog 12 #[.int .u32 (R : Int)] w fun e w' => e = .returned (.string T) ∧ Below w.heap.size w w')) :
    Calls Tryd.prog 10 #[.string s] w fun e w' => e = .returned (.tuple #[.int .u32 (R : Int), .int .i64 0]) ∧ Below w.heap.size w w' := by
  go_enter Tryd.func10, Tryd.ntmps10
  go_wp2
  go_loop [4, 5, 6] (fun ip n i => ∃ k x y : Nat, k ≤ s.size + 1 ∧ i = .int .i64 (k : Int) ∧ (x, y) = stK s.data.toList k ∧ ip = .int .u32 (x : Int) ∧ n = .int .u32 (y : Int)) (fun _ _ i => s.size + 1 - (intOf i).toNat)
  case atStart => exact ⟨0, 0, 0, Nat.zero_le _, rfl, rfl, rfl, rfl⟩
  case round =>
    obtain ⟨k, x, y, hk, rfl, hst, rfl, rfl⟩ := hrel
    have hl := stK_lt s.data.toList k
    rw [← hst] at hl
    obtain ⟨hx, hy⟩ := hl
    have hx : x < 4294967296 := hx
    have hy : y < 65536 := hy
    have HST := hide hst
    have HB1 := hide (and255 y hy)
    have HB2 := hide (or8 x (y % 256) (by omega))
    clear hst
    by_cases h1 : k < s.size
    · have HN := hide (stK_nextB s k h1)
      have hc := s[k].toNat_lt
      have HB3 := hide (and16 y s[k].toNat)
      by_cases h46 : s[k] = 46
      · have hd : ((s[k].toNat : Int) == 46) = true := by rw [h46]; rfl
        have HN2 : Hid ((x * 256 % 4294967296 + y % 256, 0) = stK s.data.toList (k + 1)) := by rw [unhide HN, ← unhide HST, h46, rstep_dot]; exact rfl
        go_wp2
        rw [unhide HB1, unhide HB2]
        go_round
        case rel => exact ⟨k + 1, x * 256 % 4294967296 + y % 256, 0, by omega, by go_num, unhide HN2, rfl, rfl⟩
        case measure => simp [intOf]; omega
      · have hd : ((s[k].toNat : Int) == 46) = false := by
          apply Bool.eq_false_iff.2
          intro e
          rw [beq_iff_eq] at e
          apply h46
          apply UInt8.toNat_inj.1
          have : (46 : UInt8).toNat = 46 := rfl
          omega
        have HN2 : Hid ((x, (10 * y + s[k].toNat + 65488) % 65536) = stK s.data.toList (k + 1)) := by
          rw [unhide HN, ← unhide HST]
          unfold rstep
          rw [if_neg h46]
          exact rfl
        go_wp2
        rw [unhide HB3]
        go_round
        case rel => exact ⟨k + 1, x, (10 * y + s[k].toNat + 65488) % 65536, by omega, by go_num, unhide HN2, rfl, rfl⟩
        case measure => simp [intOf]; omega
    · by_cases h2 : k = s.size
      · subst h2
        have HN2 : Hid ((x * 256 % 4294967296 + y % 256, 0) = stK s.data.toList (s.size + 1)) := by
          have := stK_last s.data.toList
          rw [← Lib.size_eq, ← unhide HST, rfin_eq] at this
          exact this.symm
        go_wp2
        rw [unhide HB1, unhide HB2]
        go_round
        case rel => exact ⟨s.size + 1, x * 256 % 4294967296 + y % 256, 0, by omega, by go_num, unhide HN2, rfl, rfl⟩
        case measure => simp [intOf]
      · obtain rfl : k = s.size + 1 := by omega
        have hR : x = R := by
          have := unhide HR
          rw [← unhide HST] at this
          exact this
        subst hR
        clear HB1 HB2
        go_wp2_with fail
        refine (unhide H _).mono ?_
        rintro e w1 ⟨rfl, b1⟩
        go_wp2_with fail
        go_ret2
        exact ⟨rfl, b1⟩

set_option maxRecDepth 20000 in
set_option maxHeartbeats 1000000 in
theorem rparse_ne (s : ByteArray) (hs : s.size ≤ 65536) (w : World) (R : Nat) (T : ByteArray) (HR : Hid ((stK s.data.toList (s.size + 1)).1 = R)) (hb : (T.toList == s.toList) = false)
    (H : Hid (∀ w, Calls Tryd.prog 12 #[.int .u32 (R : Int)] w fun e w' => e = .returned (.string T) ∧ Below w.heap.size w w')) :
    Calls Tryd.prog 10 #[.string s] w fun e w' => e = .returned (.tuple #[.int .u32 0, .int .i64 8]) ∧ Below w.heap.size w w' := by
  go_enter Tryd.func10, Tryd.ntmps10
  go_wp2
  go_loop [4, 5, 6] (fun ip n i => ∃ k x y : Nat, k ≤ s.size + 1 ∧ i = .int .i64 (k : Int) ∧ (x, y) = stK s.data.toList k ∧ ip = .int .u32 (x : Int) ∧ n = .int .u32 (y : Int)) (fun _ _ i => s.size + 1 - (intOf i).toNat)
  case atStart => exact ⟨0, 0, 0, Nat.zero_le _, rfl, rfl, rfl, rfl⟩
  case round =>
    obtain ⟨k, x, y, hk, rfl, hst, rfl, rfl⟩ := hrel
    have hl := stK_lt s.data.toList k
    rw [← hst] at hl
    obtain ⟨hx, hy⟩ := hl
    have hx : x < 4294967296 := hx
    have hy : y < 65536 := hy
    have HST := hide hst
    have HB1 := hide (and255 y hy)
    have HB2 := hide (or8 x (y % 256) (by omega))
    clear hst
    by_cases h1 : k < s.size
    · have HN := hide (stK_nextB s k h1)
      have hc := s[k].toNat_lt
      have HB3 := hide (and16 y s[k].toNat)
      by_cases h46 : s[k] = 46
      · have hd : ((s[k].toNat : Int) == 46) = true := by rw [h46]; rfl
        have HN2 : Hid ((x * 256 % 4294967296 + y % 256, 0) = stK s.data.toList (k + 1)) := by rw [unhide HN, ← unhide HST, h46, rstep_dot]; exact rfl
        go_wp2
        rw [unhide HB1, unhide HB2]
        go_round
        case rel => exact ⟨k + 1, x * 256 % 4294967296 + y % 256, 0, by omega, by go_num, unhide HN2, rfl, rfl⟩
        case measure => simp [intOf]; omega
      · have hd : ((s[k].toNat : Int) == 46) = false := by
          apply Bool.eq_false_iff.2
          intro e
          rw [beq_iff_eq] at e
          apply h46
          apply UInt8.toNat_inj.1
          have : (46 : UInt8).toNat = 46 := rfl
          omega
        have HN2 : Hid ((x, (10 * y + s[k].toNat + 65488) % 65536) = stK s.data.toList (k + 1)) := by
          rw [unhide HN, ← unhide HST]
          unfold rstep
          rw [if_neg h46]
          exact rfl
        go_wp2
        rw [unhide HB3]
        go_round
        case rel => exact ⟨k + 1, x, (10 * y + s[k].toNat + 65488) % 65536, by omega, by go_num, unhide HN2, rfl, rfl⟩
        case measure => simp [intOf]; omega
    · by_cases h2 : k = s.size
      · subst h2
        have HN2 : Hid ((x * 256 % 4294967296 + y % 256, 0) = stK s.data.toList (s.size + 1)) := by
          have := stK_last s.data.toList
          rw [← Lib.size_eq, ← unhide HST, rfin_eq] at this
          exact this.symm
        go_wp2
        rw [unhide HB1, unhide HB2]
        go_round
        case rel => exact ⟨s.size + 1, x * 256 % 4294967296 + y % 256, 0, by omega, by go_num, unhide HN2, rfl, rfl⟩
        case measure => simp [intOf]
      · obtain rfl : k = s.size + 1 := by omega
        have hR : x = R := by
          have := unhide HR
          rw [← unhide HST] at this
          exact this
        subst hR
        clear HB1 HB2
        go_wp2_with fail
        refine (unhide H _).mono ?_
        rintro e w1 ⟨rfl, b1⟩
        go_wp2_with fail
        go_ret2
        exact ⟨rfl, b1⟩

theorem stK_all (l : List UInt8) : (stK l (l.length + 1)).1 = rfin (l.foldl rstep (0, 0)) := by
  unfold stK
  rw [if_neg (by omega)]

theorem rparse_ok (s : ByteArray) (hs : s.size ≤ 65536) (ip : Nat) (h : addrOf s.data.toList = some ip) (w : World) :
    Calls Tryd.prog 10 #[.string s] w fun e w' => e = .returned (.tuple #[.int .u32 (ip : Int), .int .i64 0]) ∧ Below w.heap.size w w' := by
  obtain ⟨hi, hl⟩ := addrOf_some h
  refine rparse_eq s hs w ip ⟨(txtI ip).toArray⟩ ?_ ?_ (fun w => rtext_any ip w hi)
  · have := stK_all s.data.toList
    rw [← Lib.size_eq] at this
    show _ = _
    rw [this, hl, rfold_txtI hi]
  · rw [Lib.toList_data, Lib.toList_data, hl]
    simp

theorem rparse_no (s : ByteArray) (hs : s.size ≤ 65536) (h : addrOf s.data.toList = none) (w : World) :
    Calls Tryd.prog 10 #[.string s] w fun e w' => e = .returned (.tuple #[.int .u32 0, .int .i64 8]) ∧ Below w.heap.size w w' := by
  have hlt := (stK_lt s.data.toList (s.size + 1)).1
  refine rparse_ne s hs w (stK s.data.toList (s.size + 1)).1 ⟨(txtI (stK s.data.toList (s.size + 1)).1).toArray⟩ rfl ?_ (fun w => rtext_any _ w hlt)
  rw [Lib.toList_data, Lib.toList_data]
  have := addrOf_none h hlt
  simpa using this

end Go.Proofs.YtnglkadfnacmcaaDoor
