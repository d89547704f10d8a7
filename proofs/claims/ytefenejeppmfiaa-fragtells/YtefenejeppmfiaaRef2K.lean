/- The contracts of the document's answer for layer 2 (Add, Of, Right, Turn) and of layer 1's Of and Num, over the loaded program. Conditions: at most 8 bytes of a number (Num: 6), texts of at most 2 to the power of 40 bytes, numbers in their kinds' bounds. -/
import Derived.Test.YtefenejeppmfiaaSum2K
import Derived.Test.YtefenejeppmfiaaWdK
namespace Go.Proofs.Ytefenejeppmfiaa
open Go.RowKit

theorem back1 (W : World) (y : Nat) :
    (convert 47 9 (.slice (some ⟨W.heap.size, 0, none⟩) 1 1)).run Try.prog (W.alloc (.cells #[.int .u8 ((y : Int) % 256)] 5)) = .ok (.string ⟨#[byt y 0]⟩) (W.alloc (.cells #[.int .u8 ((y : Int) % 256)] 5)) :=
  run_convert_bytes_back (P := Try.prog) (W.alloc (.cells #[.int .u8 ((y : Int) % 256)] 5)) 47 9 5 ⟨W.heap.size, 0, none⟩ 1 [byt y 0] Try.underlying47 Try.underlying5 Try.underlying9 (fun j hj => by
    obtain rfl : j = 0 := by simpa using hj
    have ha : (⟨W.heap.size, 0, none⟩ : Addr).add 0 = ⟨W.heap.size, 0, none⟩ := by unfold Addr.add; split <;> simp_all
    rw [ha]
    simp only [World.cell?]
    rw [heap_alloc_new]
    have e : (([byt y 0][0]).toNat : Int) = (y : Int) % 256 := by
      show ((byt y 0).toNat : Int) = _
      rw [byt_toNat]; omega
    rw [e]
    rfl)

theorem ofB_succ (x k y : Nat) (h : x / 256 ^ k = y) : ofB x (k + 1) = byt y 0 :: ofB x k := by
  rw [ofB, ← h, byt_div]; rfl

set_option maxHeartbeats 1000000 in
theorem Of_any (x n : Nat) (w : World) (hx : x < 18446744073709551616) (hn : n ≤ 8) :
    Calls Try.prog 54 #[.int .u64 (x : Int), .int .i64 (n : Int)] w fun e w' => e = .returned (.string ⟨(ofB x n).toArray⟩) ∧ Below w.heap.size w w' := by
  go_enter Try.func54, Try.ntmps54
  go_wp2
  go_loopw [0, 5, 6] (fun a s i wr => ∃ (k y : Nat) (t : ByteArray), k ≤ n ∧ y < 18446744073709551616 ∧ x / 256 ^ k = y ∧ t = ⟨(ofB x k).toArray⟩ ∧ a = .int .u64 (y : Int) ∧ s = .string t ∧ i = .int .i64 (k : Int) ∧ Below w.heap.size w wr) (fun _ _ i _ => n - (intOf i).toNat)
  case atStart => exact ⟨0, x, ⟨#[]⟩, Nat.zero_le _, hx, by simp, rfl, rfl, rfl, rfl, Below.refl _ _⟩
  case round =>
    obtain ⟨k, y, t, hk, hy, hxy, ht, rfl, rfl, rfl, hB⟩ := hrel
    have hts : t.size ≤ 8 := by
      rw [ht]; show (ofB x k).toArray.size ≤ 8; rw [List.size_toArray, ofB_length]; omega
    have HXY := hide hxy
    have HT := hide ht
    clear hxy ht
    by_cases hlt : k < n
    · have hg : decide (k < 8) = true := decide_eq_true (by omega)
      have hbk := fun W => back1 W y
      go_wp2
      go_roundw
      case rel => exact ⟨k + 1, y / 256, ⟨(ofB x (k + 1)).toArray⟩, by omega, by omega, by rw [← unhide HXY, Nat.div_div_eq_div_mul, Nat.pow_succ], rfl, by go_num, by rw [unhide HT, ofB_succ x k y (unhide HXY), show (⟨#[byt y 0]⟩ : ByteArray) = ⟨[byt y 0].toArray⟩ from rfl, str_append]; rfl, by go_num, hB.alloc hB.size _⟩
      case measure => simp [intOf]; omega
    · have hg : decide (k < n) = false := decide_eq_false hlt
      go_wp2
      go_ret
      refine ⟨?_, hB⟩
      obtain rfl : k = n := by omega
      rw [← unhide HT]
      rfl

theorem step_even (r c : Nat) (hr : r ≤ 65535) (hc : c < 256) (h : 65535 < r + 256 * c) : r + 256 * c - 65535 = red (r + 256 * c) := by rw [red_pos (by omega)]; omega

theorem step_odd (r c : Nat) (hr : r ≤ 65535) (hc : c < 256) (h : 65535 < r + c) : r + c - 65535 = red (r + c) := by rw [red_pos (by omega)]; omega

set_option maxRecDepth 100000 in
set_option maxHeartbeats 1000000 in
theorem Add_any (s : ByteArray) (w : World) (hs : s.size ≤ 1099511627776) :
    Calls Try.prog 82 #[.string s] w fun e w' => e = .returned (.int .u16 (sAdd [s] : Nat)) ∧ w' = w := by
  go_enter Try.func82, Try.ntmps82
  go_wp2
  go_loop [3, 4] (fun r i => ∃ k m : Nat, k ≤ s.size ∧ m ≤ 65535 ∧ m = red (S (s.data.toList.take k)) ∧ r = .int .i64 (m : Int) ∧ i = .int .i64 (k : Int)) (fun _ i => s.size - (intOf i).toNat)
  case atStart => exact ⟨0, 0, Nat.zero_le _, by omega, rfl, rfl, rfl⟩
  case round =>
    obtain ⟨k, m, hk, hm, hr, rfl, rfl⟩ := hrel
    have HR := hide hr
    clear hr
    have hz := Lib.size_eq s
    by_cases hlt : k < s.size
    · have hc8 := (s[k]).toNat_lt
      have hlen : (s.data.toList.take k).length = k := by rw [List.length_take]; omega
      have HT := hide (take_snoc s k hlt)
      by_cases hev : k % 2 = 0
      · have HS : Hid (red (S (s.data.toList.take (k + 1))) = red (m + 256 * (s[k]).toNat)) := by
          rw [unhide HT, S_snoc_even _ (by rw [hlen]; exact hev), unhide HR, red_add]; exact rfl
        have hev' : (k : Int) % 2 = 0 := by omega
        clear hlen hz
        by_cases h6 : 65535 < m + 256 * (s[k]).toNat
        · have HE := hide (step_even m (s[k]).toNat hm hc8 h6)
          have h7 : (65535 : Int) < (m : Int) + 256 * ((s[k]).toNat : Int) := by omega
          clear h6
          go_wp2
          go_round
          case rel => exact ⟨k + 1, m + 256 * (s[k]).toNat - 65535, by omega, by omega, by rw [unhide HE, unhide HS], vint (by omega), by go_num⟩
          case measure => simp [intOf]; omega
        · have HE := hide (red_small (Nat.le_of_not_lt h6))
          go_wp2
          go_round
          case rel => exact ⟨k + 1, m + 256 * (s[k]).toNat, by omega, by omega, by rw [unhide HS, unhide HE], vint (by omega), by go_num⟩
          case measure => simp [intOf]; omega
      · have HS : Hid (red (S (s.data.toList.take (k + 1))) = red (m + (s[k]).toNat)) := by
          rw [unhide HT, S_snoc_odd _ (by rw [hlen]; omega), unhide HR, red_add]; exact rfl
        have hev' : (k : Int) % 2 = 1 := by omega
        clear hlen hz
        by_cases h6 : 65535 < m + (s[k]).toNat
        · have HE := hide (step_odd m (s[k]).toNat hm hc8 h6)
          have h7 : (65535 : Int) < (m : Int) + ((s[k]).toNat : Int) := by omega
          clear h6
          go_wp2
          go_round
          case rel => exact ⟨k + 1, m + (s[k]).toNat - 65535, by omega, by omega, by rw [unhide HE, unhide HS], vint (by omega), by go_num⟩
          case measure => simp [intOf]; omega
        · have HE := hide (red_small (Nat.le_of_not_lt h6))
          go_wp2
          go_round
          case rel => exact ⟨k + 1, m + (s[k]).toNat, by omega, by omega, by rw [unhide HS, unhide HE], vint (by omega), by go_num⟩
          case measure => simp [intOf]; omega
    · have hm2 : m = sAdd [s] := by
        rw [unhide HR, List.take_of_length_le (by omega), ← cat_one]; rfl
      have HM := hide hm2
      clear hz hm2
      go_wp2
      go_ret
      exact ⟨by rw [← unhide HM]; rfl, rfl⟩

set_option maxHeartbeats 400000 in
theorem rOf_any (s : ByteArray) (w : World) (hs : s.size ≤ 1099511627776) :
    Calls Try.prog 55 #[.string s] w fun e w' => e = .returned (.int .u16 ((65535 - sAdd [s] : Nat) : Int)) ∧ w' = w := by
  have hle := add_le [s]
  have HA := hide (Add_any s w hs)
  generalize sAdd [s] = y at *
  go_enter Try.func55, Try.ntmps55
  go_wp2_with fail
  refine (unhide HA).mono ?_
  rintro e w1 ⟨rfl, rfl⟩
  go_wp2
  go_ret
  refine ⟨?_, rfl⟩
  show Ending.returned (.int .u16 _) = Ending.returned (.int .u16 _)
  congr 2
  omega

theorem turn_sum (c a b : Nat) (hc : c < 65536) (ha : a < 65536) (hb : b < 65536) :
    65535 - sAdd [⟨(ofB (65535 - c) 2 ++ ofB (65535 - a) 2 ++ ofB b 2).toArray⟩] = turn c a b := by
  unfold sAdd turn
  rw [cat_one]
  show 65535 - red (S (ofB (65535 - c) 2 ++ ofB (65535 - a) 2 ++ ofB b 2)) = _
  rw [S_even (by rw [List.length_append, ofB_length, ofB_length]), S_even (by rw [ofB_length]), S_ofB2 _ (by omega), S_ofB2 _ (by omega), S_ofB2 _ hb]

theorem fld_succ (s : ByteArray) (k j : Nat) (h : k + j < s.size) : fld s k (j + 1) = fld s k j ++ [s[k + j]] := by
  unfold fld
  have hl : k + j < s.data.toList.length := by rw [← Lib.size_eq]; exact h
  have hj : j < (s.data.toList.drop k).length := by rw [List.length_drop]; omega
  rw [List.take_succ_eq_append_getElem hj, List.getElem_drop]
  rfl

theorem u64_step {x y c : Nat} (h : Hid (y = 256 * x + c)) : Value.int .u64 (256 * (x : Int) + (c : Int)) = Value.int .u64 (y : Int) := by
  rw [unhide h]
  congr 1

end Go.Proofs.Ytefenejeppmfiaa
