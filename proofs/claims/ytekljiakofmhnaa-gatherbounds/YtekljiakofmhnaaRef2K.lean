/- The contracts of the document's answer for layer 2 (Add, Of, Right, Turn) and of layer 1's Of and Num, over the loaded program. Conditions: at most 8 bytes of a number (Num: 6), texts of at most 2 to the power of 40 bytes, numbers in their kinds' bounds. -/
import Derived.Test.YtekljiakofmhnaaSum2K
import Derived.Test.YtekljiakofmhnaaWdK
namespace Go.Proofs.Ytekljiakofmhnaa
open Go.RowKit

theorem back1 (W : World) (y : Nat) :
    (convert 88 9 (.slice (some ⟨W.heap.size, 0, none⟩) 1 1)).run Try.prog (W.alloc (.cells #[.int .u8 ((y : Int) % 256)] 5)) = .ok (.string ⟨#[byt y 0]⟩) (W.alloc (.cells #[.int .u8 ((y : Int) % 256)] 5)) :=
  run_convert_bytes_back (P := Try.prog) (W.alloc (.cells #[.int .u8 ((y : Int) % 256)] 5)) 88 9 5 ⟨W.heap.size, 0, none⟩ 1 [byt y 0] Try.underlying88 Try.underlying5 Try.underlying9 (fun j hj => by
    obtain rfl : j = 0 := by simpa using hj
    have ha : (⟨W.heap.size, 0, none⟩ : Addr).add 0 = ⟨W.heap.size, 0, none⟩ := by unfold Addr.add; split <;> simp_all
    rw [ha]
    simp only [World.cell?]
    rw [heap_alloc_new]
    have e : (([byt y 0][0]).toNat : Int) = (y : Int) % 256 := by
      show ((byt y 0).toNat : Int) = _
      rw [byt_toNat]; omega
    rw [e]
    rfl)

theorem ofB_succ (x k y : Nat) (h : x / 256 ^ k = y) : ofB x (k + 1) = byt y 0 :: ofB x k := by
  rw [ofB, ← h, byt_div]; rfl

theorem step_even (r c : Nat) (hr : r ≤ 65535) (hc : c < 256) (h : 65535 < r + 256 * c) : r + 256 * c - 65535 = red (r + 256 * c) := by rw [red_pos (by omega)]; omega

theorem step_odd (r c : Nat) (hr : r ≤ 65535) (hc : c < 256) (h : 65535 < r + c) : r + c - 65535 = red (r + c) := by rw [red_pos (by omega)]; omega

theorem turn_sum (c a b : Nat) (hc : c < 65536) (ha : a < 65536) (hb : b < 65536) :
    65535 - sAdd [⟨(ofB (65535 - c) 2 ++ ofB (65535 - a) 2 ++ ofB b 2).toArray⟩] = turn c a b := by
  unfold sAdd turn
  rw [cat_one]
  show 65535 - red (S (ofB (65535 - c) 2 ++ ofB (65535 - a) 2 ++ ofB b 2)) = _
  rw [S_even (by rw [List.length_append, ofB_length, ofB_length]), S_even (by rw [ofB_length]), S_ofB2 _ (by omega), S_ofB2 _ (by omega), S_ofB2 _ hb]

theorem fld_succ (s : ByteArray) (k j : Nat) (h : k + j < s.size) : fld s k (j + 1) = fld s k j ++ [s[k + j]] := by
  unfold fld
  have hl : k + j < s.data.toList.length := by rw [← Lib.size_eq]; exact h
  have hj : j < (s.data.toList.drop k).length := by rw [List.length_drop]; omega
  rw [List.take_succ_eq_append_getElem hj, List.getElem_drop]
  rfl

theorem u64_step {x y c : Nat} (h : Hid (y = 256 * x + c)) : Value.int .u64 (256 * (x : Int) + (c : Int)) = Value.int .u64 (y : Int) := by
  rw [unhide h]
  congr 1

end Go.Proofs.Ytekljiakofmhnaa
