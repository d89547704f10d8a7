/- The contracts of the document's Of and Num (layer 1) and of its Group, For, Decode and Encode (layer 7), over the loaded program; no memory that was there has turned. Conditions: numbers in their kinds' bounds, texts of bounded length. -/
import Derived.Test.YtdgjoconppmihaaEt2
import Derived.Laws.BytesArg
namespace Go.Proofs.Ytdgjoconppmihaa
open Go.RowKit

theorem str_append (a b : List UInt8) : (⟨a.toArray⟩ : ByteArray) ++ ⟨b.toArray⟩ = ⟨(a ++ b).toArray⟩ := by
  apply ByteArray.ext
  rw [ByteArray.data_append]
  simp
theorem back1 (W : World) (y : Nat) :
    (convert 46 9 (.slice (some ⟨W.heap.size, 0, none⟩) 1 1)).run Try.prog (W.alloc (.cells #[.int .u8 ((y : Int) % 256)] 5)) = .ok (.string ⟨#[byt y 0]⟩) (W.alloc (.cells #[.int .u8 ((y : Int) % 256)] 5)) :=
  run_convert_bytes_back (P := Try.prog) (W.alloc (.cells #[.int .u8 ((y : Int) % 256)] 5)) 46 9 5 ⟨W.heap.size, 0, none⟩ 1 [byt y 0] Try.underlying46 Try.underlying5 Try.underlying9 (fun j hj => by
    obtain rfl : j = 0 := by simpa using hj
    have ha : (⟨W.heap.size, 0, none⟩ : Addr).add 0 = ⟨W.heap.size, 0, none⟩ := by unfold Addr.add; split <;> simp_all
    rw [ha]
    simp only [World.cell?]
    rw [heap_alloc_new]
    have e : (([byt y 0][0]).toNat : Int) = (y : Int) % 256 := by
      show ((byt y 0).toNat : Int) = _
      rw [byt_toNat]; omega
    rw [e]
    rfl)

theorem ofB_succ (x k y : Nat) (h : x / 256 ^ k = y) : ofB x (k + 1) = byt y 0 :: ofB x k := by
  rw [ofB, ← h, byt_div]; rfl

set_option maxHeartbeats 1000000 in
theorem Of_any (x n : Nat) (w : World) (hx : x < 18446744073709551616) (hn : n ≤ 8) :
    Calls Try.prog 26 #[.int .u64 (x : Int), .int .i64 (n : Int)] w fun e w' => e = .returned (.string ⟨(ofB x n).toArray⟩) ∧ Below w.heap.size w w' := by
  go_enter Try.func26, Try.ntmps26
  go_wp2
  go_loopw [0, 5, 6] (fun a s i wr => ∃ (k y : Nat) (t : ByteArray), k ≤ n ∧ y < 18446744073709551616 ∧ x / 256 ^ k = y ∧ t = ⟨(ofB x k).toArray⟩ ∧ a = .int .u64 (y : Int) ∧ s = .string t ∧ i = .int .i64 (k : Int) ∧ Below w.heap.size w wr) (fun _ _ i _ => n - (intOf i).toNat)
  case atStart => exact ⟨0, x, ⟨#[]⟩, Nat.zero_le _, hx, by simp, rfl, rfl, rfl, rfl, Below.refl _ _⟩
  case round =>
    obtain ⟨k, y, t, hk, hy, hxy, ht, rfl, rfl, rfl, hB⟩ := hrel
    have hts : t.size ≤ 8 := by
      rw [ht]; show (ofB x k).toArray.size ≤ 8; rw [List.size_toArray, ofB_length]; omega
    have HXY := hide hxy
    have HT := hide ht
    clear hxy ht
    by_cases hlt : k < n
    · have hg : decide (k < 8) = true := decide_eq_true (by omega)
      have hbk := fun W => back1 W y
      go_wp2
      go_roundw
      case rel => exact ⟨k + 1, y / 256, ⟨(ofB x (k + 1)).toArray⟩, by omega, by omega, by rw [← unhide HXY, Nat.div_div_eq_div_mul, Nat.pow_succ], rfl, by go_num, by rw [unhide HT, ofB_succ x k y (unhide HXY), show (⟨#[byt y 0]⟩ : ByteArray) = ⟨[byt y 0].toArray⟩ from rfl, str_append]; rfl, by go_num, hB.alloc hB.size _⟩
      case measure => simp [intOf]; omega
    · have hg : decide (k < n) = false := decide_eq_false hlt
      go_wp2
      go_ret
      refine ⟨?_, hB⟩
      obtain rfl : k = n := by omega
      rw [← unhide HT]
      rfl

theorem fld_succ (s : ByteArray) (k j : Nat) (h : k + j < s.size) : fld s k (j + 1) = fld s k j ++ [s[k + j]] := by
  unfold fld
  have hl : k + j < s.data.toList.length := by rw [← Lib.size_eq]; exact h
  have hj : j < (s.data.toList.drop k).length := by rw [List.length_drop]; omega
  rw [List.take_succ_eq_append_getElem hj, List.getElem_drop]
  rfl
theorem u64_step {x y c : Nat} (h : Hid (y = 256 * x + c)) : Value.int .u64 (256 * (x : Int) + (c : Int)) = Value.int .u64 (y : Int) := by
  rw [unhide h]
  congr 1

set_option maxHeartbeats 400000 in
theorem Num_ok (s : ByteArray) (k n : Nat) (w : World) (hs : s.size ≤ maxLen) (hn : n ≤ 6) (h : k + n ≤ s.size) :
    Calls Try.prog 28 #[.string s, .int .i64 (k : Int), .int .i64 (n : Int)] w fun e w' => e = .returned (.tuple #[.int .u64 (num (fld s k n) : Nat), .int .i64 0]) ∧ w' = w := by
  unfold maxLen at hs
  have g1 : decide (s.size < k) = false := decide_eq_false (by omega)
  have g2 : decide ((s.size : Int) - (k : Int) < (n : Int)) = false := decide_eq_false (by omega)
  go_enter Try.func28, Try.ntmps28
  go_wp2
  go_loop [8, 9] (fun x i => ∃ j : Nat, j ≤ n ∧ i = .int .i64 (j : Int) ∧ x = .int .u64 (num (fld s k j) : Nat)) (fun _ i => n - (intOf i).toNat)
  case atStart => exact ⟨0, Nat.zero_le _, rfl, rfl⟩
  case round =>
    obtain ⟨j, hj, rfl, rfl⟩ := hrel
    have hlt := fld_lt s k j
    have hp : 256 ^ j ≤ 256 ^ 6 := Nat.pow_le_pow_right (by omega) (by omega)
    have hq : num (fld s k j) < 281474976710656 := by simp at hp; omega
    clear hlt hp
    by_cases hl : j < n
    · have hx := fld_succ s k j (by omega)
      have HX := hide (show num (fld s k (j + 1)) = 256 * num (fld s k j) + (s[k + j]).toNat by rw [hx, num_snoc])
      clear hx
      have hc := (s[k + j]).toNat_lt
      go_wp2
      go_round
      case rel => exact ⟨j + 1, by omega, by go_num, u64_step HX⟩
      case measure => simp [intOf]; omega
    · go_wp2
      go_ret2
      have e : j = n := by omega
      subst e
      exact ⟨rfl, rfl⟩

theorem and1 (y : Nat) (h : y < 18446744073709551616) : bits .and .u64 (y : Int) 1 = ((y % 2 : Nat) : Int) := by
  rw [show (1 : Int) = ((1 : Nat) : Int) from rfl, u64_and_nat y 1 h (by omega), show (1 : Nat) = 2 ^ 1 - 1 from rfl, Nat.and_two_pow_sub_one_eq_mod]

set_option maxHeartbeats 400000 in
theorem rgroup_any (x : Nat) (w : World) (hx : x < 18446744073709551616) :
    Calls Try.prog 25 #[.int .u64 (x : Int)] w fun e w' => e = .returned (.bool (grp x)) ∧ w' = w := by
  have ha : bits .and .u64 ((x : Int) / 1099511627776) 1 = (x : Int) / 1099511627776 % 2 := by
    have e := and1 (x / 1099511627776) (by omega)
    rw [show ((x / 1099511627776 : Nat) : Int) = (x : Int) / 1099511627776 from by omega] at e
    rw [e]
    omega
  have hb : ((x : Int) / 1099511627776 % 2 == 1) = grp x := by
    unfold grp
    by_cases h : x / 1099511627776 % 2 = 1
    · rw [h, show (x : Int) / 1099511627776 % 2 = 1 from by omega]; rfl
    · rw [show x / 1099511627776 % 2 = 0 from by omega, show (x : Int) / 1099511627776 % 2 = 0 from by omega]; rfl
  generalize grp x = g at *
  go_enter Try.func25, Try.ntmps25
  go_wp2
  go_ret
  exact ⟨rfl, rfl⟩

set_option maxHeartbeats 400000 in
theorem rfor_any (t f k : Nat) (d : ByteArray) (o : Nat) (w : World) :
    Calls Try.prog 19 #[fr t f k d, .int .u64 (o : Int)] w fun e w' => e = .returned (.bool (forB t o)) ∧ Below w.heap.size w w' := by
  have BEL := hide (below_one w (.cells #[.int .u64 (t : Int), .int .u64 (f : Int), .int .u16 (k : Int), .string d] 26))
  by_cases h1 : t = o
  · have e : forB t o = true := by unfold forB; rw [h1]; simp
    have e1 : ((t : Int) == (o : Int)) = true := by rw [h1]; simp
    rw [e]
    clear h1 e
    go_enter Try.func19, Try.ntmps19
    go_wp2
    go_ret
    exact ⟨rfl, unhide BEL⟩
  · have e1 : ((t : Int) == (o : Int)) = false := by
      apply Bool.eq_false_iff.2
      intro e
      rw [beq_iff_eq] at e
      omega
    by_cases h2 : t = 281474976710655
    · have e : forB t o = true := by unfold forB; rw [h2]; simp
      have e2 : ((t : Int) == 281474976710655) = true := by rw [h2]; rfl
      rw [e]
      clear h1 h2 e
      go_enter Try.func19, Try.ntmps19
      go_wp2
      go_ret
      exact ⟨rfl, unhide BEL⟩
    · have e : forB t o = false := by unfold forB; simp [h1, h2]
      have e2 : ((t : Int) == 281474976710655) = false := by
        apply Bool.eq_false_iff.2
        intro e
        rw [beq_iff_eq] at e
        omega
      rw [e]
      clear h1 h2 e
      go_enter Try.func19, Try.ntmps19
      go_wp2
      go_ret
      exact ⟨rfl, unhide BEL⟩

set_option maxHeartbeats 1000000 in
theorem rdec_short (s : ByteArray) (w : World) (h : s.size < 60) :
    Calls Try.prog 13 #[.string s] w fun e w' => e = .returned (.tuple #[fr0, .int .i64 10]) ∧ Below w.heap.size w w' := by
  go_enter Try.func13, Try.ntmps13
  go_wp2_with fail
  refine bodyPost_ret (v := .tuple #[fr0, .int .i64 10]) (by simp [results, Try.results13, go_sem]) rfl ⟨rfl, ?_⟩
  exact below_one w _

set_option maxHeartbeats 1000000 in
theorem rdec_long (s : ByteArray) (w : World) (h : 65549 < s.size) :
    Calls Try.prog 13 #[.string s] w fun e w' => e = .returned (.tuple #[fr0, .int .i64 4]) ∧ Below w.heap.size w w' := by
  go_enter Try.func13, Try.ntmps13
  go_wp2_with fail
  refine bodyPost_ret (v := .tuple #[fr0, .int .i64 4]) (by simp [results, Try.results13, go_sem]) rfl ⟨rfl, ?_⟩
  exact below_one w _

set_option maxHeartbeats 1000000 in
theorem rdec_body (s : ByteArray) (w : World) (t f k : Nat) (h1 : 60 ≤ s.size) (h2 : s.size ≤ 65549) (g : Bool) (hk : k < 65536)
    (H1 : Hid (∀ w, Calls Try.prog 28 #[.string s, .int .i64 0, .int .i64 6] w fun e w' => e = .returned (.tuple #[.int .u64 (t : Int), .int .i64 0]) ∧ w' = w))
    (H2 : Hid (∀ w, Calls Try.prog 28 #[.string s, .int .i64 6, .int .i64 6] w fun e w' => e = .returned (.tuple #[.int .u64 (f : Int), .int .i64 0]) ∧ w' = w))
    (H3 : Hid (∀ w, Calls Try.prog 28 #[.string s, .int .i64 12, .int .i64 2] w fun e w' => e = .returned (.tuple #[.int .u64 (k : Int), .int .i64 0]) ∧ w' = w))
    (H4 : Hid (∀ w, Calls Try.prog 25 #[.int .u64 (f : Int)] w fun e w' => e = .returned (.bool g) ∧ w' = w)) :
    Calls Try.prog 13 #[.string s] w fun e w' => e = .returned (.tuple #[if g then fr0 else fr t f k (s.extract 14 s.size), .int .i64 (if g then 8 else 0)]) ∧ Below w.heap.size w w' := by
  have BEL := hide (fun o => below_one w o)
  go_enter Try.func13, Try.ntmps13
  go_wp2_with fail
  refine (unhide H1 _).mono ?_
  rintro e w1 ⟨rfl, rfl⟩
  clear H1
  go_wp2_with fail
  refine (unhide H2 _).mono ?_
  rintro e w1 ⟨rfl, rfl⟩
  clear H2
  go_wp2_with fail
  refine (unhide H3 _).mono ?_
  rintro e w1 ⟨rfl, rfl⟩
  clear H3
  go_wp2_with fail
  refine (unhide H4 _).mono ?_
  rintro e w1 ⟨rfl, rfl⟩
  cases g
  · go_wp2_with fail
    refine bodyPost_ret (v := .tuple #[fr t f k (s.extract 14 s.size), .int .i64 0]) (by simp [results, Try.results13, go_sem]) rfl ⟨rfl, ?_⟩
    exact unhide BEL _
  · go_wp2_with fail
    refine bodyPost_ret (v := .tuple #[fr0, .int .i64 8]) (by simp [results, Try.results13, go_sem]) rfl ⟨rfl, ?_⟩
    exact unhide BEL _

theorem rdecode_any (s : ByteArray) (w : World) {t f k : Nat} {d : ByteArray} {e : Int} (h : DecIs s t f k d e) :
    Calls Try.prog 13 #[.string s] w fun x w' => x = .returned (.tuple #[fr t f k d, .int .i64 e]) ∧ Below w.heap.size w w' := by
  rcases h with ⟨h, rfl, rfl, rfl, rfl, rfl⟩ | ⟨h, rfl, rfl, rfl, rfl, rfl⟩ | ⟨⟨h1, h2, h3⟩, rfl, rfl, rfl, rfl, rfl⟩ | ⟨⟨h1, h2, h3⟩, rfl, rfl, rfl, rfl, rfl⟩
  · exact rdec_short s w h
  · exact rdec_long s w h
  · have hm : s.size ≤ maxLen := by unfold maxLen; omega
    exact rdec_body s w _ _ _ h1 h2 true (fld_lt s 12 2) (fun w => Num_ok s 0 6 w hm (by omega) (by omega)) (fun w => Num_ok s 6 6 w hm (by omega) (by omega)) (fun w => Num_ok s 12 2 w hm (by omega) (by omega)) (fun w => by have := rgroup_any (num (fld s 6 6)) w (Nat.lt_trans (fld_lt s 6 6) (by decide)); rw [h3] at this; exact this)
  · have hm : s.size ≤ maxLen := by unfold maxLen; omega
    exact rdec_body s w _ _ _ h1 h2 false (fld_lt s 12 2) (fun w => Num_ok s 0 6 w hm (by omega) (by omega)) (fun w => Num_ok s 6 6 w hm (by omega) (by omega)) (fun w => Num_ok s 12 2 w hm (by omega) (by omega)) (fun w => by have := rgroup_any (num (fld s 6 6)) w (Nat.lt_trans (fld_lt s 6 6) (by decide)); rw [h3] at this; exact this)

end Go.Proofs.Ytdgjoconppmihaa
