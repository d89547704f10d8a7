/- The contracts of the document's Of and Num (layer 1) and of its Encode, Decode, Ask and Tell (layer 8), over the loaded program; no memory that was there has turned. Conditions: numbers in their kinds' bounds, texts of bounded length. -/
import Derived.Test.YtkmhhlimhiiciaaAr4
import Derived.Laws.BytesArg
namespace Go.Proofs.Ytkmhhlimhiiciaa
open Go.RowKit

theorem str_append (a b : List UInt8) : (⟨a.toArray⟩ : ByteArray) ++ ⟨b.toArray⟩ = ⟨(a ++ b).toArray⟩ := by
  apply ByteArray.ext
  rw [ByteArray.data_append]
  simp
theorem back1 (W : World) (y : Nat) :
    (convert 48 9 (.slice (some ⟨W.heap.size, 0, none⟩) 1 1)).run Try.prog (W.alloc (.cells #[.int .u8 ((y : Int) % 256)] 5)) = .ok (.string ⟨#[byt y 0]⟩) (W.alloc (.cells #[.int .u8 ((y : Int) % 256)] 5)) :=
  run_convert_bytes_back (P := Try.prog) (W.alloc (.cells #[.int .u8 ((y : Int) % 256)] 5)) 48 9 5 ⟨W.heap.size, 0, none⟩ 1 [byt y 0] Try.underlying48 Try.underlying5 Try.underlying9 (fun j hj => by
    obtain rfl : j = 0 := by simpa using hj
    have ha : (⟨W.heap.size, 0, none⟩ : Addr).add 0 = ⟨W.heap.size, 0, none⟩ := by unfold Addr.add; split <;> simp_all
    rw [ha]
    simp only [World.cell?]
    rw [heap_alloc_new]
    have e : (([byt y 0][0]).toNat : Int) = (y : Int) % 256 := by
      show ((byt y 0).toNat : Int) = _
      rw [byt_toNat]; omega
    rw [e]
    rfl)

theorem ofB_succ (x k y : Nat) (h : x / 256 ^ k = y) : ofB x (k + 1) = byt y 0 :: ofB x k := by
  rw [ofB, ← h, byt_div]; rfl

set_option maxHeartbeats 1000000 in
theorem Of_any (x n : Nat) (w : World) (hx : x < 18446744073709551616) (hn : n ≤ 8) :
    Calls Try.prog 26 #[.int .u64 (x : Int), .int .i64 (n : Int)] w fun e w' => e = .returned (.string ⟨(ofB x n).toArray⟩) ∧ Below w.heap.size w w' := by
  go_enter Try.func26, Try.ntmps26
  go_wp2
  go_loopw [0, 5, 6] (fun a s i wr => ∃ (k y : Nat) (t : ByteArray), k ≤ n ∧ y < 18446744073709551616 ∧ x / 256 ^ k = y ∧ t = ⟨(ofB x k).toArray⟩ ∧ a = .int .u64 (y : Int) ∧ s = .string t ∧ i = .int .i64 (k : Int) ∧ Below w.heap.size w wr) (fun _ _ i _ => n - (intOf i).toNat)
  case atStart => exact ⟨0, x, ⟨#[]⟩, Nat.zero_le _, hx, by simp, rfl, rfl, rfl, rfl, Below.refl _ _⟩
  case round =>
    obtain ⟨k, y, t, hk, hy, hxy, ht, rfl, rfl, rfl, hB⟩ := hrel
    have hts : t.size ≤ 8 := by
      rw [ht]; show (ofB x k).toArray.size ≤ 8; rw [List.size_toArray, ofB_length]; omega
    have HXY := hide hxy
    have HT := hide ht
    clear hxy ht
    by_cases hlt : k < n
    · have hg : decide (k < 8) = true := decide_eq_true (by omega)
      have hbk := fun W => back1 W y
      go_wp2
      go_roundw
      case rel => exact ⟨k + 1, y / 256, ⟨(ofB x (k + 1)).toArray⟩, by omega, by omega, by rw [← unhide HXY, Nat.div_div_eq_div_mul, Nat.pow_succ], rfl, by go_num, by rw [unhide HT, ofB_succ x k y (unhide HXY), show (⟨#[byt y 0]⟩ : ByteArray) = ⟨[byt y 0].toArray⟩ from rfl, str_append]; rfl, by go_num, hB.alloc hB.size _⟩
      case measure => simp [intOf]; omega
    · have hg : decide (k < n) = false := decide_eq_false hlt
      go_wp2
      go_ret
      refine ⟨?_, hB⟩
      obtain rfl : k = n := by omega
      rw [← unhide HT]
      rfl

theorem fld_succ (s : ByteArray) (k j : Nat) (h : k + j < s.size) : fld s k (j + 1) = fld s k j ++ [s[k + j]] := by
  unfold fld
  have hl : k + j < s.data.toList.length := by rw [← Lib.size_eq]; exact h
  have hj : j < (s.data.toList.drop k).length := by rw [List.length_drop]; omega
  rw [List.take_succ_eq_append_getElem hj, List.getElem_drop]
  rfl
theorem u64_step {x y c : Nat} (h : Hid (y = 256 * x + c)) : Value.int .u64 (256 * (x : Int) + (c : Int)) = Value.int .u64 (y : Int) := by
  rw [unhide h]
  congr 1

set_option maxHeartbeats 400000 in
theorem Num_ok (s : ByteArray) (k n : Nat) (w : World) (hs : s.size ≤ maxLen) (hn : n ≤ 6) (h : k + n ≤ s.size) :
    Calls Try.prog 30 #[.string s, .int .i64 (k : Int), .int .i64 (n : Int)] w fun e w' => e = .returned (.tuple #[.int .u64 (num (fld s k n) : Nat), .int .i64 0]) ∧ w' = w := by
  unfold maxLen at hs
  have g1 : decide (s.size < k) = false := decide_eq_false (by omega)
  have g2 : decide ((s.size : Int) - (k : Int) < (n : Int)) = false := decide_eq_false (by omega)
  go_enter Try.func30, Try.ntmps30
  go_wp2
  go_loop [8, 9] (fun x i => ∃ j : Nat, j ≤ n ∧ i = .int .i64 (j : Int) ∧ x = .int .u64 (num (fld s k j) : Nat)) (fun _ i => n - (intOf i).toNat)
  case atStart => exact ⟨0, Nat.zero_le _, rfl, rfl⟩
  case round =>
    obtain ⟨j, hj, rfl, rfl⟩ := hrel
    have hlt := fld_lt s k j
    have hp : 256 ^ j ≤ 256 ^ 6 := Nat.pow_le_pow_right (by omega) (by omega)
    have hq : num (fld s k j) < 281474976710656 := by simp at hp; omega
    clear hlt hp
    by_cases hl : j < n
    · have hx := fld_succ s k j (by omega)
      have HX := hide (show num (fld s k (j + 1)) = 256 * num (fld s k j) + (s[k + j]).toNat by rw [hx, num_snoc])
      clear hx
      have hc := (s[k + j]).toNat_lt
      go_wp2
      go_round
      case rel => exact ⟨j + 1, by omega, by go_num, u64_step HX⟩
      case measure => simp [intOf]; omega
    · go_wp2
      go_ret2
      have e : j = n := by omega
      subst e
      exact ⟨rfl, rfl⟩

set_option maxHeartbeats 1000000 in
theorem rask_any (a i j : Nat) (w : World) :
    Calls Try.prog 15 #[.int .u64 (a : Int), .int .u32 (i : Int), .int .u32 (j : Int)] w fun e w' => e = .returned (ar 1 a i 0 j) ∧ Below w.heap.size w w' := by
  have BEL := hide (fun o => below_one w o)
  go_enter Try.func15, Try.ntmps15
  go_wp2_with fail
  refine bodyPost_ret (v := ar 1 a i 0 j) (by simp [results, Try.results15, go_sem]) rfl ⟨rfl, ?_⟩
  exact unhide BEL _

set_option maxHeartbeats 1000000 in
theorem rtell_no (o f i t j a : Nat) (w : World) (h : ((o : Int) == 1) = false) :
    Calls Try.prog 13 #[ar o f i t j, .int .u64 (a : Int)] w fun e w' => e = .returned (.tuple #[ar0, .bool false]) ∧ Below w.heap.size w w' := by
  have BEL := hide (fun o o' => bel2 w o o')
  go_enter Try.func13, Try.ntmps13
  go_wp2_with fail
  refine bodyPost_ret (v := .tuple #[ar0, .bool false]) (by simp [results, Try.results13, go_sem]) rfl ⟨rfl, ?_⟩
  exact unhide BEL _ _

set_option maxHeartbeats 1000000 in
theorem rtell_yes (f i t j a : Nat) (w : World) :
    Calls Try.prog 13 #[ar 1 f i t j, .int .u64 (a : Int)] w fun e w' => e = .returned (.tuple #[ar 2 a j f i, .bool true]) ∧ Below w.heap.size w w' := by
  have BEL := hide (fun o o' => bel2 w o o')
  go_enter Try.func13, Try.ntmps13
  go_wp2_with fail
  refine bodyPost_ret (v := .tuple #[ar 2 a j f i, .bool true]) (by simp [results, Try.results13, go_sem]) rfl ⟨rfl, ?_⟩
  exact unhide BEL _ _

theorem rtell_any {o f i t j a : Nat} (w : World) {O F I T J : Nat} {b : Bool} (h : TelIs o f i j a O F I T J b) :
    Calls Try.prog 13 #[ar o f i t j, .int .u64 (a : Int)] w fun e w' => e = .returned (.tuple #[ar O F I T J, .bool b]) ∧ Below w.heap.size w w' := by
  rcases h with ⟨h, rfl, rfl, rfl, rfl, rfl, rfl⟩ | ⟨rfl, rfl, rfl, rfl, rfl, rfl, rfl⟩
  · exact rtell_no _ _ _ _ _ _ w ((eqI1 _).trans h)
  · exact rtell_yes _ _ _ _ _ w

set_option maxHeartbeats 1000000 in
theorem rdec_short (s : ByteArray) (w : World) (h : s.size < 28) :
    Calls Try.prog 11 #[.string s] w fun e w' => e = .returned (.tuple #[ar0, .int .i64 10]) ∧ Below w.heap.size w w' := by
  have BEL := hide (fun o => below_one w o)
  go_enter Try.func11, Try.ntmps11
  go_wp2_with fail
  refine bodyPost_ret (v := .tuple #[ar0, .int .i64 10]) (by simp [results, Try.results11, go_sem]) rfl ⟨rfl, ?_⟩
  exact unhide BEL _

set_option maxHeartbeats 1000000 in
theorem rdec_head (s : ByteArray) (w : World) (h : 28 ≤ s.size) (hh : ((s.extract 0 6).toList == [0, 1, 8, 0, 6, 4]) = false) :
    Calls Try.prog 11 #[.string s] w fun e w' => e = .returned (.tuple #[ar0, .int .i64 80]) ∧ Below w.heap.size w w' := by
  have BEL := hide (fun o => below_one w o)
  go_enter Try.func11, Try.ntmps11
  go_wp2_with fail
  refine bodyPost_ret (v := .tuple #[ar0, .int .i64 80]) (by simp [results, Try.results11, go_sem]) rfl ⟨rfl, ?_⟩
  exact unhide BEL _

set_option maxHeartbeats 1000000 in
theorem rdec_body (s : ByteArray) (w : World) (O F I T J : Nat) (h : 28 ≤ s.size) (hh : ((s.extract 0 6).toList == [0, 1, 8, 0, 6, 4]) = true) (g1 g2 : Bool) (e1 : ((O : Int) == 1) = g1) (e2 : ((O : Int) == 2) = g2)
    (ho : O < 65536) (hi : I < 4294967296) (hj : J < 4294967296)
    (H1 : Hid (∀ w, Calls Try.prog 30 #[.string s, .int .i64 6, .int .i64 2] w fun e w' => e = .returned (.tuple #[.int .u64 (O : Int), .int .i64 0]) ∧ w' = w))
    (H2 : Hid (∀ w, Calls Try.prog 30 #[.string s, .int .i64 8, .int .i64 6] w fun e w' => e = .returned (.tuple #[.int .u64 (F : Int), .int .i64 0]) ∧ w' = w))
    (H3 : Hid (∀ w, Calls Try.prog 30 #[.string s, .int .i64 14, .int .i64 4] w fun e w' => e = .returned (.tuple #[.int .u64 (I : Int), .int .i64 0]) ∧ w' = w))
    (H4 : Hid (∀ w, Calls Try.prog 30 #[.string s, .int .i64 18, .int .i64 6] w fun e w' => e = .returned (.tuple #[.int .u64 (T : Int), .int .i64 0]) ∧ w' = w))
    (H5 : Hid (∀ w, Calls Try.prog 30 #[.string s, .int .i64 24, .int .i64 4] w fun e w' => e = .returned (.tuple #[.int .u64 (J : Int), .int .i64 0]) ∧ w' = w)) :
    Calls Try.prog 11 #[.string s] w fun e w' => e = .returned (.tuple #[if g1 || g2 then ar O F I T J else ar0, .int .i64 (if g1 || g2 then 0 else 8)]) ∧ Below w.heap.size w w' := by
  have BEL := hide (fun o => below_one w o)
  go_enter Try.func11, Try.ntmps11
  go_wp2_with fail
  refine (unhide H1 _).mono ?_
  rintro e w1 ⟨rfl, rfl⟩
  clear H1
  go_wp2_with fail
  refine (unhide H2 _).mono ?_
  rintro e w1 ⟨rfl, rfl⟩
  clear H2
  go_wp2_with fail
  refine (unhide H3 _).mono ?_
  rintro e w1 ⟨rfl, rfl⟩
  clear H3
  go_wp2_with fail
  refine (unhide H4 _).mono ?_
  rintro e w1 ⟨rfl, rfl⟩
  clear H4
  go_wp2_with fail
  refine (unhide H5 _).mono ?_
  rintro e w1 ⟨rfl, rfl⟩
  clear H5
  cases g1
  · have n1 : ((O : Int) != 1) = true := by unfold bne; rw [e1]; rfl
    cases g2
    · have n2 : ((O : Int) != 2) = true := by unfold bne; rw [e2]; rfl
      clear e1 e2
      go_wp2_with fail
      refine bodyPost_ret (v := .tuple #[ar0, .int .i64 8]) (by simp [results, Try.results11, go_sem]) rfl ⟨rfl, ?_⟩
      exact unhide BEL _
    · have n2 : ((O : Int) != 2) = false := by unfold bne; rw [e2]; rfl
      clear e1 e2
      go_wp2_with fail
      refine bodyPost_ret (v := .tuple #[ar O F I T J, .int .i64 0]) (by simp [results, Try.results11, go_sem]) rfl ⟨rfl, ?_⟩
      exact unhide BEL _
  · have n1 : ((O : Int) != 1) = false := by unfold bne; rw [e1]; rfl
    clear e1 e2
    go_wp2_with fail
    refine bodyPost_ret (v := .tuple #[ar O F I T J, .int .i64 0]) (by simp [results, Try.results11, go_sem]) rfl ⟨rfl, ?_⟩
    exact unhide BEL _

theorem kn_or {O : Nat} {b : Bool} (h : kn O = b) : (((O : Int) == 1) || ((O : Int) == 2)) = b := by rw [eqI1, eqI2]; exact h
theorem rdecode_any (s : ByteArray) (w : World) (hs : s.size ≤ maxLen) {O F I T J : Nat} {e : Int} (h : DecIs s O F I T J e) :
    Calls Try.prog 11 #[.string s] w fun x w' => x = .returned (.tuple #[ar O F I T J, .int .i64 e]) ∧ Below w.heap.size w w' := by
  rcases h with ⟨h, rfl, rfl, rfl, rfl, rfl, rfl⟩ | ⟨⟨h1, h2⟩, rfl, rfl, rfl, rfl, rfl, rfl⟩ | ⟨⟨h1, h2, h3⟩, rfl, rfl, rfl, rfl, rfl, rfl⟩ | ⟨⟨h1, h2, h3⟩, rfl, rfl, rfl, rfl, rfl, rfl⟩
  · exact rdec_short s w h
  · exact rdec_head s w h1 h2
  · have := rdec_body s w _ _ _ _ _ h1 h2 _ _ rfl rfl (fld_lt s 6 2) (fld_lt s 14 4) (fld_lt s 24 4) (fun w => Num_ok s 6 2 w hs (by omega) (by omega)) (fun w => Num_ok s 8 6 w hs (by omega) (by omega)) (fun w => Num_ok s 14 4 w hs (by omega) (by omega)) (fun w => Num_ok s 18 6 w hs (by omega) (by omega)) (fun w => Num_ok s 24 4 w hs (by omega) (by omega))
    rw [kn_or h3] at this
    exact this
  · have := rdec_body s w _ _ _ _ _ h1 h2 _ _ rfl rfl (fld_lt s 6 2) (fld_lt s 14 4) (fld_lt s 24 4) (fun w => Num_ok s 6 2 w hs (by omega) (by omega)) (fun w => Num_ok s 8 6 w hs (by omega) (by omega)) (fun w => Num_ok s 14 4 w hs (by omega) (by omega)) (fun w => Num_ok s 18 6 w hs (by omega) (by omega)) (fun w => Num_ok s 24 4 w hs (by omega) (by omega))
    rw [kn_or h3] at this
    exact this

end Go.Proofs.Ytkmhhlimhiiciaa
