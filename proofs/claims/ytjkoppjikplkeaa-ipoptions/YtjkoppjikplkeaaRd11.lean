/- The contract of the document's Decode (layer 10), over the loaded program: what it answers is what the program's does; no memory that was there has turned. Conditions: texts of bounded length. -/
import Derived.Test.YtjkoppjikplkeaaRd10
namespace Go.Proofs.Ytjkoppjikplkeaa
open Go.RowKit

theorem i64_and_nat' (x y : Nat) (hx : x < 65536) (hy : y < 65536) : bits .and .i64 (x : Int) (y : Int) = ((x &&& y : Nat) : Int) := by
  have hlt : x &&& y < 65536 := Nat.lt_of_le_of_lt Nat.and_le_left hx
  show IntKind.i64.wrap ((BitVec.ofInt 64 (x : Int) &&& BitVec.ofInt 64 (y : Int)).toNat : Int) = _
  rw [BitVec.toNat_and, ofInt_u64 x (by omega), ofInt_u64 y (by omega), IntKind.wrap_i64]
  omega

set_option maxHeartbeats 1000000 in
theorem rdec_short (s : ByteArray) (w : World) (a1 : s.size < 20) :
    Calls Try.prog 14 #[.string s] w fun e w' => e = .returned (.tuple #[hd0V, .string ⟨#[]⟩, .int .i64 10]) ∧ Below w.heap.size w w' := by
  have BEL := hide (fun o => below_one w o)
  go_enter Try.func14, Try.ntmps14
  go_wp2_with fail
  refine bodyPost_ret (v := .tuple #[hd0V, .string ⟨#[]⟩, .int .i64 10]) (by simp [results, Try.results14, go_sem]) rfl ⟨rfl, ?_⟩
  exact unhide BEL _

set_option maxHeartbeats 1000000 in
theorem rdec_version (s : ByteArray) (w : World) (x0 : Nat) (a1 : 20 ≤ s.size) (c0 : s[0].toNat = x0) (hv : ((x0 : Int) / 16 != 4) = true) :
    Calls Try.prog 14 #[.string s] w fun e w' => e = .returned (.tuple #[hd0V, .string ⟨#[]⟩, .int .i64 100]) ∧ Below w.heap.size w w' := by
  have BEL := hide (fun o => below_one w o)
  go_enter Try.func14, Try.ntmps14
  go_wp2_with fail
  refine bodyPost_ret (v := .tuple #[hd0V, .string ⟨#[]⟩, .int .i64 100]) (by simp [results, Try.results14, go_sem]) rfl ⟨rfl, ?_⟩
  exact unhide BEL _

set_option maxHeartbeats 1000000 in
theorem rdec_form (s : ByteArray) (w : World) (x0 H : Nat) (a1 : 20 ≤ s.size) (c0 : s[0].toNat = x0) (hv : ((x0 : Int) / 16 != 4) = false) (ha : bits .and .u8 (x0 : Int) 15 = ((x0 % 16 : Nat) : Int)) (hH : 4 * ((x0 : Int) % 16) = (H : Int)) (a2 : H < 20) :
    Calls Try.prog 14 #[.string s] w fun e w' => e = .returned (.tuple #[hd0V, .string ⟨#[]⟩, .int .i64 8]) ∧ Below w.heap.size w w' := by
  have BEL := hide (fun o => below_one w o)
  go_enter Try.func14, Try.ntmps14
  go_wp2_with fail
  refine bodyPost_ret (v := .tuple #[hd0V, .string ⟨#[]⟩, .int .i64 8]) (by simp [results, Try.results14, go_sem]) rfl ⟨rfl, ?_⟩
  exact unhide BEL _

set_option maxHeartbeats 1000000 in
theorem rdec_short2 (s : ByteArray) (w : World) (x0 H : Nat) (a1 : 20 ≤ s.size) (c0 : s[0].toNat = x0) (hv : ((x0 : Int) / 16 != 4) = false) (ha : bits .and .u8 (x0 : Int) 15 = ((x0 % 16 : Nat) : Int)) (hH : 4 * ((x0 : Int) % 16) = (H : Int)) (a2 : 20 ≤ H) (a3 : s.size < H) :
    Calls Try.prog 14 #[.string s] w fun e w' => e = .returned (.tuple #[hd0V, .string ⟨#[]⟩, .int .i64 10]) ∧ Below w.heap.size w w' := by
  have BEL := hide (fun o => below_one w o)
  go_enter Try.func14, Try.ntmps14
  go_wp2_with fail
  refine bodyPost_ret (v := .tuple #[hd0V, .string ⟨#[]⟩, .int .i64 10]) (by simp [results, Try.results14, go_sem]) rfl ⟨rfl, ?_⟩
  exact unhide BEL _

set_option maxHeartbeats 1000000 in
theorem rdec_form2 (s : ByteArray) (w : World) (x0 H P : Nat) (a1 : 20 ≤ s.size) (c0 : s[0].toNat = x0) (hv : ((x0 : Int) / 16 != 4) = false) (ha : bits .and .u8 (x0 : Int) 15 = ((x0 % 16 : Nat) : Int)) (hH : 4 * ((x0 : Int) % 16) = (H : Int)) (a2 : 20 ≤ H) (a3 : H ≤ s.size) (a4 : P < H)
    (R2 : Hid (∀ w, Calls Try.prog 48 #[.string s, .int .i64 2] w fun e w' => e = .returned (.int .i64 (P : Int)) ∧ w' = w)) :
    Calls Try.prog 14 #[.string s] w fun e w' => e = .returned (.tuple #[hd0V, .string ⟨#[]⟩, .int .i64 8]) ∧ Below w.heap.size w w' := by
  have BEL := hide (fun o => below_one w o)
  go_enter Try.func14, Try.ntmps14
  go_wp2_with fail
  refine (unhide R2 _).mono ?_
  rintro e w1 ⟨rfl, rfl⟩
  go_wp2_with fail
  refine bodyPost_ret (v := .tuple #[hd0V, .string ⟨#[]⟩, .int .i64 8]) (by simp [results, Try.results14, go_sem]) rfl ⟨rfl, ?_⟩
  exact unhide BEL _

set_option maxHeartbeats 1000000 in
theorem rdec_short3 (s : ByteArray) (w : World) (x0 H P : Nat) (a1 : 20 ≤ s.size) (c0 : s[0].toNat = x0) (hv : ((x0 : Int) / 16 != 4) = false) (ha : bits .and .u8 (x0 : Int) 15 = ((x0 % 16 : Nat) : Int)) (hH : 4 * ((x0 : Int) % 16) = (H : Int)) (a2 : 20 ≤ H) (a3 : H ≤ s.size) (a4 : H ≤ P) (a5 : s.size < P)
    (R2 : Hid (∀ w, Calls Try.prog 48 #[.string s, .int .i64 2] w fun e w' => e = .returned (.int .i64 (P : Int)) ∧ w' = w)) :
    Calls Try.prog 14 #[.string s] w fun e w' => e = .returned (.tuple #[hd0V, .string ⟨#[]⟩, .int .i64 10]) ∧ Below w.heap.size w w' := by
  have BEL := hide (fun o => below_one w o)
  go_enter Try.func14, Try.ntmps14
  go_wp2_with fail
  refine (unhide R2 _).mono ?_
  rintro e w1 ⟨rfl, rfl⟩
  go_wp2_with fail
  refine bodyPost_ret (v := .tuple #[hd0V, .string ⟨#[]⟩, .int .i64 10]) (by simp [results, Try.results14, go_sem]) rfl ⟨rfl, ?_⟩
  exact unhide BEL _

set_option maxHeartbeats 1000000 in
theorem rdec_sum (s : ByteArray) (w : World) (x0 H P : Nat) (a1 : 20 ≤ s.size) (c0 : s[0].toNat = x0) (hv : ((x0 : Int) / 16 != 4) = false) (ha : bits .and .u8 (x0 : Int) 15 = ((x0 % 16 : Nat) : Int)) (hH : 4 * ((x0 : Int) % 16) = (H : Int)) (a2 : 20 ≤ H) (a3 : H ≤ s.size) (a4 : H ≤ P) (a5 : P ≤ s.size)
    (R2 : Hid (∀ w, Calls Try.prog 48 #[.string s, .int .i64 2] w fun e w' => e = .returned (.int .i64 (P : Int)) ∧ w' = w))
    (RR : Hid (∀ w, Calls Try.prog 49 #[.string (s.extract 0 H)] w fun e w' => e = .returned (.bool false) ∧ w' = w)) :
    Calls Try.prog 14 #[.string s] w fun e w' => e = .returned (.tuple #[hd0V, .string ⟨#[]⟩, .int .i64 101]) ∧ Below w.heap.size w w' := by
  have BEL := hide (fun o => below_one w o)
  go_enter Try.func14, Try.ntmps14
  go_wp2_with fail
  refine (unhide R2 _).mono ?_
  rintro e w1 ⟨rfl, rfl⟩
  go_wp2_with fail
  refine (unhide RR _).mono ?_
  rintro e w1 ⟨rfl, rfl⟩
  go_wp2_with fail
  refine bodyPost_ret (v := .tuple #[hd0V, .string ⟨#[]⟩, .int .i64 101]) (by simp [results, Try.results14, go_sem]) rfl ⟨rfl, ?_⟩
  exact unhide BEL _

set_option maxHeartbeats 1000000 in
theorem rdecode_any (s : ByteArray) (w : World) (hm : s.size ≤ 1073741824) :
    Calls Try.prog 14 #[.string s] w fun e w' => e = .returned (decV s) ∧ Below w.heap.size w w' := by
  by_cases h0 : 20 ≤ s.size
  case neg =>
    have e : decV s = .tuple #[hd0V, .string ⟨#[]⟩, .int .i64 10] := by
      have : decE s = 10 := by unfold decE meaR meaE; rw [if_neg h0]; rfl
      unfold decV; rw [this]; rfl
    rw [e]
    exact rdec_short s w (by omega)
  have c0 := byteAt_eq (s := s) (k := 0) (by omega)
  have l0 := byteAt_lt s.data.toList 0
  have ha := and15 _ l0
  have hH : 4 * (((byteAt s.data.toList 0 : Nat) : Int) % 16) = (hN s : Int) := by unfold hN; omega
  by_cases h1 : byteAt s.data.toList 0 / 16 = 4
  case neg =>
    have e : decV s = .tuple #[hd0V, .string ⟨#[]⟩, .int .i64 100] := by
      have : decE s = 100 := by unfold decE meaR meaE; rw [if_pos h0, if_neg h1]; rfl
      unfold decV; rw [this]; rfl
    rw [e]
    exact rdec_version s w _ h0 c0 (by rw [bne_iff_ne]; omega)
  have hv : (((byteAt s.data.toList 0 : Nat) : Int) / 16 != 4) = false := by
    rw [bne_eq_false_iff_eq]; omega
  have lP := pN_lt s
  have R2 : ∀ w, Calls Try.prog 48 #[.string s, .int .i64 2] w fun e w' => e = .returned (.int .i64 (pN s : Nat)) ∧ w' = w := fun w => rtwo_any s 2 w (by omega) hm
  by_cases h2 : 20 ≤ hN s
  case neg =>
    have e : decV s = .tuple #[hd0V, .string ⟨#[]⟩, .int .i64 8] := by
      have : decE s = 8 := by unfold decE meaR meaE; simp [h0, h1, h2]
      unfold decV; rw [this]; rfl
    rw [e]
    exact rdec_form s w _ _ h0 c0 hv ha hH (by omega)
  by_cases h3 : hN s ≤ s.size
  case neg =>
    have e : decV s = .tuple #[hd0V, .string ⟨#[]⟩, .int .i64 10] := by
      have : decE s = 10 := by unfold decE meaR meaE; simp [h0, h1, h2, h3]
      unfold decV; rw [this]; rfl
    rw [e]
    exact rdec_short2 s w _ _ h0 c0 hv ha hH h2 (by omega)
  by_cases h4 : hN s ≤ pN s
  case neg =>
    have e : decV s = .tuple #[hd0V, .string ⟨#[]⟩, .int .i64 8] := by
      have : decE s = 8 := by unfold decE meaR meaE; simp [h0, h1, h2, h3, h4]
      unfold decV; rw [this]; rfl
    rw [e]
    exact rdec_form2 s w _ _ _ h0 c0 hv ha hH h2 h3 (by omega) R2
  by_cases h5 : pN s ≤ s.size
  case neg =>
    have e : decV s = .tuple #[hd0V, .string ⟨#[]⟩, .int .i64 10] := by
      have : decE s = 10 := by unfold decE meaR meaE; simp [h0, h1, h2, h3, h4, h5]
      unfold decV; rw [this]; rfl
    rw [e]
    exact rdec_short3 s w _ _ _ h0 c0 hv ha hH h2 h3 h4 (by omega) R2
  have hz : meaR s = 0 := by unfold meaR meaE; simp [h0, h1, h2, h3, h4, h5]
  have hx : (s.extract 0 (hN s)).size ≤ 1073741824 := by rw [ByteArray.size_extract]; omega
  have RR : ∀ w, Calls Try.prog 49 #[.string (s.extract 0 (hN s))] w fun e w' => e = .returned (.bool (decide (red (S (s.data.toList.take (hN s))) = 65535))) ∧ w' = w := fun w => by
    have q := rRight_any (s.extract 0 (hN s)) w (by omega)
    have ea : sAdd [s.extract 0 (hN s)] = red (S (s.data.toList.take (hN s))) := by
      unfold sAdd
      rw [cat_one, Lib.extract_eq, Nat.sub_zero]
      rfl
    rw [ea] at q
    exact q
  by_cases h6 : red (S (s.data.toList.take (hN s))) = 65535
  case neg =>
    have e : decV s = .tuple #[hd0V, .string ⟨#[]⟩, .int .i64 101] := by
      have : decE s = 101 := by unfold decE; rw [if_pos hz, if_neg h6]
      unfold decV; rw [this]; rfl
    rw [e]
    rw [decide_eq_false h6] at RR
    exact rdec_sum s w _ _ _ h0 c0 hv ha hH h2 h3 h4 h5 R2 RR
  rw [decide_eq_true h6] at RR
  have lF := twoAt_lt s.data.toList 6
  have l1 := hN_le s
  have l4 : hN s % 4 = 0 := by unfold hN; omega
  have hmay := readR_may s (hN s) h2 l1 h3 l4
  have b1 := byteAt_eq (s := s) (k := 1) (by omega)
  have b8 := byteAt_eq (s := s) (k := 8) (by omega)
  have b9 := byteAt_eq (s := s) (k := 9) (by omega)
  refine rdec_walk s w (byteAt s.data.toList 0) (byteAt s.data.toList 1) (byteAt s.data.toList 8) (byteAt s.data.toList 9) (hN s) (pN s) (twoAt s.data.toList 6) (twoAt s.data.toList 4) (fourAt s.data.toList 12) (fourAt s.data.toList 16) (twoAt s.data.toList 6 &&& 16384) (twoAt s.data.toList 6 &&& 8192) (twoAt s.data.toList 6 % 8192) _ _
    (decide (32768 ≤ twoAt s.data.toList 6)) (decide (wholeB (readR s (hN s)).more (pN s - hN s))) (decide (roomB (readR s (hN s)) (pN s - hN s))) (decV s) (readR s (hN s)) ?_ ?_ hm (Nat.mod_lt _ (by omega)) (twoAt_lt _ _) lP h0 c0 b1 b8 b9 hv ha hH h2 h3 h4 h5 ?_ R2 RR (fun w => rtwo_any s 6 w (by omega) hm) (fun w => same_below (rtwo_any s 4 · (by omega) hm) w) (fun w => same_below (rfour_any s 12 · (by omega) hm) w) (fun w => same_below (rfour_any s 16 · (by omega) hm) w) ?_ ?_ (i64_and_nat' _ 16384 lF (by omega)) (i64_and_nat' _ 8192 lF (by omega)) ?_ (bit_hold _) (bit_more _)
  · unfold readR; rw [Int.mul_comm]
  · show decV s = _
    have d8 : ∀ (k : ¬ (twoAt s.data.toList 6 < 32768 ∧ roomB (readR s (hN s)) (pN s - hN s) ∧ wholeB (readR s (hN s)).more (pN s - hN s))), decV s = .tuple #[hd0V, .string ⟨#[]⟩, .int .i64 8] := fun k => by
      have e : decE s = 8 := by
        unfold decE
        rw [if_pos hz, if_pos h6]
        by_cases g1 : twoAt s.data.toList 6 < 32768
        · rw [if_pos g1, if_neg (fun x => k ⟨g1, x⟩)]
        · rw [if_neg g1]
      unfold decV
      rw [e]
      rfl
    by_cases g1 : twoAt s.data.toList 6 < 32768
    · rw [decide_eq_false (by omega : ¬ 32768 ≤ twoAt s.data.toList 6)]
      by_cases g2 : wholeB (readR s (hN s)).more (pN s - hN s)
      · by_cases g3 : roomB (readR s (hN s)) (pN s - hN s)
        · rw [decide_eq_true g2, decide_eq_true g3]
          have e : decE s = 0 := by unfold decE; rw [if_pos hz, if_pos h6, if_pos g1, if_pos ⟨g3, g2⟩]
          unfold decV
          rw [if_pos e]
          rfl
        · rw [decide_eq_true g2, decide_eq_false g3, d8 (fun x => g3 x.2.1)]; rfl
      · rw [decide_eq_false g2, d8 (fun x => g2 x.2.2)]
        exact (if_neg (by simp)).symm
    · rw [decide_eq_true (by omega : 32768 ≤ twoAt s.data.toList 6), d8 (fun x => g1 x.1)]
      exact (if_neg (by simp)).symm
  · exact decide_eq_decide.2 (by omega)
  · intro w
    rw [show ((pN s : Nat) : Int) - ((hN s : Nat) : Int) = ((pN s - hN s : Nat) : Int) by omega]
    exact rwhole_any (readR s (hN s)) (pN s - hN s) w (by omega)
  · intro w
    rw [show ((pN s : Nat) : Int) - ((hN s : Nat) : Int) = ((pN s - hN s : Nat) : Int) by omega]
    exact rfits_any (readR s (hN s)) (pN s - hN s) w hmay (by omega)
  · rw [← and_8191]; exact i64_and_nat' _ 8191 lF (by omega)

end Go.Proofs.Ytjkoppjikplkeaa
