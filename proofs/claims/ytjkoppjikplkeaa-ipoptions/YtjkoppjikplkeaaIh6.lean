/- The contract of package ip4's Pass, over the loaded program; no memory that was there has turned. Conditions: texts of bounded length. -/
import Derived.Test.YtjkoppjikplkeaaIh5
namespace Go.Proofs.Ytjkoppjikplkeaa
open Go.RowKit

theorem twoAt_bytes {l : List UInt8} {k : Nat} (h : k + 1 < l.length) : twoAt l k = 256 * byteAt l k + byteAt l (k + 1) := by
  unfold twoAt byteAt
  rw [List.drop_eq_getElem_cons (by omega), List.take_succ_cons, List.drop_eq_getElem_cons h, List.take_succ_cons, List.take_zero, num_cons, num_cons, num_nil]
  simp only [List.getD_eq_getElem?_getD, List.getElem?_eq_getElem (show k < l.length by omega), List.getElem?_eq_getElem h, Option.getD_some]
  simp
  omega
theorem w64 {x : Int} (h0 : 0 ≤ x) (h1 : x < 9223372036854775808) : wrap64 x = x := by unfold wrap64; omega
/-- what is passed on -/
def passL (s : ByteArray) : List UInt8 :=
  s.data.toList.take 8 ++ ofB (twoAt s.data.toList 8 - 256) 2 ++ ofB (turn (twoAt s.data.toList 10) (twoAt s.data.toList 8) (twoAt s.data.toList 8 - 256)) 2 ++ ((s.data.toList.drop 12).take (hN s - 12)) ++ (s.extract (hN s) (pN s)).data.toList
def passE (s : ByteArray) : Int := if decE s = 0 then if byteAt s.data.toList 8 ≤ 1 then 9 else 0 else decE s
def passV (s : ByteArray) : Value := if passE s = 0 then .tuple #[.string ⟨(passL s).toArray⟩, .int .i64 0] else .tuple #[.string ⟨#[]⟩, .int .i64 (passE s)]
theorem decE_mea {s : ByteArray} (h : decE s = 0) : meaR s = 0 := by
  apply Classical.byContradiction
  intro hn
  unfold decE at h
  rw [if_neg hn] at h
  exact hn h

set_option maxHeartbeats 1000000 in
theorem pass_dec (s : ByteArray) (w : World) (e0 : Int) (hne : (e0 != 0) = true)
    (H1 : Hid (∀ w, Calls Try.prog 13 #[.string s] w fun e w' => e = .returned (.tuple #[hd0V, .string ⟨#[]⟩, .int .i64 e0]) ∧ Below w.heap.size w w')) :
    Calls Try.prog 23 #[.string s] w fun e w' => e = .returned (.tuple #[.string ⟨#[]⟩, .int .i64 e0]) ∧ Below w.heap.size w w' := by
  have BEL := hide (fun w o => below_one w o)
  go_enter Try.func23, Try.ntmps23
  go_wp2_with fail
  refine (unhide H1 _).mono ?_
  rintro e w1 ⟨rfl, b1⟩
  go_wp2_with fail
  go_ret2
  exact ⟨rfl, tr2 b1 (unhide BEL _ _)⟩

set_option maxHeartbeats 1000000 in
theorem pass_over (s : ByteArray) (w : World) (h : Rh) (D : ByteArray) (ht : h.ttl ≤ 1)
    (H1 : Hid (∀ w, Calls Try.prog 13 #[.string s] w fun e w' => e = .returned (.tuple #[hdV h, .string D, .int .i64 0]) ∧ Below w.heap.size w w')) :
    Calls Try.prog 23 #[.string s] w fun e w' => e = .returned (.tuple #[.string ⟨#[]⟩, .int .i64 9]) ∧ Below w.heap.size w w' := by
  have BEL := hide (fun w o => below_one w o)
  go_enter Try.func23, Try.ntmps23
  go_wp2_with fail
  refine (unhide H1 _).mono ?_
  rintro e w1 ⟨rfl, b1⟩
  go_wp2_with fail
  go_ret2
  exact ⟨rfl, tr2 b1 (unhide BEL _ _)⟩

set_option maxRecDepth 20000 in
set_option maxHeartbeats 2000000 in
theorem pass_walk (s : ByteArray) (w : World) (h : Rh) (D : ByteArray) (M P was old is ck : Nat) (A1 A2 A R : ByteArray) (ht : ¬ h.ttl ≤ 1) (hP : M + D.size = P) (hs : P ≤ s.size) (hm : s.size ≤ 1073741824) (z1 : A1.size ≤ 2) (z2 : A2.size ≤ 2) (eA : A1 ++ A2 = A)
    (H1 : Hid (∀ w, Calls Try.prog 13 #[.string s] w fun e w' => e = .returned (.tuple #[hdV h, .string D, .int .i64 0]) ∧ Below w.heap.size w w'))
    (H2 : Hid (∀ w, Calls Try.prog 63 #[.string s, .int .i64 8] w fun e w' => e = .returned (.tuple #[.int .u16 (was : Int), .int .i64 0]) ∧ Below w.heap.size w w'))
    (H3 : Hid (∀ w, Calls Try.prog 63 #[.string s, .int .i64 10] w fun e w' => e = .returned (.tuple #[.int .u16 (old : Int), .int .i64 0]) ∧ Below w.heap.size w w'))
    (H4 : Hid (∀ w, Calls Try.prog 33 #[hdV h] w fun e w' => e = .returned (.int .i64 (M : Int)) ∧ Below w.heap.size w w'))
    (H5 : Hid (∀ w, Calls Try.prog 32 #[.int .u64 (is : Int), .int .i64 2] w fun e w' => e = .returned (.string A1) ∧ Below w.heap.size w w'))
    (H6 : Hid (∀ w, Calls Try.prog 65 #[.int .u16 (old : Int), .int .u16 (was : Int), .int .u16 (is : Int)] w fun e w' => e = .returned (.int .u16 (ck : Int)) ∧ Below w.heap.size w w'))
    (H7 : Hid (∀ w, Calls Try.prog 32 #[.int .u64 (ck : Int), .int .i64 2] w fun e w' => e = .returned (.string A2) ∧ Below w.heap.size w w'))
    (H8 : Hid (∀ w, Calls Try.prog 64 #[.string (s.extract 0 P), .int .i64 8, .string A] w fun e w' => e = .returned (.tuple #[.string R, .int .i64 0]) ∧ Below w.heap.size w w'))
    (x1 : IntKind.u16.wrap ((was : Int) - 256) = (is : Int)) (x2 : IntKind.u64.wrap (is : Int) = (is : Int)) (x3 : IntKind.u64.wrap (ck : Int) = (ck : Int)) :
    Calls Try.prog 23 #[.string s] w fun e w' => e = .returned (.tuple #[.string R, .int .i64 0]) ∧ Below w.heap.size w w' := by
  have BEL := hide (fun w o => below_one w o)
  have BX := hide (fun w => HC.box w h 25)
  have n1 : ¬ 9223372036854775807 < A1.size + A2.size := by omega
  have xe : (M : Int) + (D.size : Int) = (P : Int) := by rw [← hP]; rfl
  have x4 : wrap64 ((M : Int) + (D.size : Int)) = (P : Int) := by rw [xe]; exact w64 (Int.natCast_nonneg _) (Int.lt_of_le_of_lt (Int.ofNat_le.2 (Nat.le_trans hs hm)) (by decide))
  have x5 : (P : Int) ≤ (s.size : Int) := Int.ofNat_le.2 hs
  clear z1 z2 hP xe
  go_enter Try.func23, Try.ntmps23
  go_wp2_with fail
  refine (unhide H1 _).mono ?_
  rintro e w1 ⟨rfl, b1⟩
  have B1 := hide (tr2 b1 (unhide BEL w1 (.cells (hdL h).toArray 25)))
  have X1 := hide (unhide BX w1)
  clear b1 H1 BX BEL
  go_wp2_with fail
  refine (unhide H2 _).mono ?_
  rintro e w2 ⟨rfl, b2⟩
  have B2 := hide (tr2 (unhide B1) b2)
  have X2 := hide ((unhide X1).on b2)
  clear B1 X1 b2 H2
  go_wp2_with fail
  refine (unhide H3 _).mono ?_
  rintro e w3 ⟨rfl, b3⟩
  have B3 := hide (tr2 (unhide B2) b3)
  have X3 := hide ((unhide X2).on b3)
  clear B2 X2 b3 H3
  obtain ⟨c0, c1, c2, c3, c4, c5, c6, c7, c8, c9⟩ := unhide X3
  have d0 := cell_regrown c0
  have d1 := cell_regrown c1
  have d2 := cell_regrown c2
  have d3 := cell_regrown c3
  have d4 := cell_regrown c4
  have d5 := cell_regrown c5
  have d6 := cell_regrown c6
  have d7 := cell_regrown c7
  have d8 := cell_regrown c8
  have d9 := cell_regrown c9
  clear c0 c1 c2 c3 c4 c5 c6 c7 c8 c9 X3
  have q1 := rgB (w := w3) (unhide H4)
  have q2 := rgB (w := w3) (unhide H5)
  have q3 := rgB (w := w3) (unhide H6)
  have q4 := rgB (w := w3) (unhide H7)
  have q5 := rgB (w := w3) (unhide H8)
  go_wp2_with fail
  refine wp_region_quiet_below (by kernel_rfl) (by kernel_rfl) ?_
  repeat (go_big_quiet_step (fail))
  go_big_quiet_step (exact q1 _ _)
  repeat (go_big_quiet_step (fail))
  go_big_quiet_step (exact q2 _ _)
  repeat (go_big_quiet_step (fail))
  go_big_quiet_step (exact q3 _ _)
  repeat (go_big_quiet_step (fail))
  go_big_quiet_step (exact q4 _ _)
  repeat (go_big_quiet_step (fail))
  go_big_quiet_step (exact q5 _ _)
  repeat (go_big_quiet_step (fail))
  refine wpQuiet_nil ?_
  intro _ hw'
  obtain ⟨⟨dq, osq⟩, hw''⟩ := hw'
  subst hw''
  go_wp2_with fail
  go_ret2
  exact ⟨rfl, tr2 (unhide B3) (below_regrown w3 dq osq)⟩

theorem passE_ok {s : ByteArray} (h : passE s = 0) : decE s = 0 ∧ 2 ≤ byteAt s.data.toList 8 := by
  unfold passE at h
  split at h
  · rename_i h1
    split at h
    · cases h
    · rename_i h2; exact ⟨h1, by omega⟩
  · rename_i h1; exact absurd h h1
theorem set_pass {s : ByteArray} (h : decE s = 0) : setL ((s.extract 0 (pN s)).data.toList) 8 (ofB (twoAt s.data.toList 8 - 256) 2 ++ ofB (turn (twoAt s.data.toList 10) (twoAt s.data.toList 8) (twoAt s.data.toList 8 - 256)) 2) = passL s := by
  obtain ⟨a1, a2, a3, a4, a5, a6⟩ := meaR_ok (decE_mea h)
  unfold setL passL
  rw [Lib.extract_eq, Lib.extract_eq, Nat.sub_zero, List.drop_zero]
  simp only [List.length_append, ofB_length]
  rw [List.take_take, Nat.min_eq_left (by omega)]
  have e : (List.take (pN s) s.data.toList).drop (8 + (2 + 2)) = (s.data.toList.drop 12).take (hN s - 12) ++ (s.data.toList.drop (hN s)).take (pN s - hN s) := by
    rw [List.drop_take]
    have : pN s - (8 + (2 + 2)) = (hN s - 12) + (pN s - hN s) := by omega
    rw [this, List.take_add, List.drop_drop]
    congr 3
    omega
  rw [e]
  simp only [List.append_assoc]

theorem pass_any (s : ByteArray) (w : World) (hm : s.size ≤ 1073741824) :
    Calls Try.prog 23 #[.string s] w fun e w' => e = .returned (passV s) ∧ Below w.heap.size w w' := by
  have H1 := fun w => decode_any s w hm
  by_cases hd : decE s = 0
  · have e : decV s = .tuple #[hdV (readR s (hN s)), .string (s.extract (hN s) (pN s)), .int .i64 0] := by unfold decV; rw [if_pos hd]
    rw [e] at H1
    obtain ⟨a1, a2, a3, a4, a5, a6⟩ := meaR_ok (decE_mea hd)
    by_cases ht : byteAt s.data.toList 8 ≤ 1
    · have e2 : passV s = .tuple #[.string ⟨#[]⟩, .int .i64 9] := by
        have : passE s = 9 := by unfold passE; rw [if_pos hd, if_pos ht]
        unfold passV; rw [this]; rfl
      rw [e2]
      exact pass_over s w _ _ ht H1
    · have e2 : passV s = .tuple #[.string ⟨(passL s).toArray⟩, .int .i64 0] := by
        have : passE s = 0 := by unfold passE; rw [if_pos hd, if_neg ht]
        unfold passV; rw [if_pos this]
      rw [e2, ← set_pass hd]
      have hM : s.size ≤ maxLen := by unfold maxLen; omega
      have l1 := hN_le s
      have lw := twoAt_lt s.data.toList 8
      have hb := twoAt_bytes (l := s.data.toList) (k := 8) (by rw [← Lib.size_eq]; omega)
      have lo := twoAt_lt s.data.toList 10
      have lt := turn_le (twoAt s.data.toList 10) (twoAt s.data.toList 8) (twoAt s.data.toList 8 - 256)
      have hos : (readR s (hN s)).op.size = hN s - 20 := by unfold readR; simp only; rw [ByteArray.size_extract]; omega
      have hsz : (s.extract 0 (pN s)).size = pN s := by rw [ByteArray.size_extract]; omega
      refine pass_walk s w (readR s (hN s)) (s.extract (hN s) (pN s)) (hN s) (pN s) (twoAt s.data.toList 8) (twoAt s.data.toList 10) (twoAt s.data.toList 8 - 256) (turn (twoAt s.data.toList 10) (twoAt s.data.toList 8) (twoAt s.data.toList 8 - 256)) ⟨(ofB (twoAt s.data.toList 8 - 256) 2).toArray⟩ ⟨(ofB (turn (twoAt s.data.toList 10) (twoAt s.data.toList 8) (twoAt s.data.toList 8 - 256)) 2).toArray⟩ ⟨(ofB (twoAt s.data.toList 8 - 256) 2 ++ ofB (turn (twoAt s.data.toList 10) (twoAt s.data.toList 8) (twoAt s.data.toList 8 - 256)) 2).toArray⟩ _ ht ?_ a6 hm (of_size _ _) (of_size _ _) (str_append _ _) H1 (fun w => two_ok s 8 w hM (by omega)) (fun w => two_ok s 10 w hM (by omega)) ?_ (fun w => of_2 _ w (by omega)) (fun w => turn_any _ _ _ w (by omega) (by omega) (by omega)) (fun w => of_2 _ w (by omega)) ?_ ?_ (u64w (by omega)) (u64w (by omega))
      · rw [ByteArray.size_extract]; omega
      · intro w
        have q := headsize_any (readR s (hN s)) w (by rw [hos]; omega)
        rw [hos, show 20 + (hN s - 20) = hN s by omega] at q
        exact q
      · intro w
        refine set_ok (s.extract 0 (pN s)) 8 _ w (by rw [hsz]; omega) ?_
        rw [hsz, arr_size, List.length_append, ofB_length, ofB_length]
        omega
      · rw [IntKind.wrap_u16]; omega
  · have e : decV s = .tuple #[hd0V, .string ⟨#[]⟩, .int .i64 (decE s)] := by unfold decV; rw [if_neg hd]
    rw [e] at H1
    have ep : passE s = decE s := by unfold passE; rw [if_neg hd]
    have e2 : passV s = .tuple #[.string ⟨#[]⟩, .int .i64 (decE s)] := by unfold passV; rw [ep, if_neg hd]
    rw [e2]
    exact pass_dec s w _ (by simpa using hd) H1

end Go.Proofs.Ytjkoppjikplkeaa
