/- The contract of the document's Pass (layer 10), over the loaded program: what it answers is what the program's does; no memory that was there has turned. Conditions: texts of bounded length. -/
import Derived.Test.YtjkoppjikplkeaaIh6
import Derived.Test.YtjkoppjikplkeaaRd12
namespace Go.Proofs.Ytjkoppjikplkeaa
open Go.RowKit

set_option maxHeartbeats 1000000 in
theorem rpass_dec (s : ByteArray) (w : World) (e0 : Int) (hne : (e0 != 0) = true)
    (H1 : Hid (∀ w, Calls Try.prog 14 #[.string s] w fun e w' => e = .returned (.tuple #[hd0V, .string ⟨#[]⟩, .int .i64 e0]) ∧ Below w.heap.size w w')) :
    Calls Try.prog 24 #[.string s] w fun e w' => e = .returned (.tuple #[.string ⟨#[]⟩, .int .i64 e0]) ∧ Below w.heap.size w w' := by
  have BEL := hide (fun w o => below_one w o)
  go_enter Try.func24, Try.ntmps24
  go_wp2_with fail
  refine (unhide H1 _).mono ?_
  rintro e w1 ⟨rfl, b1⟩
  go_wp2_with fail
  go_ret2
  exact ⟨rfl, tr2 b1 (unhide BEL _ _)⟩

set_option maxHeartbeats 1000000 in
theorem rpass_over (s : ByteArray) (w : World) (h : Rh) (D : ByteArray) (ht : h.ttl < 2)
    (H1 : Hid (∀ w, Calls Try.prog 14 #[.string s] w fun e w' => e = .returned (.tuple #[hdV h, .string D, .int .i64 0]) ∧ Below w.heap.size w w')) :
    Calls Try.prog 24 #[.string s] w fun e w' => e = .returned (.tuple #[.string ⟨#[]⟩, .int .i64 9]) ∧ Below w.heap.size w w' := by
  have BEL := hide (fun w o => below_one w o)
  go_enter Try.func24, Try.ntmps24
  go_wp2_with fail
  refine (unhide H1 _).mono ?_
  rintro e w1 ⟨rfl, b1⟩
  go_wp2_with fail
  go_ret2
  exact ⟨rfl, tr2 b1 (unhide BEL _ _)⟩

set_option maxRecDepth 20000 in
set_option maxHeartbeats 2000000 in
theorem rpass_walk (s : ByteArray) (w : World) (h : Rh) (D : ByteArray) (M was old is ck : Nat) (A1 A2 P1 P2 P3 R E : ByteArray) (ht : ¬ h.ttl < 2) (hop : h.op.size ≤ 40) (hM : 20 + (h.op.size : Int) = (M : Int)) (g8 : (8 : Int) ≤ s.size) (gM : (M : Int) ≤ s.size) (g12 : ¬ (M : Int) < 12) (c8 : s.extract 0 8 = E)
    (g1 : E ++ A1 = P1) (g2 : P1 ++ A2 = P2) (g3 : P2 ++ s.extract 12 M = P3) (g4 : P3 ++ D = R)
    (n1 : ¬ 9223372036854775807 < E.size + A1.size) (n2 : ¬ 9223372036854775807 < P1.size + A2.size) (n3 : ¬ 9223372036854775807 < P2.size + (s.extract 12 M).size) (n4 : ¬ 9223372036854775807 < P3.size + D.size)
    (H1 : Hid (∀ w, Calls Try.prog 14 #[.string s] w fun e w' => e = .returned (.tuple #[hdV h, .string D, .int .i64 0]) ∧ Below w.heap.size w w'))
    (H2 : Hid (∀ w, Calls Try.prog 48 #[.string s, .int .i64 8] w fun e w' => e = .returned (.int .i64 (was : Int)) ∧ w' = w))
    (H3 : Hid (∀ w, Calls Try.prog 48 #[.string s, .int .i64 10] w fun e w' => e = .returned (.int .i64 (old : Int)) ∧ w' = w))
    (H5 : Hid (∀ w, Calls Try.prog 67 #[.int .u64 (is : Int), .int .i64 2] w fun e w' => e = .returned (.string A1) ∧ Below w.heap.size w w'))
    (H6 : Hid (∀ w, Calls Try.prog 66 #[.int .u16 (old : Int), .int .u16 (was : Int), .int .u16 (is : Int)] w fun e w' => e = .returned (.int .u16 (ck : Int)) ∧ Below w.heap.size w w'))
    (H7 : Hid (∀ w, Calls Try.prog 67 #[.int .u64 (ck : Int), .int .i64 2] w fun e w' => e = .returned (.string A2) ∧ Below w.heap.size w w'))
    (x0 : IntKind.i64.wrap ((was : Int) - 256) = (is : Int)) (x1 : IntKind.u16.wrap (is : Int) = (is : Int)) (x2 : IntKind.u64.wrap (is : Int) = (is : Int)) (x3 : IntKind.u64.wrap (ck : Int) = (ck : Int)) (x4 : IntKind.u16.wrap (was : Int) = (was : Int)) (x5 : IntKind.u16.wrap (old : Int) = (old : Int)) :
    Calls Try.prog 24 #[.string s] w fun e w' => e = .returned (.tuple #[.string R, .int .i64 0]) ∧ Below w.heap.size w w' := by
  have BEL := hide (fun w o => below_one w o)
  have BX := hide (fun w => HC.box w h 25)
  go_enter Try.func24, Try.ntmps24
  go_wp2_with fail
  refine (unhide H1 _).mono ?_
  rintro e w1 ⟨rfl, b1⟩
  have B1 := hide (tr2 b1 (unhide BEL w1 (.cells (hdL h).toArray 25)))
  have X1 := hide (unhide BX w1)
  clear b1 H1 BX BEL
  go_wp2_with fail
  simp only [hdL] at B1 X1
  generalize w1.alloc _ = w2 at *
  generalize w1.heap.size = B at *
  refine (unhide H2 _).mono ?_
  rintro e w3 ⟨rfl, rfl⟩
  go_wp2_with fail
  refine (unhide H3 _).mono ?_
  rintro e w4 ⟨rfl, rfl⟩
  go_wp2_with fail
  refine (unhide H6 _).mono ?_
  rintro e w5 ⟨rfl, b5⟩
  have B2 := hide (tr2 (unhide B1) b5)
  have X2 := hide ((unhide X1).on b5)
  clear B1 X1 b5 H2 H3 H6
  obtain ⟨c0, c1, c2, c3, c4, c5, c6, c7, c8, c9⟩ := unhide X2
  go_wp2_with fail
  clear c0 c1 c2 c3 c4 c5 c6 c7 c8 c9 X2
  have q2 := rgB (w := w5) (unhide H5)
  have q4 := rgB (w := w5) (unhide H7)
  refine wp_region_quiet_below (by kernel_rfl) (by kernel_rfl) ?_
  repeat (go_big_quiet_step (fail))
  go_big_quiet_step (exact q2 _ _)
  repeat (go_big_quiet_step (fail))
  go_big_quiet_step (exact q4 _ _)
  repeat (go_big_quiet_step (fail))
  refine wpQuiet_nil ?_
  intro _ hw'
  obtain ⟨⟨dq, osq⟩, hw''⟩ := hw'
  subst hw''
  go_wp2_with fail
  go_ret2
  exact ⟨rfl, tr2 (unhide B2) (below_regrown w5 dq osq)⟩

theorem rpass_any (s : ByteArray) (w : World) (hm : s.size ≤ 1073741824) :
    Calls Try.prog 24 #[.string s] w fun e w' => e = .returned (passV s) ∧ Below w.heap.size w w' := by
  have H1 := fun w => rdecode_any s w hm
  by_cases hd : decE s = 0
  · have e : decV s = .tuple #[hdV (readR s (hN s)), .string (s.extract (hN s) (pN s)), .int .i64 0] := by unfold decV; rw [if_pos hd]
    rw [e] at H1
    obtain ⟨a1, a2, a3, a4, a5, a6⟩ := meaR_ok (decE_mea hd)
    by_cases ht : byteAt s.data.toList 8 ≤ 1
    · have e2 : passV s = .tuple #[.string ⟨#[]⟩, .int .i64 9] := by
        have : passE s = 9 := by unfold passE; rw [if_pos hd, if_pos ht]
        unfold passV; rw [this]; rfl
      rw [e2]
      exact rpass_over s w (readR s (hN s)) _ (show byteAt s.data.toList 8 < 2 by omega) H1
    · have e2 : passV s = .tuple #[.string ⟨(passL s).toArray⟩, .int .i64 0] := by
        have : passE s = 0 := by unfold passE; rw [if_pos hd, if_neg ht]
        unfold passV; rw [if_pos this]
      rw [e2]
      have l1 := hN_le s
      have l2 := pN_lt s
      have lw := twoAt_lt s.data.toList 8
      have hb := twoAt_bytes (l := s.data.toList) (k := 8) (by rw [← Lib.size_eq]; omega)
      have lo := twoAt_lt s.data.toList 10
      have lt := turn_le (twoAt s.data.toList 10) (twoAt s.data.toList 8) (twoAt s.data.toList 8 - 256)
      have hos : (readR s (hN s)).op.size = hN s - 20 := by unfold readR; simp only; rw [ByteArray.size_extract]; omega
      have s0 : (s.extract 0 8).size = 8 := by rw [ByteArray.size_extract]; omega
      have sD : (s.extract (hN s) (pN s)).size ≤ 65536 := by rw [ByteArray.size_extract]; omega
      have s12 : (s.extract 12 (hN s)).size ≤ 60 := by rw [ByteArray.size_extract]; omega
      have v1 := of_size (twoAt s.data.toList 8 - 256) 2
      have v2 := of_size (turn (twoAt s.data.toList 10) (twoAt s.data.toList 8) (twoAt s.data.toList 8 - 256)) 2
      refine rpass_walk s w (readR s (hN s)) (s.extract (hN s) (pN s)) (hN s) (twoAt s.data.toList 8) (twoAt s.data.toList 10) (twoAt s.data.toList 8 - 256) (turn (twoAt s.data.toList 10) (twoAt s.data.toList 8) (twoAt s.data.toList 8 - 256)) ⟨(ofB (twoAt s.data.toList 8 - 256) 2).toArray⟩ ⟨(ofB (turn (twoAt s.data.toList 10) (twoAt s.data.toList 8) (twoAt s.data.toList 8 - 256)) 2).toArray⟩ _ _ _ _ _ (show ¬ byteAt s.data.toList 8 < 2 by omega) (by rw [hos]; omega) (by rw [hos]; omega) (by omega) (by omega) (by omega) rfl rfl rfl rfl ?_ ?_ ?_ ?_ ?_ H1 (fun w => rtwo_any s 8 w (by omega) hm) (fun w => rtwo_any s 10 w (by omega) hm) (fun w => Of_any _ 2 w (by omega) (by omega)) (fun w => rTurn_any _ _ _ w (by omega) (by omega) (by omega)) (fun w => Of_any _ 2 w (by omega) (by omega)) ?_ ?_ (u64w (by omega)) (u64w (by omega)) ?_ ?_
      · have e1 : s.extract 0 8 = ⟨(s.data.toList.take 8).toArray⟩ := by rw [Lib.extract_eq]; rfl
        have e3 : s.extract 12 (hN s) = ⟨((s.data.toList.drop 12).take (hN s - 12)).toArray⟩ := by rw [Lib.extract_eq]
        have e4 : s.extract (hN s) (pN s) = ⟨(s.extract (hN s) (pN s)).data.toList.toArray⟩ := rfl
        unfold passL
        rw [← str_append, ← str_append, ← str_append, ← str_append, ← e1, ← e3, ← e4]
      · rw [s0]; omega
      · rw [ByteArray.size_append, s0]; omega
      · rw [ByteArray.size_append, ByteArray.size_append, s0]; omega
      · rw [ByteArray.size_append, ByteArray.size_append, ByteArray.size_append, s0]; omega
      · rw [IntKind.wrap_i64]; omega
      · rw [IntKind.wrap_u16]; omega
      · rw [IntKind.wrap_u16]; omega
      · rw [IntKind.wrap_u16]; omega
  · have e : decV s = .tuple #[hd0V, .string ⟨#[]⟩, .int .i64 (decE s)] := by unfold decV; rw [if_neg hd]
    rw [e] at H1
    have ep : passE s = decE s := by unfold passE; rw [if_neg hd]
    have e2 : passV s = .tuple #[.string ⟨#[]⟩, .int .i64 (decE s)] := by unfold passV; rw [ep, if_neg hd]
    rw [e2]
    exact rpass_dec s w _ (by simpa using hd) H1

end Go.Proofs.Ytjkoppjikplkeaa
