/- The walk of the statement SumWords, over the loaded program, out of the contracts. No conditions but the data's bounds. -/
import Derived.Test.YtnnfhbeledfbkaaAlive02
import Derived.Deep.RegionWith
import Derived.Deep.CutRange
import Derived.Deep.QuietTactic
import Derived.BigQuiet
namespace Go.Proofs.Ytnnfhbeledfbkaa
open Go.RowKit

theorem was_eq (c0 c1 : UInt8) : bits .or .u16 (IntKind.u16.wrap (IntKind.u16.wrap (c0.toNat : Int) * 256)) (IntKind.u16.wrap (c1.toNat : Int)) = ((256 * c0.toNat + c1.toNat : Nat) : Int) := by
  have h0 := c0.toNat_lt
  have h1 := c1.toNat_lt
  rw [IntKind.wrap_u16, IntKind.wrap_u16, IntKind.wrap_u16]
  have e1 : (c0.toNat : Int) % 65536 * 256 % 65536 = ((256 * c0.toNat : Nat) : Int) := by omega
  have e2 : (c1.toNat : Int) % 65536 = ((c1.toNat : Nat) : Int) := by omega
  rw [e1, e2]
  exact or_word (256 * c0.toNat) c1.toNat (by omega) (by omega) h1

theorem extract_list (s : ByteArray) (i j : Nat) : (s.extract i j).data.toList = (s.data.toList.drop i).take (j - i) := by
  rw [Lib.extract_eq]
theorem list_word (l : List UInt8) (k : Nat) (h : k + 1 < l.length) : l = l.take k ++ ([l[k], l[k + 1]] ++ l.drop (k + 2)) := by
  have e1 : l.drop k = l[k] :: l.drop (k + 1) := List.drop_eq_getElem_cons (by omega)
  have e2 : l.drop (k + 1) = l[k + 1] :: l.drop (k + 1 + 1) := List.drop_eq_getElem_cons h
  rw [e2] at e1
  exact ((List.take_append_drop k l).symm.trans (by rw [e1]; rfl))
theorem S_list_word (l : List UInt8) (k : Nat) (hk : k % 2 = 0) (h : k + 1 < l.length) : S l = S (l.take k) + (256 * (l[k]).toNat + (l[k + 1]).toNat) + S (l.drop (k + 2)) := by
  have e := congrArg S (list_word l k h)
  rw [S_word _ _ _ _ (by rw [List.length_take]; omega)] at e
  exact e
theorem S_put_word (l : List UInt8) (k x : Nat) (hk : k % 2 = 0) (h : k + 1 < l.length) (hx : x < 65536) : S (l.take k ++ ofB x 2 ++ l.drop (k + 2)) = S (l.take k) + x + S (l.drop (k + 2)) := by
  rw [List.append_assoc, S_even (by rw [List.length_take]; omega), S_even (by rw [ofB_length]), S_ofB2 x hx]
  omega
theorem words_case (P wa is : Nat) (hw : wa < 65536) (hi : is < 65536) :
    (wa = is ∧ red (P + is) = red (P + wa)) ∨ (wa ≠ is ∧ wa % 65535 = 0 ∧ is % 65535 = 0 ∧ (red (P + is) = red (P + wa) ∨ (red (P + is) ≠ red (P + wa) ∧ red (P + is) % 65535 = 0))) ∨ (wa ≠ is ∧ red (P + is) ≠ red (P + wa) ∧ (wa % 65535 ≠ 0 ∨ (wa % 65535 = 0 ∧ is % 65535 ≠ 0))) := by
  have m1 := red_mod (P + is)
  have m2 := red_mod (P + wa)
  have l1 := red_le (P + is)
  have l2 := red_le (P + wa)
  by_cases h : wa = is
  · exact .inl ⟨h, by rw [h]⟩
  · generalize red (P + is) = y at *
    generalize red (P + wa) = z at *
    omega

set_option maxRecDepth 100000 in
set_option maxHeartbeats 4000000 in
theorem words_core (a b A : ByteArray) (q is k y1 yA yC wa : Nat) (t C : ByteArray) (w : World) (ha : a.size ≤ 4096) (hb : b.size ≤ 4096) (hA : a.extract 0 (a.size / 2 * 2) = A) (hAz : A.size ≤ 4096) (hAp : 0 < (A.size : Int) / 2)
    (hk : 2 * ((q : Int) % ((A.size : Int) / 2)) = (k : Int)) (hk2 : k + 2 ≤ A.size)
    (hq : q < 65536) (his : is < 65536)
    (hyA : yA ≤ 65535)
    (H1 : Hid (∀ w : World, Calls Try.prog 9 #[.slice (some ⟨w.heap.size, 0, none⟩) 2 2] (w.alloc (.cells #[.string A, .string b] 9)) fun e w' => e = .returned (.int .u16 (y1 : Nat)) ∧ Below w.heap.size w w'))
    (H2 : Hid (∀ w : World, Calls Try.prog 9 #[.slice (some ⟨w.heap.size, 0, none⟩) 1 1] (w.alloc (.cells #[.string (A ++ b)] 9)) fun e w' => e = .returned (.int .u16 (y1 : Nat)) ∧ Below w.heap.size w w'))
    (H3 : Hid (b.size % 2 = 0 → ∀ w : World, Calls Try.prog 9 #[.slice (some ⟨w.heap.size, 0, none⟩) 2 2] (w.alloc (.cells #[.string b, .string A] 9)) fun e w' => e = .returned (.int .u16 (y1 : Nat)) ∧ Below w.heap.size w w'))
    (H4 : Hid (∀ w : World, Calls Try.prog 11 #[.slice (some ⟨w.heap.size, 0, none⟩) 1 1] (w.alloc (.cells #[.string A] 9)) fun e w' => e = .returned (.int .u16 ((65535 - yA : Nat) : Int)) ∧ Below w.heap.size w w'))
    (H5 : Hid (∀ w : World, Calls Try.prog 9 #[.slice (some ⟨w.heap.size, 0, none⟩) 1 1] (w.alloc (.cells #[.string A] 9)) fun e w' => e = .returned (.int .u16 (yA : Nat)) ∧ Below w.heap.size w w'))
    (HW : Hid (∀ (h0 : k < A.size) (h1 : k + 1 < A.size), 256 * (A[k]).toNat + (A[k + 1]).toNat = wa)) (hwa : wa < 65536)
    (ht : t.size = 2) (HO : Hid (∀ w : World, Calls Try.prog 19 #[.int .u64 (is : Int), .int .i64 2] w fun e w' => e = .returned (.string t) ∧ Below w.heap.size w w'))
    (hC : A.extract 0 k ++ t ++ A.extract (k + 2) A.size = C)
    (H6 : Hid (∀ w : World, Calls Try.prog 9 #[.slice (some ⟨w.heap.size, 0, none⟩) 1 1] (w.alloc (.cells #[.string C] 9)) fun e w' => e = .returned (.int .u16 (yC : Nat)) ∧ Below w.heap.size w w')) (hyC : yC ≤ 65535)
    (hcase : (wa = is ∧ yC = yA) ∨ (wa ≠ is ∧ wa % 65535 = 0 ∧ is % 65535 = 0 ∧ (yC = yA ∨ (yC ≠ yA ∧ yC % 65535 = 0))) ∨ (wa ≠ is ∧ yC ≠ yA ∧ (wa % 65535 ≠ 0 ∨ (wa % 65535 = 0 ∧ is % 65535 ≠ 0))))
    (HA : Hid (∀ w : World, Calls Try.prog 8 #[] w fun e w' => e = .returned (.bool true) ∧ Below w.heap.size w w')) :
    Calls Try.prog 5 #[.string a, .string b, .int .u16 (q : Int), .int .u16 (is : Int)] w fun e w' => e = .returned (.bool true) ∧ Below w.heap.size w w' := by
  have HX := hide hcase
  clear hcase
  have g1 : decide (4096 < a.size) = false := decide_eq_false (by omega)
  have g2 : decide (4096 < b.size) = false := decide_eq_false (by omega)
  have e1 : (65535 : Int) - (yA : Int) = ((65535 - yA : Nat) : Int) := by omega
  generalize 65535 - yA = yB at *
  go_enter Try.func5, Try.ntmps5
  go_upto_region 4 with fail
  rw [hA]
  clear hA
  go_cut [64] from 28 to 64 (fun s64 wx => s64 = .bool false ∧ Below w.heap.size w wx)
  case first =>
    by_cases hbe : b.size % 2 = 0
    · have hbe' : (b.size : Int) % 2 = 0 := by omega
      have H3' := hide (unhide H3 hbe)
      go_wp2_with fail
      refine (unhide H1 _).mono ?_
      rintro e w1 ⟨rfl, hb1⟩
      go_wp2_with fail
      refine (unhide H2 _).mono ?_
      rintro e w2 ⟨rfl, hb2⟩
      go_wp2_with fail
      refine (unhide H1 _).mono ?_
      rintro e w3 ⟨rfl, hb3⟩
      go_wp2_with fail
      refine (unhide H3' _).mono ?_
      rintro e w4 ⟨rfl, hb4⟩
      go_wp2_with fail
      refine (unhide H4 _).mono ?_
      rintro e w5 ⟨rfl, hb5⟩
      go_wp2_with fail
      refine (unhide H5 _).mono ?_
      rintro e w6 ⟨rfl, hb6⟩
      go_wp2_with fail
      go_meet
      case rel => exact ⟨rfl, tr2 hb1 (tr2 hb2 (tr2 hb3 (tr2 hb4 (tr2 hb5 hb6))))⟩
    · have hbe' : (b.size : Int) % 2 = 1 := by omega
      go_wp2_with fail
      refine (unhide H1 _).mono ?_
      rintro e w1 ⟨rfl, hb1⟩
      go_wp2_with fail
      refine (unhide H2 _).mono ?_
      rintro e w2 ⟨rfl, hb2⟩
      go_wp2_with fail
      refine (unhide H4 _).mono ?_
      rintro e w5 ⟨rfl, hb5⟩
      go_wp2_with fail
      refine (unhide H5 _).mono ?_
      rintro e w6 ⟨rfl, hb6⟩
      go_wp2_with fail
      go_meet
      case rel => exact ⟨rfl, tr2 hb1 (tr2 hb2 (tr2 hb5 hb6))⟩
  case rest =>
  obtain ⟨rfl, hB⟩ := hcut
  clear H1 H2 H3 H4
  go_upto_region 9 with fail
  go_cut [10] from 76 to 86 (fun s10 wx => s10 = .int .u16 (wa : Int) ∧ Below w.heap.size w wx)
  case first =>
    have i1 : (k : Int) < (A.size : Int) := by omega
    obtain ⟨k1, hk1⟩ : ∃ k1 : Nat, k + 1 = k1 := ⟨_, rfl⟩
    have i2 : (k1 : Int) < (A.size : Int) := by omega
    have i3 : IntKind.i64.wrap ((k : Int) + 1) = (k1 : Int) := by rw [IntKind.wrap_i64]; omega
    have HK1 := hide hk1
    clear hk1
    go_quiet (fail)
    go_wp2_with fail
    go_meet
    case rel =>
      obtain rfl := unhide HK1
      exact ⟨vint (by rw [was_eq, unhide HW (by omega) (by omega)]), hB.trans ⟨rfl, rfl, rfl, Nat.le_refl _, fun _ _ => rfl⟩⟩
  case rest =>
  clear HW hB
  obtain ⟨rfl, hB⟩ := hcut
  go_upto_region 10 with fail
  have i4 : IntKind.i64.wrap ((k : Int) + 2) = ((k + 2 : Nat) : Int) := by rw [IntKind.wrap_i64]; omega
  have i5 : (k : Int) ≤ (A.size : Int) := by omega
  have i6 : ((k + 2 : Nat) : Int) ≤ (A.size : Int) := by omega
  go_cut [11] from 65 to 98 (fun s11 wx => s11 = .string C ∧ Below w.heap.size w wx)
  case first =>
    have i7 : IntKind.u64.wrap (is : Int) = (is : Int) := by rw [IntKind.wrap_u64]; omega
    go_region_with (go_at_call 19; refine (unhide HO _).mono ?_; rintro e w' ⟨rfl, hb1⟩)
    all_goals (go_simp; go_wp2_with fail; go_meet; exact ⟨rfl, hB.drew.trans (hb1.mono hB.drew.size)⟩)
  case rest =>
  clear hB
  obtain ⟨rfl, hB⟩ := hcut
  clear i4 i5 i6 HO hC g1 g2 ha hb hAp hk hk2 e1
  rcases unhide HX with ⟨rfl, rfl⟩ | ⟨n1, m1, m2, hy⟩ | ⟨n1, n2, hm⟩
  · clear HX
    go_wp2_with fail
    refine (unhide H6 _).mono ?_
    rintro e w1 ⟨rfl, hb1⟩
    go_wp2_with fail
    refine (unhide H5 _).mono ?_
    rintro e w2 ⟨rfl, hb2⟩
    go_wp2_with fail
    refine (unhide HA _).mono ?_
    rintro e w4 ⟨rfl, hb4⟩
    go_wp2
    go_ret
    exact ⟨rfl, hB.trans ((tr2 hb1 (tr2 hb2 hb4)).mono hB.size)⟩
  · have g3 : ((wa : Int) == (is : Int)) = false := beq_false_of_ne (by omega)
    have g4 : (wa : Int) % 65535 = 0 := by omega
    have g5 : (is : Int) % 65535 = 0 := by omega
    clear HX m1 m2
    rcases hy with rfl | ⟨n2, m3⟩
    · go_wp2_with fail
      refine (unhide H6 _).mono ?_
      rintro e w1 ⟨rfl, hb1⟩
      go_wp2_with fail
      refine (unhide H5 _).mono ?_
      rintro e w2 ⟨rfl, hb2⟩
      go_wp2_with fail
      refine (unhide HA _).mono ?_
      rintro e w4 ⟨rfl, hb4⟩
      go_wp2
      go_ret
      exact ⟨rfl, hB.trans ((tr2 hb1 (tr2 hb2 hb4)).mono hB.size)⟩
    · have g6 : ((yC : Int) == (yA : Int)) = false := beq_false_of_ne (by omega)
      have g7 : (yC : Int) % 65535 = 0 := by omega
      clear m3
      go_wp2_with fail
      refine (unhide H6 _).mono ?_
      rintro e w1 ⟨rfl, hb1⟩
      go_wp2_with fail
      refine (unhide H5 _).mono ?_
      rintro e w2 ⟨rfl, hb2⟩
      go_wp2_with fail
      refine (unhide H6 _).mono ?_
      rintro e w3 ⟨rfl, hb3⟩
      go_wp2_with fail
      refine (unhide HA _).mono ?_
      rintro e w4 ⟨rfl, hb4⟩
      go_wp2
      go_ret
      exact ⟨rfl, hB.trans ((tr2 hb1 (tr2 hb2 (tr2 hb3 hb4))).mono hB.size)⟩
  · have g3 : ((wa : Int) == (is : Int)) = false := beq_false_of_ne (by omega)
    have g6 : ((yC : Int) == (yA : Int)) = false := beq_false_of_ne (by omega)
    clear HX
    rcases hm with m1 | ⟨m1, m2⟩
    · have g4 : ((wa : Int) % 65535 == 0) = false := beq_false_of_ne (by omega)
      go_wp2_with fail
      refine (unhide H6 _).mono ?_
      rintro e w1 ⟨rfl, hb1⟩
      go_wp2_with fail
      refine (unhide H5 _).mono ?_
      rintro e w2 ⟨rfl, hb2⟩
      go_wp2_with fail
      refine (unhide HA _).mono ?_
      rintro e w4 ⟨rfl, hb4⟩
      go_wp2
      go_ret
      exact ⟨rfl, hB.trans ((tr2 hb1 (tr2 hb2 hb4)).mono hB.size)⟩
    · have g4 : (wa : Int) % 65535 = 0 := by omega
      have g5 : ((is : Int) % 65535 == 0) = false := beq_false_of_ne (by omega)
      go_wp2_with fail
      refine (unhide H6 _).mono ?_
      rintro e w1 ⟨rfl, hb1⟩
      go_wp2_with fail
      refine (unhide H5 _).mono ?_
      rintro e w2 ⟨rfl, hb2⟩
      go_wp2_with fail
      refine (unhide HA _).mono ?_
      rintro e w4 ⟨rfl, hb4⟩
      go_wp2
      go_ret
      exact ⟨rfl, hB.trans ((tr2 hb1 (tr2 hb2 hb4)).mono hB.size)⟩

set_option maxHeartbeats 1000000 in
theorem words_long (a b : ByteArray) (q is : Int) (w : World) (ha : a.size ≤ maxLen) (hb : b.size ≤ maxLen) (h : 4096 < a.size ∨ 4096 < b.size) :
    Calls Try.prog 5 #[.string a, .string b, .int .u16 q, .int .u16 is] w fun e w' => e = .returned (.bool true) ∧ Below w.heap.size w w' := by
  unfold maxLen at ha hb
  have HA := hide alive_any
  by_cases h1 : 4096 < a.size
  · have g1 : decide (4096 < a.size) = true := decide_eq_true h1
    go_enter Try.func5, Try.ntmps5
    go_wp2_with fail
    refine (unhide HA _).mono ?_
    rintro e w4 ⟨rfl, hb4⟩
    go_wp2
    go_ret
    exact ⟨rfl, hb4⟩
  · have g1 : decide (4096 < a.size) = false := decide_eq_false h1
    have g2 : decide (4096 < b.size) = true := decide_eq_true (by omega)
    go_enter Try.func5, Try.ntmps5
    go_wp2_with fail
    refine (unhide HA _).mono ?_
    rintro e w4 ⟨rfl, hb4⟩
    go_wp2
    go_ret
    exact ⟨rfl, hb4⟩

theorem add_app (A b : ByteArray) : add [A ++ b] = add [A, b] := by
  unfold add; rw [cat_one, cat_two, ByteArray.data_append, Array.toList_append]
theorem add_swap (A b : ByteArray) (hA : A.size % 2 = 0) (hb : b.size % 2 = 0) : add [b, A] = add [A, b] := by
  unfold add
  rw [cat_two, cat_two, S_even (by rw [← Lib.size_eq]; exact hb), S_even (by rw [← Lib.size_eq]; exact hA), Nat.add_comm]

set_option maxRecDepth 100000 in
set_option maxHeartbeats 4000000 in
theorem words_none (a b A : ByteArray) (q is : Int) (y1 yA : Nat) (w : World) (ha : a.size ≤ 4096) (hb : b.size ≤ 4096) (hA : a.extract 0 (a.size / 2 * 2) = A) (hAz : A.size = 0) (hyA : yA ≤ 65535)
    (H1 : Hid (∀ w : World, Calls Try.prog 9 #[.slice (some ⟨w.heap.size, 0, none⟩) 2 2] (w.alloc (.cells #[.string A, .string b] 9)) fun e w' => e = .returned (.int .u16 (y1 : Nat)) ∧ Below w.heap.size w w'))
    (H2 : Hid (∀ w : World, Calls Try.prog 9 #[.slice (some ⟨w.heap.size, 0, none⟩) 1 1] (w.alloc (.cells #[.string (A ++ b)] 9)) fun e w' => e = .returned (.int .u16 (y1 : Nat)) ∧ Below w.heap.size w w'))
    (H3 : Hid (b.size % 2 = 0 → ∀ w : World, Calls Try.prog 9 #[.slice (some ⟨w.heap.size, 0, none⟩) 2 2] (w.alloc (.cells #[.string b, .string A] 9)) fun e w' => e = .returned (.int .u16 (y1 : Nat)) ∧ Below w.heap.size w w'))
    (H4 : Hid (∀ w : World, Calls Try.prog 11 #[.slice (some ⟨w.heap.size, 0, none⟩) 1 1] (w.alloc (.cells #[.string A] 9)) fun e w' => e = .returned (.int .u16 ((65535 - yA : Nat) : Int)) ∧ Below w.heap.size w w'))
    (H5 : Hid (∀ w : World, Calls Try.prog 9 #[.slice (some ⟨w.heap.size, 0, none⟩) 1 1] (w.alloc (.cells #[.string A] 9)) fun e w' => e = .returned (.int .u16 (yA : Nat)) ∧ Below w.heap.size w w'))
    (HA : Hid (∀ w : World, Calls Try.prog 8 #[] w fun e w' => e = .returned (.bool true) ∧ Below w.heap.size w w')) :
    Calls Try.prog 5 #[.string a, .string b, .int .u16 q, .int .u16 is] w fun e w' => e = .returned (.bool true) ∧ Below w.heap.size w w' := by
  have g1 : decide (4096 < a.size) = false := decide_eq_false (by omega)
  have g2 : decide (4096 < b.size) = false := decide_eq_false (by omega)
  have e1 : (65535 : Int) - (yA : Int) = ((65535 - yA : Nat) : Int) := by omega
  have hA1 : A.size ≤ 4096 := by omega
  have HZ := hide hAz
  clear hAz
  generalize 65535 - yA = yB at *
  go_enter Try.func5, Try.ntmps5
  go_upto_region 4 with fail
  rw [hA]
  clear hA
  go_cut [64] from 28 to 64 (fun s64 wx => s64 = .bool false ∧ Below w.heap.size w wx)
  case first =>
    by_cases hbe : b.size % 2 = 0
    · have hbe' : (b.size : Int) % 2 = 0 := by omega
      have H3' := hide (unhide H3 hbe)
      go_wp2_with fail
      refine (unhide H1 _).mono ?_
      rintro e w1 ⟨rfl, hb1⟩
      go_wp2_with fail
      refine (unhide H2 _).mono ?_
      rintro e w2 ⟨rfl, hb2⟩
      go_wp2_with fail
      refine (unhide H1 _).mono ?_
      rintro e w3 ⟨rfl, hb3⟩
      go_wp2_with fail
      refine (unhide H3' _).mono ?_
      rintro e w4 ⟨rfl, hb4⟩
      go_wp2_with fail
      refine (unhide H4 _).mono ?_
      rintro e w5 ⟨rfl, hb5⟩
      go_wp2_with fail
      refine (unhide H5 _).mono ?_
      rintro e w6 ⟨rfl, hb6⟩
      go_wp2_with fail
      go_meet
      case rel => exact ⟨rfl, tr2 hb1 (tr2 hb2 (tr2 hb3 (tr2 hb4 (tr2 hb5 hb6))))⟩
    · have hbe' : (b.size : Int) % 2 = 1 := by omega
      go_wp2_with fail
      refine (unhide H1 _).mono ?_
      rintro e w1 ⟨rfl, hb1⟩
      go_wp2_with fail
      refine (unhide H2 _).mono ?_
      rintro e w2 ⟨rfl, hb2⟩
      go_wp2_with fail
      refine (unhide H4 _).mono ?_
      rintro e w5 ⟨rfl, hb5⟩
      go_wp2_with fail
      refine (unhide H5 _).mono ?_
      rintro e w6 ⟨rfl, hb6⟩
      go_wp2_with fail
      go_meet
      case rel => exact ⟨rfl, tr2 hb1 (tr2 hb2 (tr2 hb5 hb6))⟩
  case rest =>
  obtain ⟨rfl, hB⟩ := hcut
  clear H1 H2 H3 H4
  have hz : ((A.size : Int) == 0) = true := by rw [unhide HZ]; rfl
  go_wp2_with fail
  refine (unhide HA _).mono ?_
  rintro e w1 ⟨rfl, hb1⟩
  go_wp2
  go_ret
  exact ⟨rfl, hB.trans (hb1.mono hB.size)⟩

theorem sumWords_walk (a b : ByteArray) (q is : Int) (w0 : a.size ≤ maxLen) (w1 : b.size ≤ maxLen) (w2 : (Lit.int .u16 q).wf = true) (w3 : (Lit.int .u16 is).wf = true) (w : World) :
    Calls Try.prog 5 #[.string a, .string b, .int .u16 q, .int .u16 is] w fun e w' => e = .returned (.bool true) ∧ Below w.heap.size w w' := by
  by_cases hl : 4096 < a.size ∨ 4096 < b.size
  · exact words_long a b q is w w0 w1 hl
  · have ha : a.size ≤ 4096 := by omega
    have hb : b.size ≤ 4096 := by omega
    obtain ⟨A, hA⟩ : ∃ A, a.extract 0 (a.size / 2 * 2) = A := ⟨_, rfl⟩
    have hAz : A.size = a.size / 2 * 2 := by rw [← hA, ByteArray.size_extract]; omega
    have H1 := hide (add2 A b (by omega) (by omega))
    have H2 := hide (add1 (A ++ b) (by rw [ByteArray.size_append]; omega))
    rw [add_app] at H2
    have H3 : Hid (b.size % 2 = 0 → ∀ w : World, Calls Try.prog 9 #[.slice (some ⟨w.heap.size, 0, none⟩) 2 2] (w.alloc (.cells #[.string b, .string A] 9)) fun e w' => e = .returned (.int .u16 (add [A, b] : Nat)) ∧ Below w.heap.size w w') := hide fun h => by
      rw [← add_swap A b (by omega) h]; exact add2 b A (by omega) (by omega)
    have H4 := hide (of1 A (by omega))
    have H5 := hide (add1 A (by omega))
    by_cases hz : A.size = 0
    · exact words_none a b A q is _ _ w ha hb hA hz (add_le _) H1 H2 H3 H4 H5 (hide alive_any)
    · obtain ⟨q, rfl, hq⟩ := nat16 w2
      obtain ⟨is, rfl, his⟩ := nat16 w3
      obtain ⟨k, hk⟩ : ∃ k : Nat, 2 * (q % (A.size / 2)) = k := ⟨_, rfl⟩
      have hm : q % (A.size / 2) < A.size / 2 := Nat.mod_lt _ (by omega)
      have hk2 : k + 2 ≤ A.size := by omega
      have hz2 := Lib.size_eq A
      have hk1 : k + 1 < A.data.toList.length := by omega
      obtain ⟨C, hC⟩ : ∃ C, A.extract 0 k ++ (⟨(ofB is 2).toArray⟩ : ByteArray) ++ A.extract (k + 2) A.size = C := ⟨_, rfl⟩
      have hCl : C.data.toList = A.data.toList.take k ++ ofB is 2 ++ A.data.toList.drop (k + 2) := by
        rw [← hC, ByteArray.data_append, Array.toList_append, ByteArray.data_append, Array.toList_append, extract_list, extract_list, List.drop_zero, Nat.sub_zero, List.take_of_length_le (l := A.data.toList.drop (k + 2)) (by rw [List.length_drop]; omega)]
      have hCz : C.size = A.size := by rw [Lib.size_eq, hCl]; simp only [List.length_append, List.length_take, List.length_drop, ofB_length]; omega
      have eA : add [A] = red (S (A.data.toList.take k) + S (A.data.toList.drop (k + 2)) + (256 * (A.data.toList[k]).toNat + (A.data.toList[k + 1]).toNat)) := by
        unfold add; rw [cat_one, S_list_word _ k (by omega) hk1]; congr 1; omega
      have eC : add [C] = red (S (A.data.toList.take k) + S (A.data.toList.drop (k + 2)) + is) := by
        unfold add; rw [cat_one, hCl, S_put_word _ k is (by omega) hk1 his]; congr 1; omega
      have hw : 256 * (A.data.toList[k]).toNat + (A.data.toList[k + 1]).toNat < 65536 := by
        have h1 := (A.data.toList[k]).toNat_lt
        have h2 := (A.data.toList[k + 1]).toNat_lt
        omega
      have hcase := words_case (S (A.data.toList.take k) + S (A.data.toList.drop (k + 2))) _ is hw his
      rw [← eA, ← eC] at hcase
      exact words_core a b A q is k (add [A, b]) (add [A]) (add [C]) _ ⟨(ofB is 2).toArray⟩ C w ha hb hA (by omega) (by omega) (by rw [← hk]; simp) hk2 hq his (add_le _) H1 H2 H3 H4 H5
        (hide fun h0 h1 => rfl) hw (by show (List.toArray _).size = _; simp [ofB_length]) (hide fun w => Of_any is 2 w (by omega) (by omega)) hC (hide (add1 C (by omega))) (add_le _) hcase (hide alive_any)

end Go.Proofs.Ytnnfhbeledfbkaa
