/- The walk of the statement SumRight, over the loaded program, out of the contracts. No conditions but the data's bounds. -/
import Derived.Test.YtnnfhbeledfbkaaSumWords
namespace Go.Proofs.Ytnnfhbeledfbkaa
open Go.RowKit

theorem below_draw {B : Nat} {a w : World} (h : Below B a w) (n : Nat) : Below B a (w.drewN n) := h.trans ⟨rfl, rfl, rfl, Nat.le_refl _, fun _ _ => rfl⟩

set_option maxRecDepth 100000 in
set_option maxHeartbeats 4000000 in
theorem right_core (s A B T U V tc ti tt : ByteArray) (p o is i k m c wa tu : Nat) (w : World) (hs : s.size ≤ 4096) (hs4 : 4 ≤ s.size) (hA : s.extract 0 (s.size / 2 * 2) = A) (hAz : A.size ≤ 4096) (hm : (A.size : Int) / 2 = (m : Int)) (hm0 : 0 < m)
    (hi : wrap64 (2 * ((p : Int) % (m : Int))) = (i : Int)) (hk : wrap64 (2 * ((o : Int) % (m : Int))) = (k : Int)) (hne : ((i : Int) == (k : Int)) = false)
    (hp : p < 65536) (ho : o < 65536) (his : is < 65536) (hc : c < 65536) (htu : tu < 65536)
    (hiA : i + 2 ≤ A.size) (hiB : i + 2 ≤ B.size) (hkT : k + 2 ≤ T.size) (hiU : i + 2 ≤ U.size)
    (hBz : B.size ≤ 4096) (hTz : T.size ≤ 4096) (hUz : U.size ≤ 4096)
    (htc : tc.size = 2) (hti : ti.size = 2) (htt : tt.size = 2)
    (HB : A.extract 0 i ++ (⟨#[0, 0]⟩ : ByteArray) ++ A.extract (i + 2) A.size = B)
    (HT : B.extract 0 i ++ tc ++ B.extract (i + 2) B.size = T)
    (HU : T.extract 0 k ++ ti ++ T.extract (k + 2) T.size = U)
    (HV : U.extract 0 i ++ tt ++ U.extract (i + 2) U.size = V)
    (HOc : Hid (∀ w : World, Calls Try.prog 19 #[.int .u64 (c : Int), .int .i64 2] w fun e w' => e = .returned (.string tc) ∧ Below w.heap.size w w'))
    (HOi : Hid (∀ w : World, Calls Try.prog 19 #[.int .u64 (is : Int), .int .i64 2] w fun e w' => e = .returned (.string ti) ∧ Below w.heap.size w w'))
    (HOt : Hid (∀ w : World, Calls Try.prog 19 #[.int .u64 (tu : Int), .int .i64 2] w fun e w' => e = .returned (.string tt) ∧ Below w.heap.size w w'))
    (H1 : Hid (∀ w : World, Calls Try.prog 11 #[.slice (some ⟨w.heap.size, 0, none⟩) 1 1] (w.alloc (.cells #[.string B] 9)) fun e w' => e = .returned (.int .u16 (c : Nat)) ∧ Below w.heap.size w w'))
    (H2 : Hid (∀ w : World, Calls Try.prog 13 #[.slice (some ⟨w.heap.size, 0, none⟩) 1 1] (w.alloc (.cells #[.string T] 9)) fun e w' => e = .returned (.bool true) ∧ Below w.heap.size w w'))
    (HW : Hid (∀ (h0 : k < T.size) (h1 : k + 1 < T.size), 256 * (T[k]).toNat + (T[k + 1]).toNat = wa))
    (H3 : Hid (∀ w : World, Calls Try.prog 15 #[.int .u16 (c : Int), .int .u16 (wa : Int), .int .u16 (is : Int)] w fun e w' => e = .returned (.int .u16 (tu : Nat)) ∧ Below w.heap.size w w'))
    (H4 : Hid ((∀ w : World, Calls Try.prog 13 #[.slice (some ⟨w.heap.size, 0, none⟩) 1 1] (w.alloc (.cells #[.string V] 9)) fun e w' => e = .returned (.bool true) ∧ Below w.heap.size w w') ∨
      ((∀ w : World, Calls Try.prog 13 #[.slice (some ⟨w.heap.size, 0, none⟩) 1 1] (w.alloc (.cells #[.string V] 9)) fun e w' => e = .returned (.bool false) ∧ Below w.heap.size w w') ∧
       (∀ w : World, Calls Try.prog 9 #[.slice (some ⟨w.heap.size, 0, none⟩) 1 1] (w.alloc (.cells #[.string V] 9)) fun e w' => e = .returned (.int .u16 0) ∧ Below w.heap.size w w'))))
    (HA : Hid (∀ w : World, Calls Try.prog 8 #[] w fun e w' => e = .returned (.bool true) ∧ Below w.heap.size w w')) :
    Calls Try.prog 4 #[.string s, .int .u16 (p : Int), .int .u16 (o : Int), .int .u16 (is : Int)] w fun e w' => e = .returned (.bool true) ∧ Below w.heap.size w w' := by
  have g1 : decide (4096 < s.size) = false := decide_eq_false (by omega)
  have g2 : decide (s.size < 4) = false := decide_eq_false (by omega)
  go_enter Try.func4, Try.ntmps4
  go_upto_region 5 with fail
  rw [hA]
  clear hA
  have d1 : ((m : Int) == 0) = false := beq_false_of_ne (by omega)
  go_cut [10, 11] from 17 to 44 (fun s10 s11 wx => s10 = .int .i64 (i : Int) ∧ s11 = .int .i64 (k : Int) ∧ Below w.heap.size w wx)
  case first =>
    go_quiet (fail)
    go_wp2_with fail
    go_meet
    case rel => exact ⟨vint hi, vint hk, below_draw (Below.refl _ _) _⟩
  case rest =>
  obtain ⟨rfl, rfl, hB⟩ := hcut
  clear hi hk d1 g1 g2 hm hm0 hp ho hs hs4
  go_upto_region 8 with fail
  have a1 : IntKind.i64.wrap ((i : Int) + 2) = ((i + 2 : Nat) : Int) := by rw [IntKind.wrap_i64]; omega
  have a2 : (i : Int) ≤ (A.size : Int) := by omega
  have a3 : ((i + 2 : Nat) : Int) ≤ (A.size : Int) := by omega
  go_cut [0] from 45 to 57 (fun s0 wx => s0 = .string B ∧ Below w.heap.size w wx)
  case first =>
    go_quiet (fail)
    go_wp2_with fail
    go_meet
    case rel => exact ⟨rfl, below_draw hB _⟩
  case rest =>
  clear hB a1 a2 a3
  obtain ⟨rfl, hB⟩ := hcut
  go_wp2_with fail
  refine (unhide H1 _).mono ?_
  rintro e w1 ⟨rfl, hb1⟩
  have hB1 := hB.trans (hb1.mono hB.size)
  clear hB hb1 H1
  have hB := hB1
  clear hB1
  go_upto_region 10 with fail
  have a1 : IntKind.i64.wrap ((i : Int) + 2) = ((i + 2 : Nat) : Int) := by rw [IntKind.wrap_i64]; omega
  have a2 : (i : Int) ≤ (B.size : Int) := by omega
  have a3 : ((i + 2 : Nat) : Int) ≤ (B.size : Int) := by omega
  have a4 : IntKind.u64.wrap (c : Int) = (c : Int) := by rw [IntKind.wrap_u64]; omega
  go_cut [13] from 58 to 72 (fun s13 wx => s13 = .string T ∧ Below w.heap.size w wx)
  case first =>
    go_region_with (go_at_call 19; refine (unhide HOc _).mono ?_; rintro e w' ⟨rfl, hb1⟩)
    all_goals (go_simp; go_wp2_with fail; go_meet; exact ⟨rfl, hB.drew.trans (hb1.mono hB.drew.size)⟩)
  case rest =>
  clear hB a1 a2 a3 a4 HOc
  obtain ⟨rfl, hB⟩ := hcut
  go_wp2_with fail
  refine (unhide H2 _).mono ?_
  rintro e w1 ⟨rfl, hb1⟩
  have hB1 := hB.trans (hb1.mono hB.size)
  clear hB hb1 H2
  have hB := hB1
  clear hB1
  go_upto_region 13 with fail
  go_cut [14] from 73 to 87 (fun s14 wx => s14 = .int .u16 (wa : Int) ∧ Below w.heap.size w wx)
  case first =>
    have i1 : (k : Int) < (T.size : Int) := by omega
    obtain ⟨k1, hk1⟩ : ∃ k1 : Nat, k + 1 = k1 := ⟨_, rfl⟩
    have i2 : (k1 : Int) < (T.size : Int) := by omega
    have i3 : IntKind.i64.wrap ((k : Int) + 1) = (k1 : Int) := by rw [IntKind.wrap_i64]; omega
    have HK1 := hide hk1
    clear hk1
    go_quiet (fail)
    go_wp2_with fail
    go_meet
    case rel =>
      obtain rfl := unhide HK1
      exact ⟨vint (by rw [was_eq, unhide HW (by omega) (by omega)]), below_draw hB _⟩
  case rest =>
  clear HW hB
  obtain ⟨rfl, hB⟩ := hcut
  go_wp2_with fail
  refine (unhide H3 _).mono ?_
  rintro e w1 ⟨rfl, hb1⟩
  have hB1 := hB.trans (hb1.mono hB.size)
  clear hB hb1 H3
  have hB := hB1
  clear hB1
  go_upto_region 15 with fail
  have a1 : IntKind.i64.wrap ((k : Int) + 2) = ((k + 2 : Nat) : Int) := by rw [IntKind.wrap_i64]; omega
  have a2 : (k : Int) ≤ (T.size : Int) := by omega
  have a3 : ((k + 2 : Nat) : Int) ≤ (T.size : Int) := by omega
  have a4 : IntKind.u64.wrap (is : Int) = (is : Int) := by rw [IntKind.wrap_u64]; omega
  go_cut [16] from 88 to 103 (fun s16 wx => s16 = .string U ∧ Below w.heap.size w wx)
  case first =>
    go_region_with (go_at_call 19; refine (unhide HOi _).mono ?_; rintro e w' ⟨rfl, hb1⟩)
    all_goals (go_simp; go_wp2_with fail; go_meet; exact ⟨rfl, hB.drew.trans (hb1.mono hB.drew.size)⟩)
  case rest =>
  clear hB a1 a2 a3 a4 HOi
  obtain ⟨rfl, hB⟩ := hcut
  go_upto_region 16 with fail
  have a1 : IntKind.i64.wrap ((i : Int) + 2) = ((i + 2 : Nat) : Int) := by rw [IntKind.wrap_i64]; omega
  have a2 : (i : Int) ≤ (U.size : Int) := by omega
  have a3 : ((i + 2 : Nat) : Int) ≤ (U.size : Int) := by omega
  have a4 : IntKind.u64.wrap (tu : Int) = (tu : Int) := by rw [IntKind.wrap_u64]; omega
  go_cut [16] from 88 to 115 (fun s16 wx => s16 = .string V ∧ Below w.heap.size w wx)
  case first =>
    go_region_with (go_at_call 19; refine (unhide HOt _).mono ?_; rintro e w' ⟨rfl, hb1⟩)
    all_goals (go_simp; go_wp2_with fail; go_meet; exact ⟨rfl, hB.drew.trans (hb1.mono hB.drew.size)⟩)
  case rest =>
  clear hB a1 a2 a3 a4 HOt
  obtain ⟨rfl, hB⟩ := hcut
  rcases unhide H4 with h4 | ⟨h4, h5⟩
  · have H5 := hide h4
    clear h4 H4
    go_wp2_with fail
    refine (unhide H5 _).mono ?_
    rintro e w1 ⟨rfl, hb1⟩
    go_wp2_with fail
    refine (unhide HA _).mono ?_
    rintro e w2 ⟨rfl, hb2⟩
    go_wp2
    go_ret
    exact ⟨rfl, hB.trans ((tr2 hb1 hb2).mono hB.size)⟩
  · have H5 := hide h4
    have H6 := hide h5
    clear h4 h5 H4
    go_wp2_with fail
    refine (unhide H5 _).mono ?_
    rintro e w1 ⟨rfl, hb1⟩
    go_wp2_with fail
    refine (unhide H6 _).mono ?_
    rintro e w2 ⟨rfl, hb2⟩
    go_wp2_with fail
    refine (unhide HA _).mono ?_
    rintro e w3 ⟨rfl, hb3⟩
    go_wp2
    go_ret
    exact ⟨rfl, hB.trans ((tr2 hb1 (tr2 hb2 hb3)).mono hB.size)⟩

end Go.Proofs.Ytnnfhbeledfbkaa
