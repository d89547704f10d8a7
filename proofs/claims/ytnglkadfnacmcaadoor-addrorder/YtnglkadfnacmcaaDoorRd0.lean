/- The contracts of the document's Of (layer 1) and of its Num, Text, Kind, Turn, Bytes, Compare and Parse (layer 6), over the loaded program; no memory that was there has turned. Conditions: numbers in their kinds' bounds, texts of bounded length. -/
import Derived.Test.YtnglkadfnacmcaaDoorAd5
import Derived.Test.YtnglkadfnacmcaaDoorAd2
import Derived.Laws.BytesArg
import Derived.Lib.QuietBelow
namespace Go.Proofs.YtnglkadfnacmcaaDoor
open Go.RowKit

theorem str_append (a b : List UInt8) : (⟨a.toArray⟩ : ByteArray) ++ ⟨b.toArray⟩ = ⟨(a ++ b).toArray⟩ := by
  apply ByteArray.ext
  rw [ByteArray.data_append]
  simp
theorem back1 (W : World) (y : Nat) :
    (convert 71 9 (.slice (some ⟨W.heap.size, 0, none⟩) 1 1)).run Tryd.prog (W.alloc (.cells #[.int .u8 ((y : Int) % 256)] 5)) = .ok (.string ⟨#[byt y 0]⟩) (W.alloc (.cells #[.int .u8 ((y : Int) % 256)] 5)) :=
  run_convert_bytes_back (P := Tryd.prog) (W.alloc (.cells #[.int .u8 ((y : Int) % 256)] 5)) 71 9 5 ⟨W.heap.size, 0, none⟩ 1 [byt y 0] Tryd.underlying71 Tryd.underlying5 Tryd.underlying9 (fun j hj => by
    obtain rfl : j = 0 := by simpa using hj
    have ha : (⟨W.heap.size, 0, none⟩ : Addr).add 0 = ⟨W.heap.size, 0, none⟩ := by unfold Addr.add; split <;> simp_all
    rw [ha]
    simp only [World.cell?]
    rw [heap_alloc_new]
    have e : (([byt y 0][0]).toNat : Int) = (y : Int) % 256 := by
      show ((byt y 0).toNat : Int) = _
      rw [byt_toNat]; omega
    rw [e]
    rfl)

theorem ofB_succ (x k y : Nat) (h : x / 256 ^ k = y) : ofB x (k + 1) = byt y 0 :: ofB x k := by
  rw [ofB, ← h, byt_div]; rfl

set_option maxHeartbeats 1000000 in
theorem Of_any (x n : Nat) (w : World) (hx : x < 18446744073709551616) (hn : n ≤ 8) :
    Calls Tryd.prog 31 #[.int .u64 (x : Int), .int .i64 (n : Int)] w fun e w' => e = .returned (.string ⟨(ofB x n).toArray⟩) ∧ Below w.heap.size w w' := by
  go_enter Tryd.func31, Tryd.ntmps31
  go_wp2
  go_loopw [0, 5, 6] (fun a s i wr => ∃ (k y : Nat) (t : ByteArray), k ≤ n ∧ y < 18446744073709551616 ∧ x / 256 ^ k = y ∧ t = ⟨(ofB x k).toArray⟩ ∧ a = .int .u64 (y : Int) ∧ s = .string t ∧ i = .int .i64 (k : Int) ∧ Below w.heap.size w wr) (fun _ _ i _ => n - (intOf i).toNat)
  case atStart => exact ⟨0, x, ⟨#[]⟩, Nat.zero_le _, hx, by simp, rfl, rfl, rfl, rfl, Below.refl _ _⟩
  case round =>
    obtain ⟨k, y, t, hk, hy, hxy, ht, rfl, rfl, rfl, hB⟩ := hrel
    have hts : t.size ≤ 8 := by
      rw [ht]; show (ofB x k).toArray.size ≤ 8; rw [List.size_toArray, ofB_length]; omega
    have HXY := hide hxy
    have HT := hide ht
    clear hxy ht
    by_cases hlt : k < n
    · have hg : decide (k < 8) = true := decide_eq_true (by omega)
      have hbk := fun W => back1 W y
      go_wp2
      go_roundw
      case rel => exact ⟨k + 1, y / 256, ⟨(ofB x (k + 1)).toArray⟩, by omega, by omega, by rw [← unhide HXY, Nat.div_div_eq_div_mul, Nat.pow_succ], rfl, by go_num, by rw [unhide HT, ofB_succ x k y (unhide HXY), show (⟨#[byt y 0]⟩ : ByteArray) = ⟨[byt y 0].toArray⟩ from rfl, str_append]; rfl, by go_num, hB.alloc hB.size _⟩
      case measure => simp [intOf]; omega
    · have hg : decide (k < n) = false := decide_eq_false hlt
      go_wp2
      go_ret
      refine ⟨?_, hB⟩
      obtain rfl : k = n := by omega
      rw [← unhide HT]
      rfl


theorem conv1 (z : Int) (d : Nat) (h : z = ((48 + d : Nat) : Int)) (hd : d < 10) (W : World) :
    (convert 71 9 (.slice (some ⟨W.heap.size, 0, none⟩) 1 1)).run Tryd.prog (W.alloc (.cells #[.int .u8 z] 5)) = .ok (.string ⟨#[dgt d]⟩) (W.alloc (.cells #[.int .u8 z] 5)) :=
  run_convert_bytes_back (P := Tryd.prog) (W.alloc (.cells #[.int .u8 z] 5)) 71 9 5 ⟨W.heap.size, 0, none⟩ 1 [dgt d] Tryd.underlying71 Tryd.underlying5 Tryd.underlying9 (fun j hj => by
    obtain rfl : j = 0 := by simpa using hj
    have ha : (⟨W.heap.size, 0, none⟩ : Addr).add 0 = ⟨W.heap.size, 0, none⟩ := by unfold Addr.add; split <;> simp_all
    rw [ha]
    simp only [World.cell?]
    rw [heap_alloc_new]
    have e : (([dgt d][0]).toNat : Int) = z := by
      show ((dgt d).toNat : Int) = _
      rw [dgt_toNat d hd, h]
    rw [e]
    rfl)
theorem cat_nil (a : ByteArray) : a ++ (⟨#[]⟩ : ByteArray) = a := by
  apply ByteArray.ext
  rw [ByteArray.data_append]
  simp

set_option maxRecDepth 20000 in
set_option maxHeartbeats 1000000 in
theorem rnum_1 (n : Nat) (h1 : n < 10) (w : World) :
    Calls Tryd.prog 32 #[.int .i64 (n : Int)] w fun e w' => e = .returned (.string ⟨(dl n).toArray⟩) ∧ Below w.heap.size w w' := by
  have hbk := conv1 (48 + (n : Int)) n (by omega) h1
  have e : dl n = [dgt n] := by unfold dl; rw [if_pos h1]
  rw [e]
  have HC := hide (cat_nil ⟨#[dgt n]⟩)
  clear e
  go_enter Tryd.func32, Tryd.ntmps32
  go_wp2
  refine wp_loop_rounds 3 ?_
  rw [rounds_succ]; go_wp2
  rw [unhide HC]
  go_ret
  exact ⟨rfl, below_one _ _⟩

set_option maxRecDepth 20000 in
set_option maxHeartbeats 1000000 in
theorem rnum_2 (n : Nat) (h1 : ¬ n < 10) (h2 : n < 100) (w : World) :
    Calls Tryd.prog 32 #[.int .i64 (n : Int)] w fun e w' => e = .returned (.string ⟨(dl n).toArray⟩) ∧ Below w.heap.size w w' := by
  have hb1 := conv1 (48 + (n : Int) % 10) (n % 10) (by omega) (by omega)
  have hb2 := conv1 (48 + (n : Int) / 10) (n / 10) (by omega) (by omega)
  have e : dl n = [dgt (n / 10)] ++ [dgt (n % 10)] := by unfold dl; rw [if_neg h1, if_pos h2]; rfl
  rw [e, ← str_append]
  have HC := hide (cat_nil ⟨#[dgt (n % 10)]⟩)
  clear e
  generalize dgt (n / 10) = a at *
  generalize dgt (n % 10) = b at *
  obtain ⟨z, hz⟩ : ∃ z : Int, z = (n : Int) := ⟨_, rfl⟩
  rw [← hz] at hb1 hb2 ⊢
  have hz1 : 10 ≤ z := by omega
  have hz2 : z < 100 := by omega
  clear hz h1 h2
  go_enter Tryd.func32, Tryd.ntmps32
  go_wp2
  refine wp_loop_rounds 4 ?_
  rw [rounds_succ]; go_wp2
  rw [unhide HC]
  have b1 := below_one w (.cells #[.int .u8 (48 + z % 10)] 5)
  clear hb1
  generalize w.alloc (.cells #[.int .u8 (48 + z % 10)] 5) = w1 at *
  rw [rounds_succ]; go_wp2
  go_ret
  exact ⟨rfl, tr2 b1 (below_one _ _)⟩

set_option maxRecDepth 20000 in
set_option maxHeartbeats 1000000 in
theorem rnum_3 (n : Nat) (h1 : ¬ n < 100) (h2 : n < 256) (w : World) :
    Calls Tryd.prog 32 #[.int .i64 (n : Int)] w fun e w' => e = .returned (.string ⟨(dl n).toArray⟩) ∧ Below w.heap.size w w' := by
  have hb1 := conv1 (48 + (n : Int) % 10) (n % 10) (by omega) (by omega)
  have hb2 := conv1 (48 + (n : Int) / 10 % 10) (n / 10 % 10) (by omega) (by omega)
  have hb3 := conv1 (48 + (n : Int) / 10 / 10) (n / 100) (by omega) (by omega)
  have e : dl n = [dgt (n / 100)] ++ ([dgt (n / 10 % 10)] ++ [dgt (n % 10)]) := by unfold dl; rw [if_neg (by omega), if_neg h1]; rfl
  rw [e, ← str_append, ← str_append]
  have HC := hide (cat_nil ⟨#[dgt (n % 10)]⟩)
  clear e
  generalize dgt (n / 100) = a at *
  generalize dgt (n / 10 % 10) = b at *
  generalize dgt (n % 10) = c at *
  obtain ⟨z, hz⟩ : ∃ z : Int, z = (n : Int) := ⟨_, rfl⟩
  rw [← hz] at hb1 hb2 hb3 ⊢
  have hz1 : 100 ≤ z := by omega
  have hz2 : z < 256 := by omega
  clear hz h1 h2
  go_enter Tryd.func32, Tryd.ntmps32
  go_wp2
  refine wp_loop_rounds 4 ?_
  rw [rounds_succ]; go_wp2
  rw [unhide HC]
  have b1 := below_one w (.cells #[.int .u8 (48 + z % 10)] 5)
  clear hb1
  generalize w.alloc (.cells #[.int .u8 (48 + z % 10)] 5) = w1 at *
  rw [rounds_succ]; go_wp2
  have b2 := below_one w1 (.cells #[.int .u8 (48 + z / 10 % 10)] 5)
  clear hb2
  generalize w1.alloc (.cells #[.int .u8 (48 + z / 10 % 10)] 5) = w2 at *
  rw [rounds_succ]; go_wp2
  go_ret
  exact ⟨rfl, tr2 b1 (tr2 b2 (below_one _ _))⟩

theorem rnum_any (n : Nat) (hn : n < 256) (w : World) :
    Calls Tryd.prog 32 #[.int .i64 (n : Int)] w fun e w' => e = .returned (.string ⟨(dl n).toArray⟩) ∧ Below w.heap.size w w' := by
  by_cases h1 : n < 10
  · exact rnum_1 n h1 w
  · by_cases h2 : n < 100
    · exact rnum_2 n h1 h2 w
    · exact rnum_3 n h2 hn w

/-- an address's text, put together as the document does -/
def catT (A B C D : ByteArray) : ByteArray := A ++ ⟨#[46]⟩ ++ B ++ ⟨#[46]⟩ ++ C ++ ⟨#[46]⟩ ++ D
theorem catT_eq (a b c d : Nat) : catT ⟨(dl a).toArray⟩ ⟨(dl b).toArray⟩ ⟨(dl c).toArray⟩ ⟨(dl d).toArray⟩ = ⟨(txt a b c d).toArray⟩ := by
  unfold catT txt
  rw [show (⟨#[46]⟩ : ByteArray) = ⟨[(46 : UInt8)].toArray⟩ from rfl, str_append, str_append, str_append, str_append, str_append, str_append]
  simp
theorem dl_size (n : Nat) : (⟨(dl n).toArray⟩ : ByteArray).size ≤ 3 := by
  show (dl n).toArray.size ≤ 3
  rw [List.size_toArray]
  exact (dl_len n).2

set_option maxRecDepth 20000 in
set_option maxHeartbeats 1000000 in
theorem rtext_any (x : Nat) (w : World) (hx : x < 4294967296) :
    Calls Tryd.prog 12 #[.int .u32 (x : Int)] w fun e w' => e = .returned (.string ⟨(txtI x).toArray⟩) ∧ Below w.heap.size w w' := by
  have HO := hide (fun w => Of_any x 4 w (by omega) (by omega))
  have HE := hide (catT_eq (x / 16777216) (x / 65536 % 256) (x / 256 % 256) (x % 256))
  unfold catT at HE
  have i0 : ∀ w, (Instr.index 9 (.string (by4 x)) (.int .i64 0)).run Tryd.prog w = .ok (.int .u8 ((x / 16777216 : Nat) : Int)) w := fun w => by
    rw [← byt_div3 x hx]; kernel_rfl
  have i1 : ∀ w, (Instr.index 9 (.string (by4 x)) (.int .i64 1)).run Tryd.prog w = .ok (.int .u8 ((x / 65536 % 256 : Nat) : Int)) w := fun w => by
    rw [← byt_div2 x]; kernel_rfl
  have i2 : ∀ w, (Instr.index 9 (.string (by4 x)) (.int .i64 2)).run Tryd.prog w = .ok (.int .u8 ((x / 256 % 256 : Nat) : Int)) w := fun w => by
    rw [← byt_div1 x]; kernel_rfl
  have i3 : ∀ w, (Instr.index 9 (.string (by4 x)) (.int .i64 3)).run Tryd.prog w = .ok (.int .u8 ((x % 256 : Nat) : Int)) w := fun w => by
    rw [← byt_div0 x]; kernel_rfl
  have H0 := hide (fun w => rnum_any (x / 16777216) (by omega) w)
  have H1 := hide (fun w => rnum_any (x / 65536 % 256) (by omega) w)
  have H2 := hide (fun w => rnum_any (x / 256 % 256) (by omega) w)
  have H3 := hide (fun w => rnum_any (x % 256) (by omega) w)
  have ha : x / 16777216 < 256 := by omega
  have hb : x / 65536 % 256 < 256 := by omega
  have hc : x / 256 % 256 < 256 := by omega
  have hd : x % 256 < 256 := by omega
  have s0 := dl_size (x / 16777216)
  have s1 := dl_size (x / 65536 % 256)
  have s2 := dl_size (x / 256 % 256)
  have s3 := dl_size (x % 256)
  have HO : Hid (∀ w, Calls Tryd.prog 31 #[.int .u64 (x : Int), .int .i64 4] w fun e w' => e = .returned (.string (by4 x)) ∧ Below w.heap.size w w') := HO
  unfold txtI
  generalize x / 16777216 = a at *
  generalize x / 65536 % 256 = b at *
  generalize x / 256 % 256 = c at *
  generalize x % 256 = d at *
  generalize (⟨(txt a b c d).toArray⟩ : ByteArray) = T at *
  generalize (⟨(dl a).toArray⟩ : ByteArray) = A at *
  generalize (⟨(dl b).toArray⟩ : ByteArray) = B at *
  generalize (⟨(dl c).toArray⟩ : ByteArray) = C at *
  generalize (⟨(dl d).toArray⟩ : ByteArray) = D at *
  generalize by4 x = X at *
  have HE := unhide HE
  have z46 : (⟨#[46]⟩ : ByteArray).size = 1 := rfl
  obtain ⟨P1, g1⟩ : ∃ P, A ++ ⟨#[46]⟩ = P := ⟨_, rfl⟩
  have t1 : P1.size ≤ 4 := by rw [← g1, ByteArray.size_append]; omega
  rw [g1] at HE
  obtain ⟨P2, g2⟩ : ∃ P, P1 ++ B = P := ⟨_, rfl⟩
  have t2 : P2.size ≤ 7 := by rw [← g2, ByteArray.size_append]; omega
  rw [g2] at HE
  obtain ⟨P3, g3⟩ : ∃ P, P2 ++ ⟨#[46]⟩ = P := ⟨_, rfl⟩
  have t3 : P3.size ≤ 8 := by rw [← g3, ByteArray.size_append]; omega
  rw [g3] at HE
  obtain ⟨P4, g4⟩ : ∃ P, P3 ++ C = P := ⟨_, rfl⟩
  have t4 : P4.size ≤ 11 := by rw [← g4, ByteArray.size_append]; omega
  rw [g4] at HE
  obtain ⟨P5, g5⟩ : ∃ P, P4 ++ ⟨#[46]⟩ = P := ⟨_, rfl⟩
  have t5 : P5.size ≤ 12 := by rw [← g5, ByteArray.size_append]; omega
  rw [g5] at HE
  clear z46
  have wa : IntKind.i64.wrap (a : Int) = (a : Int) := by rw [IntKind.wrap_i64]; omega
  have wb : IntKind.i64.wrap (b : Int) = (b : Int) := by rw [IntKind.wrap_i64]; omega
  have wc : IntKind.i64.wrap (c : Int) = (c : Int) := by rw [IntKind.wrap_i64]; omega
  have wd : IntKind.i64.wrap (d : Int) = (d : Int) := by rw [IntKind.wrap_i64]; omega
  go_enter Tryd.func12, Tryd.ntmps12
  go_wp2_with fail
  refine (unhide HO _).mono ?_
  rintro e w1 ⟨rfl, b1⟩
  go_wp2_with fail
  have q0 := fun d os => Calls.regrown_of (unhide H0 (Sort.grow (redrawn w1 d) os))
  have q1 := fun d os => Calls.regrown_of (unhide H1 (Sort.grow (redrawn w1 d) os))
  have q2 := fun d os => Calls.regrown_of (unhide H2 (Sort.grow (redrawn w1 d) os))
  have q3 := fun d os => Calls.regrown_of (unhide H3 (Sort.grow (redrawn w1 d) os))
  clear H0 H1 H2 H3 HO
  have n1 : ¬ 9223372036854775807 < A.size + 1 := by omega
  have n2 : ¬ 9223372036854775807 < P1.size + B.size := by omega
  have n3 : ¬ 9223372036854775807 < P2.size + 1 := by omega
  have n4 : ¬ 9223372036854775807 < P3.size + C.size := by omega
  have n5 : ¬ 9223372036854775807 < P4.size + 1 := by omega
  have n6 : ¬ 9223372036854775807 < P5.size + D.size := by omega
  refine wp_region_quiet_below (by kernel_rfl) (by kernel_rfl) ?_
  repeat (quiet_step (fail))
  quiet_step (exact q0 _ _)
  repeat (quiet_step (fail))
  quiet_step (exact q1 _ _)
  repeat (quiet_step (fail))
  quiet_step (exact q2 _ _)
  repeat (quiet_step (fail))
  quiet_step (exact q3 _ _)
  repeat (quiet_step (fail))
  refine wpQuiet_nil ?_
  intro _ hw'
  obtain ⟨⟨dq, osq⟩, hw''⟩ := hw'
  subst hw''
  go_wp2
  go_ret
  exact ⟨rfl, tr2 b1 (below_regrown w1 dq osq)⟩

end Go.Proofs.YtnglkadfnacmcaaDoor
