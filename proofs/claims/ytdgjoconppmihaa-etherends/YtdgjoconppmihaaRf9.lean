/- The contracts of the document's Text and Parse (layer 7), over the loaded program; no memory that was there has turned. Conditions: numbers in their kinds' bounds, texts of bounded length. -/
import Derived.Test.YtdgjoconppmihaaRf7
import Derived.Test.YtdgjoconppmihaaEt4
namespace Go.Proofs.Ytdgjoconppmihaa
open Go.RowKit

/-- an address's text as far as k bytes -/
def rtx (x : Nat) : Nat → List UInt8
  | 0 => []
  | 1 => pr (bj x 0)
  | k + 2 => rtx x (k + 1) ++ 58 :: pr (bj x (k + 1))
theorem rtx_all (x : Nat) : rtx x 6 = mtxt x := rfl
theorem rtx_len (x : Nat) : ∀ k, (rtx x k).length ≤ 3 * k
  | 0 => Nat.le_refl _
  | 1 => by show 2 ≤ 3; omega
  | k + 2 => by
    have := rtx_len x (k + 1)
    show (rtx x (k + 1) ++ 58 :: pr (bj x (k + 1))).length ≤ _
    rw [List.length_append]
    show _ + 3 ≤ _
    omega
theorem rtx_step (x k : Nat) (h : 0 < k) : (⟨(rtx x k).toArray⟩ : ByteArray) ++ ⟨#[58]⟩ ++ prS (bj x k) = ⟨(rtx x (k + 1)).toArray⟩ := by
  obtain ⟨j, rfl⟩ : ∃ j, k = j + 1 := ⟨k - 1, by omega⟩
  rw [show (⟨#[58]⟩ : ByteArray) = ⟨[(58 : UInt8)].toArray⟩ from rfl, str_append, show prS (bj x (j + 1)) = ⟨(pr (bj x (j + 1))).toArray⟩ from rfl, str_append]
  show _ = (⟨(rtx x (j + 1) ++ 58 :: pr (bj x (j + 1))).toArray⟩ : ByteArray)
  rw [List.append_assoc]
  rfl
theorem nil_cat (a : ByteArray) : (⟨#[]⟩ : ByteArray) ++ a = a := by
  apply ByteArray.ext
  rw [ByteArray.data_append]
  simp
theorem by6_ix (x k : Nat) (h : k < 6) (w : World) : (Instr.index 9 (.string (by6 x)) (.int .i64 (k : Int))).run Try.prog w = .ok (.int .u8 ((bj x k).toNat : Int)) w := by
  rw [str_ix (by6 x) k h w]
  have e : (by6 x)[k]'h = bj x k := by
    have h1 := by6_at x k h
    rw [Array.getElem?_eq_getElem h] at h1
    exact Option.some.inj h1
  rw [e]

set_option maxRecDepth 20000 in
set_option maxHeartbeats 2000000 in
theorem rtext_any (x : Nat) (w : World) (hlt : x < 18446744073709551616) :
    Calls Try.prog 17 #[.int .u64 (x : Int)] w fun e w' => e = .returned (.string ⟨(mtxt x).toArray⟩) ∧ Below w.heap.size w w' := by
  have HO : Hid (∀ w, Calls Try.prog 26 #[.int .u64 (x : Int), .int .i64 6] w fun e w' => e = .returned (.string (by6 x)) ∧ Below w.heap.size w w') := fun w => Of_any x 6 w hlt (by omega)
  have HIX := hide (fun k h w => by6_ix x k h w)
  have HB := hide (fun (c : UInt8) => conv2d (hx (c.toNat / 16)) (hx (c.toNat % 16)))
  have z6 := by6_size x
  generalize by6 x = X at *
  go_enter Try.func17, Try.ntmps17
  go_wp2_with fail
  refine (unhide HO _).mono ?_
  rintro e w1 ⟨rfl, b1⟩
  go_wp2_with fail
  go_loopw [4, 5] (fun s i wr => ∃ (k : Nat) (T : ByteArray), k ≤ 6 ∧ T = ⟨(rtx x k).toArray⟩ ∧ s = .string T ∧ i = .int .i64 (k : Int) ∧ Below w.heap.size w wr) (fun _ i _ => 6 - (intOf i).toNat)
  case atStart => exact ⟨0, ⟨#[]⟩, by omega, rfl, rfl, rfl, b1⟩
  case round =>
    obtain ⟨k, T, hk, hT, rfl, rfl, hB⟩ := hrel
    have ht : T.size ≤ 18 := by
      rw [hT]
      show (rtx x k).toArray.size ≤ 18
      have := rtx_len x k
      rw [List.size_toArray]
      omega
    have HT := hide hT
    clear hT b1 HO
    by_cases h6 : k < 6
    · have ix := unhide HIX k h6
      have hc := (bj x k).toNat_lt
      have i1 := fun w => dig_iz ((bj x k).toNat / 16) (by omega) .u8 (((bj x k).toNat : Int) / 16) (by omega) w
      have i2 := fun w => dig_iz ((bj x k).toNat % 16) (by omega) .u8 (((bj x k).toNat : Int) % 16) (by omega) w
      have e2 := and15 (bj x k).toNat hc
      have hbk := unhide HB (bj x k)
      by_cases h0 : 0 < k
      · have HS := hide (rtx_step x k h0)
        rw [← unhide HT] at HS
        unfold prS at HS
        clear HT HB HIX
        generalize bj x k = c at *
        generalize hx (c.toNat / 16) = a at *
        generalize hx (c.toNat % 16) = b at *
        obtain ⟨T2, hT2⟩ : ∃ T2, T ++ ⟨#[58]⟩ = T2 := ⟨_, rfl⟩
        rw [hT2] at HS
        have ht2 : T2.size ≤ 19 := by rw [← hT2, ByteArray.size_append]; show T.size + 1 ≤ 19; omega
        have n1 : ¬ 9223372036854775807 < T.size + 1 := by omega
        have n2 : ¬ 9223372036854775807 < T2.size + 2 := by omega
        go_wp2_with fail
        go_region
        go_wp2_with fail
        go_roundw
        case rel => exact ⟨k + 1, _, by omega, unhide HS, rfl, by go_num, tr2 hB ((below_one _ _).trans (below_drew _ |>.mono (by simp)))⟩
        case measure => simp [intOf]; omega
      · obtain rfl : k = 0 := by omega
        have hT : T = ⟨#[]⟩ := unhide HT
        subst hT
        clear HT HB HIX
        have HS : Hid ((⟨#[hx ((bj x 0).toNat / 16), hx ((bj x 0).toNat % 16)]⟩ : ByteArray) = ⟨(rtx x (0 + 1)).toArray⟩) := rfl
        have HN := hide (nil_cat ⟨#[hx ((bj x 0).toNat / 16), hx ((bj x 0).toNat % 16)]⟩)
        generalize bj x 0 = c at *
        generalize hx (c.toNat / 16) = a at *
        generalize hx (c.toNat % 16) = b at *
        have ix : ∀ w, (Instr.index 9 (.string X) (.int .i64 0)).run Try.prog w = .ok (.int .u8 (c.toNat : Int)) w := ix
        go_wp2_with fail
        go_region
        go_wp2_with fail
        go_roundw
        case rel => exact ⟨1, _, by omega, (unhide HN).trans (unhide HS), rfl, rfl, tr2 hB ((below_one _ _).trans (below_drew _ |>.mono (by simp)))⟩
        case measure => simp [intOf]
    · obtain rfl : k = 6 := by omega
      have HT : Hid (T = ⟨(mtxt x).toArray⟩) := HT
      clear HB HIX
      go_wp2_with fail
      go_ret
      refine ⟨?_, hB⟩
      rw [← unhide HT]
      rfl

/-- where the reading of a sign stands behind k digits -/
def ist (m : Nat) (c : UInt8) (k : Nat) : Nat := match hv c with
  | some v => if v < k then (m * 16 + v) % 281474976710656 else m
  | none => m
theorem ist_zero (m : Nat) (c : UInt8) : ist m c 0 = m := by
  unfold ist
  split
  · rw [if_neg (by omega)]
  · rfl
theorem ist_all (m : Nat) (c : UInt8) : ist m c 16 = rst m c := by
  unfold ist rst
  cases h : hv c with
  | none => rfl
  | some v => simp only; rw [if_pos (hv_some h).1]
theorem ist_lt (m : Nat) (c : UInt8) (k : Nat) (h : m < 281474976710656) : ist m c k < 281474976710656 := by
  unfold ist
  split
  · split <;> omega
  · exact h
theorem ist_hit (m : Nat) (c : UInt8) (k : Nat) (h : hv c = some k) : ist m c k = m ∧ ist m c (k + 1) = (m * 16 + k) % 281474976710656 := by
  unfold ist
  rw [h]
  exact ⟨if_neg (by omega), if_pos (by omega)⟩
theorem ist_miss (m : Nat) (c : UInt8) (k : Nat) (h : hv c ≠ some k) : ist m c (k + 1) = ist m c k := by
  unfold ist
  cases e : hv c with
  | none => rfl
  | some v =>
    simp only
    have hne : v ≠ k := fun x => h (by rw [e, x])
    by_cases h2 : v < k
    · rw [if_pos (by omega), if_pos h2]
    · rw [if_neg (by omega), if_neg h2]
theorem or4u (m k : Nat) (hm : m < 281474976710656) (hk : k < 16) : bits .or .u64 ((m : Int) * 16) (k : Int) = ((m * 16 + k : Nat) : Int) := by
  rw [show (m : Int) * 16 = ((m * 16 : Nat) : Int) from by omega, u64_or_nat (m * 16) k (by omega) (by omega), nat_join 4 (m * 16) k (by omega) (by omega)]
theorem and48 (z : Nat) (h : z < 18446744073709551616) : bits .and .u64 (z : Int) 281474976710655 = ((z % 281474976710656 : Nat) : Int) := by
  rw [show (281474976710655 : Int) = ((281474976710655 : Nat) : Int) from rfl, u64_and_nat z 281474976710655 h (by omega), show (281474976710655 : Nat) = 2 ^ 48 - 1 from rfl, Nat.and_two_pow_sub_one_eq_mod]
theorem step48 (m k : Nat) (hm : m < 281474976710656) (hk : k < 16) : bits .and .u64 (bits .or .u64 ((m : Int) * 16) (k : Int)) 281474976710655 = (((m * 16 + k) % 281474976710656 : Nat) : Int) := by
  rw [or4u m k hm hk, and48 _ (by omega)]
/-- where the reading of a text stands behind i signs -/
def rsK (s : ByteArray) (i : Nat) : Nat := (s.data.toList.take i).foldl rst 0
theorem rsK_lt (s : ByteArray) (i : Nat) : rsK s i < 281474976710656 := rfold_lt _ 0 (by omega)
theorem rsK_next (s : ByteArray) (i : Nat) (h : i < s.size) : rsK s (i + 1) = rst (rsK s i) s[i] := by
  unfold rsK
  rw [List.take_succ_eq_append_getElem (by rw [← Lib.size_eq]; exact h), List.foldl_append]
  rfl
theorem beq_hx (c : UInt8) (k : Nat) (hk : k < 16) : (((hx k).toNat : Int) == (c.toNat : Int)) = decide (hv c = some k) := by
  by_cases h : hv c = some k
  · rw [decide_eq_true h, (hv_some h).2]; simp
  · rw [decide_eq_false h]
    apply Bool.eq_false_iff.2
    intro e
    rw [beq_iff_eq] at e
    have : hx k = c := UInt8.toNat_inj.1 (by omega)
    exact h (by rw [← this, hv_hx k hk])

set_option maxRecDepth 20000 in
set_option maxHeartbeats 2000000 in
theorem rparse_is (s : ByteArray) (hs : s.size ≤ 65536) (w : World) (R : Nat) (T : ByteArray) (HR : Hid (rsK s s.size = R)) (b : Bool) (hb : (T.toList == s.toList) = b)
    (H : Hid (∀ w, Calls Try.prog 17 #[.int .u64 (R : Int)] w fun e w' => e = .returned (.string T) ∧ Below w.heap.size w w')) :
    Calls Try.prog 15 #[.string s] w fun e w' => e = .returned (.tuple #[.int .u64 (if b then (R : Int) else 0), .int .i64 (if b then 0 else 8)]) ∧ Below w.heap.size w w' := by
  go_enter Try.func15, Try.ntmps15
  go_wp2
  go_loopw [4, 5] (fun m i wr => ∃ k : Nat, k ≤ s.size ∧ m = .int .u64 (rsK s k : Nat) ∧ i = .int .i64 (k : Int) ∧ Below w.heap.size w wr) (fun _ i _ => s.size - (intOf i).toNat)
  case atStart => exact ⟨0, Nat.zero_le _, rfl, rfl, Below.refl _ _⟩
  case round =>
    obtain ⟨k, hk, rfl, rfl, hB⟩ := hrel
    by_cases h1 : k < s.size
    · have HN := hide (rsK_next s k h1)
      have HM := hide (rsK_lt s k)
      have HI := hide (ist_zero (rsK s k) s[k])
      have HA := hide (ist_all (rsK s k) s[k])
      have ixs : ∀ w, (Instr.index 9 (.string s) (.int .i64 (k : Int))).run Try.prog w = .ok (.int .u8 (s[k].toNat : Int)) w := fun w => str_ix s k h1 w
      generalize rsK s k = M at *
      generalize s[k] = c at *
      go_wp2
      go_loopw [4, 6] (fun m j wr' => ∃ q : Nat, q ≤ 16 ∧ m = .int .u64 (ist M c q : Nat) ∧ j = .int .i64 (q : Int) ∧ Below w.heap.size w wr') (fun _ j _ => 16 - (intOf j).toNat)
      case atStart => exact ⟨0, Nat.zero_le _, by rw [unhide HI], rfl, hB⟩
      case round =>
        clear hB
        obtain ⟨q, hq, rfl, rfl, hB⟩ := hrel
        by_cases h2 : q < 16
        · have ixd := dig_ix q h2 .i64
          have hbq := beq_hx c q h2
          by_cases h3 : hv c = some q
          · rw [decide_eq_true h3] at hbq
            have HH := hide (ist_hit M c q h3)
            have hM := ist_lt M c q (unhide HM)
            have hst := step48 (ist M c q) q hM h2
            have HST := hide hst
            clear hst h3
            generalize (hx q) = d at *
            go_wp2_with fail
            go_region
            go_wp2_with fail
            rw [unhide HST]
            go_roundw
            case rel => exact ⟨q + 1, by omega, by rw [(unhide HH).1, (unhide HH).2], by go_num, tr2 hB (below_drew _)⟩
            case measure => simp [intOf]; omega
          · rw [decide_eq_false h3] at hbq
            have HH := hide (ist_miss M c q h3)
            clear h3
            generalize (hx q) = d at *
            go_wp2_with fail
            go_region
            go_wp2_with fail
            go_roundw
            case rel => exact ⟨q + 1, by omega, by rw [unhide HH], by go_num, tr2 hB (below_drew _)⟩
            case measure => simp [intOf]; omega
        · obtain rfl : q = 16 := by omega
          go_wp2_with fail
          go_roundw
          case rel => exact ⟨k + 1, by omega, by rw [unhide HN, unhide HA], by go_num, hB⟩
          case measure => simp [intOf]; omega
    · obtain rfl : k = s.size := by omega
      rw [unhide HR]
      go_wp2_with fail
      refine (unhide H _).mono ?_
      rintro e w1 ⟨rfl, b1⟩
      cases b
      · go_wp2_with fail
        go_ret2
        exact ⟨rfl, tr2 hB b1⟩
      · go_wp2_with fail
        go_ret2
        exact ⟨rfl, tr2 hB b1⟩

theorem rsK_all (s : ByteArray) : rsK s s.size = s.data.toList.foldl rst 0 := by
  unfold rsK
  rw [List.take_of_length_le (by rw [← Lib.size_eq]; exact Nat.le_refl _)]
theorem rparse_txt (x : Nat) (hlt : x < 281474976710656) (w : World) :
    Calls Try.prog 15 #[.string ⟨(mtxt x).toArray⟩] w fun e w' => e = .returned (.tuple #[.int .u64 (x : Int), .int .i64 0]) ∧ Below w.heap.size w w' :=
  rparse_is ⟨(mtxt x).toArray⟩ (show 17 ≤ 65536 by omega) w x ⟨(mtxt x).toArray⟩ (show rsK ⟨(mtxt x).toArray⟩ (ByteArray.size ⟨(mtxt x).toArray⟩) = x by rw [rsK_all]; exact rfold_mtxt x hlt) true (by simp) (fun w => rtext_any x w (by omega))
theorem rparse_no (s : ByteArray) (hs : s.size ≤ 65536) (h : ∀ x, x < 281474976710656 → s.data.toList ≠ mtxt x) (w : World) :
    Calls Try.prog 15 #[.string s] w fun e w' => e = .returned (.tuple #[.int .u64 0, .int .i64 8]) ∧ Below w.heap.size w w' :=
  rparse_is s hs w (rsK s s.size) ⟨(mtxt (rsK s s.size)).toArray⟩ rfl false (by
    rw [Lib.toList_data, Lib.toList_data]
    have := h _ (rsK_lt s s.size)
    simpa using fun e => this (Eq.symm e)) (fun w => rtext_any _ w (Nat.lt_trans (rsK_lt s s.size) (by decide)))

end Go.Proofs.Ytdgjoconppmihaa
