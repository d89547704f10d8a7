/- The walk of the statement SumRight, whole: its short ways, and the mathematics of a word put into a text. No conditions but the data's bounds. -/
import Derived.Test.YtnnfhbeledfbkaaSumRight
namespace Go.Proofs.Ytnnfhbeledfbkaa
open Go.RowKit

def putw (l : List UInt8) (k x : Nat) : List UInt8 := l.take k ++ ofB x 2 ++ l.drop (k + 2)
def wd (l : List UInt8) (k : Nat) : Nat := 256 * (l[k]?.getD 0).toNat + (l[k + 1]?.getD 0).toNat
theorem wd_lt (l : List UInt8) (k : Nat) : wd l k < 65536 := by
  have h1 := (l[k]?.getD 0).toNat_lt
  have h2 := (l[k + 1]?.getD 0).toNat_lt
  unfold wd; omega
theorem wd_eq (l : List UInt8) (k : Nat) (h : k + 1 < l.length) : wd l k = 256 * (l[k]).toNat + (l[k + 1]).toNat := by
  unfold wd; rw [List.getElem?_eq_getElem h, List.getElem?_eq_getElem (by omega)]; rfl
theorem putw_length (l : List UInt8) (k x : Nat) (h : k + 2 ≤ l.length) : (putw l k x).length = l.length := by
  unfold putw; simp only [List.length_append, List.length_take, List.length_drop, ofB_length]; omega
theorem S_putw (l : List UInt8) (k x : Nat) (hk : k % 2 = 0) (h : k + 2 ≤ l.length) (hx : x < 65536) : S (putw l k x) + wd l k = S l + x := by
  have e1 := S_list_word l k hk (by omega)
  have e2 := S_put_word l k x hk (by omega) hx
  rw [wd_eq l k (by omega)]
  unfold putw
  omega
theorem putw_at (l : List UInt8) (k x j : Nat) (h : k + 2 ≤ l.length) (hj : j < k ∨ k + 2 ≤ j) : (putw l k x)[j]? = l[j]? := by
  unfold putw
  rcases hj with hj | hj
  · rw [List.append_assoc, List.getElem?_append_left (by rw [List.length_take]; omega), List.getElem?_take_of_lt hj]
  · have hl : (l.take k ++ ofB x 2).length = k + 2 := by rw [List.length_append, List.length_take, ofB_length]; omega
    rw [List.getElem?_append_right (by omega), hl, List.getElem?_drop]
    congr 1
    omega
theorem putw_0 (l : List UInt8) (k x : Nat) (h : k + 2 ≤ l.length) : (putw l k x)[k]? = some (byt x 1) := by
  unfold putw
  have hl : (l.take k).length = k := by rw [List.length_take]; omega
  rw [List.append_assoc, List.getElem?_append_right (by omega), hl, Nat.sub_self]; rfl
theorem putw_1 (l : List UInt8) (k x : Nat) (h : k + 2 ≤ l.length) : (putw l k x)[k + 1]? = some (byt x 0) := by
  unfold putw
  have hl : (l.take k).length = k := by rw [List.length_take]; omega
  rw [List.append_assoc, List.getElem?_append_right (by omega), hl, show k + 1 - k = 1 from by omega]; rfl
theorem wd_same (l : List UInt8) (k x : Nat) (h : k + 2 ≤ l.length) (hx : x < 65536) : wd (putw l k x) k = x := by
  unfold wd
  rw [putw_0 l k x h, putw_1 l k x h]
  show 256 * (byt x 1).toNat + (byt x 0).toNat = x
  rw [byt_toNat, byt_toNat]
  omega
theorem wd_other (l : List UInt8) (i k x : Nat) (h : i + 2 ≤ l.length) (hi : i % 2 = 0) (hk : k % 2 = 0) (hne : i ≠ k) : wd (putw l i x) k = wd l k := by
  unfold wd
  rw [putw_at l i x k h (by omega), putw_at l i x (k + 1) h (by omega)]

theorem put_text (X Y : ByteArray) (k x : Nat) (h : k + 2 ≤ X.size) (e : X.extract 0 k ++ (⟨(ofB x 2).toArray⟩ : ByteArray) ++ X.extract (k + 2) X.size = Y) : Y.data.toList = putw X.data.toList k x := by
  have hz := Lib.size_eq X
  rw [← e, ByteArray.data_append, Array.toList_append, ByteArray.data_append, Array.toList_append, extract_list, extract_list, List.drop_zero, Nat.sub_zero, List.take_of_length_le (l := X.data.toList.drop (k + 2)) (by rw [List.length_drop]; omega)]
  rfl
theorem put_size (X Y : ByteArray) (k x : Nat) (h : k + 2 ≤ X.size) (e : X.extract 0 k ++ (⟨(ofB x 2).toArray⟩ : ByteArray) ++ X.extract (k + 2) X.size = Y) : Y.size = X.size := by
  rw [Lib.size_eq, put_text X Y k x h e, putw_length _ _ _ (by rw [← Lib.size_eq]; exact h), ← Lib.size_eq]

theorem full_T (b c : Nat) (hc : c = 65535 - red b) : red (b + c) = 65535 := by
  have h1 := red_mod b
  have h2 := red_le b
  have h3 : red b ≤ b := by unfold red; split <;> omega
  exact red_full (by omega) (by omega)

set_option maxHeartbeats 1000000 in
theorem right_far (s : ByteArray) (p o is : Int) (w : World) (hs : s.size ≤ maxLen) (h : 4096 < s.size ∨ s.size < 4) :
    Calls Try.prog 4 #[.string s, .int .u16 p, .int .u16 o, .int .u16 is] w fun e w' => e = .returned (.bool true) ∧ Below w.heap.size w w' := by
  unfold maxLen at hs
  have HA := hide alive_any
  by_cases h1 : 4096 < s.size
  · have g1 : decide (4096 < s.size) = true := decide_eq_true h1
    go_enter Try.func4, Try.ntmps4
    go_wp2_with fail
    refine (unhide HA _).mono ?_
    rintro e w4 ⟨rfl, hb4⟩
    go_wp2
    go_ret
    exact ⟨rfl, hb4⟩
  · have g1 : decide (4096 < s.size) = false := decide_eq_false h1
    have g2 : decide (s.size < 4) = true := decide_eq_true (by omega)
    go_enter Try.func4, Try.ntmps4
    go_wp2_with fail
    refine (unhide HA _).mono ?_
    rintro e w4 ⟨rfl, hb4⟩
    go_wp2
    go_ret
    exact ⟨rfl, hb4⟩

set_option maxRecDepth 100000 in
set_option maxHeartbeats 4000000 in
theorem right_same (s A : ByteArray) (p o i m : Nat) (is : Int) (w : World) (hs : s.size ≤ 4096) (hs4 : 4 ≤ s.size) (hA : s.extract 0 (s.size / 2 * 2) = A) (hAz : A.size ≤ 4096) (hm : (A.size : Int) / 2 = (m : Int)) (hm0 : 0 < m)
    (hi : wrap64 (2 * ((p : Int) % (m : Int))) = (i : Int)) (hk : wrap64 (2 * ((o : Int) % (m : Int))) = (i : Int))
    (hp : p < 65536) (ho : o < 65536) :
    Calls Try.prog 4 #[.string s, .int .u16 (p : Int), .int .u16 (o : Int), .int .u16 is] w fun e w' => e = .returned (.bool true) ∧ Below w.heap.size w w' := by
  have HA := hide alive_any
  have g1 : decide (4096 < s.size) = false := decide_eq_false (by omega)
  have g2 : decide (s.size < 4) = false := decide_eq_false (by omega)
  go_enter Try.func4, Try.ntmps4
  go_upto_region 5 with fail
  rw [hA]
  clear hA
  have d1 : ((m : Int) == 0) = false := beq_false_of_ne (by omega)
  go_cut [10, 11] from 17 to 44 (fun s10 s11 wx => s10 = .int .i64 (i : Int) ∧ s11 = .int .i64 (i : Int) ∧ Below w.heap.size w wx)
  case first =>
    go_quiet (fail)
    go_wp2_with fail
    go_meet
    case rel => exact ⟨vint hi, vint hk, below_draw (Below.refl _ _) _⟩
  case rest =>
  obtain ⟨rfl, rfl, hB⟩ := hcut
  clear hi hk d1 g1 g2 hm hm0 hp ho hs hs4
  go_wp2_with fail
  refine (unhide HA _).mono ?_
  rintro e w1 ⟨rfl, hb1⟩
  go_wp2
  go_ret
  exact ⟨rfl, hB.trans (hb1.mono hB.size)⟩

theorem sumRight_walk (s : ByteArray) (p o is : Int) (w0 : s.size ≤ maxLen) (w1 : (Lit.int .u16 p).wf = true) (w2 : (Lit.int .u16 o).wf = true) (w3 : (Lit.int .u16 is).wf = true) (w : World) :
    Calls Try.prog 4 #[.string s, .int .u16 p, .int .u16 o, .int .u16 is] w fun e w' => e = .returned (.bool true) ∧ Below w.heap.size w w' := by
  by_cases hl : 4096 < s.size ∨ s.size < 4
  · exact right_far s p o is w w0 hl
  · obtain ⟨p, rfl, hp⟩ := nat16 w1
    obtain ⟨o, rfl, ho⟩ := nat16 w2
    have hs : s.size ≤ 4096 := by omega
    have hs4 : 4 ≤ s.size := by omega
    obtain ⟨A, hA⟩ : ∃ A, s.extract 0 (s.size / 2 * 2) = A := ⟨_, rfl⟩
    have hAz : A.size = s.size / 2 * 2 := by rw [← hA, ByteArray.size_extract]; omega
    obtain ⟨m, hm⟩ : ∃ m : Nat, A.size / 2 = m := ⟨_, rfl⟩
    have hm' : (A.size : Int) / 2 = (m : Int) := by omega
    have hpm : p % m < m := Nat.mod_lt _ (by omega)
    have hom : o % m < m := Nat.mod_lt _ (by omega)
    obtain ⟨i, hi⟩ : ∃ i : Nat, 2 * (p % m) = i := ⟨_, rfl⟩
    obtain ⟨k, hk⟩ : ∃ k : Nat, 2 * (o % m) = k := ⟨_, rfl⟩
    have ci : (2 : Int) * ((p : Int) % (m : Int)) = (i : Int) := by rw [← hi]; simp
    have ck : (2 : Int) * ((o : Int) % (m : Int)) = (k : Int) := by rw [← hk]; simp
    have hi' : wrap64 (2 * ((p : Int) % (m : Int))) = (i : Int) := by rw [ci]; unfold wrap64; omega
    have hk' : wrap64 (2 * ((o : Int) % (m : Int))) = (k : Int) := by rw [ck]; unfold wrap64; omega
    by_cases hne : i = k
    · subst hne
      exact right_same s A p o i m is w hs hs4 hA (by omega) hm' (by omega) hi' hk' hp ho
    · obtain ⟨is, rfl, his⟩ := nat16 w3
      have hi2 : i + 2 ≤ A.size := by omega
      have hk2 : k + 2 ≤ A.size := by omega
      have hie : i % 2 = 0 := by omega
      have hke : k % 2 = 0 := by omega
      -- the texts
      obtain ⟨B, hB⟩ : ∃ B, A.extract 0 i ++ (⟨(ofB 0 2).toArray⟩ : ByteArray) ++ A.extract (i + 2) A.size = B := ⟨_, rfl⟩
      have zB := put_size A B i 0 hi2 hB
      have tB := put_text A B i 0 hi2 hB
      obtain ⟨c, hc⟩ : ∃ c, 65535 - add [B] = c := ⟨_, rfl⟩
      obtain ⟨T, hT⟩ : ∃ T, B.extract 0 i ++ (⟨(ofB c 2).toArray⟩ : ByteArray) ++ B.extract (i + 2) B.size = T := ⟨_, rfl⟩
      have zT := put_size B T i c (by omega) hT
      have tT := put_text B T i c (by omega) hT
      obtain ⟨wa, hwa⟩ : ∃ wa, wd T.data.toList k = wa := ⟨_, rfl⟩
      have lwa : wa < 65536 := by rw [← hwa]; exact wd_lt _ _
      obtain ⟨tu, htu⟩ : ∃ tu, turn c wa is = tu := ⟨_, rfl⟩
      have ltu : tu < 65536 := by have := turn_le c wa is; omega
      obtain ⟨U, hU⟩ : ∃ U, T.extract 0 k ++ (⟨(ofB is 2).toArray⟩ : ByteArray) ++ T.extract (k + 2) T.size = U := ⟨_, rfl⟩
      have zU := put_size T U k is (by omega) hU
      have tU := put_text T U k is (by omega) hU
      obtain ⟨V, hV⟩ : ∃ V, U.extract 0 i ++ (⟨(ofB tu 2).toArray⟩ : ByteArray) ++ U.extract (i + 2) U.size = V := ⟨_, rfl⟩
      have zV := put_size U V i tu (by omega) hV
      have tV := put_text U V i tu (by omega) hV
      -- their sums
      have lA := Lib.size_eq A
      have lB := Lib.size_eq B
      have lT := Lib.size_eq T
      have lU := Lib.size_eq U
      have aB : add [B] = red (S B.data.toList) := by unfold add; rw [cat_one]
      have aT : add [T] = red (S T.data.toList) := by unfold add; rw [cat_one]
      have aV : add [V] = red (S V.data.toList) := by unfold add; rw [cat_one]
      have wB : wd B.data.toList i = 0 := by rw [tB]; exact wd_same _ _ _ (by omega) (by omega)
      have lc : c < 65536 := by omega
      have sT : S T.data.toList = S B.data.toList + c := by
        have h := S_putw B.data.toList i c hie (by omega) lc
        rw [← tT, wB] at h
        omega
      have fT : add [T] = 65535 := by rw [aT, sT]; exact full_T _ _ (by rw [← hc, aB])
      have wT : wd T.data.toList i = c := by rw [tT]; exact wd_same _ _ _ (by omega) lc
      have sU : S U.data.toList + wa = S T.data.toList + is := by
        have h := S_putw T.data.toList k is hke (by omega) his
        rw [← tU, hwa] at h
        exact h
      have wU : wd U.data.toList i = c := by rw [tU, wd_other _ k i is (by omega) hke hie (by omega)]; exact wT
      have sV : S V.data.toList + c = S U.data.toList + tu := by
        have h := S_putw U.data.toList i tu hie (by omega) ltu
        rw [← tV, wU] at h
        exact h
      have mT : S T.data.toList % 65535 = 0 := by
        have h := red_mod (S T.data.toList)
        rw [← aT, fT] at h
        omega
      have mV : S V.data.toList % 65535 = 0 := by
        have h1 := red_mod ((65535 - c) + (65535 - wa) + is)
        have h2 := red_le ((65535 - c) + (65535 - wa) + is)
        have h3 : tu = 65535 - red ((65535 - c) + (65535 - wa) + is) := htu.symm
        omega
      have fV : add [V] = 65535 ∨ add [V] = 0 := by
        rw [aV]
        by_cases h0 : S V.data.toList = 0
        · exact .inr (by rw [h0]; rfl)
        · exact .inl (red_full mV (by omega))
      have H1 := of1 B (by omega)
      rw [hc] at H1
      have H2 := right1 T (by omega)
      rw [show decide (add [T] = 65535) = true from decide_eq_true fT] at H2
      have H3 := fun w => turn_any c wa is w lc lwa his
      rw [htu] at H3
      refine right_core s A B T U V ⟨(ofB c 2).toArray⟩ ⟨(ofB is 2).toArray⟩ ⟨(ofB tu 2).toArray⟩ p o is i k m c wa tu w hs hs4 hA (by omega) hm' (by omega) hi' hk' (beq_false_of_ne (by omega)) hp ho his lc ltu
        hi2 (by omega) (by omega) (by omega) (by omega) (by omega) (by omega)
        (by show (List.toArray _).size = _; simp [ofB_length]) (by show (List.toArray _).size = _; simp [ofB_length]) (by show (List.toArray _).size = _; simp [ofB_length])
        hB hT hU hV
        (hide fun w => Of_any c 2 w (by omega) (by omega)) (hide fun w => Of_any is 2 w (by omega) (by omega)) (hide fun w => Of_any tu 2 w (by omega) (by omega))
        (hide H1) (hide H2) (hide fun h0 h1 => ?_) (hide H3) (hide ?_) (hide alive_any)
      · rw [← hwa, wd_eq _ _ (by omega)]; rfl
      · rcases fV with h | h
        · refine .inl ?_
          have h4 := right1 V (by omega)
          rw [show decide (add [V] = 65535) = true from decide_eq_true h] at h4
          exact h4
        · refine .inr ⟨?_, ?_⟩
          · have h4 := right1 V (by omega)
            rw [show decide (add [V] = 65535) = false from decide_eq_false (by omega)] at h4
            exact h4
          · have h4 := add1 V (by omega)
            rw [h] at h4
            exact h4

end Go.Proofs.Ytnnfhbeledfbkaa
