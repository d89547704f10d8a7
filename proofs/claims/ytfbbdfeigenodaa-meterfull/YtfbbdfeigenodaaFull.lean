/- The statement MeterFull's walk: as many names as come, and what no meter answers. -/
import Derived.Test.YtfbbdfeigenodaaMt6
import Derived.Laws.BytesArg
namespace Go.Proofs.Ytfbbdfeigenodaa
open Go.RowKit Go.Maps

def nm (i : Nat) : List UInt8 := [UInt8.ofNat (97 + i % 26), UInt8.ofNat (97 + i / 26)]
theorem nm_inj {i j : Nat} (hi : i < 676) (hj : j < 676) (h : nm i = nm j) : i = j := by
  unfold nm at h
  simp only [List.cons.injEq, and_true] at h
  have h1 := congrArg UInt8.toNat h.1
  have h2 := congrArg UInt8.toNat h.2
  simp only [UInt8.toNat_ofNat'] at h1 h2
  omega
theorem nm_may {i : Nat} (hi : i < 676) : mayL (nm i) = true := by
  have a : okb (UInt8.ofNat (97 + i % 26)) = true := okb_mid (by simp only [UInt8.toNat_ofNat']; omega) (by simp only [UInt8.toNat_ofNat']; omega)
  have b : okb (UInt8.ofNat (97 + i / 26)) = true := okb_mid (by simp only [UInt8.toNat_ofNat']; omega) (by simp only [UInt8.toNat_ofNat']; omega)
  exact mayL_good (by simp [nm]) (by simp [nm]) (by unfold nm; simp only [List.all_cons, List.all_nil, a, b]; rfl)

theorem sumOf_ins (g : Nat × Nat → Nat) (x : Ent) : ∀ {L : List Ent}, lookE x.1 L = none → sumOf (fun _ => false) g (insE x L) = sumOf (fun _ => false) g L + g x.2
  | [], _ => by simp [insE, sumOf]
  | y :: r, h => by
    rw [lookE_cons] at h
    have hne : ¬ y.1 = x.1 := fun e => by rw [if_pos e] at h; cases h
    rw [if_neg hne] at h
    unfold insE
    by_cases g1 : x.1 < y.1
    · rw [if_pos g1]
      simp only [sumOf]
      simp
      omega
    · rw [if_neg g1, if_neg (fun e => hne e.symm)]
      simp only [sumOf, sumOf_ins g x h]
      simp
      omega

structure G (i : Nat) (L : List Ent) : Prop where
  cnt : Cnt L
  len : L.length = i
  old : ∀ j, j < i → lookE (nm j) L = some (1, 2)
  new : ∀ j, i ≤ j → j < 676 → lookE (nm j) L = none
  sa : sumA L = i
  sb : sumB L = 2 * i
theorem G0 : G 0 [] := ⟨cnt_nil, rfl, by omega, fun _ _ _ => rfl, rfl, rfl⟩
theorem G_step {i : Nat} {L : List Ent} (h : G i L) (hi : i < 64) : (addL L (nm i) 1 2).1 = 0 ∧ G (i + 1) (addL L (nm i) 1 2).2 := by
  have hn := h.new i (Nat.le_refl _) (by omega)
  have e : addL L (nm i) 1 2 = (0, insE (nm i, 1, 2) L) := by
    unfold addL
    rw [if_neg (not_not_intro ⟨nm_may (by omega), by omega, by omega⟩), hn]
    simp only
    rw [if_neg (by rw [h.len]; omega)]
    rfl
  have hc := cnt_addL h.cnt (nm i) 1 2
  rw [e] at hc ⊢
  refine ⟨rfl, hc, ?_, ?_, ?_, ?_, ?_⟩
  · show (insE (nm i, 1, 2) L).length = i + 1
    rw [len_insE h.cnt.srt]
    show (if (lookE (nm i) L).isSome then L.length else L.length + 1) = i + 1
    rw [hn, h.len]
    rfl
  · intro j hj
    show lookE (nm j) (insE (nm i, 1, 2) L) = _
    rw [lookE_insE]
    split
    · rfl
    · rename_i hne
      refine h.old j ?_
      have : i ≠ j := fun e => hne (by rw [e])
      omega
  · intro j hj hj2
    show lookE (nm j) (insE (nm i, 1, 2) L) = _
    rw [lookE_insE, if_neg (fun e => ?_), h.new j (by omega) hj2]
    have := nm_inj (by omega) hj2 e
    omega
  · show sumOf _ _ (insE (nm i, 1, 2) L) = _
    rw [sumOf_ins _ _ hn]
    have := h.sa
    unfold sumA at this
    rw [this]
  · show sumOf _ _ (insE (nm i, 1, 2) L) = _
    rw [sumOf_ins _ _ hn]
    have := h.sb
    unfold sumB at this
    rw [this]
    show 2 * i + 2 = 2 * (i + 1)
    omega
theorem G_full {i : Nat} {L : List Ent} (h : G 64 L) (hi : 64 ≤ i) (hi2 : i < 676) : addL L (nm i) 1 2 = (6, L) := by
  unfold addL
  rw [if_neg (not_not_intro ⟨nm_may (by omega), by omega, by omega⟩), h.new i hi hi2]
  simp only
  rw [if_pos (by rw [h.len]; omega)]

theorem nm_conv (k : Nat) (hk : k < 84) (w : World) : ∃ S : ByteArray, S.data.toList = nm k ∧
    (convert 51 9 (.slice (some ⟨w.heap.size, 0, none⟩) 2 2)).run Try.prog (w.alloc (.cells #[.int .u8 (97 + (k : Int) % 26), .int .u8 (97 + (k : Int) / 26)] 5)) = .ok (.string S) (w.alloc (.cells #[.int .u8 (97 + (k : Int) % 26), .int .u8 (97 + (k : Int) / 26)] 5)) := by
  refine ⟨strOfNums [97 + (k : Int) % 26, 97 + (k : Int) / 26], ?_, ?_⟩
  · have e1 : (97 + (k : Int) % 26).toNat = 97 + k % 26 := by omega
    have e2 : (97 + (k : Int) / 26).toNat = 97 + k / 26 := by omega
    unfold nm
    rw [← e1, ← e2]
    rfl
  · refine run_convert_bytes_arg _ 51 5 Try.underlying51 Try.underlying5 w.heap.size 0 2 2 _ rfl (fun i hi => ?_) 9 Try.underlying9
    rw [cell_of_row _ w.heap.size (0 + i) _ _ _ (heap_alloc_new w _)]
    match i, hi with
    | 0, _ => rfl
    | 1, _ => rfl

theorem row_slice {w : World} {base e size n : Nat} {v : Value} {xs : List Value} (h : w.ownsRow base e size v n xs) : ∃ p c, v = .slice p n c := by
  rcases h.2 with ⟨rfl, rfl⟩ | ⟨g, cap, cur, rfl, _⟩
  · exact ⟨_, _, rfl⟩
  · exact ⟨_, _, rfl⟩

theorem ins_aa {L : List Ent} {k : Nat} (h : G k L) (hk : 0 < k) : (addL L [97, 97] 1 0).1 = 0 := by
  have h0 : lookE [97, 97] L = some (1, 2) := h.old 0 hk
  unfold addL
  rw [if_neg (not_not_intro ⟨by decide, by omega, by omega⟩), h0]
  simp

set_option maxRecDepth 100000 in
set_option maxHeartbeats 2000000 in
theorem meterFull_walk (a : Int) (wa : (Lit.int .u8 a).wf = true) (w : World) :
    Calls Try.prog 6 #[.int .u8 a] w fun e w' => e = .returned (.bool true) ∧ Below w.heap.size w w' := by
  obtain ⟨n, rfl, hn⟩ := nat8 wa
  clear wa
  have HN := hide (new_pm w)
  go_enter Try.func6, Try.ntmps6
  go_wp2_with fail
  refine (unhide HN).mono ?_
  rintro e w1 ⟨rfl, hP1, hB1⟩
  obtain ⟨m, hm⟩ : ∃ m, m = n % 84 := ⟨_, rfl⟩
  have hm84 : m < 84 := by omega
  have hmi : (n : Int) % 84 = (m : Int) := by omega
  have hmt : (n : Int).tmod 84 = (m : Int) := by rw [Int.tmod_eq_emod_of_nonneg (by omega)]; exact hmi
  clear hm
  go_wp2
  go_loopw [5] (fun i wr => ∃ (k : Nat) (L : List Ent), k ≤ m ∧ i = .int .i64 (k : Int) ∧ G (min k 64) L ∧ PM wr (w.heap.size + 1) w.heap.size L ∧ Below w.heap.size w wr) (fun i _ => m - (intOf i).toNat)
  case atStart => exact ⟨0, [], Nat.zero_le _, rfl, G0, hP1, hB1⟩
  case round =>
    obtain ⟨k, L, hk, rfl, hG, hP, hB⟩ := hrel
    by_cases hlt : k < m
    · have hk84 : k < 84 := by omega
      have i1 : (k : Int).tmod 26 = ((k % 26 : Nat) : Int) := by rw [Int.tmod_eq_emod_of_nonneg (by omega)]; omega
      have i2 : (k : Int).tdiv 26 = ((k / 26 : Nat) : Int) := by rw [Int.tdiv_eq_ediv_of_nonneg (by omega)]; omega
      obtain ⟨S, hS, hconv⟩ := nm_conv k hk84 wr
      have hsz : S.size ≤ maxLen := by
        rw [Lib.size_eq, hS]
        exact Nat.le_trans (show (nm k).length ≤ 2 from Nat.le_refl _) (by decide)
      have hPa : ∀ o, PM (wr.alloc o) (w.heap.size + 1) w.heap.size L := fun o => hP.kept (Kp.of_below [] (below_one wr o)) (by simp) (by simp)
      have hBa : ∀ o, Below w.heap.size w (wr.alloc o) := fun o => hB.alloc hB.size o
      have HA : Hid (∀ o, Calls Try.prog 18 #[.pointer (some ⟨w.heap.size + 1, 0, none⟩), .string S, .int .i64 1, .int .i64 2] (wr.alloc o) fun e w' =>
          e = .returned (.int .i64 (addL L (nm k) 1 2).1) ∧ PM w' (w.heap.size + 1) w.heap.size (addL L (nm k) 1 2).2 ∧ Below w.heap.size w w') := by
        intro o
        refine (add_any _ _ L S 1 2 _ (hPa o) hsz hG.cnt).mono fun e w' ⟨he, hp, hk⟩ => ?_
        rw [hS] at he hp
        exact ⟨he, hp, (hBa o).trans (hk.below (hBa o).size (by simp))⟩
      clear hS hsz hPa hBa hP hB
      by_cases h64 : k < 64
      · have hst := G_step (by rw [Nat.min_eq_left (by omega)] at hG; exact hG) h64
        rw [hst.1] at HA
        have HG := hide hst.2
        clear hst hG
        generalize (addL L (nm k) 1 2).2 = L' at HA HG
        have hd : (k : Int) < 64 := by omega
        go_wp2_with fail
        refine (unhide HA _).mono ?_
        rintro e w2 ⟨rfl, hP2, hB2⟩
        go_wp2
        go_roundw
        case rel => exact ⟨k + 1, L', by omega, by go_num, by rw [Nat.min_eq_left (by omega)]; exact unhide HG, hP2, hB2⟩
        case measure => simp [intOf]; omega
      · rw [Nat.min_eq_right (by omega)] at hG
        have hst := G_full hG (i := k) (by omega) (by omega)
        rw [hst] at HA
        have HG := hide hG
        clear hst hG
        have hd : ¬ (k : Int) < 64 := by omega
        go_wp2_with fail
        refine (unhide HA _).mono ?_
        rintro e w2 ⟨rfl, hP2, hB2⟩
        go_wp2
        go_roundw
        case rel => exact ⟨k + 1, L, by omega, by go_num, by rw [Nat.min_eq_right (by omega)]; exact unhide HG, hP2, hB2⟩
        case measure => simp [intOf]; omega
    · obtain rfl : k = m := by omega
      obtain ⟨q, hq⟩ : ∃ q, q = min k 64 := ⟨_, rfl⟩
      rw [← hq] at hG
      have hq64 : q ≤ 64 := by omega
      have hqi : min (k : Int) 64 = (q : Int) := by omega
      have HA := all_any _ _ L wr hP hG.cnt
      rw [hG.len] at HA
      have HA := hide HA
      have HT : Hid (∀ w', PM w' (w.heap.size + 1) w.heap.size L → Calls Try.prog 20 #[.pointer (some ⟨w.heap.size + 1, 0, none⟩)] w' fun e w'' => e = .returned (.complex .f64 (F q) (F (2 * q))) ∧ Below w'.heap.size w' w'') := by
        intro w' hw'
        have := total_any _ _ L w' hw' hG.cnt
        rw [hG.sa, hG.sb, Nat.min_eq_left (by omega), Nat.min_eq_left (by omega)] at this
        exact this
      have e52 : (2 : Nat) ^ 52 = 4503599627370496 := by decide
      have HI : Hid (∀ w, Calls Try.prog 12 #[.complex .f64 (F q) (F (2 * q)), .int .i64 (q : Int), .int .i64 (2 * (q : Int))] w fun e w' => e = .returned (.bool true) ∧ w' = w) := by
        intro w
        have := is_same q (2 * q) w (by omega) (by omega)
        rw [show ((2 * q : Nat) : Int) = 2 * (q : Int) by omega] at this
        exact this
      have HI0 : Hid (∀ w, Calls Try.prog 12 #[.complex .f64 0 0, .int .i64 0, .int .i64 0] w fun e w' => e = .returned (.bool true) ∧ w' = w) := by
        intro w
        have := is_same 0 0 w (by omega) (by omega)
        rw [F_zero] at this
        exact this
      have HAA : Hid (0 < q → ∀ w', PM w' (w.heap.size + 1) w.heap.size L → Calls Try.prog 18 #[.pointer (some ⟨w.heap.size + 1, 0, none⟩), .string ⟨#[97, 97]⟩, .int .i64 1, .int .i64 0] w' fun e w'' => e = .returned (.int .i64 0) ∧ Kp [w.heap.size] w' w'') := by
        intro h0 w' hw'
        refine (add_any _ _ L ⟨#[97, 97]⟩ 1 0 w' hw' (by decide) hG.cnt).mono fun e w'' ⟨he, _, hk⟩ => ?_
        rw [show (⟨#[97, 97]⟩ : ByteArray).data.toList = [97, 97] from rfl, ins_aa hG h0] at he
        exact ⟨he, hk⟩
      have HW := hide works_any
      have HA1 := hide (fun w => add_nil ⟨#[97]⟩ 1 1 w)
      have HG1 := hide (fun w => get_nil ⟨#[97]⟩ w)
      have HT1 := hide total_nil
      have HJ1 := hide join_nil
      have HL1 := hide all_nil
      have HP := hide hP
      generalize F q = X at *
      generalize F (2 * q) = Y at *
      clear hP hG e52 hq
      rcases Nat.eq_zero_or_pos q with h0 | h0
      · have h0i : ¬ (0 : Int) < (q : Int) := by omega
        clear h0
        go_wp2_with fail
        refine (unhide HA).mono ?_
        rintro e w2 ⟨v, rfl, hrow, hb2⟩
        obtain ⟨p', c', rfl⟩ := row_slice hrow
        have hP2 := (unhide HP).kept (Kp.of_below [] hb2) (by simp) (by simp)
        have hB2 := hB.trans (hb2.mono hB.size)
        clear hrow hb2
        go_wp2_with fail
        refine (unhide HT _ hP2).mono ?_
        rintro e w3 ⟨rfl, hb3⟩
        have hB3 := hB2.trans (hb3.mono hB2.size)
        clear hP2 hB2 hb3
        go_wp2_with fail
        refine (unhide HI _).mono ?_
        rintro e w4 ⟨rfl, rfl⟩
        go_wp2_with fail
        refine (unhide HA1 _).mono ?_
        rintro e w4 ⟨rfl, rfl⟩
        go_wp2_with fail
        refine (unhide HG1 _).mono ?_
        rintro e w4 ⟨rfl, rfl⟩
        go_wp2_with fail
        refine (unhide HI0 _).mono ?_
        rintro e w4 ⟨rfl, rfl⟩
        go_wp2_with fail
        refine (unhide HT1 _).mono ?_
        rintro e w4 ⟨rfl, rfl⟩
        go_wp2_with fail
        refine (unhide HI0 _).mono ?_
        rintro e w4 ⟨rfl, rfl⟩
        go_wp2_with fail
        refine (unhide HJ1 _ _).mono ?_
        rintro e w5 ⟨rfl, rfl⟩
        go_wp2_with fail
        refine (unhide HL1 _).mono ?_
        rintro e w5 ⟨rfl, rfl⟩
        go_wp2_with fail
        refine (unhide HW _).mono ?_
        rintro e w6 ⟨rfl, hb6⟩
        go_wp2
        go_ret
        exact ⟨rfl, (hB3.alloc hB3.size _).trans (hb6.mono (by simp; have := hB3.size; omega))⟩
      · have h0i : (0 : Int) < (q : Int) := by omega
        go_wp2_with fail
        refine (unhide HA).mono ?_
        rintro e w2 ⟨v, rfl, hrow, hb2⟩
        obtain ⟨p', c', rfl⟩ := row_slice hrow
        have hP2 := (unhide HP).kept (Kp.of_below [] hb2) (by simp) (by simp)
        have hB2 := hB.trans (hb2.mono hB.size)
        clear hrow hb2
        go_wp2_with fail
        refine (unhide HT _ hP2).mono ?_
        rintro e w3 ⟨rfl, hb3⟩
        have hB3 := hB2.trans (hb3.mono hB2.size)
        have hP3 := hP2.kept (Kp.of_below [] hb3) (by simp) (by simp)
        clear hP2 hB2 hb3
        go_wp2_with fail
        refine (unhide HI _).mono ?_
        rintro e w4 ⟨rfl, rfl⟩
        go_wp2_with fail
        refine (unhide HAA h0 _ hP3).mono ?_
        rintro e w4 ⟨rfl, hK4⟩
        have hB3 := hB3.trans (hK4.below hB3.size (by simp))
        clear hP3 hK4
        go_wp2_with fail
        refine (unhide HA1 _).mono ?_
        rintro e w4 ⟨rfl, rfl⟩
        go_wp2_with fail
        refine (unhide HG1 _).mono ?_
        rintro e w4 ⟨rfl, rfl⟩
        go_wp2_with fail
        refine (unhide HI0 _).mono ?_
        rintro e w4 ⟨rfl, rfl⟩
        go_wp2_with fail
        refine (unhide HT1 _).mono ?_
        rintro e w4 ⟨rfl, rfl⟩
        go_wp2_with fail
        refine (unhide HI0 _).mono ?_
        rintro e w4 ⟨rfl, rfl⟩
        go_wp2_with fail
        refine (unhide HJ1 _ _).mono ?_
        rintro e w5 ⟨rfl, rfl⟩
        go_wp2_with fail
        refine (unhide HL1 _).mono ?_
        rintro e w5 ⟨rfl, rfl⟩
        go_wp2_with fail
        refine (unhide HW _).mono ?_
        rintro e w6 ⟨rfl, hb6⟩
        go_wp2
        go_ret
        exact ⟨rfl, (hB3.alloc hB3.size _).trans (hb6.mono (by simp; have := hB3.size; omega))⟩

end Go.Proofs.Ytfbbdfeigenodaa
