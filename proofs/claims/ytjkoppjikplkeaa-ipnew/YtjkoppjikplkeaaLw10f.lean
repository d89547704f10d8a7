/- The statement IpNew of layer 10, as a contract over the loaded program. -/
import Derived.Test.YtjkoppjikplkeaaLw10e
namespace Go.Proofs.Ytjkoppjikplkeaa
open Go.RowKit

set_option maxRecDepth 20000 in
set_option maxHeartbeats 4000000 in
theorem new_long (h : Rh) (d : ByteArray) (a y : Nat) (w : World)
    (H1 : Hid (∀ w, Calls Try.prog 9 #[hdV h, .string d] w fun e w' => e = .returned (.bool true) ∧ Below w.heap.size w w')) :
    Calls Try.prog 7 #[hdV h, .string d, .int .u8 (a : Int), .int .u8 (y : Int)] w fun e w' => e = .returned (.bool true) ∧ Below w.heap.size w w' := by
  have HA := hide alive_any
  have K0 := hide (box_hd w h)
  go_enter Try.func7, Try.ntmps7
  obtain ⟨c0, c1, c2, c3, c4, c5, c6, c7, c8, c9⟩ := ten0 (unhide K0) 0 rfl rfl rfl rfl rfl rfl rfl rfl rfl rfl
  simp only [Nat.add_zero] at c0 c1 c2 c3 c4 c5 c6 c7 c8 c9
  go_wp2_with fail
  refine (unhide H1 _).mono ?_
  rintro e w1 ⟨rfl, b1⟩
  have K1 := hide ((unhide K0).on b1)
  clear b1 K0 H1 c0 c1 c2 c3 c4 c5 c6 c7 c8 c9
  go_wp2_with fail
  refine (unhide HA _).mono ?_
  rintro e w2 ⟨rfl, b2⟩
  go_wp2_with fail
  go_ret
  exact ⟨rfl, tr2 (unhide K1).bel b2⟩

set_option maxRecDepth 20000 in
set_option maxHeartbeats 4000000 in
theorem new_no (h : Rh) (d S : ByteArray) (a y : Nat) (w : World) (E : Int) (hE : (E != 0) = true)
    (H1 : Hid (∀ w, Calls Try.prog 9 #[hdV h, .string d] w fun e w' => e = .returned (.bool false) ∧ Below w.heap.size w w'))
    (H2 : Hid (∀ w, Calls Try.prog 11 #[hdV h, .string d] w fun e w' => e = .returned (.tuple #[.string S, .int .i64 E]) ∧ Below w.heap.size w w')) :
    Calls Try.prog 7 #[hdV h, .string d, .int .u8 (a : Int), .int .u8 (y : Int)] w fun e w' => e = .returned (.bool true) ∧ Below w.heap.size w w' := by
  have HA := hide alive_any
  have K0 := hide (box_hd w h)
  go_enter Try.func7, Try.ntmps7
  obtain ⟨c0, c1, c2, c3, c4, c5, c6, c7, c8, c9⟩ := ten0 (unhide K0) 0 rfl rfl rfl rfl rfl rfl rfl rfl rfl rfl
  simp only [Nat.add_zero] at c0 c1 c2 c3 c4 c5 c6 c7 c8 c9
  go_wp2_with fail
  refine (unhide H1 _).mono ?_
  rintro e w1 ⟨rfl, b1⟩
  have K1 := hide ((unhide K0).on b1)
  clear b1 K0 H1 c0 c1 c2 c3 c4 c5 c6 c7 c8 c9
  obtain ⟨c0, c1, c2, c3, c4, c5, c6, c7, c8, c9⟩ := ten0 (unhide K1) 0 rfl rfl rfl rfl rfl rfl rfl rfl rfl rfl
  simp only [Nat.add_zero] at c0 c1 c2 c3 c4 c5 c6 c7 c8 c9
  go_wp2_with fail
  refine (unhide H2 _).mono ?_
  rintro e w2 ⟨rfl, b2⟩
  have K2 := hide ((unhide K1).on b2)
  clear b2 K1 H2 c0 c1 c2 c3 c4 c5 c6 c7 c8 c9
  go_wp2_with fail
  refine (unhide HA _).mono ?_
  rintro e w3 ⟨rfl, b3⟩
  go_wp2_with fail
  go_ret
  exact ⟨rfl, tr2 (unhide K2).bel b3⟩

set_option maxRecDepth 20000 in
set_option maxHeartbeats 4000000 in
theorem new_over (h : Rh) (d S SB : ByteArray) (a y : Nat) (w : World) (hSB : S ++ ⟨#[98, 101, 104, 105, 110, 100]⟩ = SB) (hov : ¬ 9223372036854775807 < S.size + 6) (ht : h.ttl < 2) (k : Nat) (l l' : List UInt8) (x : Rh) (D : ByteArray) (E2 : Int) (q : UInt8)
    (hl : S.data.toList = l) (hln : l.length = S.size) (hk : (a : Int) % (20 + (h.op.size : Int)) = (k : Int)) (hkn : k < S.size) (hop : h.op.size ≤ 40) (ha : a < 256) (hy : y < 256)
    (hq : Hid (y ≠ 0 → bits .xor .u8 ((l[k]'(by omega)).toNat : Int) (y : Int) = (q.toNat : Int) ∧ l.set k q = l'))
    (hE : (E2 != 0) = true ∨ (E2 = 0 ∧ k = 0 ∧ ∀ w, (binOp .neq 25 (hdV x) (hdV h)).run Try.prog w = .ok (.bool true) w))
    (H1 : Hid (∀ w, Calls Try.prog 9 #[hdV h, .string d] w fun e w' => e = .returned (.bool false) ∧ Below w.heap.size w w'))
    (H2 : Hid (∀ w, Calls Try.prog 11 #[hdV h, .string d] w fun e w' => e = .returned (.tuple #[.string S, .int .i64 0]) ∧ Below w.heap.size w w'))
    (H3 : Hid (∀ w, Calls Try.prog 23 #[.string SB] w fun e w' => e = .returned (.tuple #[.string ⟨#[]⟩, .int .i64 9]) ∧ Below w.heap.size w w'))
    (H4 : Hid (∀ w, Calls Try.prog 13 #[.string ⟨l'.toArray⟩] w fun e w' => e = .returned (.tuple #[hdV x, .string D, .int .i64 E2]) ∧ Below w.heap.size w w')) :
    Calls Try.prog 7 #[hdV h, .string d, .int .u8 (a : Int), .int .u8 (y : Int)] w fun e w' => e = .returned (.bool true) ∧ Below w.heap.size w w' := by
  have HA := hide alive_any
  have K0 := hide (box_hd w h)
  have hcv := fun w => run_bytes_of_string (P := Try.prog) w 9 54 5 S Try.underlying9 Try.underlying54 Try.underlying5
  have w64a : IntKind.i64.wrap (a : Int) = (a : Int) := by rw [IntKind.wrap_i64]; omega
  have HE := hide hE
  clear hE
  go_enter Try.func7, Try.ntmps7
  obtain ⟨c0, c1, c2, c3, c4, c5, c6, c7, c8, c9⟩ := ten0 (unhide K0) 0 rfl rfl rfl rfl rfl rfl rfl rfl rfl rfl
  simp only [Nat.add_zero] at c0 c1 c2 c3 c4 c5 c6 c7 c8 c9
  go_wp2_with fail
  refine (unhide H1 _).mono ?_
  rintro e w1 ⟨rfl, b1⟩
  have K1 := hide ((unhide K0).on b1)
  clear b1 K0 H1 c0 c1 c2 c3 c4 c5 c6 c7 c8 c9
  obtain ⟨c0, c1, c2, c3, c4, c5, c6, c7, c8, c9⟩ := ten0 (unhide K1) 0 rfl rfl rfl rfl rfl rfl rfl rfl rfl rfl
  simp only [Nat.add_zero] at c0 c1 c2 c3 c4 c5 c6 c7 c8 c9
  go_wp2_with fail
  refine (unhide H2 _).mono ?_
  rintro e w2 ⟨rfl, b2⟩
  have K2 := hide ((unhide K1).on b2)
  clear b2 K1 H2 c0 c1 c2 c3 c4 c5 c6 c7 c8 c9
  go_wp2_with fail
  refine (unhide H3 _).mono ?_
  rintro e w3 ⟨rfl, b3⟩
  have K3 := hide ((unhide K2).on b3)
  clear b3 K2 H3
  obtain ⟨c0, c1, c2, c3, c4, c5, c6, c7, c8, c9⟩ := ten0 (unhide K3) 0 rfl rfl rfl rfl rfl rfl rfl rfl rfl rfl
  simp only [Nat.add_zero] at c0 c1 c2 c3 c4 c5 c6 c7 c8 c9
  go_wp2_with fail
  go_loopw [12, 16] (fun f m wr => f = .int .i64 9 ∧ m = .int .i64 0 ∧ wr = w3) (fun _ _ _ => 0)
  case atStart => exact ⟨rfl, rfl, rfl⟩
  case round =>
    obtain ⟨rfl, rfl, rfl⟩ := hrel
    have KR := K3
    clear K3
    by_cases hy0 : y = 0
    · subst hy0
      clear hq hcv HE H4
      go_wp2_with fail
      all_goals
        refine (unhide HA _).mono ?_
        rintro e wa ⟨rfl, ba⟩
        go_wp2_with fail
        go_ret
        exact ⟨rfl, tr2 (unhide KR).bel ba⟩
    · obtain ⟨hx, hl'⟩ := unhide hq hy0
      clear hq
      go_upto_region 29 with fail
      all_goals
        clear hcv
        have R0 := RowU.text wr S (grownCap wr S.size 0 5) 5
        rw [hl] at R0
        have b0 := tr2 (below_one wr (.cells (bytesRow S (grownCap wr S.size 0 5)) 5 ((bytesRow S (grownCap wr S.size 0 5)).size, (bytesRow S (grownCap wr S.size 0 5)).size + 1))) (below_drew _)
        have R1 := R0.on (below_drew _)
        clear R0
        generalize (wr.alloc (.cells (bytesRow S (grownCap wr S.size 0 5)) 5 ((bytesRow S (grownCap wr S.size 0 5)).size, (bytesRow S (grownCap wr S.size 0 5)).size + 1))).drew = w4 at *
        generalize grownCap wr S.size 0 5 = cp at *
        have RS := R1.set k q
        rw [hl'] at RS
        have RS := hide RS
        have BS := hide (b0.setCell (p := ⟨wr.heap.size, k, none⟩) (Nat.le_refl _) (.int .u8 (q.toNat : Int)))
        have KS := hide ((unhide KR).on (unhide BS))
        clear b0 BS
        have rc := R1.cell k (by omega)
        have rf := R1.free k (by omega)
        have hl2 : l'.length = S.size := by rw [← hl', List.length_set]; exact hln
        clear R1 KR c0 c1 c2 c3 c4 c5 c6 c7 c8 c9
        generalize wr.heap.size = B at *
        generalize (l[k]'(by omega)).toNat = x0 at *
        go_upto_region 30 with fail
        generalize w4.setCell _ _ = w5 at *
        have cv := conv_rowU (c := cp) (unhide RS) hl2
        clear RS
        go_wp2_with fail
        refine (unhide H4 _).mono ?_
        rintro e w6 ⟨rfl, b6⟩
        have K6 := hide (((unhide KS).on b6).on (below_one w6 (.cells (hdL x).toArray 25)))
        have X6 := hide (box_hd w6 x)
        clear KS b6 cv H4
        rcases unhide HE with hE | ⟨rfl, rfl, hE⟩
        · clear HE
          go_wp2_with fail
          refine (unhide HA _).mono ?_
          rintro e w7 ⟨rfl, b7⟩
          go_wp2_with fail
          go_ret
          exact ⟨rfl, tr2 (unhide K6).bel b7⟩
        · clear HE
          obtain ⟨c0, c1, c2, c3, c4, c5, c6, c7, c8, c9⟩ := ten0 (unhide K6) 0 rfl rfl rfl rfl rfl rfl rfl rfl rfl rfl
          obtain ⟨g0, g1, g2, g3, g4, g5, g6, g7, g8, g9⟩ := ten0 (unhide X6) 0 rfl rfl rfl rfl rfl rfl rfl rfl rfl rfl
          simp only [Nat.add_zero] at c0 c1 c2 c3 c4 c5 c6 c7 c8 c9 g0 g1 g2 g3 g4 g5 g6 g7 g8 g9
          go_wp2_with fail
          refine (unhide HA _).mono ?_
          rintro e w7 ⟨rfl, b7⟩
          go_wp2_with fail
          go_ret
          exact ⟨rfl, tr2 (unhide K6).bel b7⟩

end Go.Proofs.Ytjkoppjikplkeaa
