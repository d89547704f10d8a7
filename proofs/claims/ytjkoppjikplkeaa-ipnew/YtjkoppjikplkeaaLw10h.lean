/- IpNew of layer 10, a packet that is passed on as often as may be. -/
import Derived.Test.YtjkoppjikplkeaaLw10e
namespace Go.Proofs.Ytjkoppjikplkeaa
open Go.RowKit

set_option maxRecDepth 20000 in
set_option maxHeartbeats 4000000 in
theorem new_less_loop (h : Rh) (d S SB : ByteArray) (a y : Nat) (w : World) (hSB : S ++ ⟨#[98, 101, 104, 105, 110, 100]⟩ = SB) (hov : ¬ 9223372036854775807 < S.size + 6) (m : Nat) (T : Nat → ByteArray) (wt : IntKind.u8.wrap ((h.ttl : Int) - 1) = (m : Int)) (ht : 2 ≤ h.ttl) (hlt : h.ttl < 256)
    (hz : S.size < 512) (k : Nat) (l l' : List UInt8) (x : Rh) (D : ByteArray) (E2 : Int) (q : UInt8)
    (hl : S.data.toList = l) (hln : l.length = S.size) (hk : (a : Int) % (20 + (h.op.size : Int)) = (k : Int)) (hkn : k < S.size) (hop : h.op.size ≤ 40) (ha : a < 256) (hy : y < 256)
    (hq : Hid (y ≠ 0 → bits .xor .u8 ((l[k]'(by omega)).toNat : Int) (y : Int) = (q.toNat : Int) ∧ l.set k q = l'))
    (hE : (E2 != 0) = true ∨ (E2 = 0 ∧ k = 0 ∧ ∀ w, (binOp .neq 25 (hdV x) (hdV h)).run Try.prog w = .ok (.bool true) w))
    (H1 : Hid (∀ w, Calls Try.prog 9 #[hdV h, .string d] w fun e w' => e = .returned (.bool false) ∧ Below w.heap.size w w'))
    (H2 : Hid (∀ w, Calls Try.prog 11 #[hdV h, .string d] w fun e w' => e = .returned (.tuple #[.string S, .int .i64 0]) ∧ Below w.heap.size w w'))
    (H3 : Hid (∀ w, Calls Try.prog 23 #[.string SB] w fun e w' => e = .returned (.tuple #[.string (T 0), .int .i64 0]) ∧ Below w.heap.size w w'))
    (H4 : Hid (∀ w, Calls Try.prog 13 #[.string ⟨l'.toArray⟩] w fun e w' => e = .returned (.tuple #[hdV x, .string D, .int .i64 E2]) ∧ Below w.heap.size w w'))
    (H6 : Hid (∀ j, j + 2 < h.ttl → ∀ w, Calls Try.prog 23 #[.string (T j)] w fun e w' => e = .returned (.tuple #[.string (T (j + 1)), .int .i64 0]) ∧ Below w.heap.size w w'))
    (H7 : Hid (∀ j, j + 2 = h.ttl → ∀ w, Calls Try.prog 23 #[.string (T j)] w fun e w' => e = .returned (.tuple #[.string ⟨#[]⟩, .int .i64 9]) ∧ Below w.heap.size w w'))
    (H5 : Hid (∀ w, Calls Try.prog 11 #[.agg #[.int .u8 (h.tos : Int), .int .u16 (h.id : Int), .bool h.hold, .bool h.more, .int .i64 h.at', .int .u8 (m : Int), .int .u8 (h.proto : Int), .int .u32 (h.frm : Int), .int .u32 (h.to : Int), .string h.op], .string d] w fun e w' => e = .returned (.tuple #[.string (T 0), .int .i64 0]) ∧ Below w.heap.size w w')) :
    Calls Try.prog 7 #[hdV h, .string d, .int .u8 (a : Int), .int .u8 (y : Int)] w fun e w' => e = .returned (.bool true) ∧ Below w.heap.size w w' := by
  have HA := hide alive_any
  have K0 := hide (box_hd w h)
  have hcv := fun w => run_bytes_of_string (P := Try.prog) w 9 54 5 S Try.underlying9 Try.underlying54 Try.underlying5
  have w64a : IntKind.i64.wrap (a : Int) = (a : Int) := by rw [IntKind.wrap_i64]; omega
  have HE := hide hE
  clear hE
  have ht1 : 1 < h.ttl := by omega
  have hT := toList_refl (T 0)
  go_enter Try.func7, Try.ntmps7
  obtain ⟨c0, c1, c2, c3, c4, c5, c6, c7, c8, c9⟩ := ten0 (unhide K0) 0 rfl rfl rfl rfl rfl rfl rfl rfl rfl rfl
  simp only [Nat.add_zero] at c0 c1 c2 c3 c4 c5 c6 c7 c8 c9
  go_wp2_with fail
  refine (unhide H1 _).mono ?_
  rintro e w1 ⟨rfl, b1⟩
  have K1 := hide ((unhide K0).on b1)
  clear b1 K0 H1 c0 c1 c2 c3 c4 c5 c6 c7 c8 c9
  obtain ⟨c0, c1, c2, c3, c4, c5, c6, c7, c8, c9⟩ := ten0 (unhide K1) 0 rfl rfl rfl rfl rfl rfl rfl rfl rfl rfl
  simp only [Nat.add_zero] at c0 c1 c2 c3 c4 c5 c6 c7 c8 c9
  go_wp2_with fail
  refine (unhide H2 _).mono ?_
  rintro e w2 ⟨rfl, b2⟩
  have K2 := hide ((unhide K1).on b2)
  clear b2 K1 H2 c0 c1 c2 c3 c4 c5 c6 c7 c8 c9
  go_wp2_with fail
  refine (unhide H3 _).mono ?_
  rintro e w3 ⟨rfl, b3⟩
  have K3 := hide ((unhide K2).on b3)
  clear b3 K2 H3
  obtain ⟨c0, c1, c2, c3, c4, c5, c6, c7, c8, c9⟩ := ten0 (unhide K3) 0 rfl rfl rfl rfl rfl rfl rfl rfl rfl rfl
  simp only [Nat.add_zero] at c0 c1 c2 c3 c4 c5 c6 c7 c8 c9
  go_wp2_with fail
  refine (unhide H5 _).mono ?_
  rintro e w5 ⟨rfl, b5⟩
  have K5 := hide (((unhide K3).on (below_one w3 (.cells #[.int .u8 (h.tos : Int), .int .u16 (h.id : Int), .bool h.hold, .bool h.more, .int .i64 h.at', .int .u8 (m : Int), .int .u8 (h.proto : Int), .int .u32 (h.frm : Int), .int .u32 (h.to : Int), .string h.op] 25))).on b5)
  clear b5 K3 H5 c0 c1 c2 c3 c4 c5 c6 c7 c8 c9
  obtain ⟨c0, c1, c2, c3, c4, c5, c6, c7, c8, c9⟩ := ten0 (unhide K5) 0 rfl rfl rfl rfl rfl rfl rfl rfl rfl rfl
  simp only [Nat.add_zero] at c0 c1 c2 c3 c4 c5 c6 c7 c8 c9
  go_wp2_with fail
  clear c0 c1 c2 c3 c4 c5 c6 c7 c8 c9
  go_loopw [11, 12, 16] (fun t f m wr => ∃ j : Nat, m = .int .i64 (j : Int) ∧ ((j + 2 ≤ h.ttl ∧ t = .string (T j) ∧ f = .int .i64 0) ∨ (j + 1 = h.ttl ∧ t = .string ⟨#[]⟩ ∧ f = .int .i64 9)) ∧ Tab w 1 (add (fun _ _ => none) 0 (hdL h)) wr) (fun _ _ m _ => 300 - (intOf m).toNat)
  case atStart => exact ⟨0, rfl, .inl ⟨ht, rfl, rfl⟩, unhide K5⟩
  case round =>
    obtain ⟨j, rfl, ⟨hj, rfl, rfl⟩ | ⟨hj, rfl, rfl⟩, k5⟩ := hrel
    · have KR := hide k5
      clear k5 K5 H4 HE hq hcv
      have hj3 : j < 300 := by omega
      by_cases hjt : j + 2 < h.ttl
      · go_wp2_with fail
        refine (unhide H6 j hjt _).mono ?_
        rintro e w6 ⟨rfl, b6⟩
        go_wp2_with fail
        go_roundw
        case rel => exact ⟨j + 1, by go_num, .inl ⟨by omega, rfl, rfl⟩, (unhide KR).on b6⟩
        case measure => simp [intOf]; omega
      · go_wp2_with fail
        refine (unhide H7 j (by omega) _).mono ?_
        rintro e w6 ⟨rfl, b6⟩
        go_wp2_with fail
        go_roundw
        case rel => exact ⟨j + 1, by go_num, .inr ⟨by omega, rfl, rfl⟩, (unhide KR).on b6⟩
        case measure => simp [intOf]; omega
    · have KR := hide k5
      clear k5 K5 H6 H7
      have hjj : ((h.ttl : Int) - 1) = (j : Int) := by omega
      have hw8 : IntKind.i64.wrap (h.ttl : Int) = (h.ttl : Int) := by rw [IntKind.wrap_i64]; omega
      obtain ⟨c0, c1, c2, c3, c4, c5, c6, c7, c8, c9⟩ := ten0 (unhide KR) 0 rfl rfl rfl rfl rfl rfl rfl rfl rfl rfl
      simp only [Nat.add_zero] at c0 c1 c2 c3 c4 c5 c6 c7 c8 c9
      by_cases hy0 : y = 0
      · subst hy0
        clear hq hcv HE H4
        go_wp2_with fail
        all_goals
          refine (unhide HA _).mono ?_
          rintro e wa ⟨rfl, ba⟩
          go_wp2_with fail
          go_ret
          exact ⟨rfl, tr2 (unhide KR).bel ba⟩
      · obtain ⟨hx, hl'⟩ := unhide hq hy0
        clear hq
        go_upto_region 29 with fail
        all_goals
          clear hcv
          have R0 := RowU.text wr S (grownCap wr S.size 0 5) 5
          rw [hl] at R0
          have b0 := tr2 (below_one wr (.cells (bytesRow S (grownCap wr S.size 0 5)) 5 ((bytesRow S (grownCap wr S.size 0 5)).size, (bytesRow S (grownCap wr S.size 0 5)).size + 1))) (below_drew _)
          have R1 := R0.on (below_drew _)
          clear R0
          generalize (wr.alloc (.cells (bytesRow S (grownCap wr S.size 0 5)) 5 ((bytesRow S (grownCap wr S.size 0 5)).size, (bytesRow S (grownCap wr S.size 0 5)).size + 1))).drew = w4 at *
          generalize grownCap wr S.size 0 5 = cp at *
          have RS := R1.set k q
          rw [hl'] at RS
          have RS := hide RS
          have BS := hide (b0.setCell (p := ⟨wr.heap.size, k, none⟩) (Nat.le_refl _) (.int .u8 (q.toNat : Int)))
          have KS := hide ((unhide KR).on (unhide BS))
          clear b0 BS
          have rc := R1.cell k (by omega)
          have rf := R1.free k (by omega)
          have hl2 : l'.length = S.size := by rw [← hl', List.length_set]; exact hln
          clear R1 KR c0 c1 c2 c3 c4 c5 c6 c7 c8 c9
          generalize wr.heap.size = B at *
          generalize (l[k]'(by omega)).toNat = x0 at *
          go_upto_region 30 with fail
          generalize w4.setCell _ _ = w5 at *
          have cv := conv_rowU (c := cp) (unhide RS) hl2
          clear RS
          go_wp2_with fail
          refine (unhide H4 _).mono ?_
          rintro e w6 ⟨rfl, b6⟩
          have K6 := hide (((unhide KS).on b6).on (below_one w6 (.cells (hdL x).toArray 25)))
          have X6 := hide (box_hd w6 x)
          clear KS b6 cv H4
          rcases unhide HE with hE | ⟨rfl, rfl, hE⟩
          · clear HE
            go_wp2_with fail
            refine (unhide HA _).mono ?_
            rintro e w7 ⟨rfl, b7⟩
            go_wp2_with fail
            go_ret
            exact ⟨rfl, tr2 (unhide K6).bel b7⟩
          · clear HE
            obtain ⟨c0, c1, c2, c3, c4, c5, c6, c7, c8, c9⟩ := ten0 (unhide K6) 0 rfl rfl rfl rfl rfl rfl rfl rfl rfl rfl
            obtain ⟨g0, g1, g2, g3, g4, g5, g6, g7, g8, g9⟩ := ten0 (unhide X6) 0 rfl rfl rfl rfl rfl rfl rfl rfl rfl rfl
            simp only [Nat.add_zero] at c0 c1 c2 c3 c4 c5 c6 c7 c8 c9 g0 g1 g2 g3 g4 g5 g6 g7 g8 g9
            go_wp2_with fail
            refine (unhide HA _).mono ?_
            rintro e w7 ⟨rfl, b7⟩
            go_wp2_with fail
            go_ret
            exact ⟨rfl, tr2 (unhide K6).bel b7⟩


end Go.Proofs.Ytjkoppjikplkeaa
