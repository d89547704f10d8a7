/- The contracts of the document's Kind, Turn, Bytes, Compare and Parse (layer 6), over the loaded program; no memory that was there has turned. Conditions: numbers in their kinds' bounds, texts of bounded length. -/
import Derived.Test.YtnglkadfnacmcaaDoorRd0
import Derived.Test.YtnglkadfnacmcaaDoorAd4
namespace Go.Proofs.YtnglkadfnacmcaaDoor
open Go.RowKit

set_option maxHeartbeats 1000000 in
theorem rturn_any (a p b q : Nat) (w : World) :
    Calls Tryd.prog 20 #[.agg #[.int .u32 (a : Int), .int .u16 (p : Int), .int .u32 (b : Int), .int .u16 (q : Int)]] w fun e w' => e = .returned (.agg #[.int .u32 (b : Int), .int .u16 (q : Int), .int .u32 (a : Int), .int .u16 (p : Int)]) ∧ Below w.heap.size w w' := by
  go_enter Tryd.func20, Tryd.ntmps20
  go_wp2
  refine bodyPost_ret (v := .agg #[.int .u32 (b : Int), .int .u16 (q : Int), .int .u32 (a : Int), .int .u16 (p : Int)]) (by simp [results, Tryd.results20, go_sem]) rfl ⟨rfl, ?_⟩
  exact ((below_one w _).alloc (by simp) _)

set_option maxRecDepth 20000 in
set_option maxHeartbeats 1000000 in
theorem rbytes_any (a p b q : Nat) (w : World) (ha : a < 4294967296) (hp : p < 65536) (hb : b < 4294967296) (hq : q < 65536) :
    Calls Tryd.prog 22 #[.agg #[.int .u32 (a : Int), .int .u16 (p : Int), .int .u32 (b : Int), .int .u16 (q : Int)]] w fun e w' => e = .returned (.string (ptx a p b q)) ∧ Below w.heap.size w w' := by
  have H1 : Hid (∀ w, Calls Tryd.prog 31 #[.int .u64 (a : Int), .int .i64 4] w fun e w' => e = .returned (.string (by4 a)) ∧ Below w.heap.size w w') := fun w => Of_any a 4 w (by omega) (by omega)
  have H2 : Hid (∀ w, Calls Tryd.prog 31 #[.int .u64 (b : Int), .int .i64 4] w fun e w' => e = .returned (.string (by4 b)) ∧ Below w.heap.size w w') := fun w => Of_any b 4 w (by omega) (by omega)
  have H3 : Hid (∀ w, Calls Tryd.prog 31 #[.int .u64 (p : Int), .int .i64 2] w fun e w' => e = .returned (.string (by2 p)) ∧ Below w.heap.size w w') := fun w => Of_any p 2 w (by omega) (by omega)
  have H4 : Hid (∀ w, Calls Tryd.prog 31 #[.int .u64 (q : Int), .int .i64 2] w fun e w' => e = .returned (.string (by2 q)) ∧ Below w.heap.size w w') := fun w => Of_any q 2 w (by omega) (by omega)
  have HS := hide (PB.new w a p b q 36)
  have HB := hide (below_one w (.cells #[.int .u32 (a : Int), .int .u16 (p : Int), .int .u32 (b : Int), .int .u16 (q : Int)] 36))
  have HE := hide (ptx_cat a p b q)
  have s1 : (by4 a).size = 4 := rfl
  have s2 : (by4 b).size = 4 := rfl
  have s3 : (by2 p).size = 2 := rfl
  have s4 : (by2 q).size = 2 := rfl
  generalize by4 a = A at *
  generalize by4 b = B at *
  generalize by2 p = P at *
  generalize by2 q = Q at *
  generalize ptx a p b q = T at *
  have wa : IntKind.u64.wrap (a : Int) = (a : Int) := by rw [IntKind.wrap_u64]; omega
  have wb : IntKind.u64.wrap (b : Int) = (b : Int) := by rw [IntKind.wrap_u64]; omega
  have wp : IntKind.u64.wrap (p : Int) = (p : Int) := by rw [IntKind.wrap_u64]; omega
  have wq : IntKind.u64.wrap (q : Int) = (q : Int) := by rw [IntKind.wrap_u64]; omega
  go_enter Tryd.func22, Tryd.ntmps22
  go_wp2_with fail
  generalize w.alloc (.cells #[.int .u32 (a : Int), .int .u16 (p : Int), .int .u32 (b : Int), .int .u16 (q : Int)] 36) = w1 at *
  obtain ⟨_, c0, c1, c2, c3⟩ := unhide HS
  have k0 := cell_regrown c0
  have k1 := cell_regrown c1
  have k2 := cell_regrown c2
  have k3 := cell_regrown c3
  have q1 := fun d os => Calls.regrown_of (unhide H1 (Sort.grow (redrawn w1 d) os))
  have q2 := fun d os => Calls.regrown_of (unhide H2 (Sort.grow (redrawn w1 d) os))
  have q3 := fun d os => Calls.regrown_of (unhide H3 (Sort.grow (redrawn w1 d) os))
  have q4 := fun d os => Calls.regrown_of (unhide H4 (Sort.grow (redrawn w1 d) os))
  clear H1 H2 H3 H4 c0 c1 c2 c3 HS
  refine wp_region_quiet_below (by kernel_rfl) (by kernel_rfl) ?_
  repeat (quiet_step (fail))
  quiet_step (exact q1 _ _)
  repeat (quiet_step (fail))
  quiet_step (exact q2 _ _)
  repeat (quiet_step (fail))
  quiet_step (exact q3 _ _)
  repeat (quiet_step (fail))
  quiet_step (exact q4 _ _)
  repeat (quiet_step (fail))
  refine wpQuiet_nil ?_
  intro _ hw'
  obtain ⟨⟨dq, osq⟩, hw''⟩ := hw'
  subst hw''
  rw [unhide HE]
  go_wp2
  go_ret
  exact ⟨rfl, tr2 (unhide HB) (below_regrown w1 dq osq)⟩

set_option maxRecDepth 20000 in
set_option maxHeartbeats 1000000 in
theorem rkind_any (x : Nat) (w : World) (hx : x < 4294967296) :
    Calls Tryd.prog 14 #[.int .u32 (x : Int)] w fun e w' => e = .returned (.int .u8 (kindB (decide (x = 0)) (decide (x = 4294967295)) (decide (x / 16777216 = 127)) (decide (224 ≤ x / 16777216 ∧ x / 16777216 ≤ 239)) (decide (240 ≤ x / 16777216)) : Nat)) ∧ w' = w := by
  have e : kindB (decide (x = 0)) (decide (x = 4294967295)) (decide (x / 16777216 = 127)) (decide (224 ≤ x / 16777216 ∧ x / 16777216 ≤ 239)) (decide (240 ≤ x / 16777216)) =
      if x = 0 then 1 else if x = 4294967295 then 5 else if x / 16777216 = 127 then 2 else if 224 ≤ x / 16777216 ∧ x / 16777216 ≤ 239 then 3 else if 240 ≤ x / 16777216 then 4 else 0 := by
    unfold kindB
    simp only [decide_eq_true_eq]
  rw [e]
  clear e
  by_cases h1 : x = 0
  · rw [if_pos h1]
    go_enter Tryd.func14, Tryd.ntmps14
    go_wp2
    go_ret
    exact ⟨rfl, rfl⟩
  · rw [if_neg h1]
    by_cases h2 : x = 4294967295
    · rw [if_pos h2]
      go_enter Tryd.func14, Tryd.ntmps14
      go_wp2
      go_ret
      exact ⟨rfl, rfl⟩
    · rw [if_neg h2]
      by_cases h3 : x / 16777216 = 127
      · rw [if_pos h3]
        have h3' : (x : Int) / 16777216 = 127 := by omega
        go_enter Tryd.func14, Tryd.ntmps14
        go_wp2
        go_ret
        exact ⟨rfl, rfl⟩
      · rw [if_neg h3]
        have h3' : ¬ (x : Int) / 16777216 = 127 := by omega
        by_cases h4 : 240 ≤ x / 16777216
        · rw [if_neg (by omega), if_pos h4]
          have h4' : 240 ≤ (x : Int) / 16777216 := by omega
          go_enter Tryd.func14, Tryd.ntmps14
          go_wp2
          go_ret
          exact ⟨rfl, rfl⟩
        · have h4' : ¬ 240 ≤ (x : Int) / 16777216 := by omega
          by_cases h5 : 224 ≤ x / 16777216
          · rw [if_pos (by omega)]
            have h5' : 224 ≤ (x : Int) / 16777216 := by omega
            go_enter Tryd.func14, Tryd.ntmps14
            go_wp2
            go_ret
            exact ⟨rfl, rfl⟩
          · rw [if_neg (by omega), if_neg h4]
            have h5' : ¬ 224 ≤ (x : Int) / 16777216 := by omega
            go_enter Tryd.func14, Tryd.ntmps14
            go_wp2
            go_ret
            exact ⟨rfl, rfl⟩

theorem list4_eq (x : Nat) (hx : x < 4294967296) (v : Nat) (c : UInt8) (hc : c.toNat = v) (y : Nat) (hy : y = v * 16843009) : ([byt x 3, byt x 2, byt x 1, byt x 0] == [c, c, c, c]) = decide (x = y) := by
  have a3 := byt_div3 x hx
  have a2 := byt_div2 x
  have a1 := byt_div1 x
  have a0 := byt_div0 x
  have hv : v < 256 := by rw [← hc]; exact c.toNat_lt
  rw [Bool.eq_iff_iff, beq_iff_eq, decide_eq_true_iff]
  simp only [List.cons.injEq, and_true, ← UInt8.toNat_inj]
  rw [a3, a2, a1, a0, hc, hy]
  have e := ipn_of x
  unfold ipn at e
  clear a3 a2 a1 a0 hc hy hx
  constructor
  · rintro ⟨h3, h2, h1, h0⟩
    rw [h3, h2, h1, h0] at e
    omega
  · intro h
    subst h
    clear e
    have f3 : v * 16843009 / 16777216 = v := by omega
    have f2 : v * 16843009 / 65536 = v * 257 := by omega
    have f1 : v * 16843009 / 256 = v * 65793 := by omega
    rw [f3, f2, f1]
    refine ⟨rfl, ?_, ?_, ?_⟩ <;> omega

theorem kind_same (x : Nat) (hx : x < 4294967296) : kindB ([byt x 3, byt x 2, byt x 1, byt x 0] == [0, 0, 0, 0]) ([byt x 3, byt x 2, byt x 1, byt x 0] == [255, 255, 255, 255]) (decide ((byt x 3).toNat = 127)) (decide (224 ≤ (byt x 3).toNat ∧ (byt x 3).toNat ≤ 239)) (decide (240 ≤ (byt x 3).toNat))
    = kindB (decide (x = 0)) (decide (x = 4294967295)) (decide (x / 16777216 = 127)) (decide (224 ≤ x / 16777216 ∧ x / 16777216 ≤ 239)) (decide (240 ≤ x / 16777216)) := by
  rw [byt_div3 x hx, list4_eq x hx 0 0 rfl 0 rfl, list4_eq x hx 255 255 rfl 4294967295 rfl]
/-- an address's kind -/
def kindN (x : Nat) : Nat := kindB (decide (x = 0)) (decide (x = 4294967295)) (decide (x / 16777216 = 127)) (decide (224 ≤ x / 16777216 ∧ x / 16777216 ≤ 239)) (decide (240 ≤ x / 16777216))
theorem kind_is (x : Nat) (w : World) (hx : x < 4294967296) : Calls Tryd.prog 13 #[.int .u32 (x : Int)] w fun e w' => e = .returned (.int .u8 (kindN x : Nat)) ∧ Below w.heap.size w w' := by
  have := kind_any x w hx
  rw [kind_same x hx] at this
  exact this

theorem cmp_three : ∀ (x y : List UInt8), Lib.compareBytes x y = if Op.bytesLess x y then -1 else if x == y then 0 else 1
  | [], [] => rfl
  | [], _ :: _ => rfl
  | _ :: _, [] => rfl
  | a :: x, b :: y => by
    have ih := cmp_three x y
    unfold Lib.compareBytes Op.bytesLess
    by_cases h1 : a < b
    · simp [h1]
    · by_cases h2 : b < a
      · have hne : (a == b) = false := by
          apply Bool.eq_false_iff.2
          intro e
          rw [beq_iff_eq] at e
          subst e
          exact h1 h2
        simp [h1, h2, hne]
      · have e : a = b := UInt8.le_antisymm (UInt8.not_lt.1 h2) (UInt8.not_lt.1 h1)
        subst e
        simp [h1, ih]

set_option maxRecDepth 20000 in
set_option maxHeartbeats 1000000 in
theorem rcompare_walk (X Y : ByteArray) (a p b q a' p' b' q' : Nat) (w : World)
    (H1 : Hid (∀ w, Calls Tryd.prog 22 #[.agg #[.int .u32 (a : Int), .int .u16 (p : Int), .int .u32 (b : Int), .int .u16 (q : Int)]] w fun e w' => e = .returned (.string X) ∧ Below w.heap.size w w'))
    (H2 : Hid (∀ w, Calls Tryd.prog 22 #[.agg #[.int .u32 (a' : Int), .int .u16 (p' : Int), .int .u32 (b' : Int), .int .u16 (q' : Int)]] w fun e w' => e = .returned (.string Y) ∧ Below w.heap.size w w')) :
    Calls Tryd.prog 24 #[.agg #[.int .u32 (a : Int), .int .u16 (p : Int), .int .u32 (b : Int), .int .u16 (q : Int)], .agg #[.int .u32 (a' : Int), .int .u16 (p' : Int), .int .u32 (b' : Int), .int .u16 (q' : Int)]] w fun e w' => e = .returned (.int .i64 (Lib.compareBytes X.data.toList Y.data.toList)) ∧ Below w.heap.size w w' := by
  have HC : Hid (Lib.compareBytes X.data.toList Y.data.toList = if Op.bytesLess X.toList Y.toList then -1 else if X.toList == Y.toList then 0 else 1) := by
    rw [Lib.toList_data X, Lib.toList_data Y]
    exact cmp_three _ _
  have HS := hide (PB.new w a p b q 36)
  have HB := hide (below_one w (.cells #[.int .u32 (a : Int), .int .u16 (p : Int), .int .u32 (b : Int), .int .u16 (q : Int)] 36))
  go_enter Tryd.func24, Tryd.ntmps24
  go_wp2_with fail
  have HS2 := hide (PB.two' w (.cells #[.int .u32 (a : Int), .int .u16 (p : Int), .int .u32 (b : Int), .int .u16 (q : Int)] 36) a' p' b' q' 36)
  have HS1 := hide ((unhide HS).on (below_one _ (.cells #[.int .u32 (a' : Int), .int .u16 (p' : Int), .int .u32 (b' : Int), .int .u16 (q' : Int)] 36)))
  have HB2 := hide (tr2 (unhide HB) (below_one _ (.cells #[.int .u32 (a' : Int), .int .u16 (p' : Int), .int .u32 (b' : Int), .int .u16 (q' : Int)] 36)))
  clear HS HB
  generalize (w.alloc (.cells #[.int .u32 (a : Int), .int .u16 (p : Int), .int .u32 (b : Int), .int .u16 (q : Int)] 36)).alloc (.cells #[.int .u32 (a' : Int), .int .u16 (p' : Int), .int .u32 (b' : Int), .int .u16 (q' : Int)] 36) = w1 at *
  obtain ⟨_, c0, c1, c2, c3⟩ := unhide HS1
  obtain ⟨_, d0, d1, d2, d3⟩ := unhide HS2
  have k0 := cell_regrown c0
  have k1 := cell_regrown c1
  have k2 := cell_regrown c2
  have k3 := cell_regrown c3
  have l0 := cell_regrown d0
  have l1 := cell_regrown d1
  have l2 := cell_regrown d2
  have l3 := cell_regrown d3
  have q1 := fun d os => Calls.regrown_of (unhide H1 (Sort.grow (redrawn w1 d) os))
  have q2 := fun d os => Calls.regrown_of (unhide H2 (Sort.grow (redrawn w1 d) os))
  clear H1 H2 c0 c1 c2 c3 d0 d1 d2 d3 HS1 HS2
  refine wp_region_quiet_below (by kernel_rfl) (by kernel_rfl) ?_
  repeat (quiet_step (fail))
  quiet_step (exact q1 _ _)
  repeat (quiet_step (fail))
  quiet_step (exact q2 _ _)
  repeat (quiet_step (fail))
  refine wpQuiet_nil ?_
  intro _ hw'
  obtain ⟨⟨dq, osq⟩, hw''⟩ := hw'
  subst hw''
  have bel := tr2 (unhide HB2) (below_regrown w1 dq osq)
  clear k0 k1 k2 k3 l0 l1 l2 l3 q1 q2 HB2
  generalize Sort.grow (redrawn w1 dq) osq = w2 at *
  cases hl : Op.bytesLess X.toList Y.toList with
  | true =>
    go_wp2
    go_ret
    rw [unhide HC, hl]
    exact ⟨rfl, bel⟩
  | false =>
    cases he : X.toList == Y.toList with
    | true =>
      have hg : (!X.toList == Y.toList) = false := by rw [he]; rfl
      go_wp2
      go_ret
      rw [unhide HC, hl, he]
      exact ⟨rfl, bel⟩
    | false =>
      have hg : (!X.toList == Y.toList) = true := by rw [he]; rfl
      go_wp2
      go_ret
      rw [unhide HC, hl, he]
      exact ⟨rfl, bel⟩

theorem rcompare_any (a p b q a' p' b' q' : Nat) (w : World) (ha : a < 4294967296) (hp : p < 65536) (hb : b < 4294967296) (hq : q < 65536) (ha' : a' < 4294967296) (hp' : p' < 65536) (hb' : b' < 4294967296) (hq' : q' < 65536) :
    Calls Tryd.prog 24 #[.agg #[.int .u32 (a : Int), .int .u16 (p : Int), .int .u32 (b : Int), .int .u16 (q : Int)], .agg #[.int .u32 (a' : Int), .int .u16 (p' : Int), .int .u32 (b' : Int), .int .u16 (q' : Int)]] w fun e w' => e = .returned (.int .i64 (Lib.compareBytes (ptx a p b q).data.toList (ptx a' p' b' q').data.toList)) ∧ Below w.heap.size w w' :=
  rcompare_walk _ _ a p b q a' p' b' q' w (fun w => rbytes_any a p b q w ha hp hb hq) (fun w => rbytes_any a' p' b' q' w ha' hp' hb' hq')

end Go.Proofs.YtnglkadfnacmcaaDoor
