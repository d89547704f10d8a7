/- The contracts of package ip4's firstWrong at its five places: what the first closure that finds something says; each closure's own contract is handed in. No conditions but those that each line bears. -/
import Derived.Test.YtefenejeppmfiaaIh0
import Derived.Laws.EntriesVeiled
namespace Go.Proofs.Ytefenejeppmfiaa
open Go.RowKit

set_option maxHeartbeats 1000000 in
theorem fwEnc_0 (b p00 p01 : Nat) (I0 I1 : World → Prop) (e0 : Int)
    (c0 : ∀ w, I0 w → w.cell? ⟨b, 0, none⟩ = some (.func (.func 40) #[] #[.pointer (some ⟨p00, 0, none⟩), .pointer (some ⟨p01, 0, none⟩)]))
    (H0 : Hid (∀ w, I0 w → Calls Try.prog 40 #[.pointer (some ⟨p00, 0, none⟩), .pointer (some ⟨p01, 0, none⟩)] w fun e w' => e = .returned (.int .i64 e0) ∧ I1 w'))
    (hne : (e0 != 0) = true) (w : World) (h : I0 w) :
    Calls Try.prog 28 #[.slice (some ⟨b, 0, none⟩) 2 2] w fun e w' => e = .returned (.int .i64 e0) ∧ I1 w' := by
  have K0 := hide h
  have k := c0 _ h
  clear h
  go_enter Try.func28, Try.ntmps28
  go_wp2_with fail
  refine wp_loop_rounds 3 ?_
  rw [rounds_succ]; go_wp2_with fail
  refine (unhide H0 _ (unhide K0)).mono ?_
  rintro e w0 ⟨rfl, h0⟩
  clear k K0 H0
  have K1 := hide h0
  clear h0
  go_wp2_with fail
  go_ret
  exact ⟨rfl, unhide K1⟩

set_option maxHeartbeats 1000000 in
theorem fwEnc_1 (b p00 p01 p10 p11 : Nat) (I0 I1 I2 : World → Prop) (e0 : Int)
    (c0 : ∀ w, I0 w → w.cell? ⟨b, 0, none⟩ = some (.func (.func 40) #[] #[.pointer (some ⟨p00, 0, none⟩), .pointer (some ⟨p01, 0, none⟩)]))
    (H0 : Hid (∀ w, I0 w → Calls Try.prog 40 #[.pointer (some ⟨p00, 0, none⟩), .pointer (some ⟨p01, 0, none⟩)] w fun e w' => e = .returned (.int .i64 0) ∧ I1 w'))
    (c1 : ∀ w, I1 w → w.cell? ⟨b, 1, none⟩ = some (.func (.func 43) #[] #[.pointer (some ⟨p10, 0, none⟩), .pointer (some ⟨p11, 0, none⟩)]))
    (H1 : Hid (∀ w, I1 w → Calls Try.prog 43 #[.pointer (some ⟨p10, 0, none⟩), .pointer (some ⟨p11, 0, none⟩)] w fun e w' => e = .returned (.int .i64 e0) ∧ I2 w'))
    (hne : (e0 != 0) = true) (w : World) (h : I0 w) :
    Calls Try.prog 28 #[.slice (some ⟨b, 0, none⟩) 2 2] w fun e w' => e = .returned (.int .i64 e0) ∧ I2 w' := by
  have K0 := hide h
  have k := c0 _ h
  clear h
  go_enter Try.func28, Try.ntmps28
  go_wp2_with fail
  refine wp_loop_rounds 3 ?_
  rw [rounds_succ]; go_wp2_with fail
  refine (unhide H0 _ (unhide K0)).mono ?_
  rintro e w0 ⟨rfl, h0⟩
  clear k K0 H0
  have K1 := hide h0
  have k := c1 _ h0
  clear h0
  go_wp2_with fail
  rw [rounds_succ]; go_wp2_with fail
  refine (unhide H1 _ (unhide K1)).mono ?_
  rintro e w1 ⟨rfl, h1⟩
  clear k K1 H1
  have K2 := hide h1
  clear h1
  go_wp2_with fail
  go_ret
  exact ⟨rfl, unhide K2⟩

set_option maxHeartbeats 1000000 in
theorem fwEnc_ok (b p00 p01 p10 p11 : Nat) (I0 I1 I2 : World → Prop)
    (c0 : ∀ w, I0 w → w.cell? ⟨b, 0, none⟩ = some (.func (.func 40) #[] #[.pointer (some ⟨p00, 0, none⟩), .pointer (some ⟨p01, 0, none⟩)]))
    (H0 : Hid (∀ w, I0 w → Calls Try.prog 40 #[.pointer (some ⟨p00, 0, none⟩), .pointer (some ⟨p01, 0, none⟩)] w fun e w' => e = .returned (.int .i64 0) ∧ I1 w'))
    (c1 : ∀ w, I1 w → w.cell? ⟨b, 1, none⟩ = some (.func (.func 43) #[] #[.pointer (some ⟨p10, 0, none⟩), .pointer (some ⟨p11, 0, none⟩)]))
    (H1 : Hid (∀ w, I1 w → Calls Try.prog 43 #[.pointer (some ⟨p10, 0, none⟩), .pointer (some ⟨p11, 0, none⟩)] w fun e w' => e = .returned (.int .i64 0) ∧ I2 w'))
    (w : World) (h : I0 w) :
    Calls Try.prog 28 #[.slice (some ⟨b, 0, none⟩) 2 2] w fun e w' => e = .returned (.int .i64 0) ∧ I2 w' := by
  have K0 := hide h
  have k := c0 _ h
  clear h
  go_enter Try.func28, Try.ntmps28
  go_wp2_with fail
  refine wp_loop_rounds 3 ?_
  rw [rounds_succ]; go_wp2_with fail
  refine (unhide H0 _ (unhide K0)).mono ?_
  rintro e w0 ⟨rfl, h0⟩
  clear k K0 H0
  have K1 := hide h0
  have k := c1 _ h0
  clear h0
  go_wp2_with fail
  rw [rounds_succ]; go_wp2_with fail
  refine (unhide H1 _ (unhide K1)).mono ?_
  rintro e w1 ⟨rfl, h1⟩
  clear k K1 H1
  have K2 := hide h1
  clear h1
  go_wp2_with fail
  rw [rounds_succ]; go_wp2_with fail
  go_ret
  exact ⟨rfl, unhide K2⟩

set_option maxHeartbeats 1000000 in
theorem fwMea_0 (b p00 p01 : Nat) (I0 I1 : World → Prop) (e0 : Int)
    (c0 : ∀ w, I0 w → w.cell? ⟨b, 0, none⟩ = some (.func (.func 70) #[] #[.pointer (some ⟨p00, 0, none⟩), .pointer (some ⟨p01, 0, none⟩)]))
    (H0 : Hid (∀ w, I0 w → Calls Try.prog 70 #[.pointer (some ⟨p00, 0, none⟩), .pointer (some ⟨p01, 0, none⟩)] w fun e w' => e = .returned (.int .i64 e0) ∧ I1 w'))
    (hne : (e0 != 0) = true) (w : World) (h : I0 w) :
    Calls Try.prog 28 #[.slice (some ⟨b, 0, none⟩) 3 3] w fun e w' => e = .returned (.int .i64 e0) ∧ I1 w' := by
  have K0 := hide h
  have k := c0 _ h
  clear h
  go_enter Try.func28, Try.ntmps28
  go_wp2_with fail
  refine wp_loop_rounds 4 ?_
  rw [rounds_succ]; go_wp2_with fail
  refine (unhide H0 _ (unhide K0)).mono ?_
  rintro e w0 ⟨rfl, h0⟩
  clear k K0 H0
  have K1 := hide h0
  clear h0
  go_wp2_with fail
  go_ret
  exact ⟨rfl, unhide K1⟩

set_option maxHeartbeats 1000000 in
theorem fwMea_1 (b p00 p01 p10 : Nat) (I0 I1 I2 : World → Prop) (e0 : Int)
    (c0 : ∀ w, I0 w → w.cell? ⟨b, 0, none⟩ = some (.func (.func 70) #[] #[.pointer (some ⟨p00, 0, none⟩), .pointer (some ⟨p01, 0, none⟩)]))
    (H0 : Hid (∀ w, I0 w → Calls Try.prog 70 #[.pointer (some ⟨p00, 0, none⟩), .pointer (some ⟨p01, 0, none⟩)] w fun e w' => e = .returned (.int .i64 0) ∧ I1 w'))
    (c1 : ∀ w, I1 w → w.cell? ⟨b, 1, none⟩ = some (.func (.func 71) #[] #[.pointer (some ⟨p10, 0, none⟩)]))
    (H1 : Hid (∀ w, I1 w → Calls Try.prog 71 #[.pointer (some ⟨p10, 0, none⟩)] w fun e w' => e = .returned (.int .i64 e0) ∧ I2 w'))
    (hne : (e0 != 0) = true) (w : World) (h : I0 w) :
    Calls Try.prog 28 #[.slice (some ⟨b, 0, none⟩) 3 3] w fun e w' => e = .returned (.int .i64 e0) ∧ I2 w' := by
  have K0 := hide h
  have k := c0 _ h
  clear h
  go_enter Try.func28, Try.ntmps28
  go_wp2_with fail
  refine wp_loop_rounds 4 ?_
  rw [rounds_succ]; go_wp2_with fail
  refine (unhide H0 _ (unhide K0)).mono ?_
  rintro e w0 ⟨rfl, h0⟩
  clear k K0 H0
  have K1 := hide h0
  have k := c1 _ h0
  clear h0
  go_wp2_with fail
  rw [rounds_succ]; go_wp2_with fail
  refine (unhide H1 _ (unhide K1)).mono ?_
  rintro e w1 ⟨rfl, h1⟩
  clear k K1 H1
  have K2 := hide h1
  clear h1
  go_wp2_with fail
  go_ret
  exact ⟨rfl, unhide K2⟩

set_option maxHeartbeats 1000000 in
theorem fwMea_2 (b p00 p01 p10 p20 p21 : Nat) (I0 I1 I2 I3 : World → Prop) (e0 : Int)
    (c0 : ∀ w, I0 w → w.cell? ⟨b, 0, none⟩ = some (.func (.func 70) #[] #[.pointer (some ⟨p00, 0, none⟩), .pointer (some ⟨p01, 0, none⟩)]))
    (H0 : Hid (∀ w, I0 w → Calls Try.prog 70 #[.pointer (some ⟨p00, 0, none⟩), .pointer (some ⟨p01, 0, none⟩)] w fun e w' => e = .returned (.int .i64 0) ∧ I1 w'))
    (c1 : ∀ w, I1 w → w.cell? ⟨b, 1, none⟩ = some (.func (.func 71) #[] #[.pointer (some ⟨p10, 0, none⟩)]))
    (H1 : Hid (∀ w, I1 w → Calls Try.prog 71 #[.pointer (some ⟨p10, 0, none⟩)] w fun e w' => e = .returned (.int .i64 0) ∧ I2 w'))
    (c2 : ∀ w, I2 w → w.cell? ⟨b, 2, none⟩ = some (.func (.func 72) #[] #[.pointer (some ⟨p20, 0, none⟩), .pointer (some ⟨p21, 0, none⟩)]))
    (H2 : Hid (∀ w, I2 w → Calls Try.prog 72 #[.pointer (some ⟨p20, 0, none⟩), .pointer (some ⟨p21, 0, none⟩)] w fun e w' => e = .returned (.int .i64 e0) ∧ I3 w'))
    (hne : (e0 != 0) = true) (w : World) (h : I0 w) :
    Calls Try.prog 28 #[.slice (some ⟨b, 0, none⟩) 3 3] w fun e w' => e = .returned (.int .i64 e0) ∧ I3 w' := by
  have K0 := hide h
  have k := c0 _ h
  clear h
  go_enter Try.func28, Try.ntmps28
  go_wp2_with fail
  refine wp_loop_rounds 4 ?_
  rw [rounds_succ]; go_wp2_with fail
  refine (unhide H0 _ (unhide K0)).mono ?_
  rintro e w0 ⟨rfl, h0⟩
  clear k K0 H0
  have K1 := hide h0
  have k := c1 _ h0
  clear h0
  go_wp2_with fail
  rw [rounds_succ]; go_wp2_with fail
  refine (unhide H1 _ (unhide K1)).mono ?_
  rintro e w1 ⟨rfl, h1⟩
  clear k K1 H1
  have K2 := hide h1
  have k := c2 _ h1
  clear h1
  go_wp2_with fail
  rw [rounds_succ]; go_wp2_with fail
  refine (unhide H2 _ (unhide K2)).mono ?_
  rintro e w2 ⟨rfl, h2⟩
  clear k K2 H2
  have K3 := hide h2
  clear h2
  go_wp2_with fail
  go_ret
  exact ⟨rfl, unhide K3⟩

set_option maxHeartbeats 1000000 in
theorem fwMea_ok (b p00 p01 p10 p20 p21 : Nat) (I0 I1 I2 I3 : World → Prop)
    (c0 : ∀ w, I0 w → w.cell? ⟨b, 0, none⟩ = some (.func (.func 70) #[] #[.pointer (some ⟨p00, 0, none⟩), .pointer (some ⟨p01, 0, none⟩)]))
    (H0 : Hid (∀ w, I0 w → Calls Try.prog 70 #[.pointer (some ⟨p00, 0, none⟩), .pointer (some ⟨p01, 0, none⟩)] w fun e w' => e = .returned (.int .i64 0) ∧ I1 w'))
    (c1 : ∀ w, I1 w → w.cell? ⟨b, 1, none⟩ = some (.func (.func 71) #[] #[.pointer (some ⟨p10, 0, none⟩)]))
    (H1 : Hid (∀ w, I1 w → Calls Try.prog 71 #[.pointer (some ⟨p10, 0, none⟩)] w fun e w' => e = .returned (.int .i64 0) ∧ I2 w'))
    (c2 : ∀ w, I2 w → w.cell? ⟨b, 2, none⟩ = some (.func (.func 72) #[] #[.pointer (some ⟨p20, 0, none⟩), .pointer (some ⟨p21, 0, none⟩)]))
    (H2 : Hid (∀ w, I2 w → Calls Try.prog 72 #[.pointer (some ⟨p20, 0, none⟩), .pointer (some ⟨p21, 0, none⟩)] w fun e w' => e = .returned (.int .i64 0) ∧ I3 w'))
    (w : World) (h : I0 w) :
    Calls Try.prog 28 #[.slice (some ⟨b, 0, none⟩) 3 3] w fun e w' => e = .returned (.int .i64 0) ∧ I3 w' := by
  have K0 := hide h
  have k := c0 _ h
  clear h
  go_enter Try.func28, Try.ntmps28
  go_wp2_with fail
  refine wp_loop_rounds 4 ?_
  rw [rounds_succ]; go_wp2_with fail
  refine (unhide H0 _ (unhide K0)).mono ?_
  rintro e w0 ⟨rfl, h0⟩
  clear k K0 H0
  have K1 := hide h0
  have k := c1 _ h0
  clear h0
  go_wp2_with fail
  rw [rounds_succ]; go_wp2_with fail
  refine (unhide H1 _ (unhide K1)).mono ?_
  rintro e w1 ⟨rfl, h1⟩
  clear k K1 H1
  have K2 := hide h1
  have k := c2 _ h1
  clear h1
  go_wp2_with fail
  rw [rounds_succ]; go_wp2_with fail
  refine (unhide H2 _ (unhide K2)).mono ?_
  rintro e w2 ⟨rfl, h2⟩
  clear k K2 H2
  have K3 := hide h2
  clear h2
  go_wp2_with fail
  rw [rounds_succ]; go_wp2_with fail
  go_ret
  exact ⟨rfl, unhide K3⟩

set_option maxHeartbeats 1000000 in
theorem fwDec_0 (b p00 p01 : Nat) (I0 I1 : World → Prop) (e0 : Int)
    (c0 : ∀ w, I0 w → w.cell? ⟨b, 0, none⟩ = some (.func (.func 29) #[] #[.pointer (some ⟨p00, 0, none⟩), .pointer (some ⟨p01, 0, none⟩)]))
    (H0 : Hid (∀ w, I0 w → Calls Try.prog 29 #[.pointer (some ⟨p00, 0, none⟩), .pointer (some ⟨p01, 0, none⟩)] w fun e w' => e = .returned (.int .i64 e0) ∧ I1 w'))
    (hne : (e0 != 0) = true) (w : World) (h : I0 w) :
    Calls Try.prog 28 #[.slice (some ⟨b, 0, none⟩) 3 3] w fun e w' => e = .returned (.int .i64 e0) ∧ I1 w' := by
  have K0 := hide h
  have k := c0 _ h
  clear h
  go_enter Try.func28, Try.ntmps28
  go_wp2_with fail
  refine wp_loop_rounds 4 ?_
  rw [rounds_succ]; go_wp2_with fail
  refine (unhide H0 _ (unhide K0)).mono ?_
  rintro e w0 ⟨rfl, h0⟩
  clear k K0 H0
  have K1 := hide h0
  clear h0
  go_wp2_with fail
  go_ret
  exact ⟨rfl, unhide K1⟩

set_option maxHeartbeats 1000000 in
theorem fwDec_1 (b p00 p01 p10 : Nat) (I0 I1 I2 : World → Prop) (e0 : Int)
    (c0 : ∀ w, I0 w → w.cell? ⟨b, 0, none⟩ = some (.func (.func 29) #[] #[.pointer (some ⟨p00, 0, none⟩), .pointer (some ⟨p01, 0, none⟩)]))
    (H0 : Hid (∀ w, I0 w → Calls Try.prog 29 #[.pointer (some ⟨p00, 0, none⟩), .pointer (some ⟨p01, 0, none⟩)] w fun e w' => e = .returned (.int .i64 0) ∧ I1 w'))
    (c1 : ∀ w, I1 w → w.cell? ⟨b, 1, none⟩ = some (.func (.func 32) #[] #[.pointer (some ⟨p10, 0, none⟩)]))
    (H1 : Hid (∀ w, I1 w → Calls Try.prog 32 #[.pointer (some ⟨p10, 0, none⟩)] w fun e w' => e = .returned (.int .i64 e0) ∧ I2 w'))
    (hne : (e0 != 0) = true) (w : World) (h : I0 w) :
    Calls Try.prog 28 #[.slice (some ⟨b, 0, none⟩) 3 3] w fun e w' => e = .returned (.int .i64 e0) ∧ I2 w' := by
  have K0 := hide h
  have k := c0 _ h
  clear h
  go_enter Try.func28, Try.ntmps28
  go_wp2_with fail
  refine wp_loop_rounds 4 ?_
  rw [rounds_succ]; go_wp2_with fail
  refine (unhide H0 _ (unhide K0)).mono ?_
  rintro e w0 ⟨rfl, h0⟩
  clear k K0 H0
  have K1 := hide h0
  have k := c1 _ h0
  clear h0
  go_wp2_with fail
  rw [rounds_succ]; go_wp2_with fail
  refine (unhide H1 _ (unhide K1)).mono ?_
  rintro e w1 ⟨rfl, h1⟩
  clear k K1 H1
  have K2 := hide h1
  clear h1
  go_wp2_with fail
  go_ret
  exact ⟨rfl, unhide K2⟩

set_option maxHeartbeats 1000000 in
theorem fwDec_2 (b p00 p01 p10 p20 p21 p22 p23 : Nat) (I0 I1 I2 I3 : World → Prop) (e0 : Int)
    (c0 : ∀ w, I0 w → w.cell? ⟨b, 0, none⟩ = some (.func (.func 29) #[] #[.pointer (some ⟨p00, 0, none⟩), .pointer (some ⟨p01, 0, none⟩)]))
    (H0 : Hid (∀ w, I0 w → Calls Try.prog 29 #[.pointer (some ⟨p00, 0, none⟩), .pointer (some ⟨p01, 0, none⟩)] w fun e w' => e = .returned (.int .i64 0) ∧ I1 w'))
    (c1 : ∀ w, I1 w → w.cell? ⟨b, 1, none⟩ = some (.func (.func 32) #[] #[.pointer (some ⟨p10, 0, none⟩)]))
    (H1 : Hid (∀ w, I1 w → Calls Try.prog 32 #[.pointer (some ⟨p10, 0, none⟩)] w fun e w' => e = .returned (.int .i64 0) ∧ I2 w'))
    (c2 : ∀ w, I2 w → w.cell? ⟨b, 2, none⟩ = some (.func (.func 34) #[] #[.pointer (some ⟨p20, 0, none⟩), .pointer (some ⟨p21, 0, none⟩), .pointer (some ⟨p22, 0, none⟩), .pointer (some ⟨p23, 0, none⟩)]))
    (H2 : Hid (∀ w, I2 w → Calls Try.prog 34 #[.pointer (some ⟨p20, 0, none⟩), .pointer (some ⟨p21, 0, none⟩), .pointer (some ⟨p22, 0, none⟩), .pointer (some ⟨p23, 0, none⟩)] w fun e w' => e = .returned (.int .i64 e0) ∧ I3 w'))
    (hne : (e0 != 0) = true) (w : World) (h : I0 w) :
    Calls Try.prog 28 #[.slice (some ⟨b, 0, none⟩) 3 3] w fun e w' => e = .returned (.int .i64 e0) ∧ I3 w' := by
  have K0 := hide h
  have k := c0 _ h
  clear h
  go_enter Try.func28, Try.ntmps28
  go_wp2_with fail
  refine wp_loop_rounds 4 ?_
  rw [rounds_succ]; go_wp2_with fail
  refine (unhide H0 _ (unhide K0)).mono ?_
  rintro e w0 ⟨rfl, h0⟩
  clear k K0 H0
  have K1 := hide h0
  have k := c1 _ h0
  clear h0
  go_wp2_with fail
  rw [rounds_succ]; go_wp2_with fail
  refine (unhide H1 _ (unhide K1)).mono ?_
  rintro e w1 ⟨rfl, h1⟩
  clear k K1 H1
  have K2 := hide h1
  have k := c2 _ h1
  clear h1
  go_wp2_with fail
  rw [rounds_succ]; go_wp2_with fail
  refine (unhide H2 _ (unhide K2)).mono ?_
  rintro e w2 ⟨rfl, h2⟩
  clear k K2 H2
  have K3 := hide h2
  clear h2
  go_wp2_with fail
  go_ret
  exact ⟨rfl, unhide K3⟩

set_option maxHeartbeats 1000000 in
theorem fwDec_ok (b p00 p01 p10 p20 p21 p22 p23 : Nat) (I0 I1 I2 I3 : World → Prop)
    (c0 : ∀ w, I0 w → w.cell? ⟨b, 0, none⟩ = some (.func (.func 29) #[] #[.pointer (some ⟨p00, 0, none⟩), .pointer (some ⟨p01, 0, none⟩)]))
    (H0 : Hid (∀ w, I0 w → Calls Try.prog 29 #[.pointer (some ⟨p00, 0, none⟩), .pointer (some ⟨p01, 0, none⟩)] w fun e w' => e = .returned (.int .i64 0) ∧ I1 w'))
    (c1 : ∀ w, I1 w → w.cell? ⟨b, 1, none⟩ = some (.func (.func 32) #[] #[.pointer (some ⟨p10, 0, none⟩)]))
    (H1 : Hid (∀ w, I1 w → Calls Try.prog 32 #[.pointer (some ⟨p10, 0, none⟩)] w fun e w' => e = .returned (.int .i64 0) ∧ I2 w'))
    (c2 : ∀ w, I2 w → w.cell? ⟨b, 2, none⟩ = some (.func (.func 34) #[] #[.pointer (some ⟨p20, 0, none⟩), .pointer (some ⟨p21, 0, none⟩), .pointer (some ⟨p22, 0, none⟩), .pointer (some ⟨p23, 0, none⟩)]))
    (H2 : Hid (∀ w, I2 w → Calls Try.prog 34 #[.pointer (some ⟨p20, 0, none⟩), .pointer (some ⟨p21, 0, none⟩), .pointer (some ⟨p22, 0, none⟩), .pointer (some ⟨p23, 0, none⟩)] w fun e w' => e = .returned (.int .i64 0) ∧ I3 w'))
    (w : World) (h : I0 w) :
    Calls Try.prog 28 #[.slice (some ⟨b, 0, none⟩) 3 3] w fun e w' => e = .returned (.int .i64 0) ∧ I3 w' := by
  have K0 := hide h
  have k := c0 _ h
  clear h
  go_enter Try.func28, Try.ntmps28
  go_wp2_with fail
  refine wp_loop_rounds 4 ?_
  rw [rounds_succ]; go_wp2_with fail
  refine (unhide H0 _ (unhide K0)).mono ?_
  rintro e w0 ⟨rfl, h0⟩
  clear k K0 H0
  have K1 := hide h0
  have k := c1 _ h0
  clear h0
  go_wp2_with fail
  rw [rounds_succ]; go_wp2_with fail
  refine (unhide H1 _ (unhide K1)).mono ?_
  rintro e w1 ⟨rfl, h1⟩
  clear k K1 H1
  have K2 := hide h1
  have k := c2 _ h1
  clear h1
  go_wp2_with fail
  rw [rounds_succ]; go_wp2_with fail
  refine (unhide H2 _ (unhide K2)).mono ?_
  rintro e w2 ⟨rfl, h2⟩
  clear k K2 H2
  have K3 := hide h2
  clear h2
  go_wp2_with fail
  rw [rounds_succ]; go_wp2_with fail
  go_ret
  exact ⟨rfl, unhide K3⟩

set_option maxHeartbeats 1000000 in
theorem fwOpt_0 (b p00 : Nat) (I0 I1 : World → Prop) (e0 : Int)
    (c0 : ∀ w, I0 w → w.cell? ⟨b, 0, none⟩ = some (.func (.func 56) #[] #[.pointer (some ⟨p00, 0, none⟩)]))
    (H0 : Hid (∀ w, I0 w → Calls Try.prog 56 #[.pointer (some ⟨p00, 0, none⟩)] w fun e w' => e = .returned (.int .i64 e0) ∧ I1 w'))
    (hne : (e0 != 0) = true) (w : World) (h : I0 w) :
    Calls Try.prog 28 #[.slice (some ⟨b, 0, none⟩) 2 2] w fun e w' => e = .returned (.int .i64 e0) ∧ I1 w' := by
  have K0 := hide h
  have k := c0 _ h
  clear h
  go_enter Try.func28, Try.ntmps28
  go_wp2_with fail
  refine wp_loop_rounds 3 ?_
  rw [rounds_succ]; go_wp2_with fail
  refine (unhide H0 _ (unhide K0)).mono ?_
  rintro e w0 ⟨rfl, h0⟩
  clear k K0 H0
  have K1 := hide h0
  clear h0
  go_wp2_with fail
  go_ret
  exact ⟨rfl, unhide K1⟩

set_option maxHeartbeats 1000000 in
theorem fwOpt_1 (b p00 p10 : Nat) (I0 I1 I2 : World → Prop) (e0 : Int)
    (c0 : ∀ w, I0 w → w.cell? ⟨b, 0, none⟩ = some (.func (.func 56) #[] #[.pointer (some ⟨p00, 0, none⟩)]))
    (H0 : Hid (∀ w, I0 w → Calls Try.prog 56 #[.pointer (some ⟨p00, 0, none⟩)] w fun e w' => e = .returned (.int .i64 0) ∧ I1 w'))
    (c1 : ∀ w, I1 w → w.cell? ⟨b, 1, none⟩ = some (.func (.func 59) #[] #[.pointer (some ⟨p10, 0, none⟩)]))
    (H1 : Hid (∀ w, I1 w → Calls Try.prog 59 #[.pointer (some ⟨p10, 0, none⟩)] w fun e w' => e = .returned (.int .i64 e0) ∧ I2 w'))
    (hne : (e0 != 0) = true) (w : World) (h : I0 w) :
    Calls Try.prog 28 #[.slice (some ⟨b, 0, none⟩) 2 2] w fun e w' => e = .returned (.int .i64 e0) ∧ I2 w' := by
  have K0 := hide h
  have k := c0 _ h
  clear h
  go_enter Try.func28, Try.ntmps28
  go_wp2_with fail
  refine wp_loop_rounds 3 ?_
  rw [rounds_succ]; go_wp2_with fail
  refine (unhide H0 _ (unhide K0)).mono ?_
  rintro e w0 ⟨rfl, h0⟩
  clear k K0 H0
  have K1 := hide h0
  have k := c1 _ h0
  clear h0
  go_wp2_with fail
  rw [rounds_succ]; go_wp2_with fail
  refine (unhide H1 _ (unhide K1)).mono ?_
  rintro e w1 ⟨rfl, h1⟩
  clear k K1 H1
  have K2 := hide h1
  clear h1
  go_wp2_with fail
  go_ret
  exact ⟨rfl, unhide K2⟩

set_option maxHeartbeats 1000000 in
theorem fwOpt_ok (b p00 p10 : Nat) (I0 I1 I2 : World → Prop)
    (c0 : ∀ w, I0 w → w.cell? ⟨b, 0, none⟩ = some (.func (.func 56) #[] #[.pointer (some ⟨p00, 0, none⟩)]))
    (H0 : Hid (∀ w, I0 w → Calls Try.prog 56 #[.pointer (some ⟨p00, 0, none⟩)] w fun e w' => e = .returned (.int .i64 0) ∧ I1 w'))
    (c1 : ∀ w, I1 w → w.cell? ⟨b, 1, none⟩ = some (.func (.func 59) #[] #[.pointer (some ⟨p10, 0, none⟩)]))
    (H1 : Hid (∀ w, I1 w → Calls Try.prog 59 #[.pointer (some ⟨p10, 0, none⟩)] w fun e w' => e = .returned (.int .i64 0) ∧ I2 w'))
    (w : World) (h : I0 w) :
    Calls Try.prog 28 #[.slice (some ⟨b, 0, none⟩) 2 2] w fun e w' => e = .returned (.int .i64 0) ∧ I2 w' := by
  have K0 := hide h
  have k := c0 _ h
  clear h
  go_enter Try.func28, Try.ntmps28
  go_wp2_with fail
  refine wp_loop_rounds 3 ?_
  rw [rounds_succ]; go_wp2_with fail
  refine (unhide H0 _ (unhide K0)).mono ?_
  rintro e w0 ⟨rfl, h0⟩
  clear k K0 H0
  have K1 := hide h0
  have k := c1 _ h0
  clear h0
  go_wp2_with fail
  rw [rounds_succ]; go_wp2_with fail
  refine (unhide H1 _ (unhide K1)).mono ?_
  rintro e w1 ⟨rfl, h1⟩
  clear k K1 H1
  have K2 := hide h1
  clear h1
  go_wp2_with fail
  rw [rounds_succ]; go_wp2_with fail
  go_ret
  exact ⟨rfl, unhide K2⟩

set_option maxHeartbeats 1000000 in
theorem fwFst_0 (b p00 : Nat) (I0 I1 : World → Prop) (e0 : Int)
    (c0 : ∀ w, I0 w → w.cell? ⟨b, 0, none⟩ = some (.func (.func 79) #[] #[.pointer (some ⟨p00, 0, none⟩)]))
    (H0 : Hid (∀ w, I0 w → Calls Try.prog 79 #[.pointer (some ⟨p00, 0, none⟩)] w fun e w' => e = .returned (.int .i64 e0) ∧ I1 w'))
    (hne : (e0 != 0) = true) (w : World) (h : I0 w) :
    Calls Try.prog 28 #[.slice (some ⟨b, 0, none⟩) 2 2] w fun e w' => e = .returned (.int .i64 e0) ∧ I1 w' := by
  have K0 := hide h
  have k := c0 _ h
  clear h
  go_enter Try.func28, Try.ntmps28
  go_wp2_with fail
  refine wp_loop_rounds 3 ?_
  rw [rounds_succ]; go_wp2_with fail
  refine (unhide H0 _ (unhide K0)).mono ?_
  rintro e w0 ⟨rfl, h0⟩
  clear k K0 H0
  have K1 := hide h0
  clear h0
  go_wp2_with fail
  go_ret
  exact ⟨rfl, unhide K1⟩

set_option maxHeartbeats 1000000 in
theorem fwFst_1 (b p00 p10 p11 : Nat) (I0 I1 I2 : World → Prop) (e0 : Int)
    (c0 : ∀ w, I0 w → w.cell? ⟨b, 0, none⟩ = some (.func (.func 79) #[] #[.pointer (some ⟨p00, 0, none⟩)]))
    (H0 : Hid (∀ w, I0 w → Calls Try.prog 79 #[.pointer (some ⟨p00, 0, none⟩)] w fun e w' => e = .returned (.int .i64 0) ∧ I1 w'))
    (c1 : ∀ w, I1 w → w.cell? ⟨b, 1, none⟩ = some (.func (.func 80) #[] #[.pointer (some ⟨p10, 0, none⟩), .pointer (some ⟨p11, 0, none⟩)]))
    (H1 : Hid (∀ w, I1 w → Calls Try.prog 80 #[.pointer (some ⟨p10, 0, none⟩), .pointer (some ⟨p11, 0, none⟩)] w fun e w' => e = .returned (.int .i64 e0) ∧ I2 w'))
    (hne : (e0 != 0) = true) (w : World) (h : I0 w) :
    Calls Try.prog 28 #[.slice (some ⟨b, 0, none⟩) 2 2] w fun e w' => e = .returned (.int .i64 e0) ∧ I2 w' := by
  have K0 := hide h
  have k := c0 _ h
  clear h
  go_enter Try.func28, Try.ntmps28
  go_wp2_with fail
  refine wp_loop_rounds 3 ?_
  rw [rounds_succ]; go_wp2_with fail
  refine (unhide H0 _ (unhide K0)).mono ?_
  rintro e w0 ⟨rfl, h0⟩
  clear k K0 H0
  have K1 := hide h0
  have k := c1 _ h0
  clear h0
  go_wp2_with fail
  rw [rounds_succ]; go_wp2_with fail
  refine (unhide H1 _ (unhide K1)).mono ?_
  rintro e w1 ⟨rfl, h1⟩
  clear k K1 H1
  have K2 := hide h1
  clear h1
  go_wp2_with fail
  go_ret
  exact ⟨rfl, unhide K2⟩

set_option maxHeartbeats 1000000 in
theorem fwFst_ok (b p00 p10 p11 : Nat) (I0 I1 I2 : World → Prop)
    (c0 : ∀ w, I0 w → w.cell? ⟨b, 0, none⟩ = some (.func (.func 79) #[] #[.pointer (some ⟨p00, 0, none⟩)]))
    (H0 : Hid (∀ w, I0 w → Calls Try.prog 79 #[.pointer (some ⟨p00, 0, none⟩)] w fun e w' => e = .returned (.int .i64 0) ∧ I1 w'))
    (c1 : ∀ w, I1 w → w.cell? ⟨b, 1, none⟩ = some (.func (.func 80) #[] #[.pointer (some ⟨p10, 0, none⟩), .pointer (some ⟨p11, 0, none⟩)]))
    (H1 : Hid (∀ w, I1 w → Calls Try.prog 80 #[.pointer (some ⟨p10, 0, none⟩), .pointer (some ⟨p11, 0, none⟩)] w fun e w' => e = .returned (.int .i64 0) ∧ I2 w'))
    (w : World) (h : I0 w) :
    Calls Try.prog 28 #[.slice (some ⟨b, 0, none⟩) 2 2] w fun e w' => e = .returned (.int .i64 0) ∧ I2 w' := by
  have K0 := hide h
  have k := c0 _ h
  clear h
  go_enter Try.func28, Try.ntmps28
  go_wp2_with fail
  refine wp_loop_rounds 3 ?_
  rw [rounds_succ]; go_wp2_with fail
  refine (unhide H0 _ (unhide K0)).mono ?_
  rintro e w0 ⟨rfl, h0⟩
  clear k K0 H0
  have K1 := hide h0
  have k := c1 _ h0
  clear h0
  go_wp2_with fail
  rw [rounds_succ]; go_wp2_with fail
  refine (unhide H1 _ (unhide K1)).mono ?_
  rintro e w1 ⟨rfl, h1⟩
  clear k K1 H1
  have K2 := hide h1
  clear h1
  go_wp2_with fail
  rw [rounds_succ]; go_wp2_with fail
  go_ret
  exact ⟨rfl, unhide K2⟩

end Go.Proofs.Ytefenejeppmfiaa
