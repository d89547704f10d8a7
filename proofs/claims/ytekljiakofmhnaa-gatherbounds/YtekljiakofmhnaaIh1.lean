/- The contracts of package ip4's firstWrong at its five places: what the first closure that finds something says; each closure's own contract is handed in. No conditions but those that each line bears. -/
import Derived.Test.YtekljiakofmhnaaIh0
import Derived.Laws.EntriesVeiled
namespace Go.Proofs.Ytekljiakofmhnaa
open Go.RowKit

set_option maxHeartbeats 1000000 in
theorem fwEnc_0 (b p00 p01 : Nat) (I0 I1 : World → Prop) (e0 : Int)
    (c0 : ∀ w, I0 w → w.cell? ⟨b, 0, none⟩ = some (.func (.func 31) #[] #[.pointer (some ⟨p00, 0, none⟩), .pointer (some ⟨p01, 0, none⟩)]))
    (H0 : Hid (∀ w, I0 w → Calls Try.prog 31 #[.pointer (some ⟨p00, 0, none⟩), .pointer (some ⟨p01, 0, none⟩)] w fun e w' => e = .returned (.int .i64 e0) ∧ I1 w'))
    (hne : (e0 != 0) = true) (w : World) (h : I0 w) :
    Calls Try.prog 30 #[.slice (some ⟨b, 0, none⟩) 2 2] w fun e w' => e = .returned (.int .i64 e0) ∧ I1 w' := by
  have K0 := hide h
  have k := c0 _ h
  clear h
  go_enter Try.func30, Try.ntmps30
  go_wp2_with fail
  refine wp_loop_rounds 3 ?_
  rw [rounds_succ]; go_wp2_with fail
  refine (unhide H0 _ (unhide K0)).mono ?_
  rintro e w0 ⟨rfl, h0⟩
  clear k K0 H0
  have K1 := hide h0
  clear h0
  go_wp2_with fail
  go_ret
  exact ⟨rfl, unhide K1⟩

set_option maxHeartbeats 1000000 in
theorem fwEnc_1 (b p00 p01 p10 p11 : Nat) (I0 I1 I2 : World → Prop) (e0 : Int)
    (c0 : ∀ w, I0 w → w.cell? ⟨b, 0, none⟩ = some (.func (.func 31) #[] #[.pointer (some ⟨p00, 0, none⟩), .pointer (some ⟨p01, 0, none⟩)]))
    (H0 : Hid (∀ w, I0 w → Calls Try.prog 31 #[.pointer (some ⟨p00, 0, none⟩), .pointer (some ⟨p01, 0, none⟩)] w fun e w' => e = .returned (.int .i64 0) ∧ I1 w'))
    (c1 : ∀ w, I1 w → w.cell? ⟨b, 1, none⟩ = some (.func (.func 35) #[] #[.pointer (some ⟨p10, 0, none⟩), .pointer (some ⟨p11, 0, none⟩)]))
    (H1 : Hid (∀ w, I1 w → Calls Try.prog 35 #[.pointer (some ⟨p10, 0, none⟩), .pointer (some ⟨p11, 0, none⟩)] w fun e w' => e = .returned (.int .i64 e0) ∧ I2 w'))
    (hne : (e0 != 0) = true) (w : World) (h : I0 w) :
    Calls Try.prog 30 #[.slice (some ⟨b, 0, none⟩) 2 2] w fun e w' => e = .returned (.int .i64 e0) ∧ I2 w' := by
  have K0 := hide h
  have k := c0 _ h
  clear h
  go_enter Try.func30, Try.ntmps30
  go_wp2_with fail
  refine wp_loop_rounds 3 ?_
  rw [rounds_succ]; go_wp2_with fail
  refine (unhide H0 _ (unhide K0)).mono ?_
  rintro e w0 ⟨rfl, h0⟩
  clear k K0 H0
  have K1 := hide h0
  have k := c1 _ h0
  clear h0
  go_wp2_with fail
  rw [rounds_succ]; go_wp2_with fail
  refine (unhide H1 _ (unhide K1)).mono ?_
  rintro e w1 ⟨rfl, h1⟩
  clear k K1 H1
  have K2 := hide h1
  clear h1
  go_wp2_with fail
  go_ret
  exact ⟨rfl, unhide K2⟩

set_option maxHeartbeats 1000000 in
theorem fwEnc_ok (b p00 p01 p10 p11 : Nat) (I0 I1 I2 : World → Prop)
    (c0 : ∀ w, I0 w → w.cell? ⟨b, 0, none⟩ = some (.func (.func 31) #[] #[.pointer (some ⟨p00, 0, none⟩), .pointer (some ⟨p01, 0, none⟩)]))
    (H0 : Hid (∀ w, I0 w → Calls Try.prog 31 #[.pointer (some ⟨p00, 0, none⟩), .pointer (some ⟨p01, 0, none⟩)] w fun e w' => e = .returned (.int .i64 0) ∧ I1 w'))
    (c1 : ∀ w, I1 w → w.cell? ⟨b, 1, none⟩ = some (.func (.func 35) #[] #[.pointer (some ⟨p10, 0, none⟩), .pointer (some ⟨p11, 0, none⟩)]))
    (H1 : Hid (∀ w, I1 w → Calls Try.prog 35 #[.pointer (some ⟨p10, 0, none⟩), .pointer (some ⟨p11, 0, none⟩)] w fun e w' => e = .returned (.int .i64 0) ∧ I2 w'))
    (w : World) (h : I0 w) :
    Calls Try.prog 30 #[.slice (some ⟨b, 0, none⟩) 2 2] w fun e w' => e = .returned (.int .i64 0) ∧ I2 w' := by
  have K0 := hide h
  have k := c0 _ h
  clear h
  go_enter Try.func30, Try.ntmps30
  go_wp2_with fail
  refine wp_loop_rounds 3 ?_
  rw [rounds_succ]; go_wp2_with fail
  refine (unhide H0 _ (unhide K0)).mono ?_
  rintro e w0 ⟨rfl, h0⟩
  clear k K0 H0
  have K1 := hide h0
  have k := c1 _ h0
  clear h0
  go_wp2_with fail
  rw [rounds_succ]; go_wp2_with fail
  refine (unhide H1 _ (unhide K1)).mono ?_
  rintro e w1 ⟨rfl, h1⟩
  clear k K1 H1
  have K2 := hide h1
  clear h1
  go_wp2_with fail
  rw [rounds_succ]; go_wp2_with fail
  go_ret
  exact ⟨rfl, unhide K2⟩

end Go.Proofs.Ytekljiakofmhnaa
