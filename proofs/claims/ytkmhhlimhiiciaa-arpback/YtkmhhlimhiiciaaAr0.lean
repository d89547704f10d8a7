/- The contracts of package arp's leaves (isKnown, fits, the two ends, between, packetOf, told, bytes), over the loaded program; no memory that was there has turned. Conditions: numbers in their kinds' bounds. -/
import Derived.Test.YtkmhhlimhiiciaaWd8
import Derived.Test.YtkmhhlimhiiciaaTabK
namespace Go.Proofs.Ytkmhhlimhiiciaa
open Go.RowKit

/-- a packet's value, and an end's -/
abbrev ar (o f i t j : Nat) : Value := .agg #[.int .u16 (o : Int), .int .u64 (f : Int), .int .u32 (i : Int), .int .u64 (t : Int), .int .u32 (j : Int)]
abbrev en (f i : Nat) : Value := .agg #[.int .u64 (f : Int), .int .u32 (i : Int)]

/-- is there such an Op? -/
def kn (o : Nat) : Bool := o == 1 || o == 2
theorem kn1 : kn 1 = true := rfl
theorem kn2 : kn 2 = true := rfl

theorem eqI {a b : Nat} : ((a : Int) == (b : Int)) = (a == b) := by
  by_cases h : a = b
  · subst h; rw [beq_self_eq_true, beq_self_eq_true]
  · rw [beq_eq_false_iff_ne.2 (show (a : Int) ≠ (b : Int) by omega), beq_eq_false_iff_ne.2 h]
theorem eqI1 (a : Nat) : ((a : Int) == 1) = (a == 1) := eqI (b := 1)
theorem eqI2 (a : Nat) : ((a : Int) == 2) = (a == 2) := eqI (b := 2)

set_option maxHeartbeats 400000 in
theorem isknown_any (o : Nat) (w : World) :
    Calls Try.prog 20 #[.int .u16 (o : Int)] w fun e w' => e = .returned (.bool (kn o)) ∧ w' = w := by
  have e1 := eqI1 o
  have e2 := eqI2 o
  have hk : kn o = (o == 1 || o == 2) := rfl
  generalize kn o = g at *
  cases h1 : (o == 1)
  · cases h2 : (o == 2)
    · rw [h1, h2] at hk
      rw [h1] at e1
      rw [h2] at e2
      subst hk
      clear h1 h2
      go_enter Try.func20, Try.ntmps20
      go_wp2
      go_ret
      exact ⟨rfl, rfl⟩
    · rw [h1, h2] at hk
      rw [h1] at e1
      rw [h2] at e2
      subst hk
      clear h1 h2
      go_enter Try.func20, Try.ntmps20
      go_wp2
      go_ret
      exact ⟨rfl, rfl⟩
  · rw [h1] at hk
    rw [h1] at e1
    rw [Bool.true_or] at hk
    subst hk
    clear h1 e2
    go_enter Try.func20, Try.ntmps20
    go_wp2
    go_ret
    exact ⟨rfl, rfl⟩

theorem bel2 (w : World) (o o' : Obj) : Below w.heap.size w ((w.alloc o).alloc o') := tr2 (below_one w o) (below_one _ _)
theorem bel3 (w : World) (o o' o'' : Obj) : Below w.heap.size w (((w.alloc o).alloc o').alloc o'') := tr2 (bel2 w o o') (below_one _ _)

set_option maxHeartbeats 400000 in
theorem from_eq (f i : Nat) (w : World) :
    Calls Try.prog 21 #[en f i] w fun e w' => e = .returned (en f i) ∧ w' = (w.alloc (.cells #[.int .u64 (f : Int), .int .u32 (i : Int)] 52)).alloc (.cells #[.int .u64 (f : Int), .int .u32 (i : Int)] 50) := by
  go_enter Try.func21, Try.ntmps21
  go_wp2
  exact bodyPost_ret (v := en f i) (by simp [results, Try.results21, go_sem]) rfl ⟨rfl, rfl⟩
theorem from_any (f i : Nat) (w : World) :
    Calls Try.prog 21 #[en f i] w fun e w' => e = .returned (en f i) ∧ Below w.heap.size w w' :=
  (from_eq f i w).mono fun _ _ h => ⟨h.1, h.2 ▸ bel2 w _ _⟩

set_option maxHeartbeats 400000 in
theorem to_eq (f i : Nat) (w : World) :
    Calls Try.prog 23 #[en f i] w fun e w' => e = .returned (en f i) ∧ w' = (w.alloc (.cells #[.int .u64 (f : Int), .int .u32 (i : Int)] 53)).alloc (.cells #[.int .u64 (f : Int), .int .u32 (i : Int)] 50) := by
  go_enter Try.func23, Try.ntmps23
  go_wp2
  exact bodyPost_ret (v := en f i) (by simp [results, Try.results23, go_sem]) rfl ⟨rfl, rfl⟩
theorem to_any (f i : Nat) (w : World) :
    Calls Try.prog 23 #[en f i] w fun e w' => e = .returned (en f i) ∧ Below w.heap.size w w' :=
  (to_eq f i w).mono fun _ _ h => ⟨h.1, h.2 ▸ bel2 w _ _⟩

set_option maxHeartbeats 400000 in
theorem fits_any (x i : Nat) (w : World) :
    Calls Try.prog 22 #[en x i] w fun e w' => e = .returned (.bool (decide (x < 281474976710656))) ∧ Below w.heap.size w w' := by
  have BEL := hide (fun o => below_one w o)
  by_cases h : x < 281474976710656
  · rw [decide_eq_true h]
    go_enter Try.func22, Try.ntmps22
    go_wp2
    go_ret
    exact ⟨dec_val (by omega), unhide BEL _⟩
  · rw [decide_eq_false h]
    go_enter Try.func22, Try.ntmps22
    go_wp2
    go_ret
    exact ⟨dec_val2 (by omega), unhide BEL _⟩

set_option maxHeartbeats 400000 in
theorem between_any (o f i t j : Nat) (w : World) :
    Calls Try.prog 31 #[.int .u16 (o : Int), en f i, en t j] w fun e w' => e = .returned (ar o f i t j) ∧ Below w.heap.size w w' := by
  have BEL := hide (fun o o' o'' => bel3 w o o' o'')
  go_enter Try.func31, Try.ntmps31
  go_wp2
  exact bodyPost_ret (v := ar o f i t j) (by simp [results, Try.results31, go_sem]) rfl ⟨rfl, unhide BEL _ _ _⟩

/-- a packet in a box -/
abbrev arL (o f i t j : Nat) : List Value := [.int .u16 (o : Int), .int .u64 (f : Int), .int .u32 (i : Int), .int .u64 (t : Int), .int .u32 (j : Int)]
abbrev zL : List Value := [.int .u16 0, .int .u64 0, .int .u32 0, .int .u64 0, .int .u32 0]

set_option maxHeartbeats 1000000 in
theorem packet_any (o f i t j : Nat) (w : World) :
    Calls Try.prog 19 #[ar o f i t j] w fun e w' => e = .returned (ar o f i t j) ∧ Below w.heap.size w w' := by
  have K := hide (((Tab.zero w).alloc rfl (arL o f i t j) 27).alloc (by simp) zL 55)
  have H := hide (fun w => between_any o f i t j w)
  go_enter Try.func19, Try.ntmps19
  go_wp2_with fail
  refine (unhide H _).mono ?_
  rintro e w1 ⟨rfl, b1⟩
  have k1 := (unhide K).on b1
  clear K b1
  obtain ⟨e0, e1, e2, e3, e4⟩ := k1.five 1 rfl rfl rfl rfl rfl
  obtain ⟨g0, g1, g2, g3, g4⟩ := k1.free5 1 rfl rfl rfl rfl rfl
  have B1 := hide k1.bel
  clear k1
  go_wp2_with fail
  refine bodyPost_ret (v := ar o f i t j) (by simp [results, Try.results19, go_sem, e0, e1, e2, e3, e4]) rfl ⟨rfl, ?_⟩
  exact below_set5 (unhide B1) (Nat.le_succ _) _ _ _ _ _

end Go.Proofs.Ytkmhhlimhiiciaa
