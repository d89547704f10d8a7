/- The contracts of package seq and of the document's answer for layer 3, over the loaded program. Conditions: numbers in their kinds' bounds. -/
import Derived.Test.YtbohnkcmaelmkaaKit
namespace Go.Proofs.Ytbohnkcmaelmkaa
open Go.RowKit

/- b less a, from 0 on; as a number of both signs; which of them is ahead; a window's numbers. -/
def dist (a b : Nat) : Nat := (b + 4294967296 - a) % 4294967296
def behind (a b : Nat) : Int := if dist a b < 2147483648 then (dist a b : Int) else (dist a b : Int) - 4294967296
def less (a b : Nat) : Bool := decide (0 < behind a b)
def inW (x from' n : Nat) : Bool := decide (dist from' x < n)
def most (a b : Nat) : Nat := bif less a b then b else a
def lastOf (s : Nat) (n : Int) : Nat := ((s + n - 1) % 4294967296).toNat
def takes (s : Nat) (n : Int) (next win : Nat) : Bool :=
  if n < 0 then false else if n = 0 then (if win = 0 then decide (s = next) else inW s next win) else inW s next win || inW (lastOf s n) next win

theorem dist_lt (a b : Nat) : dist a b < 4294967296 := Nat.mod_lt _ (by omega)
theorem dist_int {a b : Nat} (ha : a < 4294967296) : (((b : Int) - (a : Int)) % 4294967296) = (dist a b : Int) := by unfold dist; omega
theorem behind_int {a b : Nat} (ha : a < 4294967296) : wrap64 (wrap32 (((b : Int) - (a : Int)) % 4294967296)) = behind a b := by
  have h := dist_lt a b
  rw [dist_int ha]
  unfold behind wrap64 wrap32
  split <;> omega
theorem behind_ge (a b : Nat) : -2147483648 ≤ behind a b := by have h := dist_lt a b; unfold behind; split <;> omega
theorem behind_le (a b : Nat) : behind a b ≤ 2147483647 := by have h := dist_lt a b; unfold behind; split <;> omega
theorem inW_int {x f n : Nat} (hf : f < 4294967296) : decide (((x : Int) - (f : Int)) % 4294967296 < (n : Int)) = inW x f n := by
  rw [dist_int hf]; unfold inW; exact decide_eq_decide.2 (by omega)

theorem behind_any (a b : Nat) (w : World) (ha : a < 4294967296) (_hb : b < 4294967296) :
    Calls Try.prog 9 #[.int .u32 (a : Int), .int .u32 (b : Int)] w fun e w' => e = .returned (.int .i64 (behind a b)) ∧ w' = w := by
  go_enter Try.func9, Try.ntmps9
  go_wp2
  go_ret
  exact ⟨by rw [← behind_int ha]; rfl, rfl⟩

theorem less_any (a b : Nat) (w : World) (ha : a < 4294967296) (hb : b < 4294967296) :
    Calls Try.prog 7 #[.int .u32 (a : Int), .int .u32 (b : Int)] w fun e w' => e = .returned (.bool (less a b)) ∧ w' = w := by
  have H := hide (fun w => behind_any a b w ha hb)
  go_enter Try.func7, Try.ntmps7
  go_wp2_with fail
  refine (unhide H _).mono ?_
  rintro e w1 ⟨rfl, rfl⟩
  go_wp2
  go_ret
  exact ⟨rfl, rfl⟩

theorem max_any (a b : Nat) (w : World) (ha : a < 4294967296) (hb : b < 4294967296) :
    Calls Try.prog 13 #[.int .u32 (a : Int), .int .u32 (b : Int)] w fun e w' => e = .returned (.int .u32 (most a b : Nat)) ∧ w' = w := by
  have H := hide (fun w => less_any a b w ha hb)
  unfold most
  generalize less a b = l at *
  cases l
  · go_enter Try.func13, Try.ntmps13
    go_wp2_with fail
    refine (unhide H _).mono ?_
    rintro e w1 ⟨rfl, rfl⟩
    go_wp2
    go_ret
    exact ⟨rfl, rfl⟩
  · go_enter Try.func13, Try.ntmps13
    go_wp2_with fail
    refine (unhide H _).mono ?_
    rintro e w1 ⟨rfl, rfl⟩
    go_wp2
    go_ret
    exact ⟨rfl, rfl⟩

theorem in_any (x f n : Nat) (w : World) (_hx : x < 4294967296) (hf : f < 4294967296) (_hn : n < 4294967296) :
    Calls Try.prog 11 #[.int .u32 (x : Int), .int .u32 (f : Int), .int .u32 (n : Int)] w fun e w' => e = .returned (.bool (inW x f n)) ∧ Below w.heap.size w w' := by
  go_enter Try.func11, Try.ntmps11
  go_wp2
  go_ret
  exact ⟨by rw [← inW_int hf]; rfl, tr2 (below_one _ _) (below_one _ _)⟩

theorem last_int (s x v : Nat) (n : Int) (hx : x < 4294967296) : decide (((s : Int) + n - 1 - (x : Int)) % 4294967296 < (v : Int)) = inW (lastOf s n) x v := by
  unfold inW lastOf dist
  exact decide_eq_decide.2 (by omega)

set_option maxHeartbeats 1000000 in
theorem takes_any (s : Nat) (n : Int) (x v : Nat) (w : World) (_hs : s < 4294967296) (hx : x < 4294967296) (hv : v < 4294967296) (hn : -9223372036854775808 ≤ n) (hn2 : n ≤ 9223372036854775807) :
    Calls Try.prog 15 #[.int .u32 (s : Int), .int .i64 n, .int .u32 (x : Int), .int .u32 (v : Int)] w fun e w' => e = .returned (.bool (takes s n x v)) ∧ Below w.heap.size w w' := by
  have hd1 := dist_int (a := x) (b := s) hx
  rcases Int.lt_trichotomy n 0 with h | h | h
  · have HT : Hid (takes s n x v = false) := by unfold takes; exact if_pos h
    have g1 : decide (n < 0) = true := decide_eq_true h
    go_enter Try.func15, Try.ntmps15
    go_wp2
    go_ret
    exact ⟨by rw [unhide HT]; rfl, tr2 (below_one _ _) (below_one _ _)⟩
  · subst h
    by_cases h0 : v = 0
    · subst h0
      have HT : Hid (takes s 0 x 0 = ((s : Int) == (x : Int))) := by
        unfold takes
        by_cases hsx : s = x
        · subst hsx; simp [Hid]
        · simp [Hid, hsx]; omega
      go_enter Try.func15, Try.ntmps15
      go_wp2
      go_ret
      exact ⟨by rw [unhide HT]; rfl, tr2 (below_one _ _) (below_one _ _)⟩
    · have HT : Hid (takes s 0 x v = decide (dist x s < v)) := by
        unfold takes
        simp [Hid, h0, inW]
      have g1 : ((v : Int) == 0) = false := beq_false_of_ne (by omega)
      go_enter Try.func15, Try.ntmps15
      go_wp2
      go_ret
      exact ⟨by rw [unhide HT]; rfl, tr2 (below_one _ _) (below_one _ _)⟩
  · have HT : Hid (takes s n x v = (decide (dist x s < v) || decide (((s : Int) + n - 1 - (x : Int)) % 4294967296 < (v : Int)))) := by
      rw [last_int s x v n hx]
      unfold takes
      rw [if_neg (by omega), if_neg (by omega)]
      rfl
    have g0 : decide (n < 0) = false := decide_eq_false (by omega)
    by_cases hd : dist x s < v
    · have g1 : decide (dist x s < v) = true := decide_eq_true hd
      go_enter Try.func15, Try.ntmps15
      go_wp2
      go_ret
      exact ⟨by rw [unhide HT, g1]; rfl, tr2 (below_one _ _) (below_one _ _)⟩
    · have g1 : decide (dist x s < v) = false := decide_eq_false hd
      go_enter Try.func15, Try.ntmps15
      go_wp2
      go_ret
      exact ⟨by rw [unhide HT, g1]; rfl, tr2 (below_one _ _) (below_one _ _)⟩

end Go.Proofs.Ytbohnkcmaelmkaa
