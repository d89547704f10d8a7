/- The walk of the law AddrNets, over the loaded program: true; no memory that was there has turned. Condition: Env. -/
import Derived.Test.YtnglkadfnacmcaaDoorNt0
import Derived.Test.YtnglkadfnacmcaaDoorNt1
namespace Go.Proofs.YtnglkadfnacmcaaDoor
open Go.RowKit

theorem clip_nat (k : Nat) (h : k ≤ 32) : clip (k : Int) = k := by unfold clip; rw [if_neg (by omega), if_neg (by omega)]; simp
theorem inB_self (a k : Nat) : inB a a k = true := by unfold inB; simp
theorem inB_less (a b x y : Nat) (hxy : x ≤ y) (hy : y ≤ 32) (h : inB a b y = true) : inB a b x = true := by
  unfold inB at h ⊢
  rw [decide_eq_true_iff] at h ⊢
  have e : 2 ^ (32 - x) = 2 ^ (32 - y) * 2 ^ (y - x) := by rw [← Nat.pow_add]; congr 1; omega
  rw [e, ← Nat.div_div_eq_div_mul, ← Nat.div_div_eq_div_mul, h]
theorem inB_zero (a b : Nat) (ha : a < 4294967296) (hb : b < 4294967296) : inB a b 0 = true := by
  unfold inB
  rw [decide_eq_true_iff, Nat.div_eq_of_lt (by omega), Nat.div_eq_of_lt (by omega)]
theorem inB_all (a b : Nat) : inB a b 32 = ((a : Int) == (b : Int)) := by
  unfold inB
  rw [Bool.eq_iff_iff, decide_eq_true_iff, beq_iff_eq]
  simp
  omega
theorem inB_tr (a b c k : Nat) (h : inB a b k = true) : inB a c k = inB b c k := by
  unfold inB at h ⊢
  rw [decide_eq_true_iff] at h
  rw [h]
theorem inB_comm (a b k : Nat) : inB a b k = inB b a k := by
  unfold inB
  rw [Bool.eq_iff_iff, decide_eq_true_iff, decide_eq_true_iff]
  exact ⟨Eq.symm, Eq.symm⟩
theorem mk_and' : ∀ x, x < 33 → ∀ y, y < 33 → x ≤ y → mk y &&& mk x = mk x := by decide +kernel
theorem mk_inj' : ∀ x, x < 33 → ∀ y, y < 33 → mk x = mk y → x = y := by decide +kernel
theorem mk_not' : ∀ x, x < 33 → 4294967295 ^^^ mk x = 2 ^ (32 - x) - 1 ∧ (2 ^ (32 - x) - 1) &&& ((2 ^ (32 - x) - 1 + 1) % 4294967296) = 0 := by decide +kernel
theorem mk_and (x y : Nat) (hxy : x ≤ y) (hy : y ≤ 32) : bits .and .u32 (mk y : Int) (mk x : Int) = (mk x : Int) := by
  rw [u32_and_nat _ _ (mk_lt y) (mk_lt x), mk_and' x (by omega) y (by omega) hxy]
theorem mk_eq (x y : Nat) (hx : x ≤ 32) (hy : y ≤ 32) : (((mk x : Int) == (mk y : Int)) : Bool) = ((x : Int) == (y : Int)) := by
  rw [Bool.eq_iff_iff, beq_iff_eq, beq_iff_eq]
  constructor
  · intro h
    have := mk_inj' x (by omega) y (by omega) (by omega)
    omega
  · intro h
    rw [show x = y by omega]
theorem mk_xor (x : Nat) (hx : x ≤ 32) : bits .xor .u32 IntKind.u32.max (mk x : Int) = ((2 ^ (32 - x) - 1 : Nat) : Int) := by
  have e : IntKind.u32.max = ((4294967295 : Nat) : Int) := rfl
  rw [e, u32_xor_nat _ _ (by omega) (mk_lt x), (mk_not' x (by omega)).1]
theorem mk_none (x : Nat) (hx : x ≤ 32) : bits .and .u32 ((2 ^ (32 - x) - 1 : Nat) : Int) ((((2 ^ (32 - x) - 1 : Nat) : Int) + 1) % 4294967296) = 0 := by
  have h := (mk_not' x (by omega)).2
  have hp : 2 ^ (32 - x) ≤ 2 ^ 32 := Nat.pow_le_pow_right (by omega) (by omega)
  have h32 : 2 ^ 32 = 4294967296 := rfl
  have hp0 := Nat.two_pow_pos (32 - x)
  have hq : 2 ^ (32 - x) - 1 < 4294967296 := by omega
  generalize 2 ^ (32 - x) - 1 = q at *
  have e : (((q : Int) + 1) % 4294967296) = (((q + 1) % 4294967296 : Nat) : Int) := by omega
  rw [e, u32_and_nat q _ hq (by omega), h]
  rfl
theorem inN {a b k : Nat} {r : Bool} (hk : k ≤ 32) (ha : a < 4294967296) (hb : b < 4294967296) (h : inB a b k = r) (w : World) :
    Calls Tryd.prog 17 #[.int .u32 (a : Int), .int .u32 (b : Int), .int .i64 (k : Int)] w fun e w' => e = .returned (.bool r) ∧ w' = w := by
  have := in_any a b (k : Int) w ha hb
  rw [clip_nat k hk, h] at this
  exact this
theorem maskN {k : Nat} (hk : k ≤ 32) (w : World) : Calls Tryd.prog 15 #[.int .i64 (k : Int)] w fun e w' => e = .returned (.int .u32 ((mk k : Nat) : Int)) ∧ w' = w := by
  have := mask_any (k : Int) w
  rw [clip_nat k hk] at this
  exact this

theorem nets_p (ip a b n m N M : Nat) (w : World) (E : Env w) (hi : ip < 4294967296) (ha : a < 4294967296) (hb : b < 4294967296) (hn : n < 256) (hm : m < 256) (hN : (n : Int) % 33 = (N : Int)) (hM : (m : Int) % 33 = (M : Int)) (hlt : ¬ (M : Int) < (N : Int)) :
    Calls Tryd.prog 6 #[.int .u32 (ip : Int), .int .u32 (a : Int), .int .u32 (b : Int), .int .u8 (n : Int), .int .u8 (m : Int)] w fun e w' => e = .returned (.bool true) ∧ Below w.heap.size w w' := by
  have hx : N ≤ 32 := by omega
  have hy : M ≤ 32 := by omega
  have hxy : N ≤ M := by omega
  have f1 := inB_less ip a N M hxy hy
  have f2 := inB_less ip b N M hxy hy
  have f3 : inB a b N = true → inB ip a N = inB ip b N := fun h => by rw [inB_comm ip a, inB_comm ip b]; exact inB_tr a b ip N h
  have f4 : inB ip a N = true → inB ip b N = true → inB a b N = true := fun h h' => by rw [← inB_tr ip a b N h]; exact h'
  have q1 := mk_and N M hxy hy
  have q2 := mk_eq N M hx hy
  have q3 := mk_xor N hx
  have q4 := mk_none N hx
  have z : ∀ w, Calls Tryd.prog 17 #[.int .u32 (ip : Int), .int .u32 (a : Int), .int .i64 0] w fun e w' => e = .returned (.bool true) ∧ w' = w := inN (k := 0) (by omega) hi ha (inB_zero ip a hi ha)
  have z' : ∀ w, Calls Tryd.prog 17 #[.int .u32 (ip : Int), .int .u32 (a : Int), .int .i64 32] w fun e w' => e = .returned (.bool ((ip : Int) == (a : Int))) ∧ w' = w := inN (k := 32) (by omega) hi ha (inB_all ip a)
  cases h1 : inB ip a M with
  | true =>
    cases h2 : inB ip a N with
    | true =>
      cases h3 : inB ip b M with
      | true =>
        cases h4 : inB ip b N with
        | true =>
          cases h5 : inB a b N with
          | true =>
            exact nets_p_ttttt ip a b n m N M (mk N) (mk M) _ w E hn hm hN hM hlt rfl q1 q2 _ q3 q4 (inN hy hi ha h1) (inN hx hi ha h2) (inN hy hi hi (inB_self ip M)) z z' (maskN hy) (maskN hx) (inN hx ha hb h5) (inN hy hi hb h3) (inN hx hi hb h4)
          | false =>
            have := f4 h2 h4; rw [h5] at this; simp at this
        | false =>
          cases h5 : inB a b N with
          | true =>
            have := f2 h3; rw [h4] at this; simp at this
          | false =>
            have := f2 h3; rw [h4] at this; simp at this
      | false =>
        cases h4 : inB ip b N with
        | true =>
          cases h5 : inB a b N with
          | true =>
            exact nets_p_ttftt ip a b n m N M (mk N) (mk M) _ w E hn hm hN hM hlt rfl q1 q2 _ q3 q4 (inN hy hi ha h1) (inN hx hi ha h2) (inN hy hi hi (inB_self ip M)) z z' (maskN hy) (maskN hx) (inN hx ha hb h5) (inN hy hi hb h3) (inN hx hi hb h4)
          | false =>
            have := f4 h2 h4; rw [h5] at this; simp at this
        | false =>
          cases h5 : inB a b N with
          | true =>
            have := f3 h5; rw [h2, h4] at this; simp at this
          | false =>
            exact nets_p_ttfff ip a b n m N M (mk N) (mk M) _ w E hn hm hN hM hlt rfl q1 q2 _ q3 q4 (inN hy hi ha h1) (inN hx hi ha h2) (inN hy hi hi (inB_self ip M)) z z' (maskN hy) (maskN hx) (inN hx ha hb h5) (inN hy hi hb h3)
    | false =>
      cases h3 : inB ip b M with
      | true =>
        cases h4 : inB ip b N with
        | true =>
          cases h5 : inB a b N with
          | true =>
            have := f1 h1; rw [h2] at this; simp at this
          | false =>
            have := f1 h1; rw [h2] at this; simp at this
        | false =>
          cases h5 : inB a b N with
          | true =>
            have := f1 h1; rw [h2] at this; simp at this
          | false =>
            have := f1 h1; rw [h2] at this; simp at this
      | false =>
        cases h4 : inB ip b N with
        | true =>
          cases h5 : inB a b N with
          | true =>
            have := f1 h1; rw [h2] at this; simp at this
          | false =>
            have := f1 h1; rw [h2] at this; simp at this
        | false =>
          cases h5 : inB a b N with
          | true =>
            have := f1 h1; rw [h2] at this; simp at this
          | false =>
            have := f1 h1; rw [h2] at this; simp at this
  | false =>
    cases h2 : inB ip a N with
    | true =>
      cases h3 : inB ip b M with
      | true =>
        cases h4 : inB ip b N with
        | true =>
          cases h5 : inB a b N with
          | true =>
            exact nets_p_ftttt ip a b n m N M (mk N) (mk M) _ w E hn hm hN hM hlt rfl q1 q2 _ q3 q4 (inN hy hi ha h1) (inN hx hi ha h2) (inN hy hi hi (inB_self ip M)) z z' (maskN hy) (maskN hx) (inN hx ha hb h5) (inN hy hi hb h3) (inN hx hi hb h4)
          | false =>
            have := f4 h2 h4; rw [h5] at this; simp at this
        | false =>
          cases h5 : inB a b N with
          | true =>
            have := f2 h3; rw [h4] at this; simp at this
          | false =>
            have := f2 h3; rw [h4] at this; simp at this
      | false =>
        cases h4 : inB ip b N with
        | true =>
          cases h5 : inB a b N with
          | true =>
            exact nets_p_ftftt ip a b n m N M (mk N) (mk M) _ w E hn hm hN hM hlt rfl q1 q2 _ q3 q4 (inN hy hi ha h1) (inN hx hi ha h2) (inN hy hi hi (inB_self ip M)) z z' (maskN hy) (maskN hx) (inN hx ha hb h5) (inN hy hi hb h3) (inN hx hi hb h4)
          | false =>
            have := f4 h2 h4; rw [h5] at this; simp at this
        | false =>
          cases h5 : inB a b N with
          | true =>
            have := f3 h5; rw [h2, h4] at this; simp at this
          | false =>
            exact nets_p_ftfff ip a b n m N M (mk N) (mk M) _ w E hn hm hN hM hlt rfl q1 q2 _ q3 q4 (inN hy hi ha h1) (inN hx hi ha h2) (inN hy hi hi (inB_self ip M)) z z' (maskN hy) (maskN hx) (inN hx ha hb h5) (inN hy hi hb h3)
    | false =>
      cases h3 : inB ip b M with
      | true =>
        cases h4 : inB ip b N with
        | true =>
          cases h5 : inB a b N with
          | true =>
            have := f3 h5; rw [h2, h4] at this; simp at this
          | false =>
            exact nets_p_ffttf ip a b n m N M (mk N) (mk M) _ w E hn hm hN hM hlt rfl q1 q2 _ q3 q4 (inN hy hi ha h1) (inN hx hi ha h2) (inN hy hi hi (inB_self ip M)) z z' (maskN hy) (maskN hx) (inN hx ha hb h5)
        | false =>
          cases h5 : inB a b N with
          | true =>
            have := f2 h3; rw [h4] at this; simp at this
          | false =>
            have := f2 h3; rw [h4] at this; simp at this
      | false =>
        cases h4 : inB ip b N with
        | true =>
          cases h5 : inB a b N with
          | true =>
            have := f3 h5; rw [h2, h4] at this; simp at this
          | false =>
            exact nets_p_ffftf ip a b n m N M (mk N) (mk M) _ w E hn hm hN hM hlt rfl q1 q2 _ q3 q4 (inN hy hi ha h1) (inN hx hi ha h2) (inN hy hi hi (inB_self ip M)) z z' (maskN hy) (maskN hx) (inN hx ha hb h5)
        | false =>
          cases h5 : inB a b N with
          | true =>
            exact nets_p_fffft ip a b n m N M (mk N) (mk M) _ w E hn hm hN hM hlt rfl q1 q2 _ q3 q4 (inN hy hi ha h1) (inN hx hi ha h2) (inN hy hi hi (inB_self ip M)) z z' (maskN hy) (maskN hx) (inN hx ha hb h5) (inN hx hi hb h4)
          | false =>
            exact nets_p_fffff ip a b n m N M (mk N) (mk M) _ w E hn hm hN hM hlt rfl q1 q2 _ q3 q4 (inN hy hi ha h1) (inN hx hi ha h2) (inN hy hi hi (inB_self ip M)) z z' (maskN hy) (maskN hx) (inN hx ha hb h5)

theorem nets_s (ip a b n m N M : Nat) (w : World) (E : Env w) (hi : ip < 4294967296) (ha : a < 4294967296) (hb : b < 4294967296) (hn : n < 256) (hm : m < 256) (hN : (n : Int) % 33 = (N : Int)) (hM : (m : Int) % 33 = (M : Int)) (hlt : (M : Int) < (N : Int)) :
    Calls Tryd.prog 6 #[.int .u32 (ip : Int), .int .u32 (a : Int), .int .u32 (b : Int), .int .u8 (n : Int), .int .u8 (m : Int)] w fun e w' => e = .returned (.bool true) ∧ Below w.heap.size w w' := by
  have hx : M ≤ 32 := by omega
  have hy : N ≤ 32 := by omega
  have hxy : M ≤ N := by omega
  have f1 := inB_less ip a M N hxy hy
  have f2 := inB_less ip b M N hxy hy
  have f3 : inB a b M = true → inB ip a M = inB ip b M := fun h => by rw [inB_comm ip a, inB_comm ip b]; exact inB_tr a b ip M h
  have f4 : inB ip a M = true → inB ip b M = true → inB a b M = true := fun h h' => by rw [← inB_tr ip a b M h]; exact h'
  have q1 := mk_and M N hxy hy
  have q2 := mk_eq M N hx hy
  have q3 := mk_xor M hx
  have q4 := mk_none M hx
  have z : ∀ w, Calls Tryd.prog 17 #[.int .u32 (ip : Int), .int .u32 (a : Int), .int .i64 0] w fun e w' => e = .returned (.bool true) ∧ w' = w := inN (k := 0) (by omega) hi ha (inB_zero ip a hi ha)
  have z' : ∀ w, Calls Tryd.prog 17 #[.int .u32 (ip : Int), .int .u32 (a : Int), .int .i64 32] w fun e w' => e = .returned (.bool ((ip : Int) == (a : Int))) ∧ w' = w := inN (k := 32) (by omega) hi ha (inB_all ip a)
  cases h1 : inB ip a N with
  | true =>
    cases h2 : inB ip a M with
    | true =>
      cases h3 : inB ip b N with
      | true =>
        cases h4 : inB ip b M with
        | true =>
          cases h5 : inB a b M with
          | true =>
            exact nets_s_ttttt ip a b n m N M (mk M) (mk N) _ w E hn hm hN hM hlt rfl q1 q2 _ q3 q4 (inN hy hi ha h1) (inN hx hi ha h2) (inN hy hi hi (inB_self ip N)) z z' (maskN hy) (maskN hx) (inN hx ha hb h5) (inN hy hi hb h3) (inN hx hi hb h4)
          | false =>
            have := f4 h2 h4; rw [h5] at this; simp at this
        | false =>
          cases h5 : inB a b M with
          | true =>
            have := f2 h3; rw [h4] at this; simp at this
          | false =>
            have := f2 h3; rw [h4] at this; simp at this
      | false =>
        cases h4 : inB ip b M with
        | true =>
          cases h5 : inB a b M with
          | true =>
            exact nets_s_ttftt ip a b n m N M (mk M) (mk N) _ w E hn hm hN hM hlt rfl q1 q2 _ q3 q4 (inN hy hi ha h1) (inN hx hi ha h2) (inN hy hi hi (inB_self ip N)) z z' (maskN hy) (maskN hx) (inN hx ha hb h5) (inN hy hi hb h3) (inN hx hi hb h4)
          | false =>
            have := f4 h2 h4; rw [h5] at this; simp at this
        | false =>
          cases h5 : inB a b M with
          | true =>
            have := f3 h5; rw [h2, h4] at this; simp at this
          | false =>
            exact nets_s_ttfff ip a b n m N M (mk M) (mk N) _ w E hn hm hN hM hlt rfl q1 q2 _ q3 q4 (inN hy hi ha h1) (inN hx hi ha h2) (inN hy hi hi (inB_self ip N)) z z' (maskN hy) (maskN hx) (inN hx ha hb h5) (inN hy hi hb h3)
    | false =>
      cases h3 : inB ip b N with
      | true =>
        cases h4 : inB ip b M with
        | true =>
          cases h5 : inB a b M with
          | true =>
            have := f1 h1; rw [h2] at this; simp at this
          | false =>
            have := f1 h1; rw [h2] at this; simp at this
        | false =>
          cases h5 : inB a b M with
          | true =>
            have := f1 h1; rw [h2] at this; simp at this
          | false =>
            have := f1 h1; rw [h2] at this; simp at this
      | false =>
        cases h4 : inB ip b M with
        | true =>
          cases h5 : inB a b M with
          | true =>
            have := f1 h1; rw [h2] at this; simp at this
          | false =>
            have := f1 h1; rw [h2] at this; simp at this
        | false =>
          cases h5 : inB a b M with
          | true =>
            have := f1 h1; rw [h2] at this; simp at this
          | false =>
            have := f1 h1; rw [h2] at this; simp at this
  | false =>
    cases h2 : inB ip a M with
    | true =>
      cases h3 : inB ip b N with
      | true =>
        cases h4 : inB ip b M with
        | true =>
          cases h5 : inB a b M with
          | true =>
            exact nets_s_ftttt ip a b n m N M (mk M) (mk N) _ w E hn hm hN hM hlt rfl q1 q2 _ q3 q4 (inN hy hi ha h1) (inN hx hi ha h2) (inN hy hi hi (inB_self ip N)) z z' (maskN hy) (maskN hx) (inN hx ha hb h5) (inN hy hi hb h3) (inN hx hi hb h4)
          | false =>
            have := f4 h2 h4; rw [h5] at this; simp at this
        | false =>
          cases h5 : inB a b M with
          | true =>
            have := f2 h3; rw [h4] at this; simp at this
          | false =>
            have := f2 h3; rw [h4] at this; simp at this
      | false =>
        cases h4 : inB ip b M with
        | true =>
          cases h5 : inB a b M with
          | true =>
            exact nets_s_ftftt ip a b n m N M (mk M) (mk N) _ w E hn hm hN hM hlt rfl q1 q2 _ q3 q4 (inN hy hi ha h1) (inN hx hi ha h2) (inN hy hi hi (inB_self ip N)) z z' (maskN hy) (maskN hx) (inN hx ha hb h5) (inN hy hi hb h3) (inN hx hi hb h4)
          | false =>
            have := f4 h2 h4; rw [h5] at this; simp at this
        | false =>
          cases h5 : inB a b M with
          | true =>
            have := f3 h5; rw [h2, h4] at this; simp at this
          | false =>
            exact nets_s_ftfff ip a b n m N M (mk M) (mk N) _ w E hn hm hN hM hlt rfl q1 q2 _ q3 q4 (inN hy hi ha h1) (inN hx hi ha h2) (inN hy hi hi (inB_self ip N)) z z' (maskN hy) (maskN hx) (inN hx ha hb h5) (inN hy hi hb h3)
    | false =>
      cases h3 : inB ip b N with
      | true =>
        cases h4 : inB ip b M with
        | true =>
          cases h5 : inB a b M with
          | true =>
            have := f3 h5; rw [h2, h4] at this; simp at this
          | false =>
            exact nets_s_ffttf ip a b n m N M (mk M) (mk N) _ w E hn hm hN hM hlt rfl q1 q2 _ q3 q4 (inN hy hi ha h1) (inN hx hi ha h2) (inN hy hi hi (inB_self ip N)) z z' (maskN hy) (maskN hx) (inN hx ha hb h5)
        | false =>
          cases h5 : inB a b M with
          | true =>
            have := f2 h3; rw [h4] at this; simp at this
          | false =>
            have := f2 h3; rw [h4] at this; simp at this
      | false =>
        cases h4 : inB ip b M with
        | true =>
          cases h5 : inB a b M with
          | true =>
            have := f3 h5; rw [h2, h4] at this; simp at this
          | false =>
            exact nets_s_ffftf ip a b n m N M (mk M) (mk N) _ w E hn hm hN hM hlt rfl q1 q2 _ q3 q4 (inN hy hi ha h1) (inN hx hi ha h2) (inN hy hi hi (inB_self ip N)) z z' (maskN hy) (maskN hx) (inN hx ha hb h5)
        | false =>
          cases h5 : inB a b M with
          | true =>
            exact nets_s_fffft ip a b n m N M (mk M) (mk N) _ w E hn hm hN hM hlt rfl q1 q2 _ q3 q4 (inN hy hi ha h1) (inN hx hi ha h2) (inN hy hi hi (inB_self ip N)) z z' (maskN hy) (maskN hx) (inN hx ha hb h5) (inN hx hi hb h4)
          | false =>
            exact nets_s_fffff ip a b n m N M (mk M) (mk N) _ w E hn hm hN hM hlt rfl q1 q2 _ q3 q4 (inN hy hi ha h1) (inN hx hi ha h2) (inN hy hi hi (inB_self ip N)) z z' (maskN hy) (maskN hx) (inN hx ha hb h5)

theorem addrNets_walk (i a b n m : Int) (hi : (Lit.int .u32 i).wf = true) (ha : (Lit.int .u32 a).wf = true) (hb : (Lit.int .u32 b).wf = true) (hn : (Lit.int .u8 n).wf = true) (hm : (Lit.int .u8 m).wf = true) (w : World) (E : Env w) :
    Calls Tryd.prog 6 #[.int .u32 i, .int .u32 a, .int .u32 b, .int .u8 n, .int .u8 m] w fun e w' => e = .returned (.bool true) ∧ Below w.heap.size w w' := by
  obtain ⟨i, rfl, hi'⟩ := nat32 hi
  obtain ⟨a, rfl, ha'⟩ := nat32 ha
  obtain ⟨b, rfl, hb'⟩ := nat32 hb
  obtain ⟨n, rfl, hn'⟩ := nat8 hn
  obtain ⟨m, rfl, hm'⟩ := nat8 hm
  by_cases h : ((m % 33 : Nat) : Int) < ((n % 33 : Nat) : Int)
  · exact nets_s i a b n m (n % 33) (m % 33) w E hi' ha' hb' hn' hm' (by omega) (by omega) h
  · exact nets_p i a b n m (n % 33) (m % 33) w E hi' ha' hb' hn' hm' (by omega) (by omega) h

end Go.Proofs.YtnglkadfnacmcaaDoor
