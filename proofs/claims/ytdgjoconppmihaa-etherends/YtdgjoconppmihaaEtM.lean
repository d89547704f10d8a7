/- Plain facts on the texts of cards' addresses, without the program: hexadecimal digits, an address's text, which texts are one, how the document reads one. No conditions but those that each line bears. -/
import Derived.Test.YtdgjoconppmihaaMath
import Derived.Lib.Bytealg
import Derived.Lib.Strings
import Derived.Lib.Join
namespace Go.Proofs.Ytdgjoconppmihaa

/-- the digits -/
def hxS : ByteArray := ⟨#[48, 49, 50, 51, 52, 53, 54, 55, 56, 57, 97, 98, 99, 100, 101, 102]⟩
def hx (d : Nat) : UInt8 := if d < 10 then UInt8.ofNat (48 + d) else UInt8.ofNat (87 + d)
/-- a digit's number -/
def hv (c : UInt8) : Option Nat := if 48 ≤ c.toNat ∧ c.toNat ≤ 57 then some (c.toNat - 48) else if 97 ≤ c.toNat ∧ c.toNat ≤ 102 then some (c.toNat - 87) else none
theorem hx_toNat (d : Nat) (h : d < 16) : (hx d).toNat = if d < 10 then 48 + d else 87 + d := by
  unfold hx
  split <;> (rw [UInt8.toNat_ofNat']; omega)
theorem hv_hx (d : Nat) (h : d < 16) : hv (hx d) = some d := by
  unfold hv
  rw [hx_toNat d h]
  by_cases h1 : d < 10
  · rw [if_pos h1, if_pos (by omega)]; congr 1; omega
  · rw [if_neg h1, if_neg (by omega), if_pos (by omega)]; congr 1; omega
theorem hv_some {c : UInt8} {v : Nat} (h : hv c = some v) : v < 16 ∧ c = hx v := by
  unfold hv at h
  split at h
  · rename_i h1
    have e := Option.some.inj h
    refine ⟨by omega, UInt8.toNat_inj.1 ?_⟩
    rw [hx_toNat v (by omega), if_pos (by omega)]
    omega
  · split at h
    · rename_i h1
      have e := Option.some.inj h
      refine ⟨by omega, UInt8.toNat_inj.1 ?_⟩
      rw [hx_toNat v (by omega), if_neg (by omega)]
      omega
    · exact absurd h (by simp)
theorem ib_all : ∀ n : Fin 256, Lib.indexByte hxS.data.toList (UInt8.ofNat n.val) = match hv (UInt8.ofNat n.val) with | some v => (v : Int) | none => -1 := by decide +kernel
theorem ib_hv (c : UInt8) : Lib.indexByte hxS.data.toList c = match hv c with | some v => (v : Int) | none => -1 := by
  have h := ib_all ⟨c.toNat, c.toNat_lt⟩
  have e : UInt8.ofNat c.toNat = c := UInt8.ofNat_toNat
  simp only [e] at h
  exact h
theorem hxS_at : ∀ d : Fin 16, hxS.data.toList[d.val]? = some (hx d.val) := by decide +kernel

/-- a byte's two digits -/
def pr (c : UInt8) : List UInt8 := [hx (c.toNat / 16), hx (c.toNat % 16)]
/-- an address's text -/
def tx6 (a b c d e f : UInt8) : List UInt8 := pr a ++ 58 :: (pr b ++ 58 :: (pr c ++ 58 :: (pr d ++ 58 :: (pr e ++ 58 :: pr f))))
def mtxt (x : Nat) : List UInt8 := tx6 (byt x 5) (byt x 4) (byt x 3) (byt x 2) (byt x 1) (byt x 0)
theorem tx6_length (a b c d e f : UInt8) : (tx6 a b c d e f).length = 17 := rfl
theorem mtxt_length (x : Nat) : (mtxt x).length = 17 := rfl
theorem join6 (a b c d e f : List UInt8) : Lib.join [a, b, c, d, e, f] [58] = a ++ 58 :: (b ++ 58 :: (c ++ 58 :: (d ++ 58 :: (e ++ 58 :: f)))) := by
  rw [Lib.join_cons]
  simp [Lib.joinTail]

/-- a byte that is told, and whether it stands as it must -/
def val (c : UInt8) : Nat := (hv c).getD 0
def oct (a b : UInt8) : Nat := val a * 16 + val b
def isOct (a b c : UInt8) : Bool := (hv a).isSome && (hv b).isSome && c == 58
theorem val_lt (c : UInt8) : val c < 16 := by
  unfold val
  cases h : hv c with
  | none => simp
  | some v => exact (hv_some h).1
theorem oct_lt (a b : UInt8) : oct a b < 256 := by
  have := val_lt a
  have := val_lt b
  unfold oct
  omega
theorem isOct_iff {a b c : UInt8} (h : isOct a b c = true) : [a, b] = pr (UInt8.ofNat (oct a b)) ∧ c = 58 := by
  unfold isOct at h
  simp only [Bool.and_eq_true, beq_iff_eq] at h
  obtain ⟨⟨h1, h2⟩, h3⟩ := h
  obtain ⟨u, hu⟩ := Option.isSome_iff_exists.1 h1
  obtain ⟨v, hv'⟩ := Option.isSome_iff_exists.1 h2
  obtain ⟨l1, e1⟩ := hv_some hu
  obtain ⟨l2, e2⟩ := hv_some hv'
  have eu : val a = u := by unfold val; rw [hu]; rfl
  have ev : val b = v := by unfold val; rw [hv']; rfl
  refine ⟨?_, h3⟩
  have eo : (UInt8.ofNat (oct a b)).toNat = 16 * u + v := by
    rw [UInt8.toNat_ofNat']
    unfold oct
    rw [eu, ev]
    omega
  unfold pr
  rw [eo, show (16 * u + v) / 16 = u from by omega, show (16 * u + v) % 16 = v from by omega, e1, e2]
theorem isOct_pr (x : UInt8) : isOct (hx (x.toNat / 16)) (hx (x.toNat % 16)) 58 = true := by
  have := x.toNat_lt
  unfold isOct
  rw [hv_hx _ (by omega), hv_hx _ (by omega)]
  rfl
theorem oct_pr (x : UInt8) : oct (hx (x.toNat / 16)) (hx (x.toNat % 16)) = x.toNat := by
  have := x.toNat_lt
  unfold oct val
  rw [hv_hx _ (by omega), hv_hx _ (by omega)]
  show x.toNat / 16 * 16 + x.toNat % 16 = x.toNat
  omega

/-- how the document reads a sign -/
def rst (m : Nat) (c : UInt8) : Nat := match hv c with
  | some v => (m * 16 + v) % 281474976710656
  | none => m
theorem rst_hx (m d : Nat) (h : d < 16) : rst m (hx d) = (m * 16 + d) % 281474976710656 := by
  unfold rst
  rw [hv_hx d h]
theorem rst_58 (m : Nat) : rst m 58 = m := rfl
theorem rst_lt (m : Nat) (c : UInt8) (h : m < 281474976710656) : rst m c < 281474976710656 := by
  unfold rst
  split <;> omega
theorem rfold_lt (l : List UInt8) : ∀ m : Nat, m < 281474976710656 → l.foldl rst m < 281474976710656 := by
  induction l with
  | nil => intro m h; exact h
  | cons c l ih => intro m h; exact ih _ (rst_lt m c h)
theorem rpr (m : Nat) (x : UInt8) (l : List UInt8) (h : m * 256 + x.toNat < 281474976710656) : (pr x ++ l).foldl rst m = l.foldl rst (m * 256 + x.toNat) := by
  have := x.toNat_lt
  show List.foldl rst (rst (rst m (hx (x.toNat / 16))) (hx (x.toNat % 16))) l = _
  rw [rst_hx _ _ (by omega), rst_hx _ _ (by omega)]
  congr 1
  omega
theorem rcol (m : Nat) (l : List UInt8) : (58 :: l).foldl rst m = l.foldl rst m := rfl
theorem num6 (a b c d e f : UInt8) : num [a, b, c, d, e, f] = ((((a.toNat * 256 + b.toNat) * 256 + c.toNat) * 256 + d.toNat) * 256 + e.toNat) * 256 + f.toNat := by
  simp only [num, List.foldl_cons, List.foldl_nil]
  omega
theorem rfold_tx6 (a b c d e f : UInt8) : (tx6 a b c d e f).foldl rst 0 = num [a, b, c, d, e, f] := by
  have := a.toNat_lt; have := b.toNat_lt; have := c.toNat_lt; have := d.toNat_lt; have := e.toNat_lt; have := f.toNat_lt
  unfold tx6
  rw [rpr _ _ _ (by omega), rcol, rpr _ _ _ (by omega), rcol, rpr _ _ _ (by omega), rcol, rpr _ _ _ (by omega), rcol, rpr _ _ _ (by omega), rcol]
  have e6 := rpr (((((0 * 256 + a.toNat) * 256 + b.toNat) * 256 + c.toNat) * 256 + d.toNat) * 256 + e.toNat) f [] (by omega)
  rw [List.append_nil] at e6
  rw [e6, num6]
  simp
theorem ofB6 (x : Nat) : ofB x 6 = [byt x 5, byt x 4, byt x 3, byt x 2, byt x 1, byt x 0] := rfl
theorem rfold_mtxt (x : Nat) (h : x < 281474976710656) : (mtxt x).foldl rst 0 = x := by
  unfold mtxt
  rw [rfold_tx6, ← ofB6, num_ofB]
  exact Nat.mod_eq_of_lt h
theorem byt_num6 (a b c d e f : UInt8) : byt (num [a, b, c, d, e, f]) 5 = a ∧ byt (num [a, b, c, d, e, f]) 4 = b ∧ byt (num [a, b, c, d, e, f]) 3 = c ∧ byt (num [a, b, c, d, e, f]) 2 = d ∧ byt (num [a, b, c, d, e, f]) 1 = e ∧ byt (num [a, b, c, d, e, f]) 0 = f := by
  have := a.toNat_lt; have := b.toNat_lt; have := c.toNat_lt; have := d.toNat_lt; have := e.toNat_lt; have := f.toNat_lt
  rw [num6]
  refine ⟨?_, ?_, ?_, ?_, ?_, ?_⟩ <;> (apply UInt8.toNat_inj.1; rw [byt_toNat]; simp only [Nat.reducePow]; omega)
theorem mtxt_num6 (a b c d e f : UInt8) : mtxt (num [a, b, c, d, e, f]) = tx6 a b c d e f := by
  obtain ⟨h1, h2, h3, h4, h5, h6⟩ := byt_num6 a b c d e f
  unfold mtxt
  rw [h1, h2, h3, h4, h5, h6]
theorem mtxt_inj {x y : Nat} (hx : x < 281474976710656) (hy : y < 281474976710656) (h : mtxt x = mtxt y) : x = y := by
  rw [← rfold_mtxt x hx, h, rfold_mtxt y hy]
theorem mtxt_mod (x : Nat) : mtxt x = mtxt (x % 281474976710656) := by
  have e : ∀ k, k < 6 → byt x k = byt (x % 281474976710656) k := fun k hk => by
    apply UInt8.toNat_inj.1
    rw [byt_toNat, byt_toNat]
    rcases (by omega : k = 0 ∨ k = 1 ∨ k = 2 ∨ k = 3 ∨ k = 4 ∨ k = 5) with rfl | rfl | rfl | rfl | rfl | rfl <;> simp only [Nat.reducePow] <;> omega
  unfold mtxt
  rw [e 5 (by omega), e 4 (by omega), e 3 (by omega), e 2 (by omega), e 1 (by omega), e 0 (by omega)]

end Go.Proofs.Ytdgjoconppmihaa
