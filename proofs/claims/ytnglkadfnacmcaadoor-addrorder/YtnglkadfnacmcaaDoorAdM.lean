/- Texts of addresses as lists of bytes, without the program: a byte's digits, four of them with full stops between, how such a text is cut and read, as the program does it and as the document does. No conditions but those that each line bears. -/
import Derived.Lib.Split
import Derived.Lib.Join
import Derived.Lib.ItoaNum
import Derived.Lib.ParseIntBCases
namespace Go.Proofs.YtnglkadfnacmcaaDoor

def dgt (d : Nat) : UInt8 := UInt8.ofNat (48 + d)
/-- a byte's decimal digits -/
def dl (n : Nat) : List UInt8 := if n < 10 then [dgt n] else if n < 100 then [dgt (n / 10), dgt (n % 10)] else [dgt (n / 100), dgt (n / 10 % 10), dgt (n % 10)]
theorem dl_eq (n : Nat) (h : n < 256) : Lib.decDigits n = dl n := by
  unfold dl dgt
  split
  · rw [Lib.decDigits_one (by assumption)]
  · split
    · rw [Lib.decDigits_two (by assumption) (by assumption)]
    · rw [Lib.decDigits, dif_neg (by omega), Lib.decDigits_two (by omega) (by omega), Nat.div_div_eq_div_mul]
      rfl
/-- an address's text -/
def txt (a b c d : Nat) : List UInt8 := dl a ++ 46 :: (dl b ++ 46 :: (dl c ++ 46 :: dl d))

theorem idx_cat : ∀ (a r : List UInt8), (∀ c ∈ a, c ≠ 46) → Lib.index (a ++ 46 :: r) [46] = (a.length : Int)
  | [], r, _ => by simp [Lib.index, List.isPrefixOf]
  | x :: a, r, h => by
    have hx : x ≠ 46 := h x (by simp)
    have ih := idx_cat a r (fun c hc => h c (by simp [hc]))
    have h0 : ([46] : List UInt8).isPrefixOf (x :: (a ++ 46 :: r)) = false := by simp [List.isPrefixOf, Ne.symm hx]
    rw [List.cons_append, Lib.index, h0, ih]
    have : ((a.length : Int) == -1) = false := by simp
    rw [this]
    simp
theorem idx_none : ∀ (a : List UInt8), (∀ c ∈ a, c ≠ 46) → Lib.index a [46] = -1
  | [], _ => by simp [Lib.index]
  | x :: a, h => by
    have hx : x ≠ 46 := h x (by simp)
    have ih := idx_none a (fun c hc => h c (by simp [hc]))
    have h0 : ([46] : List UInt8).isPrefixOf (x :: a) = false := by simp [List.isPrefixOf, Ne.symm hx]
    rw [Lib.index, h0, ih]
    simp
theorem idx_some : ∀ (l : List UInt8), Lib.index l [46] ≠ -1 → l = l.take (Lib.index l [46]).toNat ++ 46 :: l.drop ((Lib.index l [46]).toNat + 1)
  | [], h => by simp [Lib.index] at h
  | x :: l, h => by
    by_cases hx : x = 46
    · subst hx
      have h0 : ([46] : List UInt8).isPrefixOf (46 :: l) = true := by simp [List.isPrefixOf]
      rw [Lib.index, h0]
      simp
    · have h0 : ([46] : List UInt8).isPrefixOf (x :: l) = false := by simp [List.isPrefixOf, Ne.symm hx]
      rw [Lib.index, h0] at h ⊢
      by_cases hm : Lib.index l [46] = -1
      · rw [hm] at h; simp at h
      · have ih := idx_some l hm
        have hge := Lib.index_ge l [46]
        have hb : (Lib.index l [46] == -1) = false := by simp [hm]
        rw [hb]
        simp only [Bool.false_eq_true, if_false]
        have e : (Lib.index l [46] + 1).toNat = (Lib.index l [46]).toNat + 1 := by omega
        rw [e, List.take_succ_cons, List.drop_succ_cons, List.cons_append, ← ih]

theorem splitK_ne (k : Nat) (l : List UInt8) : ∃ y r, Lib.splitK [46] 0 k l = y :: r := by
  cases k with
  | zero => exact ⟨_, _, rfl⟩
  | succ k =>
    unfold Lib.splitK
    split
    · exact ⟨_, _, rfl⟩
    · exact ⟨_, _, rfl⟩
theorem splitK_join : ∀ (k : Nat) (l : List UInt8), Lib.join (Lib.splitK [46] 0 k l) [46] = l
  | 0, l => Lib.join_one _ _
  | k + 1, l => by
    rw [Lib.splitK]
    split
    · exact Lib.join_one _ _
    · rename_i h
      have hm : Lib.index l [46] ≠ -1 := by simpa using h
      have ih := splitK_join k (l.drop ((Lib.index l [46]).toNat + 1))
      obtain ⟨y, r, e⟩ := splitK_ne k (l.drop ((Lib.index l [46]).toNat + 1))
      rw [Lib.join_cons]
      show List.take ((Lib.index l [46]).toNat + 0) l ++ Lib.joinTail [46] (Lib.splitK [46] 0 k (l.drop ((Lib.index l [46]).toNat + 1))) = l
      have ht : Lib.joinTail [46] (Lib.splitK [46] 0 k (l.drop ((Lib.index l [46]).toNat + 1))) = 46 :: Lib.join (Lib.splitK [46] 0 k (l.drop ((Lib.index l [46]).toNat + 1))) [46] := by
        rw [e, Lib.join_cons]
        simp [Lib.joinTail]
      rw [ht, ih, Nat.add_zero]
      exact (idx_some l hm).symm
theorem join4 (a b c d : List UInt8) : Lib.join [a, b, c, d] [46] = a ++ 46 :: (b ++ 46 :: (c ++ 46 :: d)) := by
  rw [Lib.join_cons]
  simp [Lib.joinTail]
theorem splitK_hit (k : Nat) (a r : List UInt8) (h : ∀ c ∈ a, c ≠ 46) : Lib.splitK [46] 0 (k + 1) (a ++ 46 :: r) = a :: Lib.splitK [46] 0 k r := by
  have e := idx_cat a r h
  have hb : (Lib.index (a ++ 46 :: r) [46] == -1) = false := by rw [e]; simp
  rw [Lib.splitK, hb]
  simp only [Bool.false_eq_true, if_false]
  rw [e]
  simp
theorem splitK_last (k : Nat) (a : List UInt8) (h : ∀ c ∈ a, c ≠ 46) : Lib.splitK [46] 0 k a = [a] := by
  cases k with
  | zero => rfl
  | succ k =>
    rw [Lib.splitK, idx_none a h]
    simp

theorem dl_no46 : ∀ n, n < 256 → ∀ c ∈ dl n, c ≠ 46 := by decide +kernel
theorem dl_len (n : Nat) : 1 ≤ (dl n).length ∧ (dl n).length ≤ 3 := by
  unfold dl
  split
  · simp
  · split <;> simp
def okIs (x : Lib.NumEnd Nat) (n : Nat) : Bool := match x with
  | .ok m => m == n
  | _ => false
theorem okIs_eq {x : Lib.NumEnd Nat} {n : Nat} (h : okIs x n = true) : x = .ok n := by
  cases x with
  | ok m => rw [show m = n by simpa [okIs] using h]
  | «syntax» => simp [okIs] at h
  | range => simp [okIs] at h
theorem pu_dl' : ∀ n, n < 256 → okIs (Lib.parseUintB 8 (dl n)) n = true := by decide +kernel
theorem pu_dl (n : Nat) (h : n < 256) : Lib.parseUintB 8 (dl n) = .ok n := okIs_eq (pu_dl' n h)
theorem dl_inj {n m : Nat} (hn : n < 256) (hm : m < 256) (h : dl n = dl m) : n = m := by
  have a := pu_dl n hn
  rw [h, pu_dl m hm] at a
  injection a with a
  exact a.symm

/-- the byte that digits are -/
def numL (l : List UInt8) : Option Nat := match Lib.parseUintB 8 l with
  | .ok n => if dl n = l then some n else none
  | _ => none
theorem numL_dl (n : Nat) (h : n < 256) : numL (dl n) = some n := by
  unfold numL
  rw [pu_dl n h]
  simp
theorem numL_some {l : List UInt8} {n : Nat} (h : numL l = some n) : n < 256 ∧ l = dl n ∧ Lib.parseUintB 8 l = .ok n := by
  unfold numL at h
  cases h8 : Lib.parseUintB 8 l with
  | ok m =>
    rw [h8] at h
    simp only [Option.ite_none_right_eq_some, Option.some.injEq] at h
    obtain ⟨h1, rfl⟩ := h
    have := Lib.parseUintB_le h8
    exact ⟨by omega, h1.symm, rfl⟩
  | «syntax» => rw [h8] at h; simp at h
  | range => rw [h8] at h; simp at h
theorem numL_none {l : List UInt8} (h : numL l = none) : (∃ n, n < 256 ∧ Lib.parseUintB 8 l = .ok n ∧ dl n ≠ l) ∨ ∀ u, Lib.parseUintB 8 l ≠ .ok u := by
  unfold numL at h
  cases h8 : Lib.parseUintB 8 l with
  | ok m =>
    rw [h8] at h
    have := Lib.parseUintB_le h8
    exact .inl ⟨m, by omega, rfl, by simpa using h⟩
  | «syntax» => exact .inr (fun u => by simp)
  | range => exact .inr (fun u => by simp)

/-- the pieces of a text, as the program cuts it -/
def pcs (l : List UInt8) : List (List UInt8) := Lib.splitK [46] 0 (min 5 (l.length + 1) - 1) l
/-- the four bytes of an address's text -/
def parseL (l : List UInt8) : Option (Nat × Nat × Nat × Nat) := match pcs l with
  | [a, b, c, d] => match numL a, numL b, numL c, numL d with
    | some x, some y, some z, some u => some (x, y, z, u)
    | _, _, _, _ => none
  | _ => none
theorem txt_len (a b c d : Nat) : 7 ≤ (txt a b c d).length ∧ (txt a b c d).length ≤ 15 := by
  have h1 := dl_len a; have h2 := dl_len b; have h3 := dl_len c; have h4 := dl_len d
  unfold txt
  simp only [List.length_append, List.length_cons]
  omega
theorem pcs_txt {a b c d : Nat} (ha : a < 256) (hb : b < 256) (hc : c < 256) (hd : d < 256) : pcs (txt a b c d) = [dl a, dl b, dl c, dl d] := by
  have h := txt_len a b c d
  unfold pcs
  rw [show min 5 ((txt a b c d).length + 1) - 1 = 4 by omega]
  unfold txt
  rw [splitK_hit 3 _ _ (dl_no46 a ha), splitK_hit 2 _ _ (dl_no46 b hb), splitK_hit 1 _ _ (dl_no46 c hc), splitK_last 1 _ (dl_no46 d hd)]
theorem parse_txt {a b c d : Nat} (ha : a < 256) (hb : b < 256) (hc : c < 256) (hd : d < 256) : parseL (txt a b c d) = some (a, b, c, d) := by
  unfold parseL
  rw [pcs_txt ha hb hc hd]
  simp only [numL_dl a ha, numL_dl b hb, numL_dl c hc, numL_dl d hd]
theorem parse_some {l : List UInt8} {a b c d : Nat} (h : parseL l = some (a, b, c, d)) : ∃ x y z u, pcs l = [x, y, z, u] ∧ numL x = some a ∧ numL y = some b ∧ numL z = some c ∧ numL u = some d := by
  unfold parseL at h
  split at h
  · rename_i x y z u hp
    split at h
    · rename_i e1 e2 e3 e4
      simp only [Option.some.injEq, Prod.mk.injEq] at h
      obtain ⟨rfl, rfl, rfl, rfl⟩ := h
      exact ⟨x, y, z, u, hp, e1, e2, e3, e4⟩
    · simp at h
  · simp at h
theorem parse_is {l : List UInt8} {a b c d : Nat} (h : parseL l = some (a, b, c, d)) : a < 256 ∧ b < 256 ∧ c < 256 ∧ d < 256 ∧ l = txt a b c d := by
  obtain ⟨x, y, z, u, hp, e1, e2, e3, e4⟩ := parse_some h
  obtain ⟨h1, rfl, _⟩ := numL_some e1
  obtain ⟨h2, rfl, _⟩ := numL_some e2
  obtain ⟨h3, rfl, _⟩ := numL_some e3
  obtain ⟨h4, rfl, _⟩ := numL_some e4
  have hj := splitK_join (min 5 (l.length + 1) - 1) l
  rw [show Lib.splitK [46] 0 (min 5 (l.length + 1) - 1) l = [dl a, dl b, dl c, dl d] from hp, join4] at hj
  exact ⟨h1, h2, h3, h4, hj.symm⟩

/-- an address's number, and its text -/
def ipn (a b c d : Nat) : Nat := a * 16777216 + b * 65536 + c * 256 + d
def txtI (ip : Nat) : List UInt8 := txt (ip / 16777216) (ip / 65536 % 256) (ip / 256 % 256) (ip % 256)
theorem ipn_lt {a b c d : Nat} (ha : a < 256) (hb : b < 256) (hc : c < 256) (hd : d < 256) : ipn a b c d < 4294967296 := by unfold ipn; omega
theorem txtI_ipn {a b c d : Nat} (hb : b < 256) (hc : c < 256) (hd : d < 256) : txtI (ipn a b c d) = txt a b c d := by
  unfold txtI ipn
  rw [show (a * 16777216 + b * 65536 + c * 256 + d) / 16777216 = a by omega, show (a * 16777216 + b * 65536 + c * 256 + d) / 65536 % 256 = b by omega,
    show (a * 16777216 + b * 65536 + c * 256 + d) / 256 % 256 = c by omega, show (a * 16777216 + b * 65536 + c * 256 + d) % 256 = d by omega]
theorem ipn_of (ip : Nat) : ipn (ip / 16777216) (ip / 65536 % 256) (ip / 256 % 256) (ip % 256) = ip := by unfold ipn; omega
/-- the address that a text is -/
def addrOf (l : List UInt8) : Option Nat := (parseL l).map fun (a, b, c, d) => ipn a b c d
theorem addrOf_txt {ip : Nat} (h : ip < 4294967296) : addrOf (txtI ip) = some ip := by
  unfold addrOf txtI
  rw [parse_txt (by omega) (by omega) (by omega) (by omega)]
  simp [ipn_of]
theorem addrOf_some {l : List UInt8} {ip : Nat} (h : addrOf l = some ip) : ip < 4294967296 ∧ l = txtI ip := by
  unfold addrOf at h
  cases hp : parseL l with
  | none => rw [hp] at h; simp at h
  | some q =>
    obtain ⟨a, b, c, d⟩ := q
    rw [hp] at h
    simp only [Option.map_some, Option.some.injEq] at h
    obtain ⟨ha, hb, hc, hd, e⟩ := parse_is hp
    subst h
    exact ⟨ipn_lt ha hb hc hd, by rw [e, txtI_ipn hb hc hd]⟩
theorem addrOf_none {l : List UInt8} (h : addrOf l = none) {ip : Nat} (hi : ip < 4294967296) : txtI ip ≠ l := by
  intro e
  rw [← e, addrOf_txt hi] at h
  simp at h
theorem txtI_inj {a b : Nat} (ha : a < 4294967296) (hb : b < 4294967296) (h : txtI a = txtI b) : a = b := by
  have := addrOf_txt ha
  rw [h, addrOf_txt hb] at this
  exact (Option.some.inj this).symm

/-- the document's reading: a step at each byte -/
def rstep (st : Nat × Nat) (c : UInt8) : Nat × Nat := if c = 46 then (st.1 * 256 % 4294967296 + st.2 % 256, 0) else (st.1, (10 * st.2 + c.toNat + 65488) % 65536)
def rfin (st : Nat × Nat) : Nat := st.1 * 256 % 4294967296 + st.2 % 256
theorem rfin_eq (x n : Nat) : rfin (x, n) = x * 256 % 4294967296 + n % 256 := rfl
theorem dgt_ne (d : Nat) (h : d < 10) : dgt d ≠ 46 := by
  intro e
  have := congrArg UInt8.toNat e
  simp [dgt] at this
  omega
theorem dgt_toNat (d : Nat) (h : d < 10) : (dgt d).toNat = 48 + d := by simp [dgt]; omega
theorem rstep_dgt (x n d : Nat) (h : d < 10) (hn : 10 * n + d < 65536) : rstep (x, n) (dgt d) = (x, 10 * n + d) := by
  unfold rstep
  rw [if_neg (dgt_ne d h), dgt_toNat d h]
  have e : (10 * n + (48 + d) + 65488) % 65536 = 10 * n + d := by omega
  exact Prod.ext rfl e
theorem rfold_dl (x n : Nat) (h : n < 256) : (dl n).foldl rstep (x, 0) = (x, n) := by
  unfold dl
  split
  · simp only [List.foldl_cons, List.foldl_nil]
    rw [rstep_dgt x 0 n (by omega) (by omega)]
    congr 1
    omega
  · split
    · simp only [List.foldl_cons, List.foldl_nil]
      rw [rstep_dgt x 0 _ (by omega) (by omega), rstep_dgt x _ _ (by omega) (by omega)]
      congr 1
      omega
    · simp only [List.foldl_cons, List.foldl_nil]
      rw [rstep_dgt x 0 _ (by omega) (by omega), rstep_dgt x _ _ (by omega) (by omega), rstep_dgt x _ _ (by omega) (by omega)]
      congr 1
      omega
theorem rstep_dot (x n : Nat) : rstep (x, n) 46 = (x * 256 % 4294967296 + n % 256, 0) := by unfold rstep; rw [if_pos rfl]
theorem rjoin (x n : Nat) (h : x < 16777216) (hn : n < 256) : x * 256 % 4294967296 + n % 256 = x * 256 + n := by rw [Nat.mod_eq_of_lt (by omega), Nat.mod_eq_of_lt hn]
theorem rfold_txt {a b c d : Nat} (ha : a < 256) (hb : b < 256) (hc : c < 256) (hd : d < 256) : rfin ((txt a b c d).foldl rstep (0, 0)) = ipn a b c d := by
  unfold txt
  have e1 : 0 * 256 % 4294967296 + a % 256 = a := by omega
  have e2 : a * 256 % 4294967296 + b % 256 = a * 256 + b := rjoin a b (by omega) hb
  have e3 : (a * 256 + b) * 256 % 4294967296 + c % 256 = (a * 256 + b) * 256 + c := rjoin _ c (by omega) hc
  have e4 : ((a * 256 + b) * 256 + c) * 256 % 4294967296 + d % 256 = a * 16777216 + b * 65536 + c * 256 + d := by rw [rjoin _ d (by omega) hd]; omega
  rw [List.foldl_append, rfold_dl 0 a ha, List.foldl_cons, rstep_dot, e1, List.foldl_append, rfold_dl _ b hb, List.foldl_cons, rstep_dot, e2, List.foldl_append, rfold_dl _ c hc, List.foldl_cons, rstep_dot, e3, rfold_dl _ d hd, rfin_eq, e4]
  rfl
theorem rfold_txtI {ip : Nat} (h : ip < 4294967296) : rfin ((txtI ip).foldl rstep (0, 0)) = ip := by
  unfold txtI
  rw [rfold_txt (by omega) (by omega) (by omega) (by omega), ipn_of]
theorem rstep_lt (st : Nat × Nat) (c : UInt8) (h1 : st.1 < 4294967296) (_ : st.2 < 65536) : (rstep st c).1 < 4294967296 ∧ (rstep st c).2 < 65536 := by
  unfold rstep
  split
  · simp only
    omega
  · simp only
    omega
theorem rfold_lt (l : List UInt8) : (l.foldl rstep (0, 0)).1 < 4294967296 ∧ (l.foldl rstep (0, 0)).2 < 65536 := by
  have : ∀ (l : List UInt8) (st : Nat × Nat), st.1 < 4294967296 → st.2 < 65536 → (l.foldl rstep st).1 < 4294967296 ∧ (l.foldl rstep st).2 < 65536 := by
    intro l
    induction l with
    | nil => intro st h1 h2; exact ⟨h1, h2⟩
    | cons c l ih =>
      intro st h1 h2
      obtain ⟨a, b⟩ := rstep_lt st c h1 h2
      exact ih _ a b
  exact this l (0, 0) (by omega) (by omega)

end Go.Proofs.YtnglkadfnacmcaaDoor
