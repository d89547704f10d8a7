/- Packets of IPv4 without the program: their bytes, how they are read, that what was written is read, what passing on does to the checksum, and that a byte which is another one is told. -/
import Derived.Test.YtekljiakofmhnaaSumMath
namespace Go.Proofs.Ytekljiakofmhnaa

structure Hd where
  tos : Nat
  id : Nat
  hold : Bool
  more : Bool
  at' : Nat
  ttl : Nat
  proto : Nat
  frm : Nat
  to : Nat
  opts : List UInt8
/-- as a head's fields are in memory -/
structure Hd.In (h : Hd) : Prop where
  tos : h.tos < 256
  id : h.id < 65536
  ttl : h.ttl < 256
  proto : h.proto < 256
  frm : h.frm < 4294967296
  to : h.to < 4294967296
structure Hd.May (h : Hd) : Prop where
  at1 : h.at' ≤ 65528
  at2 : h.at' % 8 = 0
  o1 : h.opts.length ≤ 40
  o2 : h.opts.length % 4 = 0
def Hd.n (h : Hd) : Nat := 20 + h.opts.length
def Hd.whole (h : Hd) (k : Nat) : Prop := h.more = true → 0 < k ∧ k % 8 = 0
def Hd.fits (h : Hd) (k : Nat) : Prop := h.at' + k + h.n ≤ 65535
def Hd.flags (h : Hd) : Nat := h.at' / 8 + (if h.hold then 16384 else 0) + (if h.more then 8192 else 0)
def preB (h : Hd) (k : Nat) : List UInt8 := [byt (64 + h.n / 4) 0, byt h.tos 0] ++ ofB (h.n + k) 2 ++ ofB h.id 2 ++ ofB h.flags 2 ++ [byt h.ttl 0, byt h.proto 0]
def pstB (h : Hd) : List UInt8 := ofB h.frm 4 ++ ofB h.to 4 ++ h.opts
def csum (h : Hd) (k : Nat) : Nat := 65535 - red (S (preB h k ++ [0, 0] ++ pstB h))
def rawB (h : Hd) (d : List UInt8) : List UInt8 := preB h d.length ++ ofB (csum h d.length) 2 ++ pstB h ++ d

theorem pre_len (h : Hd) (k : Nat) : (preB h k).length = 10 := by simp [preB, ofB_length]
theorem pst_len (h : Hd) : (pstB h).length = 8 + h.opts.length := by simp [pstB, ofB_length]; omega
theorem raw_len (h : Hd) (d : List UInt8) : (rawB h d).length = h.n + d.length := by simp [rawB, pre_len, pst_len, ofB_length, Hd.n]; omega
theorem csum_lt (h : Hd) (k : Nat) : csum h k < 65536 := by unfold csum; omega
/-- the head alone -/
def headB (h : Hd) (k : Nat) : List UInt8 := preB h k ++ ofB (csum h k) 2 ++ pstB h
theorem raw_eq (h : Hd) (d : List UInt8) : rawB h d = headB h d.length ++ d := rfl
theorem head_len (h : Hd) (k : Nat) : (headB h k).length = h.n := by simp [headB, pre_len, pst_len, ofB_length, Hd.n]; omega
theorem S_head (h : Hd) (k : Nat) : S (headB h k) = S (preB h k) + csum h k + S (pstB h) := by
  unfold headB
  rw [S_even (by rw [List.length_append, pre_len, ofB_length]), S_even (by rw [pre_len]), S_ofB2 _ (csum_lt h k)]
theorem S_head0 (h : Hd) (k : Nat) : S (preB h k ++ [0, 0] ++ pstB h) = S (preB h k) + S (pstB h) := by
  rw [S_even (by rw [List.length_append, pre_len]; rfl), S_even (by rw [pre_len])]
  simp [S_two]
theorem S_pre_pos (h : Hd) (k : Nat) (hm : h.May) : 0 < S (preB h k) := by
  unfold preB
  have h1 := hm.o1
  have e : (byt (64 + h.n / 4) 0).toNat = 64 + h.n / 4 := by rw [byt_toNat]; unfold Hd.n; omega
  rw [List.append_assoc, List.append_assoc, List.append_assoc, S_even (by simp), S_two, e]
  omega
/-- a head that was written is right -/
theorem head_right (h : Hd) (k : Nat) (hm : h.May) : red (S (headB h k)) = 65535 := by
  have h0 := S_pre_pos h k hm
  rw [S_head]
  unfold csum
  rw [S_head0]
  have e := red_mod (S (preB h k) + S (pstB h))
  have l := red_le (S (preB h k) + S (pstB h))
  have z : 0 < red (S (preB h k) + S (pstB h)) := by
    apply Nat.pos_of_ne_zero
    intro q
    have := red_eq_zero.1 q
    omega
  refine red_full ?_ (by omega)
  omega

/-! ### reading -/
def twoAt (s : List UInt8) (k : Nat) : Nat := num ((s.drop k).take 2)
def fourAt (s : List UInt8) (k : Nat) : Nat := num ((s.drop k).take 4)
def byteAt (s : List UInt8) (k : Nat) : Nat := (s.getD k 0).toNat
/-- the head that stands at a text's beginning, of n bytes -/
def readHd (s : List UInt8) (n : Nat) : Hd := ⟨byteAt s 1, twoAt s 4, decide (16384 ≤ twoAt s 6 % 32768), decide (8192 ≤ twoAt s 6 % 16384), 8 * (twoAt s 6 % 8192), byteAt s 8, byteAt s 9, fourAt s 12, fourAt s 16, (s.drop 20).take (n - 20)⟩
inductive DecR (s : List UInt8) : Nat → Prop
  | short (h : s.length < 20) : DecR s 10
  | version (h : 20 ≤ s.length) (h1 : byteAt s 0 / 16 ≠ 4) : DecR s 100
  | form (h : 20 ≤ s.length) (h1 : byteAt s 0 / 16 = 4) (h2 : 4 * (byteAt s 0 % 16) < 20) : DecR s 8
  | short2 (h : 20 ≤ s.length) (h1 : byteAt s 0 / 16 = 4) (h2 : 20 ≤ 4 * (byteAt s 0 % 16)) (h3 : s.length < 4 * (byteAt s 0 % 16)) : DecR s 10
  | form2 (h : 20 ≤ s.length) (h1 : byteAt s 0 / 16 = 4) (h2 : 20 ≤ 4 * (byteAt s 0 % 16)) (h3 : 4 * (byteAt s 0 % 16) ≤ s.length) (h4 : twoAt s 2 < 4 * (byteAt s 0 % 16)) : DecR s 8
  | short3 (h : 20 ≤ s.length) (h1 : byteAt s 0 / 16 = 4) (h2 : 20 ≤ 4 * (byteAt s 0 % 16)) (h3 : 4 * (byteAt s 0 % 16) ≤ s.length) (h4 : 4 * (byteAt s 0 % 16) ≤ twoAt s 2) (h5 : s.length < twoAt s 2) : DecR s 10
  | sum (h : 20 ≤ s.length) (h1 : byteAt s 0 / 16 = 4) (h2 : 20 ≤ 4 * (byteAt s 0 % 16)) (h3 : 4 * (byteAt s 0 % 16) ≤ s.length) (h4 : 4 * (byteAt s 0 % 16) ≤ twoAt s 2) (h5 : twoAt s 2 ≤ s.length) (h6 : red (S (s.take (4 * (byteAt s 0 % 16)))) ≠ 65535) : DecR s 101
  | form3 (h : 20 ≤ s.length) (h1 : byteAt s 0 / 16 = 4) (h2 : 20 ≤ 4 * (byteAt s 0 % 16)) (h3 : 4 * (byteAt s 0 % 16) ≤ s.length) (h4 : 4 * (byteAt s 0 % 16) ≤ twoAt s 2) (h5 : twoAt s 2 ≤ s.length) (h6 : red (S (s.take (4 * (byteAt s 0 % 16)))) = 65535)
      (h7 : ¬ (twoAt s 6 < 32768 ∧ (readHd s (4 * (byteAt s 0 % 16))).whole (twoAt s 2 - 4 * (byteAt s 0 % 16)) ∧ (readHd s (4 * (byteAt s 0 % 16))).fits (twoAt s 2 - 4 * (byteAt s 0 % 16)))) : DecR s 8
/-- it is a packet -/
structure DecOk (s : List UInt8) (h : Hd) (d : List UInt8) : Prop where
  l : 20 ≤ s.length
  v : byteAt s 0 / 16 = 4
  n : 20 ≤ 4 * (byteAt s 0 % 16)
  l2 : 4 * (byteAt s 0 % 16) ≤ s.length
  a : 4 * (byteAt s 0 % 16) ≤ twoAt s 2
  l3 : twoAt s 2 ≤ s.length
  r : red (S (s.take (4 * (byteAt s 0 % 16)))) = 65535
  f : twoAt s 6 < 32768
  w : (readHd s (4 * (byteAt s 0 % 16))).whole (twoAt s 2 - 4 * (byteAt s 0 % 16))
  fi : (readHd s (4 * (byteAt s 0 % 16))).fits (twoAt s 2 - 4 * (byteAt s 0 % 16))
  hd : h = readHd s (4 * (byteAt s 0 % 16))
  dt : d = (s.drop (4 * (byteAt s 0 % 16))).take (twoAt s 2 - 4 * (byteAt s 0 % 16))
/-- each text is one or the other -/
theorem dec_cases (s : List UInt8) : (∃ e, e ≠ 0 ∧ DecR s e) ∨ ∃ h d, DecOk s h d := by
  by_cases h0 : s.length < 20
  · exact .inl ⟨10, by decide, .short h0⟩
  have h0 : 20 ≤ s.length := by omega
  by_cases h1 : byteAt s 0 / 16 = 4
  case neg => exact .inl ⟨100, by decide, .version h0 h1⟩
  by_cases h2 : 4 * (byteAt s 0 % 16) < 20
  · exact .inl ⟨8, by decide, .form h0 h1 h2⟩
  have h2 : 20 ≤ 4 * (byteAt s 0 % 16) := by omega
  by_cases h3 : s.length < 4 * (byteAt s 0 % 16)
  · exact .inl ⟨10, by decide, .short2 h0 h1 h2 h3⟩
  have h3 : 4 * (byteAt s 0 % 16) ≤ s.length := by omega
  by_cases h4 : twoAt s 2 < 4 * (byteAt s 0 % 16)
  · exact .inl ⟨8, by decide, .form2 h0 h1 h2 h3 h4⟩
  have h4 : 4 * (byteAt s 0 % 16) ≤ twoAt s 2 := by omega
  by_cases h5 : s.length < twoAt s 2
  · exact .inl ⟨10, by decide, .short3 h0 h1 h2 h3 h4 h5⟩
  have h5 : twoAt s 2 ≤ s.length := by omega
  by_cases h6 : red (S (s.take (4 * (byteAt s 0 % 16)))) = 65535
  case neg => exact .inl ⟨101, by decide, .sum h0 h1 h2 h3 h4 h5 h6⟩
  by_cases h7 : twoAt s 6 < 32768 ∧ (readHd s (4 * (byteAt s 0 % 16))).whole (twoAt s 2 - 4 * (byteAt s 0 % 16)) ∧ (readHd s (4 * (byteAt s 0 % 16))).fits (twoAt s 2 - 4 * (byteAt s 0 % 16))
  case neg => exact .inl ⟨8, by decide, .form3 h0 h1 h2 h3 h4 h5 h6 h7⟩
  exact .inr ⟨_, _, h0, h1, h2, h3, h4, h5, h6, h7.1, h7.2.1, h7.2.2, rfl, rfl⟩

/-! ### what was written is read -/
theorem byteAt_app {a b : List UInt8} {k : Nat} (h : k < a.length) : byteAt (a ++ b) k = byteAt a k := by
  unfold byteAt
  simp [List.getD, List.getElem?_append_left h]
theorem twoAt_app {a b : List UInt8} {k : Nat} (h : k + 2 ≤ a.length) : twoAt (a ++ b) k = twoAt a k := by
  unfold twoAt
  rw [List.drop_append_of_le_length (by omega), List.take_append_of_le_length (by rw [List.length_drop]; omega)]
theorem fourAt_app {a b : List UInt8} {k : Nat} (h : k + 4 ≤ a.length) : fourAt (a ++ b) k = fourAt a k := by
  unfold fourAt
  rw [List.drop_append_of_le_length (by omega), List.take_append_of_le_length (by rw [List.length_drop]; omega)]
section
variable {h : Hd} {k : Nat}
theorem hd0 (hm : h.May) : byteAt (headB h k) 0 = 64 + h.n / 4 := by
  have h1 := hm.o1
  show (byt (64 + h.n / 4) 0).toNat = _
  rw [byt_toNat]
  unfold Hd.n
  omega
theorem hd1 (hi : h.In) : byteAt (headB h k) 1 = h.tos := by
  show (byt h.tos 0).toNat = _
  have := hi.tos
  rw [byt_toNat]
  omega
theorem hd2 (hk : h.n + k < 65536) : twoAt (headB h k) 2 = h.n + k := by
  show num (ofB (h.n + k) 2) = _
  rw [num_ofB]
  omega
theorem hd4 (hi : h.In) : twoAt (headB h k) 4 = h.id := by
  show num (ofB h.id 2) = _
  have := hi.id
  rw [num_ofB]
  omega
theorem flags_lt (hm : h.May) : h.flags < 32768 := by
  have := hm.at1
  unfold Hd.flags
  split <;> split <;> omega
theorem hd6 (hm : h.May) : twoAt (headB h k) 6 = h.flags := by
  show num (ofB h.flags 2) = _
  have := flags_lt hm
  rw [num_ofB]
  omega
theorem hd8 (hi : h.In) : byteAt (headB h k) 8 = h.ttl := by
  show (byt h.ttl 0).toNat = _
  have := hi.ttl
  rw [byt_toNat]
  omega
theorem hd9 (hi : h.In) : byteAt (headB h k) 9 = h.proto := by
  show (byt h.proto 0).toNat = _
  have := hi.proto
  rw [byt_toNat]
  omega
theorem hd12 (hi : h.In) : fourAt (headB h k) 12 = h.frm := by
  show num (ofB h.frm 4) = _
  have := hi.frm
  rw [num_ofB]
  omega
theorem hd16 (hi : h.In) : fourAt (headB h k) 16 = h.to := by
  show num (ofB h.to 4) = _
  have := hi.to
  rw [num_ofB]
  omega
theorem hd20 : (headB h k).drop 20 = h.opts := rfl
theorem read_head (hi : h.In) (hm : h.May) (b : List UInt8) : readHd (headB h k ++ b) h.n = h := by
  have hl := head_len h k
  have hn : h.n = 20 + h.opts.length := rfl
  have h1 := hm.at1
  have h2 := hm.at2
  unfold readHd
  rw [byteAt_app (by omega), twoAt_app (by omega), twoAt_app (by omega), byteAt_app (by omega), byteAt_app (by omega), fourAt_app (by omega), fourAt_app (by omega), hd1 hi, hd4 hi, hd6 hm, hd8 hi, hd9 hi, hd12 hi, hd16 hi]
  rw [List.drop_append_of_le_length (by omega), hd20, List.take_append_of_le_length (by omega)]
  have e1 : h.n - 20 = h.opts.length := by omega
  rw [e1, List.take_length]
  obtain ⟨t, i, ho, mo, at_, tt, pr, fr, to, op⟩ := h
  simp only at h1 h2 ⊢
  unfold Hd.flags
  cases ho <;> cases mo <;> simp <;> omega
/-- what was written is a packet, whatever stands behind it -/
theorem dec_raw (hi : h.In) (hm : h.May) {d : List UInt8} (hw : h.whole d.length) (hf : h.fits d.length) (b : List UInt8) : DecOk (rawB h d ++ b) h d := by
  have hl := head_len h d.length
  have hn : h.n = 20 + h.opts.length := rfl
  have h1 := hm.o1
  have h2 := hm.o2
  have e : rawB h d ++ b = headB h d.length ++ (d ++ b) := by rw [raw_eq, List.append_assoc]
  have hf' := hf
  unfold Hd.fits at hf'
  have b0 : byteAt (rawB h d ++ b) 0 = 64 + h.n / 4 := by rw [e, byteAt_app (by omega), hd0 hm]
  have en : 4 * (byteAt (rawB h d ++ b) 0 % 16) = h.n := by rw [b0]; omega
  have ea : twoAt (rawB h d ++ b) 2 = h.n + d.length := by rw [e, twoAt_app (by omega), hd2 (by omega)]
  have el : (rawB h d ++ b).length = h.n + d.length + b.length := by rw [List.length_append, raw_len]
  have er : readHd (rawB h d ++ b) h.n = h := by rw [e]; exact read_head hi hm _
  have ek : h.n + d.length - h.n = d.length := by omega
  refine ⟨by omega, by rw [b0]; omega, by omega, by omega, by omega, by omega, ?_, ?_, ?_, ?_, ?_, ?_⟩
  · rw [en, e, List.take_append_of_le_length (by omega), List.take_of_length_le (by omega)]
    exact head_right h d.length hm
  · rw [e, twoAt_app (by omega), hd6 hm]
    exact flags_lt hm
  · rw [en, ea, er, ek]; exact hw
  · rw [en, ea, er, ek]; exact hf
  · rw [en, er]
  · rw [en, ea, ek, e, ← hl, List.drop_left, List.take_append_of_le_length (Nat.le_refl _), List.take_length]
theorem DecOk.unique {s : List UInt8} {h h' : Hd} {d d' : List UInt8} (a : DecOk s h d) (b : DecOk s h' d') : h = h' ∧ d = d' := ⟨a.hd.trans b.hd.symm, a.dt.trans b.dt.symm⟩
/-- what is cut off is told -/
theorem dec_cut (hm : h.May) {d : List UInt8} (hf : h.fits d.length) {j : Nat} (hj : j < (rawB h d).length) : DecR ((rawB h d).take j) 10 := by
  have hl := head_len h d.length
  have hn : h.n = 20 + h.opts.length := rfl
  have h1 := hm.o1
  have h2 := hm.o2
  have hf' := hf
  unfold Hd.fits at hf'
  rw [raw_len] at hj
  have el : ((rawB h d).take j).length = j := by rw [List.length_take, raw_len]; omega
  by_cases h20 : j < 20
  · exact .short (by omega)
  · have sp : (rawB h d).take j = (headB h d.length).take (min j h.n) ++ d.take (j - h.n) := by
      rw [raw_eq, List.take_append, hl]
      congr 1
      by_cases q : j ≤ h.n
      · rw [Nat.min_eq_left q]
      · rw [Nat.min_eq_right (by omega), List.take_of_length_le (by omega), List.take_of_length_le (by omega)]
    have hd20 : ∀ k, k < 20 → byteAt ((rawB h d).take j) k = byteAt (headB h d.length) k := fun k hk => by
      unfold byteAt
      simp only [List.getD_eq_getElem?_getD]
      rw [List.getElem?_take, if_pos (by omega), raw_eq, List.getElem?_append_left (by omega)]
    have b0 : byteAt ((rawB h d).take j) 0 = 64 + h.n / 4 := by rw [hd20 0 (by omega), hd0 hm]
    by_cases hjn : j < h.n
    · exact .short2 (by omega) (by rw [b0]; omega) (by rw [b0]; omega) (by rw [b0, el]; omega)
    · have ea : twoAt ((rawB h d).take j) 2 = h.n + d.length := by
        rw [sp, Nat.min_eq_right (by omega), List.take_of_length_le (by omega), twoAt_app (by omega), hd2 (by omega)]
      exact .short3 (by omega) (by rw [b0]; omega) (by rw [b0]; omega) (by rw [b0, el]; omega) (by rw [b0, ea]; omega) (by rw [ea, el]; omega)
/-- unlike packets have unlike bytes -/
theorem raw_inj {h' : Hd} {d d' : List UInt8} (hi : h.In) (hm : h.May) (hw : h.whole d.length) (hf : h.fits d.length) (hi' : h'.In) (hm' : h'.May) (hw' : h'.whole d'.length) (hf' : h'.fits d'.length) (e : rawB h d = rawB h' d') : h = h' ∧ d = d' := by
  have a := dec_raw hi hm hw hf []
  have b := dec_raw hi' hm' hw' hf' []
  rw [← e] at b
  exact a.unique b

/-! ### passing on -/
/-- the TTL one less -/
def Hd.less (h : Hd) : Hd := { h with ttl := h.ttl - 1 }
theorem turn_less {X was c : Nat} (hx : 0 < X) (hw : 256 ≤ was) (hw2 : was < 65536) (hc : c = 65535 - red (X + was)) : 65535 - red ((65535 - c) + (65535 - was) + (was - 256)) = 65535 - red (X + (was - 256)) := by
  have h1 := red_le (X + was)
  have e : (65535 - c) + (65535 - was) + (was - 256) = red (X + was) + (65535 - 256) := by omega
  have q : red (X + was + (65535 - 256)) = red (X + (was - 256)) := red_eq (by omega) (by omega)
  rw [e, red_add, q]
theorem S_pre_split (h : Hd) (k : Nat) : S (preB h k) = S ([byt (64 + h.n / 4) 0, byt h.tos 0] ++ ofB (h.n + k) 2 ++ ofB h.id 2 ++ ofB h.flags 2) + S [byt h.ttl 0, byt h.proto 0] := by
  unfold preB
  exact S_even (by simp [ofB_length])
theorem pre_less (h : Hd) (k : Nat) : preB h.less k = (preB h k).take 8 ++ [byt (h.ttl - 1) 0, byt h.proto 0] := rfl
theorem word_ttl {t p : Nat} (ht : t < 256) (hp : p < 256) : S [byt t 0, byt p 0] = 256 * t + p := by
  rw [S_two, byt_toNat, byt_toNat]
  omega
/-- the checksum that turned is the one that is written anew -/
theorem csum_less (hi : h.In) (hm : h.May) (ht : 2 ≤ h.ttl) : 65535 - red ((65535 - csum h k) + (65535 - (256 * h.ttl + h.proto)) + (256 * h.ttl + h.proto - 256)) = csum h.less k := by
  have h1 := hi.ttl
  have h2 := hi.proto
  have hp : 0 < S ([byt (64 + h.n / 4) 0, byt h.tos 0] ++ ofB (h.n + k) 2 ++ ofB h.id 2 ++ ofB h.flags 2) := by
    have h3 := hm.o1
    have e : (byt (64 + h.n / 4) 0).toNat = 64 + h.n / 4 := by rw [byt_toNat]; unfold Hd.n; omega
    rw [List.append_assoc, List.append_assoc, S_even (by simp), S_two, e]
    omega
  have e1 : S (preB h k ++ [0, 0] ++ pstB h) = (S ([byt (64 + h.n / 4) 0, byt h.tos 0] ++ ofB (h.n + k) 2 ++ ofB h.id 2 ++ ofB h.flags 2) + S (pstB h)) + (256 * h.ttl + h.proto) := by
    rw [S_head0, S_pre_split, word_ttl h1 h2]
    omega
  have e2 : S (preB h.less k ++ [0, 0] ++ pstB h.less) = (S ([byt (64 + h.n / 4) 0, byt h.tos 0] ++ ofB (h.n + k) 2 ++ ofB h.id 2 ++ ofB h.flags 2) + S (pstB h)) + (256 * h.ttl + h.proto - 256) := by
    rw [S_head0, S_pre_split]
    show S ([byt (64 + h.n / 4) 0, byt h.tos 0] ++ ofB (h.n + k) 2 ++ ofB h.id 2 ++ ofB h.flags 2) + S [byt (h.ttl - 1) 0, byt h.proto 0] + S (pstB h) = _
    rw [word_ttl (by omega) h2]
    omega
  have key := turn_less (X := S ([byt (64 + h.n / 4) 0, byt h.tos 0] ++ ofB (h.n + k) 2 ++ ofB h.id 2 ++ ofB h.flags 2) + S (pstB h)) (was := 256 * h.ttl + h.proto) (c := csum h k) (by omega) (by omega) (by omega) (by unfold csum; rw [e1])
  rw [key]
  show _ = 65535 - red (S (preB h.less k ++ [0, 0] ++ pstB h.less))
  rw [e2]
theorem ttl_word (hi : h.In) (b : List UInt8) : twoAt (headB h k ++ b) 8 = 256 * h.ttl + h.proto := by
  have h1 := hi.ttl
  have h2 := hi.proto
  have hl := head_len h k
  have hn : h.n = 20 + h.opts.length := rfl
  rw [twoAt_app (by omega)]
  show num [byt h.ttl 0, byt h.proto 0] = _
  rw [num_cons, num_cons, num_nil, byt_toNat, byt_toNat]
  simp
  omega
theorem csum_word (b : List UInt8) : twoAt (headB h k ++ b) 10 = csum h k := by
  have hl := head_len h k
  have hn : h.n = 20 + h.opts.length := rfl
  have := csum_lt h k
  rw [twoAt_app (by omega)]
  show num (ofB (csum h k) 2) = _
  rw [num_ofB]
  omega
/-- what is passed on is what is written anew -/
theorem pass_raw (hi : h.In) (hm : h.May) (ht : 2 ≤ h.ttl) (d b : List UInt8) :
    ((rawB h d ++ b).take 8) ++ ofB (256 * h.ttl + h.proto - 256) 2 ++ ofB (65535 - red ((65535 - csum h d.length) + (65535 - (256 * h.ttl + h.proto)) + (256 * h.ttl + h.proto - 256))) 2 ++ (((rawB h d ++ b).drop 12).take (h.n - 12)) ++ d = rawB h.less d := by
  have h1 := hi.ttl
  have h2 := hi.proto
  have hl := head_len h d.length
  have hn : h.n = 20 + h.opts.length := rfl
  rw [csum_less hi hm ht]
  have e : rawB h d ++ b = headB h d.length ++ (d ++ b) := by rw [raw_eq, List.append_assoc]
  have e8 : (rawB h d ++ b).take 8 = (preB h d.length).take 8 := by
    rw [e, List.take_append_of_le_length (by omega)]
    unfold headB
    rw [List.append_assoc, List.take_append_of_le_length (by rw [pre_len]; omega)]
  have e12 : ((rawB h d ++ b).drop 12).take (h.n - 12) = pstB h := by
    rw [e, List.drop_append_of_le_length (by omega)]
    have : (headB h d.length).drop 12 = pstB h := rfl
    rw [this, List.take_append_of_le_length (by rw [pst_len]; omega), List.take_of_length_le (by rw [pst_len]; omega)]
  have ew : ofB (256 * h.ttl + h.proto - 256) 2 = [byt (h.ttl - 1) 0, byt h.proto 0] := by
    have a1 : byt (256 * h.ttl + h.proto - 256) 1 = byt (h.ttl - 1) 0 := UInt8.toNat_inj.1 (by rw [byt_toNat, byt_toNat]; omega)
    have a0 : byt (256 * h.ttl + h.proto - 256) 0 = byt h.proto 0 := UInt8.toNat_inj.1 (by rw [byt_toNat, byt_toNat]; omega)
    show [byt (256 * h.ttl + h.proto - 256) 1, byt (256 * h.ttl + h.proto - 256) 0] = _
    rw [a1, a0]
  rw [e8, e12, ew]
  show _ = preB h.less d.length ++ ofB (csum h.less d.length) 2 ++ pstB h ++ d
  rw [pre_less]

/-! ### a byte that is another one -/
theorem S_set {l : List UInt8} {j : Nat} (hj : j < l.length) (x : UInt8) : S (l.set j x) + (if j % 2 = 0 then 256 else 1) * (l[j]).toNat = S l + (if j % 2 = 0 then 256 else 1) * x.toNat := by
  have e1 : l = l.take j ++ ([l[j]] ++ l.drop (j + 1)) := by
    rw [List.singleton_append, ← List.drop_eq_getElem_cons hj, List.take_append_drop]
  have e2 : l.set j x = l.take j ++ ([x] ++ l.drop (j + 1)) := by
    rw [List.set_eq_take_append_cons_drop, if_pos hj]
    rfl
  have hlen : (l.take j).length = j := by rw [List.length_take]; omega
  rw [e2]
  have q : S l = S (l.take j ++ ([l[j]] ++ l.drop (j + 1))) := by rw [← e1]
  rw [q, S_append, S_append]
  have ho : odd (l.take j) = (j % 2 == 1) := by unfold odd; rw [hlen]
  rw [ho]
  by_cases p : j % 2 = 0
  · have p1 : (j % 2 == 1) = false := by rw [p]; rfl
    rw [if_pos p, p1]
    simp only [List.singleton_append, ws]
    omega
  · have p1 : (j % 2 == 1) = true := by rw [show j % 2 = 1 by omega]; rfl
    rw [if_neg p, p1]
    simp only [List.singleton_append, ws]
    omega
/-- of a right text in which one byte is another one it is told -/
theorem set_wrong {l : List UInt8} {j : Nat} (hj : j < l.length) {x : UInt8} (hx : x ≠ l[j]) (hr : red (S l) = 65535) : red (S (l.set j x)) ≠ 65535 := by
  intro hr2
  have h1 := S_set hj x
  have hne : x.toNat ≠ (l[j]).toNat := fun e => hx (UInt8.toNat_inj.1 e)
  have b1 := x.toNat_lt
  have b2 := (l[j]).toNat_lt
  have m1 := red_mod (S l)
  have m2 := red_mod (S (l.set j x))
  rw [hr] at m1
  rw [hr2] at m2
  by_cases p : j % 2 = 0
  · rw [if_pos p] at h1; omega
  · rw [if_neg p] at h1; omega
theorem byteAt_set {l : List UInt8} {j i : Nat} (x : UInt8) (h : i ≠ j) : byteAt (l.set j x) i = byteAt l i := by
  unfold byteAt
  simp [List.getD, List.getElem?_set_ne (Ne.symm h)]
/-- a head in which one byte is another one is told; the first one makes it longer or shorter -/
theorem flip_told (hm : h.May) {d : List UInt8} {j : Nat} (hj : j < h.n) {x : UInt8} (hx : x ≠ (rawB h d)[j]'(by rw [raw_len]; omega)) {h' : Hd} {d' : List UInt8} (hd : DecOk ((rawB h d).set j x) h' d') : j = 0 ∧ h' ≠ h := by
  have hl := head_len h d.length
  have hn : h.n = 20 + h.opts.length := rfl
  have h1 := hm.o1
  have h2 := hm.o2
  have hb : byteAt (rawB h d) 0 = 64 + h.n / 4 := by rw [raw_eq, byteAt_app (by omega), hd0 hm]
  by_cases h0 : j = 0
  · refine ⟨h0, fun e => ?_⟩
    have e1 := hd.hd
    rw [e] at e1
    have e2 := congrArg (fun q : Hd => q.opts.length) e1
    simp only [readHd] at e2
    have l2 := hd.l2
    have ln := hd.n
    have lv := hd.v
    rw [List.length_take, List.length_drop] at e2
    have e3 : 4 * (byteAt ((rawB h d).set j x) 0 % 16) = h.n := by omega
    have e4 : byteAt ((rawB h d).set j x) 0 = 64 + h.n / 4 := by omega
    subst h0
    have hlen : 0 < (rawB h d).length := by rw [raw_len]; omega
    have e5 : byteAt ((rawB h d).set 0 x) 0 = x.toNat := by
      unfold byteAt
      simp [List.getD, hlen]
    have e6 : byteAt (rawB h d) 0 = ((rawB h d)[0]).toNat := by
      unfold byteAt
      simp [List.getD, hlen]
    apply hx
    apply UInt8.toNat_inj.1
    rw [← e5, e4, ← hb, e6]
  · exfalso
    have hr := hd.r
    rw [byteAt_set x (fun e => h0 e.symm), hb] at hr
    have en : 4 * ((64 + h.n / 4) % 16) = h.n := by omega
    rw [en] at hr
    have es : ((rawB h d).set j x).take h.n = (headB h d.length).set j x := by
      rw [raw_eq, List.set_append_left _ _ (by omega), List.take_append_of_le_length (by rw [List.length_set]; omega), List.take_of_length_le (by rw [List.length_set]; omega)]
    rw [es] at hr
    refine set_wrong (by omega) ?_ (head_right h d.length hm) hr
    intro e
    apply hx
    rw [e]
    simp only [raw_eq]
    rw [List.getElem_append_left (by omega)]
end
end Go.Proofs.Ytekljiakofmhnaa
