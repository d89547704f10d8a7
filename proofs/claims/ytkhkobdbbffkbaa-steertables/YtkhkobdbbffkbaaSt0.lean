/- The contracts of package steer's inner functions: a text's bit, the first window, the hash. -/
import Derived.Test.YtkhkobdbbffkbaaToe
import Derived.WalkMore
import Derived.ScopeJumps
import Derived.Deep.QuietTactic
import Derived.BigQuiet
namespace Go.Proofs.Ytkhkobdbbffkbaa
open Go.RowKit

theorem below_draw {B : Nat} {a w : World} (h : Below B a w) (n : Nat) : Below B a (w.drewN n) := h.trans ⟨rfl, rfl, rfl, Nat.le_refl _, fun _ _ => rfl⟩
theorem bt_eq {s : ByteArray} {j : Nat} (h : j < s.size) : s[j].toNat = bt s j := by unfold bt; rw [dif_pos h]
theorem and_one (m : Nat) (h : m < 4294967296) : bits .and .u32 ((m : Int) % 4294967296) 1 = ((m % 2 : Nat) : Int) := by
  rw [Int.emod_eq_of_lt (by omega) (by omega), show (1 : Int) = ((1 : Nat) : Int) from rfl, u32_and_nat m 1 h (by omega), Nat.and_one_is_mod]
theorem bit_bits (s : ByteArray) (i : Nat) (h : i / 8 < s.size) : bits .and .u32 ((s[i / 8].toNat : Int) / 2 ^ (7 - i % 8) % 4294967296) 1 = (gb s i : Nat) := by
  rw [bt_eq h]
  have l := bt_lt s (i / 8)
  have e : ((bt s (i / 8) : Nat) : Int) / 2 ^ (7 - i % 8) = ((bt s (i / 8) / 2 ^ (7 - i % 8) : Nat) : Int) := by simp
  rw [e, and_one _ (Nat.lt_of_le_of_lt (Nat.div_le_self _ _) (by omega))]
  rfl

set_option maxHeartbeats 1000000 in
theorem bit_any (s : ByteArray) (i : Nat) (w : World) (hs : s.size ≤ 1024) (hi : i < 8 * s.size) :
    Calls Try.prog 22 #[.string s, .int .i64 (i : Int)] w fun e w' => e = .returned (.int .u32 (gb s i : Nat)) ∧ w' = w := by
  have HB := hide (bit_bits s i (by omega))
  go_enter Try.func22, Try.ntmps22
  go_wp2
  rw [unhide HB]
  go_ret
  exact ⟨rfl, rfl⟩

set_option maxHeartbeats 1000000 in
theorem rbit_any (s : ByteArray) (i : Nat) (w : World) (hs : s.size ≤ 1024) (hi : i < 8 * s.size) :
    Calls Try.prog 20 #[.string s, .int .i64 (i : Int)] w fun e w' => e = .returned (.int .u32 (gb s i : Nat)) ∧ w' = w := by
  have HB := hide (bit_bits s i (by omega))
  go_enter Try.func20, Try.ntmps20
  go_wp2
  rw [unhide HB]
  go_ret
  exact ⟨rfl, rfl⟩

theorem or_add (k : Nat) (a : Nat) {b : Nat} (h : b < 2 ^ k) : 2 ^ k * a ||| b = 2 ^ k * a + b := (Nat.two_pow_add_eq_or_of_lt h a).symm
theorem or_u32 (a b : Nat) {x y : Int} (k : Nat) (c : Nat) (hx : x = (a : Nat)) (hy : y = (b : Nat)) (e : a = 2 ^ k * c) (h : b < 2 ^ k) (ha : a < 4294967296) (hb : b < 4294967296) : bits .or .u32 x y = ((a + b : Nat) : Int) := by
  rw [hx, hy, u32_or_nat a b ha hb, e, or_add k c h]
theorem first_bits (A B C D : Nat) (hA : A < 256) (hB : B < 256) (hC : C < 256) (hD : D < 256) :
    bits .or .u32 (bits .or .u32 (bits .or .u32 ((A : Int) % 4294967296 * 16777216 % 4294967296) ((B : Int) % 4294967296 * 65536 % 4294967296)) ((C : Int) % 4294967296 * 256 % 4294967296)) ((D : Int) % 4294967296)
      = ((A * 16777216 + B * 65536 + C * 256 + D : Nat) : Int) := by
  rw [or_u32 (x := (A : Int) % 4294967296 * 16777216 % 4294967296) (y := (B : Int) % 4294967296 * 65536 % 4294967296) (A * 16777216) (B * 65536) 24 A (by omega) (by omega) (by omega) (by omega) (by omega) (by omega)]
  rw [or_u32 (A * 16777216 + B * 65536) (C * 256) 16 (A * 256 + B) rfl (by omega) (by omega) (by omega) (by omega) (by omega)]
  rw [or_u32 (A * 16777216 + B * 65536 + C * 256) D 8 (A * 65536 + B * 256 + C) rfl (by omega) (by omega) (by omega) (by omega) (by omega)]

set_option maxHeartbeats 1000000 in
theorem first_any (s : ByteArray) (w : World) (hs : s.size = 40) :
    Calls Try.prog 21 #[.string s] w fun e w' => e = .returned (.int .u32 (wn (gb s) 0 32 : Nat)) ∧ ∃ n, w' = w.drewN n := by
  have HF : Hid (bits .or .u32 (bits .or .u32 (bits .or .u32 ((s[0].toNat : Int) % 4294967296 * 16777216 % 4294967296) ((s[1].toNat : Int) % 4294967296 * 65536 % 4294967296)) ((s[2].toNat : Int) % 4294967296 * 256 % 4294967296)) ((s[3].toNat : Int) % 4294967296) = ((wn (gb s) 0 32 : Nat) : Int)) := by
    rw [first_bits _ _ _ _ (UInt8.toNat_lt _) (UInt8.toNat_lt _) (UInt8.toNat_lt _) (UInt8.toNat_lt _), wn_first, bt_eq, bt_eq, bt_eq, bt_eq]
    exact rfl
  go_enter Try.func21, Try.ntmps21
  go_wp2
  go_quiet (fail)
  go_wp2
  rw [unhide HF]
  go_ret
  exact ⟨rfl, _, rfl⟩

theorem cyc (h wd : Nat) (hh : h < 4294967296) (hw : wd < 4294967296) : bits .xor .u32 (h : Int) (wd : Int) = ((h ^^^ wd : Nat) : Int) := u32_xor_nat h wd hh hw
theorem win_bits (wd b : Nat) (hb : b < 2) : bits .or .u32 ((wd : Int) * 2 % 4294967296) (b : Int) = ((2 * wd % 4294967296 + b : Nat) : Int) :=
  or_u32 (2 * wd % 4294967296) b 1 (wd % 2147483648) (by omega) rfl (by omega) (by omega) (by omega) (by omega)

def TF (key text : ByteArray) (h wd p : Nat) (a : Act) : Prop := ∃ u8 u9 u10 u11 u12 u13 u14 u15 u16 u17 u18 u19 u20 u21 u22 u23 u24 u25 u26 u27 u28 u29 u30 u31 : Value,
  a = { tmps := #[.string key, .string text, undef, undef, .int .u32 0, .int .u32 (h : Int), .int .u32 (wd : Int), .int .i64 (p : Int), u8, u9, u10, u11, u12, u13, u14, u15, u16, u17, u18, u19, u20, u21, u22, u23, u24, u25, u26, u27, u28, u29, u30, u31], defers := [] }
theorem tf_place {key text : ByteArray} {h wd p : Nat} {a : Act} (k : TF key text h wd p a) : (intOf (a.tmps.getD 7 undef)).toNat = p := by
  obtain ⟨_, _, _, _, _, _, _, _, _, _, _, _, _, _, _, _, _, _, _, _, _, _, _, _, rfl⟩ := k
  rfl
/-- what holds at each jump -/
def TJ (key text : ByteArray) (w : World) (a : Act) (w' : World) : Prop := (∃ n, w' = w.drewN n) ∧ ∃ p, p ≤ 8 * text.size ∧ TF key text (th (gb key) (gb text) p) (wn (gb key) p 32) p a
theorem tj_one {key text : ByteArray} {w : World} {p n h wd : Nat} (hp : p + 1 ≤ 8 * text.size) (hh : h = th (gb key) (gb text) (p + 1)) (hw : wd = wn (gb key) (p + 1) 32) {u8 u9 u10 u11 u12 u13 u14 u15 u16 u17 u18 u19 u20 u21 u22 u23 u24 u25 u26 u27 u28 u29 u30 u31 : Value} :
    TJ key text w { tmps := #[.string key, .string text, undef, undef, .int .u32 0, .int .u32 (h : Int), .int .u32 (wd : Int), .int .i64 ((p : Int) + 1), u8, u9, u10, u11, u12, u13, u14, u15, u16, u17, u18, u19, u20, u21, u22, u23, u24, u25, u26, u27, u28, u29, u30, u31], defers := [] } (w.drewN n) := by
  subst hh hw
  exact ⟨⟨n, rfl⟩, p + 1, hp, _, _, _, _, _, _, _, _, _, _, _, _, _, _, _, _, _, _, _, _, _, _, _, _, rfl⟩

set_option maxHeartbeats 1000000 in
theorem toeplitz_any (key text : ByteArray) (w : World) (hk : key.size = 40) (ht : text.size ≤ 36) :
    Calls Try.prog 17 #[.string key, .string text] w fun e w' => e = .returned (.int .u32 (hsh key text : Nat)) ∧ ∃ n, w' = w.drewN n := by
  have H1 := hide (fun w => first_any key w hk)
  go_enter Try.func17, Try.ntmps17
  go_wp2_with fail
  refine wp_scope_jumps 0 (TJ key text w) (fun a' _ => 8 * text.size - (intOf (a'.tmps.getD 7 undef)).toNat) rfl ?_ ?_
  · go_wp2_with fail
    refine (unhide H1 _).mono ?_
    rintro e w1 ⟨rfl, n1, rfl⟩
    go_wp2_with fail
    go_step3
    by_cases hlt : 0 < text.size
    · have hs := hide (wn_step (gb_lt key) 0)
      have hth : th (gb key) (gb text) (0 + 1) = if gb text 0 = 1 then th (gb key) (gb text) 0 ^^^ wn (gb key) 0 32 else th (gb key) (gb text) 0 := rfl
      rw [show th (gb key) (gb text) 0 = 0 from rfl] at hth
      have h2 := wn_lt (gb_lt key) 0 32
      have HT := fun w => bit_any text 0 w (by omega) (by omega)
      have HK := hide (fun w => bit_any key (0 + 32) w (by omega) (by omega))
      have hbk := gb_lt key (0 + 32)
      have hbt := gb_lt text 0
      generalize wn (gb key) 0 32 = wd at *
      generalize gb key (0 + 32) = kb at *
      by_cases hb : gb text 0 = 1
      · rw [if_pos hb] at hth
        rw [hb] at HT
        have HT := hide HT
        have HX : Hid (bits .xor .u32 0 (wd : Int) = ((0 ^^^ wd : Nat) : Int)) := cyc 0 wd (by omega) h2
        have HW := hide (win_bits wd kb hbk)
        go_wp2_with fail
        refine (unhide HT _).mono ?_
        rintro e w1 ⟨rfl, rfl⟩
        go_wp2_with fail
        refine (unhide HK _).mono ?_
        rintro e w1 ⟨rfl, rfl⟩
        go_wp2_with fail
        rw [unhide HW, unhide HX]
        go_step3
        exact ⟨rfl, tj_one (p := 0) (by omega) hth.symm (unhide hs)⟩
      · rw [if_neg hb] at hth
        rw [show gb text 0 = 0 by omega] at HT
        have HT := hide HT
        have HW := hide (win_bits wd kb hbk)
        go_wp2_with fail
        refine (unhide HT _).mono ?_
        rintro e w1 ⟨rfl, rfl⟩
        go_wp2_with fail
        refine (unhide HK _).mono ?_
        rintro e w1 ⟨rfl, rfl⟩
        go_wp2_with fail
        rw [unhide HW]
        go_step3
        exact ⟨rfl, tj_one (p := 0) (by omega) hth.symm (unhide hs)⟩
    · have e : text.size = 0 := by omega
      have HE : Hid (hsh key text = 0) := by unfold hsh; rw [e]; rfl
      go_wp2_with fail
      simp only [Exit.jump]
      go_ret
      rw [unhide HE]
      exact ⟨rfl, _, rfl⟩
  · rintro a' w' ⟨⟨n, rfl⟩, p, hp, k⟩
    have HP := hide (tf_place k)
    obtain ⟨u8, u9, u10, u11, u12, u13, u14, u15, u16, u17, u18, u19, u20, u21, u22, u23, u24, u25, u26, u27, u28, u29, u30, u31, rfl⟩ := k
    by_cases hlt : p < 8 * text.size
    · have hs := hide (wn_step (gb_lt key) p)
      have hth : th (gb key) (gb text) (p + 1) = if gb text p = 1 then th (gb key) (gb text) p ^^^ wn (gb key) p 32 else th (gb key) (gb text) p := rfl
      have h1 := th_lt (gb_lt key) (tb := gb text) p
      have h2 := wn_lt (gb_lt key) p 32
      have HT := fun w => bit_any text p w (by omega) (by omega)
      have HK := hide (fun w => bit_any key (p + 32) w (by omega) (by omega))
      have hbk := gb_lt key (p + 32)
      have hbt := gb_lt text p
      generalize wn (gb key) p 32 = wd at *
      generalize hth0 : th (gb key) (gb text) p = h at *
      generalize gb key (p + 32) = kb at *
      by_cases hb : gb text p = 1
      · rw [if_pos hb] at hth
        rw [hb] at HT
        have HT := hide HT
        have HX := hide (cyc h wd h1 h2)
        have HW := hide (win_bits wd kb hbk)
        go_wp2_with fail
        refine (unhide HT _).mono ?_
        rintro e w1 ⟨rfl, rfl⟩
        go_wp2_with fail
        refine (unhide HK _).mono ?_
        rintro e w1 ⟨rfl, rfl⟩
        go_wp2_with fail
        rw [unhide HW, unhide HX]
        go_step3
        refine ⟨rfl, tj_one (p := p) (by omega) hth.symm (unhide hs), ?_⟩
        have e := unhide HP
        simp only [intOf] at e ⊢
        simp
        omega
      · rw [if_neg hb] at hth
        rw [show gb text p = 0 by omega] at HT
        have HT := hide HT
        have HW := hide (win_bits wd kb hbk)
        go_wp2_with fail
        refine (unhide HT _).mono ?_
        rintro e w1 ⟨rfl, rfl⟩
        go_wp2_with fail
        refine (unhide HK _).mono ?_
        rintro e w1 ⟨rfl, rfl⟩
        go_wp2_with fail
        rw [unhide HW]
        go_step3
        refine ⟨rfl, tj_one (p := p) (by omega) hth.symm (unhide hs), ?_⟩
        have e := unhide HP
        simp only [intOf] at e ⊢
        simp
        omega
    · have e : p = 8 * text.size := by omega
      subst e
      go_wp2_with fail
      simp only [Exit.jump]
      go_ret
      exact ⟨rfl, _, rfl⟩

end Go.Proofs.Ytkhkobdbbffkbaa
