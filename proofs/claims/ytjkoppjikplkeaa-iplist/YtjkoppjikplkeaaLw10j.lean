/- The statement IpList of layer 10, as a contract over the loaded program. -/
import Derived.Test.YtjkoppjikplkeaaIo9
import Derived.Test.YtjkoppjikplkeaaAlA
namespace Go.Proofs.Ytjkoppjikplkeaa
open Go.RowKit

set_option maxRecDepth 20000 in
set_option maxHeartbeats 4000000 in
theorem list_long (sv : Value) (a : Option Addr) (n cap : Nat) (L : List Po) (s : ByteArray) (w : World) (hsv : sv = .slice a n cap) (hI : OptsAt w.heap.size w sv L)
    (r : Bool) (hr : r = true ∨ (r = false ∧ 4096 < s.size)) (H1 : Hid (Calls Try.prog 17 #[sv] w fun e w' => e = .returned (.bool r) ∧ Below w.heap.size w w')) :
    Calls Try.prog 8 #[sv, .string s] w fun e w' => e = .returned (.bool true) ∧ Below w.heap.size w w' := by
  subst hsv
  have HA := hide alive_any
  clear hI
  rcases hr with rfl | ⟨rfl, hr⟩
  all_goals
    go_enter Try.func8, Try.ntmps8
    go_wp2_with fail
    refine (unhide H1).mono ?_
    rintro e w1 ⟨rfl, b1⟩
    have B1 := hide b1
    clear b1
    go_wp2_with fail
    refine (unhide HA _).mono ?_
    rintro e wa ⟨rfl, ba⟩
    go_wp2_with fail
    go_ret
    exact ⟨rfl, tr2 (unhide B1) ba⟩

theorem opts_on {w w' : World} {sv : Value} {L : List Po} (h : OptsAt w.heap.size w sv L) (b : Below w.heap.size w w') : OptsAt w'.heap.size w' sv L := by
  rcases h.below b with q | ⟨g, off, cap, e, hb, hc⟩
  · exact .inl q
  · exact .inr ⟨g, off, cap, e, Nat.lt_of_lt_of_le hb b.size, hc⟩

set_option maxRecDepth 20000 in
set_option maxHeartbeats 4000000 in
theorem list_0_long (sv : Value) (a : Option Addr) (n cap : Nat) (L : List Po) (s : ByteArray) (w : World) (hsv : sv = .slice a n cap) (hI : OptsAt w.heap.size w sv L)
    (hs : ¬ 4096 < s.size) (b : ByteArray) (E : Int) (hE : E = 0) (hb1 : b.size ≤ 40) (hb2 : b.size % 4 = 0) (hl : 40 < s.size)
    (H1 : Hid (Calls Try.prog 17 #[sv] w fun e w' => e = .returned (.bool false) ∧ Below w.heap.size w w'))
    (H2 : Hid (∀ w, OptsAt w.heap.size w sv L → Calls Try.prog 18 #[sv] w fun e w' => e = .returned (.tuple #[.string b, .int .i64 E]) ∧ Below w.heap.size w w'))
    (H3 : Hid (∀ w, Calls Try.prog 20 #[.string b] w fun e w' => ∃ sp sc, e = .returned (.tuple #[.slice sp n sc, .int .i64 0]) ∧ OptsAt w'.heap.size w' (.slice sp n sc) L ∧ Below w.heap.size w w'))
    (H4 : Hid (∀ w sp sc, OptsAt w.heap.size w sv L → OptsAt w.heap.size w (.slice sp n sc) L → Calls Try.prog 22 #[sv, .slice sp n sc] w fun e w' => e = .returned (.bool true) ∧ Below w.heap.size w w'))
    (H5 : Hid (∀ w, Calls Try.prog 20 #[.string s] w fun e w' => e = .returned (.tuple #[.slice none 0 0, .int .i64 4]) ∧ Below w.heap.size w w')) :
    Calls Try.prog 8 #[sv, .string s] w fun e w' => e = .returned (.bool true) ∧ Below w.heap.size w w' := by
  subst hsv
  have HA := hide alive_any
  have I0 := hide hI
  clear hI
  subst hE
  go_enter Try.func8, Try.ntmps8
  go_wp2_with fail
  refine (unhide H1).mono ?_
  rintro e w1 ⟨rfl, b1⟩
  have I1 := hide (opts_on (unhide I0) b1)
  have B1 := hide b1
  clear b1 H1 I0
  go_wp2_with fail
  refine (unhide H2 _ (unhide I1)).mono ?_
  rintro e w2 ⟨rfl, b2⟩
  have I2 := hide (opts_on (unhide I1) b2)
  have B2 := hide (tr2 (unhide B1) b2)
  clear b2 H2 I1 B1
  go_wp2_with fail
  refine (unhide H3 _).mono ?_
  rintro e w3 ⟨sp3, sc3, rfl, o3, b3⟩
  have I3 := hide (opts_on (unhide I2) b3)
  have O3 := hide o3
  have B3 := hide (tr2 (unhide B2) b3)
  clear b3 o3 H3 I2 B2
  go_wp2_with fail
  refine (unhide H4 _ _ _ (unhide I3) (unhide O3)).mono ?_
  rintro e w4 ⟨rfl, b4⟩
  have B4 := hide (tr2 (unhide B3) b4)
  clear b4 B3 I3 O3 H4
  go_wp2_with fail
  refine (unhide H5 _).mono ?_
  rintro e w5 ⟨rfl, b5⟩
  have B5 := hide (tr2 (unhide B4) b5)
  clear b5 B4 H5
  go_wp2_with fail
  refine (unhide HA _).mono ?_
  rintro e wa ⟨rfl, ba⟩
  go_wp2_with fail
  go_ret
  exact ⟨rfl, tr2 (unhide B5) ba⟩

set_option maxRecDepth 20000 in
set_option maxHeartbeats 4000000 in
theorem list_0_none (sv : Value) (a : Option Addr) (n cap : Nat) (L : List Po) (s : ByteArray) (w : World) (hsv : sv = .slice a n cap) (hI : OptsAt w.heap.size w sv L)
    (hs : ¬ 4096 < s.size) (b : ByteArray) (E : Int) (hE : E = 0) (hb1 : b.size ≤ 40) (hb2 : b.size % 4 = 0) (hl : s.size ≤ 40)
    (H1 : Hid (Calls Try.prog 17 #[sv] w fun e w' => e = .returned (.bool false) ∧ Below w.heap.size w w'))
    (H2 : Hid (∀ w, OptsAt w.heap.size w sv L → Calls Try.prog 18 #[sv] w fun e w' => e = .returned (.tuple #[.string b, .int .i64 E]) ∧ Below w.heap.size w w'))
    (H3 : Hid (∀ w, Calls Try.prog 20 #[.string b] w fun e w' => ∃ sp sc, e = .returned (.tuple #[.slice sp n sc, .int .i64 0]) ∧ OptsAt w'.heap.size w' (.slice sp n sc) L ∧ Below w.heap.size w w'))
    (H4 : Hid (∀ w sp sc, OptsAt w.heap.size w sv L → OptsAt w.heap.size w (.slice sp n sc) L → Calls Try.prog 22 #[sv, .slice sp n sc] w fun e w' => e = .returned (.bool true) ∧ Below w.heap.size w w'))
    (H5 : Hid (∀ w, Calls Try.prog 20 #[.string s] w fun e w' => e = .returned (.tuple #[.slice none 0 0, .int .i64 102]) ∧ Below w.heap.size w w')) :
    Calls Try.prog 8 #[sv, .string s] w fun e w' => e = .returned (.bool true) ∧ Below w.heap.size w w' := by
  subst hsv
  have HA := hide alive_any
  have I0 := hide hI
  clear hI
  subst hE
  have d40 := decide_eq_false (show ¬ (40 : Int) < (s.size : Int) by omega)
  clear hl
  go_enter Try.func8, Try.ntmps8
  go_wp2_with fail
  refine (unhide H1).mono ?_
  rintro e w1 ⟨rfl, b1⟩
  have I1 := hide (opts_on (unhide I0) b1)
  have B1 := hide b1
  clear b1 H1 I0
  go_wp2_with fail
  refine (unhide H2 _ (unhide I1)).mono ?_
  rintro e w2 ⟨rfl, b2⟩
  have I2 := hide (opts_on (unhide I1) b2)
  have B2 := hide (tr2 (unhide B1) b2)
  clear b2 H2 I1 B1
  go_wp2_with fail
  refine (unhide H3 _).mono ?_
  rintro e w3 ⟨sp3, sc3, rfl, o3, b3⟩
  have I3 := hide (opts_on (unhide I2) b3)
  have O3 := hide o3
  have B3 := hide (tr2 (unhide B2) b3)
  clear b3 o3 H3 I2 B2
  go_wp2_with fail
  refine (unhide H4 _ _ _ (unhide I3) (unhide O3)).mono ?_
  rintro e w4 ⟨rfl, b4⟩
  have B4 := hide (tr2 (unhide B3) b4)
  clear b4 B3 I3 O3 H4
  go_wp2_with fail
  refine (unhide H5 _).mono ?_
  rintro e w5 ⟨rfl, b5⟩
  have B5 := hide (tr2 (unhide B4) b5)
  clear b5 B4 H5
  go_wp2_with fail
  refine (unhide HA _).mono ?_
  rintro e wa ⟨rfl, ba⟩
  go_wp2_with fail
  go_ret
  exact ⟨rfl, tr2 (unhide B5) ba⟩

set_option maxRecDepth 20000 in
set_option maxHeartbeats 4000000 in
theorem list_0_some (sv : Value) (a : Option Addr) (n cap : Nat) (L : List Po) (s : ByteArray) (w : World) (hsv : sv = .slice a n cap) (hI : OptsAt w.heap.size w sv L)
    (hs : ¬ 4096 < s.size) (b : ByteArray) (E : Int) (hE : E = 0) (hb1 : b.size ≤ 40) (hb2 : b.size % 4 = 0) (hl : s.size ≤ 40) (M : List Po) (m : Nat) (c : ByteArray) (hc : (c.size : Int) ≤ ((s.size : Int) + 3) / 4 * 4)
    (H1 : Hid (Calls Try.prog 17 #[sv] w fun e w' => e = .returned (.bool false) ∧ Below w.heap.size w w'))
    (H2 : Hid (∀ w, OptsAt w.heap.size w sv L → Calls Try.prog 18 #[sv] w fun e w' => e = .returned (.tuple #[.string b, .int .i64 E]) ∧ Below w.heap.size w w'))
    (H3 : Hid (∀ w, Calls Try.prog 20 #[.string b] w fun e w' => ∃ sp sc, e = .returned (.tuple #[.slice sp n sc, .int .i64 0]) ∧ OptsAt w'.heap.size w' (.slice sp n sc) L ∧ Below w.heap.size w w'))
    (H4 : Hid (∀ w sp sc, OptsAt w.heap.size w sv L → OptsAt w.heap.size w (.slice sp n sc) L → Calls Try.prog 22 #[sv, .slice sp n sc] w fun e w' => e = .returned (.bool true) ∧ Below w.heap.size w w'))
    (H5 : Hid (∀ w, Calls Try.prog 20 #[.string s] w fun e w' => ∃ sp sc, e = .returned (.tuple #[.slice sp m sc, .int .i64 0]) ∧ OptsAt w'.heap.size w' (.slice sp m sc) M ∧ Below w.heap.size w w'))
    (H6 : Hid (∀ w sp sc, OptsAt w.heap.size w (.slice sp m sc) M → Calls Try.prog 18 #[.slice sp m sc] w fun e w' => e = .returned (.tuple #[.string c, .int .i64 0]) ∧ Below w.heap.size w w'))
    (H7 : Hid (∀ w, Calls Try.prog 20 #[.string c] w fun e w' => ∃ sp sc, e = .returned (.tuple #[.slice sp m sc, .int .i64 0]) ∧ OptsAt w'.heap.size w' (.slice sp m sc) M ∧ Below w.heap.size w w'))
    (H8 : Hid (∀ w sp sc sp2 sc2, OptsAt w.heap.size w (.slice sp m sc) M → OptsAt w.heap.size w (.slice sp2 m sc2) M → Calls Try.prog 22 #[.slice sp m sc, .slice sp2 m sc2] w fun e w' => e = .returned (.bool true) ∧ Below w.heap.size w w')) :
    Calls Try.prog 8 #[sv, .string s] w fun e w' => e = .returned (.bool true) ∧ Below w.heap.size w w' := by
  subst hsv
  have HA := hide alive_any
  have I0 := hide hI
  clear hI
  subst hE
  go_enter Try.func8, Try.ntmps8
  go_wp2_with fail
  refine (unhide H1).mono ?_
  rintro e w1 ⟨rfl, b1⟩
  have I1 := hide (opts_on (unhide I0) b1)
  have B1 := hide b1
  clear b1 H1 I0
  go_wp2_with fail
  refine (unhide H2 _ (unhide I1)).mono ?_
  rintro e w2 ⟨rfl, b2⟩
  have I2 := hide (opts_on (unhide I1) b2)
  have B2 := hide (tr2 (unhide B1) b2)
  clear b2 H2 I1 B1
  go_wp2_with fail
  refine (unhide H3 _).mono ?_
  rintro e w3 ⟨sp3, sc3, rfl, o3, b3⟩
  have I3 := hide (opts_on (unhide I2) b3)
  have O3 := hide o3
  have B3 := hide (tr2 (unhide B2) b3)
  clear b3 o3 H3 I2 B2
  go_wp2_with fail
  refine (unhide H4 _ _ _ (unhide I3) (unhide O3)).mono ?_
  rintro e w4 ⟨rfl, b4⟩
  have B4 := hide (tr2 (unhide B3) b4)
  clear b4 B3 I3 O3 H4
  go_wp2_with fail
  refine (unhide H5 _).mono ?_
  rintro e w5 ⟨sp5, sc5, rfl, o5, b5⟩
  have O5 := hide o5
  have B5 := hide (tr2 (unhide B4) b5)
  clear b5 o5 H5 B4
  go_wp2_with fail
  refine (unhide H6 _ _ _ (unhide O5)).mono ?_
  rintro e w6 ⟨rfl, b6⟩
  have O6 := hide (opts_on (unhide O5) b6)
  have B6 := hide (tr2 (unhide B5) b6)
  clear b6 O5 B5 H6
  go_wp2_with fail
  refine (unhide H7 _).mono ?_
  rintro e w7 ⟨sp7, sc7, rfl, o7, b7⟩
  have O7 := hide o7
  have P7 := hide (opts_on (unhide O6) b7)
  have B7 := hide (tr2 (unhide B6) b7)
  clear b7 o7 O6 B6 H7
  go_wp2_with fail
  refine (unhide H8 _ _ _ _ _ (unhide P7) (unhide O7)).mono ?_
  rintro e w8 ⟨rfl, b8⟩
  have B8 := hide (tr2 (unhide B7) b8)
  clear b8 B7 O7 P7 H8
  go_wp2_with fail
  refine (unhide HA _).mono ?_
  rintro e wa ⟨rfl, ba⟩
  go_wp2_with fail
  go_ret
  exact ⟨rfl, tr2 (unhide B8) ba⟩

set_option maxRecDepth 20000 in
set_option maxHeartbeats 4000000 in
theorem list_1_long (sv : Value) (a : Option Addr) (n cap : Nat) (L : List Po) (s : ByteArray) (w : World) (hsv : sv = .slice a n cap) (hI : OptsAt w.heap.size w sv L)
    (hs : ¬ 4096 < s.size) (b : ByteArray) (E : Int) (hE : (E != 0) = true) (hl : 40 < s.size)
    (H1 : Hid (Calls Try.prog 17 #[sv] w fun e w' => e = .returned (.bool false) ∧ Below w.heap.size w w'))
    (H2 : Hid (∀ w, OptsAt w.heap.size w sv L → Calls Try.prog 18 #[sv] w fun e w' => e = .returned (.tuple #[.string b, .int .i64 E]) ∧ Below w.heap.size w w'))
    (H5 : Hid (∀ w, Calls Try.prog 20 #[.string s] w fun e w' => e = .returned (.tuple #[.slice none 0 0, .int .i64 4]) ∧ Below w.heap.size w w')) :
    Calls Try.prog 8 #[sv, .string s] w fun e w' => e = .returned (.bool true) ∧ Below w.heap.size w w' := by
  subst hsv
  have HA := hide alive_any
  have I0 := hide hI
  clear hI
  go_enter Try.func8, Try.ntmps8
  go_wp2_with fail
  refine (unhide H1).mono ?_
  rintro e w1 ⟨rfl, b1⟩
  have I1 := hide (opts_on (unhide I0) b1)
  have B1 := hide b1
  clear b1 H1 I0
  go_wp2_with fail
  refine (unhide H2 _ (unhide I1)).mono ?_
  rintro e w2 ⟨rfl, b2⟩
  have I2 := hide (opts_on (unhide I1) b2)
  have B2 := hide (tr2 (unhide B1) b2)
  clear b2 H2 I1 B1
  go_wp2_with fail
  refine (unhide H5 _).mono ?_
  rintro e w5 ⟨rfl, b5⟩
  have B5 := hide (tr2 (unhide B2) b5)
  clear b5 B2 H5
  go_wp2_with fail
  refine (unhide HA _).mono ?_
  rintro e wa ⟨rfl, ba⟩
  go_wp2_with fail
  go_ret
  exact ⟨rfl, tr2 (unhide B5) ba⟩

set_option maxRecDepth 20000 in
set_option maxHeartbeats 4000000 in
theorem list_1_none (sv : Value) (a : Option Addr) (n cap : Nat) (L : List Po) (s : ByteArray) (w : World) (hsv : sv = .slice a n cap) (hI : OptsAt w.heap.size w sv L)
    (hs : ¬ 4096 < s.size) (b : ByteArray) (E : Int) (hE : (E != 0) = true) (hl : s.size ≤ 40)
    (H1 : Hid (Calls Try.prog 17 #[sv] w fun e w' => e = .returned (.bool false) ∧ Below w.heap.size w w'))
    (H2 : Hid (∀ w, OptsAt w.heap.size w sv L → Calls Try.prog 18 #[sv] w fun e w' => e = .returned (.tuple #[.string b, .int .i64 E]) ∧ Below w.heap.size w w'))
    (H5 : Hid (∀ w, Calls Try.prog 20 #[.string s] w fun e w' => e = .returned (.tuple #[.slice none 0 0, .int .i64 102]) ∧ Below w.heap.size w w')) :
    Calls Try.prog 8 #[sv, .string s] w fun e w' => e = .returned (.bool true) ∧ Below w.heap.size w w' := by
  subst hsv
  have HA := hide alive_any
  have I0 := hide hI
  clear hI
  have d40 := decide_eq_false (show ¬ (40 : Int) < (s.size : Int) by omega)
  clear hl
  go_enter Try.func8, Try.ntmps8
  go_wp2_with fail
  refine (unhide H1).mono ?_
  rintro e w1 ⟨rfl, b1⟩
  have I1 := hide (opts_on (unhide I0) b1)
  have B1 := hide b1
  clear b1 H1 I0
  go_wp2_with fail
  refine (unhide H2 _ (unhide I1)).mono ?_
  rintro e w2 ⟨rfl, b2⟩
  have I2 := hide (opts_on (unhide I1) b2)
  have B2 := hide (tr2 (unhide B1) b2)
  clear b2 H2 I1 B1
  go_wp2_with fail
  refine (unhide H5 _).mono ?_
  rintro e w5 ⟨rfl, b5⟩
  have B5 := hide (tr2 (unhide B2) b5)
  clear b5 B2 H5
  go_wp2_with fail
  refine (unhide HA _).mono ?_
  rintro e wa ⟨rfl, ba⟩
  go_wp2_with fail
  go_ret
  exact ⟨rfl, tr2 (unhide B5) ba⟩

set_option maxRecDepth 20000 in
set_option maxHeartbeats 4000000 in
theorem list_1_some (sv : Value) (a : Option Addr) (n cap : Nat) (L : List Po) (s : ByteArray) (w : World) (hsv : sv = .slice a n cap) (hI : OptsAt w.heap.size w sv L)
    (hs : ¬ 4096 < s.size) (b : ByteArray) (E : Int) (hE : (E != 0) = true) (hl : s.size ≤ 40) (M : List Po) (m : Nat) (c : ByteArray) (hc : (c.size : Int) ≤ ((s.size : Int) + 3) / 4 * 4)
    (H1 : Hid (Calls Try.prog 17 #[sv] w fun e w' => e = .returned (.bool false) ∧ Below w.heap.size w w'))
    (H2 : Hid (∀ w, OptsAt w.heap.size w sv L → Calls Try.prog 18 #[sv] w fun e w' => e = .returned (.tuple #[.string b, .int .i64 E]) ∧ Below w.heap.size w w'))
    (H5 : Hid (∀ w, Calls Try.prog 20 #[.string s] w fun e w' => ∃ sp sc, e = .returned (.tuple #[.slice sp m sc, .int .i64 0]) ∧ OptsAt w'.heap.size w' (.slice sp m sc) M ∧ Below w.heap.size w w'))
    (H6 : Hid (∀ w sp sc, OptsAt w.heap.size w (.slice sp m sc) M → Calls Try.prog 18 #[.slice sp m sc] w fun e w' => e = .returned (.tuple #[.string c, .int .i64 0]) ∧ Below w.heap.size w w'))
    (H7 : Hid (∀ w, Calls Try.prog 20 #[.string c] w fun e w' => ∃ sp sc, e = .returned (.tuple #[.slice sp m sc, .int .i64 0]) ∧ OptsAt w'.heap.size w' (.slice sp m sc) M ∧ Below w.heap.size w w'))
    (H8 : Hid (∀ w sp sc sp2 sc2, OptsAt w.heap.size w (.slice sp m sc) M → OptsAt w.heap.size w (.slice sp2 m sc2) M → Calls Try.prog 22 #[.slice sp m sc, .slice sp2 m sc2] w fun e w' => e = .returned (.bool true) ∧ Below w.heap.size w w')) :
    Calls Try.prog 8 #[sv, .string s] w fun e w' => e = .returned (.bool true) ∧ Below w.heap.size w w' := by
  subst hsv
  have HA := hide alive_any
  have I0 := hide hI
  clear hI
  go_enter Try.func8, Try.ntmps8
  go_wp2_with fail
  refine (unhide H1).mono ?_
  rintro e w1 ⟨rfl, b1⟩
  have I1 := hide (opts_on (unhide I0) b1)
  have B1 := hide b1
  clear b1 H1 I0
  go_wp2_with fail
  refine (unhide H2 _ (unhide I1)).mono ?_
  rintro e w2 ⟨rfl, b2⟩
  have I2 := hide (opts_on (unhide I1) b2)
  have B2 := hide (tr2 (unhide B1) b2)
  clear b2 H2 I1 B1
  go_wp2_with fail
  refine (unhide H5 _).mono ?_
  rintro e w5 ⟨sp5, sc5, rfl, o5, b5⟩
  have O5 := hide o5
  have B5 := hide (tr2 (unhide B2) b5)
  clear b5 o5 H5 B2
  go_wp2_with fail
  refine (unhide H6 _ _ _ (unhide O5)).mono ?_
  rintro e w6 ⟨rfl, b6⟩
  have O6 := hide (opts_on (unhide O5) b6)
  have B6 := hide (tr2 (unhide B5) b6)
  clear b6 O5 B5 H6
  go_wp2_with fail
  refine (unhide H7 _).mono ?_
  rintro e w7 ⟨sp7, sc7, rfl, o7, b7⟩
  have O7 := hide o7
  have P7 := hide (opts_on (unhide O6) b7)
  have B7 := hide (tr2 (unhide B6) b7)
  clear b7 o7 O6 B6 H7
  go_wp2_with fail
  refine (unhide H8 _ _ _ _ _ (unhide P7) (unhide O7)).mono ?_
  rintro e w8 ⟨rfl, b8⟩
  have B8 := hide (tr2 (unhide B7) b8)
  clear b8 B7 O7 P7 H8
  go_wp2_with fail
  refine (unhide HA _).mono ?_
  rintro e wa ⟨rfl, ba⟩
  go_wp2_with fail
  go_ret
  exact ⟨rfl, tr2 (unhide B8) ba⟩

end Go.Proofs.Ytjkoppjikplkeaa
