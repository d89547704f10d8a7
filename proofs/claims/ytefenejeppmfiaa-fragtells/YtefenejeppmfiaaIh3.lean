/- The contracts of package ip4's measure and its closures, over the loaded program; no memory that was there has turned. Conditions: texts of bounded length. -/
import Derived.Test.YtefenejeppmfiaaIh2
import Derived.WalkMore
import Derived.ScopeJumps
namespace Go.Proofs.Ytefenejeppmfiaa
open Go.RowKit

theorem ret_i64 {x y : Int} (h : x = y) : Ending.returned (.int .i64 x) = .returned (.int .i64 y) := by rw [h]
theorem byteAt_eq {s : ByteArray} {k : Nat} (h : k < s.size) : s[k].toNat = byteAt s.data.toList k := by
  unfold byteAt
  have h' : k < s.data.size := h
  rw [List.getD_eq_getElem?_getD, Array.getElem?_toList, Array.getElem?_eq_getElem h']
  rfl
theorem byteAt_lt (l : List UInt8) (k : Nat) : byteAt l k < 256 := UInt8.toNat_lt _
theorem twoAt_lt (l : List UInt8) (k : Nat) : twoAt l k < 65536 := by
  unfold twoAt
  have h := num_lt ((l.drop k).take 2)
  have hl : ((l.drop k).take 2).length ≤ 2 := by rw [List.length_take]; omega
  exact Nat.lt_of_lt_of_le h (Nat.le_trans (Nat.pow_le_pow_right (by omega) hl) (by decide))
/-- how many bytes the head says that it has, and the packet -/
def hN (s : ByteArray) : Nat := 4 * (byteAt s.data.toList 0 % 16)
def pN (s : ByteArray) : Nat := twoAt s.data.toList 2
theorem hN_le (s : ByteArray) : hN s ≤ 60 := by unfold hN; omega
theorem pN_lt (s : ByteArray) : pN s < 65536 := twoAt_lt _ _
theorem and15 (x : Nat) (h : x < 256) : bits .and .u8 (x : Int) 15 = ((x % 16 : Nat) : Int) := by
  rw [show (15 : Int) = ((15 : Nat) : Int) from rfl, u8_and_nat x 15 h (by omega), show 15 = 2 ^ 4 - 1 from rfl, Nat.and_two_pow_sub_one_eq_mod]

set_option maxHeartbeats 400000 in
theorem headtold_any (s : ByteArray) (w : World) (hs : 0 < s.size) :
    Calls Try.prog 68 #[.string s] w fun e w' => e = .returned (.int .i64 (hN s : Nat)) ∧ w' = w := by
  have hb := byteAt_eq hs
  have hl := byteAt_lt s.data.toList 0
  have HH := hide (show hN s = 4 * (byteAt s.data.toList 0 % 16) from rfl)
  generalize hN s = H at *
  generalize byteAt s.data.toList 0 = x at *
  have hx := and15 x hl
  go_enter Try.func68, Try.ntmps68
  go_wp2
  go_ret
  exact ⟨ret_i64 (by rw [unhide HH]; omega), rfl⟩

set_option maxHeartbeats 400000 in
theorem packettold_any (s : ByteArray) (w : World) (hs : 4 ≤ s.size) (hm : s.size ≤ 1073741824) :
    Calls Try.prog 69 #[.string s] w fun e w' => e = .returned (.int .i64 (pN s : Nat)) ∧ Below w.heap.size w w' := by
  have H := hide (fun w => two_ok s 2 w (by unfold maxLen; omega) (by omega))
  rw [show num (fld s 2 2) = pN s from rfl] at H
  have hl := pN_lt s
  generalize pN s = x at *
  go_enter Try.func69, Try.ntmps69
  go_wp2_with fail
  refine (unhide H _).mono ?_
  rintro e w1 ⟨rfl, b1⟩
  go_wp2_with fail
  go_ret
  exact ⟨rfl, b1⟩

set_option maxHeartbeats 400000 in
theorem told0 (s : ByteArray) (p q : Nat) (w : World) (hs : 0 < s.size) (cs : w.cell? ⟨p, 0, none⟩ = some (.string s)) (cq : w.cell? ⟨q, 0, none⟩ = some (.int .i64 0)) :
    Calls Try.prog 67 #[.pointer (some ⟨q, 0, none⟩), .pointer (some ⟨p, 0, none⟩)] w fun e w' => e = .returned (.int .i64 (hN s : Nat)) ∧ Below w.heap.size w w' := by
  have H := hide (fun w => headtold_any s w hs)
  go_enter Try.func67, Try.ntmps67
  go_wp2_with fail
  refine (unhide H _).mono ?_
  rintro e w1 ⟨rfl, rfl⟩
  go_wp2_with fail
  go_ret
  exact ⟨rfl, Below.refl _ _⟩

set_option maxHeartbeats 400000 in
theorem told1 (s : ByteArray) (p q a : Nat) (w : World) (hs : 4 ≤ s.size) (hm : s.size ≤ 1073741824) (ha : ((a : Int) == 0) = false) (cs : w.cell? ⟨p, 0, none⟩ = some (.string s)) (cq : w.cell? ⟨q, 0, none⟩ = some (.int .i64 (a : Int))) :
    Calls Try.prog 67 #[.pointer (some ⟨q, 0, none⟩), .pointer (some ⟨p, 0, none⟩)] w fun e w' => e = .returned (.int .i64 (pN s : Nat)) ∧ Below w.heap.size w w' := by
  have H := hide (fun w => packettold_any s w hs hm)
  go_enter Try.func67, Try.ntmps67
  go_wp2_with fail
  refine (unhide H _).mono ?_
  rintro e w1 ⟨rfl, b1⟩
  go_wp2_with fail
  go_ret
  exact ⟨rfl, b1⟩

set_option maxHeartbeats 400000 in
theorem mea2_any (s : ByteArray) (p q n : Nat) (w : World) (cs : w.cell? ⟨p, 0, none⟩ = some (.string s)) (cq : w.cell? ⟨q, 0, none⟩ = some (.int .i64 (n : Int))) :
    Calls Try.prog 70 #[.pointer (some ⟨p, 0, none⟩), .pointer (some ⟨q, 0, none⟩)] w fun e w' => e = .returned (.int .i64 (if n ≤ s.size then 0 else 10)) ∧ Below w.heap.size w w' := by
  have H := hide (fun w => unless_any (decide (n ≤ s.size)) 10 w)
  by_cases h : n ≤ s.size
  · rw [decide_eq_true h] at H
    rw [if_pos h]
    go_enter Try.func70, Try.ntmps70
    go_wp2_with fail
    refine (unhide H _).mono ?_
    rintro e w1 ⟨rfl, rfl⟩
    go_wp2_with fail
    go_ret
    exact ⟨rfl, Below.refl _ _⟩
  · rw [decide_eq_false h] at H
    rw [if_neg h]
    go_enter Try.func70, Try.ntmps70
    go_wp2_with fail
    refine (unhide H _).mono ?_
    rintro e w1 ⟨rfl, rfl⟩
    go_wp2_with fail
    go_ret
    exact ⟨rfl, Below.refl _ _⟩

set_option maxHeartbeats 400000 in
theorem mea3_any (s : ByteArray) (p : Nat) (w : World) (hs : 0 < s.size) (cs : w.cell? ⟨p, 0, none⟩ = some (.string s)) :
    Calls Try.prog 71 #[.pointer (some ⟨p, 0, none⟩)] w fun e w' => e = .returned (.int .i64 (if byteAt s.data.toList 0 / 16 = 4 then 0 else 100)) ∧ Below w.heap.size w w' := by
  have hb := byteAt_eq hs
  have hl := byteAt_lt s.data.toList 0
  generalize byteAt s.data.toList 0 = x at *
  by_cases h : x / 16 = 4
  · have H := hide (fun w => unless_any true 100 w)
    have e : ((x : Int) / 16 == 4) = true := by rw [beq_iff_eq]; omega
    rw [if_pos h]
    clear h
    go_enter Try.func71, Try.ntmps71
    go_wp2_with fail
    refine (unhide H _).mono ?_
    rintro e w1 ⟨rfl, rfl⟩
    go_wp2_with fail
    go_ret
    exact ⟨rfl, Below.refl _ _⟩
  · have H := hide (fun w => unless_any false 100 w)
    have e : ((x : Int) / 16 == 4) = false := by rw [beq_eq_false_iff_ne]; omega
    rw [if_neg h]
    clear h
    go_enter Try.func71, Try.ntmps71
    go_wp2_with fail
    refine (unhide H _).mono ?_
    rintro e w1 ⟨rfl, rfl⟩
    go_wp2_with fail
    go_ret
    exact ⟨rfl, Below.refl _ _⟩

/-- the function that tells, as a value -/
abbrev toldF (q p : Nat) : Value := .func (.func 67) #[] #[.pointer (some ⟨q, 0, none⟩), .pointer (some ⟨p, 0, none⟩)]

set_option maxHeartbeats 1000000 in
theorem mea4_any (p q r t T n : Nat) (w : World) (ct : w.cell? ⟨t, 0, none⟩ = some (toldF q p)) (cn : w.cell? ⟨r, 0, none⟩ = some (.int .i64 (n : Int)))
    (H : Hid (∀ w1, Below w.heap.size w w1 → Calls Try.prog 67 #[.pointer (some ⟨q, 0, none⟩), .pointer (some ⟨p, 0, none⟩)] w1 fun e w' => e = .returned (.int .i64 (T : Nat)) ∧ Below w1.heap.size w1 w')) :
    Calls Try.prog 72 #[.pointer (some ⟨t, 0, none⟩), .pointer (some ⟨r, 0, none⟩)] w fun e w' => e = .returned (.int .i64 (if n ≤ T then 0 else 8)) ∧ Below w.heap.size w w' := by
  have H2 := fun w => unless_any (decide (n ≤ T)) 8 w
  obtain ⟨g, hg, hge⟩ := hidec (n ≤ T)
  rw [← hge] at H2
  have hE : Hid ((if g = true then (0 : Int) else 8) = if n ≤ T then 0 else 8) := by
    rw [hge]
    by_cases x : n ≤ T
    · rw [decide_eq_true x, if_pos rfl, if_pos x]; exact rfl
    · rw [decide_eq_false x, if_neg (by decide), if_neg x]; exact rfl
  rw [← unhide hE]
  clear hE
  generalize (if g = true then (0 : Int) else 8) = X at *
  have hgi : decide (n ≤ T) = g := hge.symm
  clear hg hge
  have d1 := cell_regrown ct
  have d2 := cell_regrown cn
  have q1 : ∀ d os, Calls Try.prog 67 #[.pointer (some ⟨q, 0, none⟩), .pointer (some ⟨p, 0, none⟩)] (Sort.grow (redrawn w d) os) fun e w'' => e = .returned (.int .i64 (T : Nat)) ∧ ∃ p : Regrown, w'' = Sort.grow (redrawn w p.d) p.os := fun d os => Calls.regrown_of (unhide H _ (below_regrown w d os))
  have q2 := rgB (w := w) (fun w => same_below H2 w)
  go_enter Try.func72, Try.ntmps72
  go_wp2_with fail
  refine wp_region_quiet_below (by kernel_rfl) (by kernel_rfl) ?_
  repeat (go_big_quiet_step (fail))
  go_big_quiet_step (exact q1 _ _)
  repeat (go_big_quiet_step (fail))
  go_big_quiet_step (exact q2 _ _)
  repeat (go_big_quiet_step (fail))
  refine wpQuiet_nil ?_
  intro _ hw'
  obtain ⟨⟨dq, osq⟩, hw''⟩ := hw'
  subst hw''
  go_wp2_with fail
  go_ret
  exact ⟨rfl, below_regrown w dq osq⟩

/-- what measure's closures find, where so many bytes must be there, and so many are told -/
def meaE (s : ByteArray) (T n : Nat) : Int := if n ≤ s.size then if byteAt s.data.toList 0 / 16 = 4 then if n ≤ T then 0 else 8 else 100 else 10

theorem fwmea_any (s : ByteArray) (p q r t b T n : Nat) (w : World) (h1 : 1 ≤ n) (cs : w.cell? ⟨p, 0, none⟩ = some (.string s)) (cr : w.cell? ⟨r, 0, none⟩ = some (.int .i64 (n : Int))) (ct : w.cell? ⟨t, 0, none⟩ = some (toldF q p))
    (HT : ∀ w1, Below w.heap.size w w1 → n ≤ s.size → Calls Try.prog 67 #[.pointer (some ⟨q, 0, none⟩), .pointer (some ⟨p, 0, none⟩)] w1 fun e w' => e = .returned (.int .i64 (T : Nat)) ∧ Below w1.heap.size w1 w')
    (f0 : w.cell? ⟨b, 0, none⟩ = some (.func (.func 70) #[] #[.pointer (some ⟨p, 0, none⟩), .pointer (some ⟨r, 0, none⟩)]))
    (f1 : w.cell? ⟨b, 1, none⟩ = some (.func (.func 71) #[] #[.pointer (some ⟨p, 0, none⟩)]))
    (f2 : w.cell? ⟨b, 2, none⟩ = some (.func (.func 72) #[] #[.pointer (some ⟨t, 0, none⟩), .pointer (some ⟨r, 0, none⟩)])) :
    Calls Try.prog 28 #[.slice (some ⟨b, 0, none⟩) 3 3] w fun e w' => e = .returned (.int .i64 (meaE s T n)) ∧ Below w.heap.size w w' := by
  have C2 : ∀ w', Below w.heap.size w w' → Calls Try.prog 70 #[.pointer (some ⟨p, 0, none⟩), .pointer (some ⟨r, 0, none⟩)] w' fun e w'' => e = .returned (.int .i64 (if n ≤ s.size then 0 else 10)) ∧ Below w.heap.size w w'' := fun w' hb => (mea2_any s p r n w' (below_cell cs hb) (below_cell cr hb)).mono fun _ _ h => ⟨h.1, tr2 hb h.2⟩
  by_cases h2 : n ≤ s.size
  · rw [if_pos h2] at C2
    have C3 : ∀ w', Below w.heap.size w w' → Calls Try.prog 71 #[.pointer (some ⟨p, 0, none⟩)] w' fun e w'' => e = .returned (.int .i64 (if byteAt s.data.toList 0 / 16 = 4 then 0 else 100)) ∧ Below w.heap.size w w'' := fun w' hb => (mea3_any s p w' (by omega) (below_cell cs hb)).mono fun _ _ h => ⟨h.1, tr2 hb h.2⟩
    by_cases h3 : byteAt s.data.toList 0 / 16 = 4
    · rw [if_pos h3] at C3
      have C4 : ∀ w', Below w.heap.size w w' → Calls Try.prog 72 #[.pointer (some ⟨t, 0, none⟩), .pointer (some ⟨r, 0, none⟩)] w' fun e w'' => e = .returned (.int .i64 (if n ≤ T then 0 else 8)) ∧ Below w.heap.size w w'' := fun w' hb => (mea4_any p q r t T n w' (below_cell ct hb) (below_cell cr hb) (fun w1 hb1 => HT w1 (tr2 hb hb1) h2)).mono fun _ _ h => ⟨h.1, tr2 hb h.2⟩
      by_cases h4 : n ≤ T
      · rw [if_pos h4] at C4
        have e : meaE s T n = 0 := by unfold meaE; rw [if_pos h2, if_pos h3, if_pos h4]
        rw [e]
        exact fwMea_ok b p r p t r (Below w.heap.size w) (Below w.heap.size w) (Below w.heap.size w) (Below w.heap.size w) (fun w' hb => below_cell f0 hb) C2 (fun w' hb => below_cell f1 hb) C3 (fun w' hb => below_cell f2 hb) C4 w (Below.refl _ _)
      · rw [if_neg h4] at C4
        have e : meaE s T n = 8 := by unfold meaE; rw [if_pos h2, if_pos h3, if_neg h4]
        rw [e]
        exact fwMea_2 b p r p t r (Below w.heap.size w) (Below w.heap.size w) (Below w.heap.size w) (Below w.heap.size w) 8 (fun w' hb => below_cell f0 hb) C2 (fun w' hb => below_cell f1 hb) C3 (fun w' hb => below_cell f2 hb) C4 rfl w (Below.refl _ _)
    · rw [if_neg h3] at C3
      have e : meaE s T n = 100 := by unfold meaE; rw [if_pos h2, if_neg h3]
      rw [e]
      exact fwMea_1 b p r p (Below w.heap.size w) (Below w.heap.size w) (Below w.heap.size w) 100 (fun w' hb => below_cell f0 hb) C2 (fun w' hb => below_cell f1 hb) C3 rfl w (Below.refl _ _)
  · rw [if_neg h2] at C2
    have e : meaE s T n = 10 := by unfold meaE; rw [if_neg h2]
    rw [e]
    exact fwMea_0 b p r (Below w.heap.size w) (Below w.heap.size w) 10 (fun w' hb => below_cell f0 hb) C2 rfl w (Below.refl _ _)

/-- what measure's own blocks hold: the text, the head's size, the bytes that must be there, the function that tells -/
abbrev mt (B : Nat) (s : ByteArray) (a c : Nat) : Nat → Nat → Option Value := add (add (add (add (fun _ _ => none) 0 [.string s]) 1 [.int .i64 (a : Int)]) 2 [.int .i64 (c : Int)]) 3 [toldF (B + 1) B]
theorem mt_head {w w' : World} {s : ByteArray} {a c : Nat} (k : Tab w 4 (mt w.heap.size s a c) w') (a' : Nat) : Tab w 4 (mt w.heap.size s a' c) (w'.setCell ⟨w.heap.size + 1, 0, none⟩ (.int .i64 (a' : Int))) := by
  refine (k.set 1 0 _ _ rfl).as fun b j v e => ?_
  unfold upd
  by_cases h : b = 1 ∧ j = 0
  · obtain ⟨rfl, rfl⟩ := h
    rw [if_pos ⟨rfl, rfl⟩]
    exact e
  · rw [if_neg h]
    by_cases hb : b = 1
    · subst hb
      have hj : j ≠ 0 := fun x => h ⟨rfl, x⟩
      obtain ⟨j, rfl⟩ : ∃ i, j = i + 1 := ⟨j - 1, by omega⟩
      exact e
    · unfold mt add at e ⊢
      simp only [hb, if_false] at e ⊢
      exact e
theorem mt_need {w w' : World} {s : ByteArray} {a c : Nat} (k : Tab w 4 (mt w.heap.size s a c) w') (c' : Nat) : Tab w 4 (mt w.heap.size s a c') (w'.setCell ⟨w.heap.size + 2, 0, none⟩ (.int .i64 (c' : Int))) := by
  refine (k.set 2 0 _ _ rfl).as fun b j v e => ?_
  unfold upd
  by_cases h : b = 2 ∧ j = 0
  · obtain ⟨rfl, rfl⟩ := h
    rw [if_pos ⟨rfl, rfl⟩]
    exact e
  · rw [if_neg h]
    by_cases hb : b = 2
    · subst hb
      have hj : j ≠ 0 := fun x => h ⟨rfl, x⟩
      obtain ⟨j, rfl⟩ : ∃ i, j = i + 1 := ⟨j - 1, by omega⟩
      exact e
    · unfold mt add at e ⊢
      simp only [hb, if_false] at e ⊢
      exact e

/-- what measure tells -/
def meaR (s : ByteArray) : Int := if meaE s (hN s) 20 = 0 then if meaE s (pN s) (hN s) = 0 then meaE s (pN s) (pN s) else meaE s (pN s) (hN s) else meaE s (hN s) 20
def meaV (s : ByteArray) : Value := if meaR s = 0 then .tuple #[.int .i64 (hN s : Nat), .int .i64 (pN s : Nat), .int .i64 0] else .tuple #[.int .i64 0, .int .i64 0, .int .i64 (meaR s)]
abbrev meaFs (B : Nat) : List Value := [.func (.func 70) #[] #[.pointer (some ⟨B, 0, none⟩), .pointer (some ⟨B + 2, 0, none⟩)], .func (.func 71) #[] #[.pointer (some ⟨B, 0, none⟩)], .func (.func 72) #[] #[.pointer (some ⟨B + 3, 0, none⟩), .pointer (some ⟨B + 2, 0, none⟩)]]
def MF (s : ByteArray) (B k : Nat) (a : Act) : Prop := ∃ u7 u8 u9 u10 u11 u12 u13 u14 u15 u16 u17 u18 u19 u20 u21 u22 u23 u24 u25 u26 u27 u28 u29 u30 : Value,
  a = { tmps := #[.string s, .pointer (some ⟨B, 0, none⟩), .pointer (some ⟨B + 1, 0, none⟩), .int .i64 (k : Int), .int .i64 0, .pointer (some ⟨B + 2, 0, none⟩), .pointer (some ⟨B + 3, 0, none⟩), u7, u8, u9, u10, u11, u12, u13, u14, u15, u16, u17, u18, u19, u20, u21, u22, u23, u24, u25, u26, u27, u28, u29, u30], defers := [] }
def MJ (s : ByteArray) (w : World) (a : Act) (w' : World) : Prop := ∃ c k : Nat, ((k = 0 ∧ c = hN s) ∨ (k = pN s ∧ c = pN s ∧ meaE s (pN s) (hN s) = 0)) ∧ meaE s (hN s) 20 = 0 ∧ Tab w 4 (mt w.heap.size s (hN s) c) w' ∧ MF s w.heap.size k a

theorem told_tab0 {s : ByteArray} {w w1 : World} {c : Nat} (k : Tab w 4 (mt w.heap.size s 0 c) w1) (hs : 0 < s.size) :
    Calls Try.prog 67 #[.pointer (some ⟨w.heap.size + 1, 0, none⟩), .pointer (some ⟨w.heap.size, 0, none⟩)] w1 fun e w' => e = .returned (.int .i64 (hN s : Nat)) ∧ Tab w 4 (mt w.heap.size s 0 c) w' :=
  (told0 s w.heap.size (w.heap.size + 1) w1 hs (k.cells 0 0 _ rfl) (k.cells 1 0 _ rfl)).mono fun _ _ h => ⟨h.1, k.on h.2⟩
theorem told_tab1 {s : ByteArray} {w w1 : World} {a c : Nat} (k : Tab w 4 (mt w.heap.size s a c) w1) (hs : 4 ≤ s.size) (hm : s.size ≤ 1073741824) (ha : a ≠ 0) :
    Calls Try.prog 67 #[.pointer (some ⟨w.heap.size + 1, 0, none⟩), .pointer (some ⟨w.heap.size, 0, none⟩)] w1 fun e w' => e = .returned (.int .i64 (pN s : Nat)) ∧ Tab w 4 (mt w.heap.size s a c) w' :=
  (told1 s w.heap.size (w.heap.size + 1) a w1 hs hm (by rw [beq_eq_false_iff_ne]; omega) (k.cells 0 0 _ rfl) (k.cells 1 0 _ rfl)).mono fun _ _ h => ⟨h.1, k.on h.2⟩
theorem fwmea_tab {s : ByteArray} {w w1 : World} {a c : Nat} (T : Nat) (k : Tab w 4 (mt w.heap.size s a c) w1) (h1 : 1 ≤ c)
    (HT : ∀ w2, Tab w 4 (mt w.heap.size s a c) w2 → c ≤ s.size → Calls Try.prog 67 #[.pointer (some ⟨w.heap.size + 1, 0, none⟩), .pointer (some ⟨w.heap.size, 0, none⟩)] w2 fun e w' => e = .returned (.int .i64 (T : Nat)) ∧ Below w2.heap.size w2 w') :
    Calls Try.prog 28 #[.slice (some ⟨w1.heap.size, 0, none⟩) 3 3] (w1.alloc (.cells (meaFs w.heap.size).toArray 68)) fun e w' => e = .returned (.int .i64 (meaE s T c)) ∧ Tab w 4 (mt w.heap.size s a c) w' := by
  have k1 := k.on (below_one w1 (.cells (meaFs w.heap.size).toArray 68))
  have e := heap_alloc_new w1 (.cells (meaFs w.heap.size).toArray 68)
  exact (fwmea_any s w.heap.size (w.heap.size + 1) (w.heap.size + 2) (w.heap.size + 3) w1.heap.size T c _ h1 (k1.cells 0 0 _ rfl) (k1.cells 2 0 _ rfl) (k1.cells 3 0 _ rfl) (fun w2 hb hs => HT w2 (k1.on hb) hs) (cell_of_row _ _ 0 _ _ _ e) (cell_of_row _ _ 1 _ _ _ e) (cell_of_row _ _ 2 _ _ _ e)).mono fun _ _ h => ⟨h.1, k1.on h.2⟩
theorem meaE_zero {s : ByteArray} {T n : Nat} (h : meaE s T n = 0) : n ≤ s.size ∧ byteAt s.data.toList 0 / 16 = 4 ∧ n ≤ T := by
  unfold meaE at h
  split at h
  · rename_i h1
    split at h
    · rename_i h2
      split at h
      · rename_i h3; exact ⟨h1, h2, h3⟩
      · cases h
    · cases h
  · cases h
theorem mea_start (s : ByteArray) (w : World) : Tab w 4 (mt w.heap.size s 0 20) ((((w.alloc (.cells #[.string s] 9)).alloc (.cells #[.int .i64 0] 3)).alloc (.cells #[.int .i64 20] 3)).alloc (.cells #[toldF (w.heap.size + 1) w.heap.size] 92)) :=
  ((((Tab.zero w).alloc rfl [.string s] 9).alloc (by simp) [.int .i64 ((0 : Nat) : Int)] 3).alloc (by simp) [.int .i64 ((20 : Nat) : Int)] 3).alloc (by simp) [toldF (w.heap.size + 1) w.heap.size] 92
theorem bel_head0 {w w' : World} (h : Below w.heap.size w w') (v : Value) : Below w.heap.size w (w'.setCell ⟨w.heap.size + 1, 0, none⟩ v) := h.setCell (p := ⟨w.heap.size + 1, 0, none⟩) (Nat.le_succ _) _

set_option maxHeartbeats 2000000 in
theorem measure_any (s : ByteArray) (w : World) (hm : s.size ≤ 1073741824) :
    Calls Try.prog 27 #[.string s] w fun e w' => e = .returned (meaV s) ∧ Below w.heap.size w w' := by
  have K := hide (mea_start s w)
  obtain ⟨V, hV⟩ : ∃ V, meaV s = V := ⟨_, rfl⟩
  rw [hV]
  have HV := hide hV
  clear hV
  go_enter Try.func27, Try.ntmps27
  go_wp2_with fail
  refine wp_scope_jumps 0 (MJ s w) (fun a' _ => if (intOf (a'.tmps.getD 3 undef)) = 0 then 1 else 0) rfl ?_ ?_
  · go_wp2_with fail
    go_step3
    simp only [Nat.add_assoc, Nat.reduceAdd]
    generalize (((w.alloc _).alloc _).alloc _).alloc _ = W0 at *
    have H := hide (fwmea_tab (hN s) (unhide K) (by omega) (fun w2 k2 hs => (told0 s w.heap.size (w.heap.size + 1) w2 (by omega) (k2.cells 0 0 _ rfl) (k2.cells 1 0 _ rfl))))
    clear K
    by_cases h1 : meaE s (hN s) 20 = 0
    · have E1 := hide h1
      rw [h1] at H
      have HS := hide (meaE_zero h1)
      clear h1
      go_wp2_with fail
      refine (unhide H).mono ?_
      rintro e W1 ⟨rfl, k1⟩
      clear H
      have K1 := hide k1
      have q0 := k1.cells 1 0 _ rfl
      have q1 := k1.cells 3 0 _ rfl
      simp only [Int.ofNat_zero] at q0
      clear k1
      go_wp2_with fail
      refine (told_tab0 (unhide K1) (by have := unhide HS; omega)).mono ?_
      rintro e W2 ⟨rfl, k2⟩
      clear K1 q0 q1
      have q0 := k2.cells 1 0 _ rfl
      have q1 := k2.cells 2 0 _ rfl
      have g0 := k2.free 1 0 _ rfl
      have g1 := k2.free 2 0 _ rfl
      have K3 := hide (mt_need (mt_head k2 (hN s)) (hN s))
      clear k2
      go_wp2_with fail
      go_step3
      exact ⟨rfl, hN s, 0, .inl ⟨rfl, rfl⟩, unhide E1, unhide K3, _, _, _, _, _, _, _, _, _, _, _, _, _, _, _, _, _, _, _, _, _, _, _, _, rfl⟩
    · obtain ⟨e1, he1⟩ : ∃ e1, meaE s (hN s) 20 = e1 := ⟨_, rfl⟩
      have HR : Hid (V = .tuple #[.int .i64 0, .int .i64 0, .int .i64 e1]) := by
        have : meaR s = e1 := by unfold meaR; rw [if_neg h1, he1]
        rw [← unhide HV]; unfold meaV; rw [this, if_neg (by rw [← he1]; exact h1)]; exact rfl
      rw [he1] at H
      have hne : (e1 != 0) = true := by rw [← he1]; simpa using h1
      clear h1 he1
      go_wp2_with fail
      refine (unhide H).mono ?_
      rintro e W1 ⟨rfl, k1⟩
      clear H
      have q0 := k1.cells 1 0 _ rfl
      have g0 := k1.free 1 0 _ rfl
      have B := hide (bel_head0 k1.bel (.int .i64 0))
      simp only [Int.ofNat_zero] at q0
      clear k1
      go_wp2_with fail
      simp only [Exit.jump]
      refine bodyPost_ret (v := .tuple #[.int .i64 0, .int .i64 0, .int .i64 e1]) (by simp [results, Try.results27, go_sem, q0]) rfl ⟨by rw [unhide HR], unhide B⟩
  · rintro a' w' ⟨c, k, hck, E1, K, u7, u8, u9, u10, u11, u12, u13, u14, u15, u16, u17, u18, u19, u20, u21, u22, u23, u24, u25, u26, u27, u28, u29, u30, rfl⟩
    have HS := hide (meaE_zero E1)
    have E1 := hide E1
    have hN0 : ((hN s : Int) == 0) = false := by rw [beq_eq_false_iff_ne]; have := unhide HS; omega
    have K := hide K
    rcases hck with ⟨rfl, rfl⟩ | ⟨rfl, rfl, E2⟩
    · have H := hide (fwmea_tab (pN s) (unhide K) (by have := unhide HS; omega) (fun w2 k2 hs => (told1 s w.heap.size (w.heap.size + 1) (hN s) w2 (by have := unhide HS; omega) hm hN0 (k2.cells 0 0 _ rfl) (k2.cells 1 0 _ rfl))))
      clear K
      by_cases h2 : meaE s (pN s) (hN s) = 0
      · have E2 := hide h2
        rw [h2] at H
        have HS2 := hide (meaE_zero h2)
        clear h2
        go_wp2_with fail
        refine (unhide H).mono ?_
        rintro e W1 ⟨rfl, k1⟩
        clear H
        have K1 := hide k1
        have q0 := k1.cells 1 0 _ rfl
        have q1 := k1.cells 3 0 _ rfl
        clear k1
        go_wp2_with fail
        refine (told_tab1 (unhide K1) (by have := unhide HS; omega) hm (by have := unhide HS; omega)).mono ?_
        rintro e W2 ⟨rfl, k2⟩
        clear K1 q0 q1
        have q1 := k2.cells 2 0 _ rfl
        have g1 := k2.free 2 0 _ rfl
        have K3 := hide (mt_need k2 (pN s))
        clear k2
        go_wp2_with fail
        go_step3
        refine ⟨rfl, ⟨pN s, pN s, .inr ⟨rfl, rfl, unhide E2⟩, unhide E1, unhide K3, _, _, _, _, _, _, _, _, _, _, _, _, _, _, _, _, _, _, _, _, _, _, _, _, rfl⟩, ?_⟩
        simp [intOf]
        have := unhide HS
        have := unhide HS2
        omega
      · obtain ⟨e1, he1⟩ : ∃ e1, meaE s (pN s) (hN s) = e1 := ⟨_, rfl⟩
        have HR : Hid (V = .tuple #[.int .i64 0, .int .i64 0, .int .i64 e1]) := by
          have : meaR s = e1 := by unfold meaR; rw [if_pos (unhide E1), if_neg h2, he1]
          rw [← unhide HV]; unfold meaV; rw [this, if_neg (by rw [← he1]; exact h2)]; exact rfl
        rw [he1] at H
        have hne : (e1 != 0) = true := by rw [← he1]; simpa using h2
        clear h2 he1
        go_wp2_with fail
        refine (unhide H).mono ?_
        rintro e W1 ⟨rfl, k1⟩
        clear H
        have q0 := k1.cells 1 0 _ rfl
        have g0 := k1.free 1 0 _ rfl
        have B := hide (bel_head0 k1.bel (.int .i64 0))
        clear k1
        go_wp2_with fail
        simp only [Exit.jump]
        refine bodyPost_ret (v := .tuple #[.int .i64 0, .int .i64 0, .int .i64 e1]) (by simp [results, Try.results27, go_sem, q0]) rfl ⟨by rw [unhide HR], unhide B⟩
    · have HS2 := hide (meaE_zero E2)
      have pN0 : ((pN s : Int) == 0) = false := by rw [beq_eq_false_iff_ne]; have := unhide HS; have := unhide HS2; omega
      have E2 := hide E2
      have H := hide (fwmea_tab (pN s) (unhide K) (by have := unhide HS; have := unhide HS2; omega) (fun w2 k2 hs => (told1 s w.heap.size (w.heap.size + 1) (hN s) w2 (by have := unhide HS; omega) hm hN0 (k2.cells 0 0 _ rfl) (k2.cells 1 0 _ rfl))))
      clear K
      by_cases h3 : meaE s (pN s) (pN s) = 0
      · have HR : Hid (V = .tuple #[.int .i64 (hN s : Nat), .int .i64 (pN s : Nat), .int .i64 0]) := by
          have : meaR s = 0 := by unfold meaR; rw [if_pos (unhide E1), if_pos (unhide E2), h3]
          rw [← unhide HV]; unfold meaV; rw [if_pos this]; exact rfl
        rw [h3] at H
        clear h3
        go_wp2_with fail
        refine (unhide H).mono ?_
        rintro e W1 ⟨rfl, k1⟩
        clear H
        have q0 := k1.cells 1 0 _ rfl
        have g0 := k1.free 1 0 _ rfl
        have B := hide (bel_head0 k1.bel (.int .i64 (hN s : Nat)))
        clear k1
        go_wp2_with fail
        all_goals
          simp only [Exit.jump]
          refine bodyPost_ret (v := .tuple #[.int .i64 (hN s : Nat), .int .i64 (pN s : Nat), .int .i64 0]) (by simp [results, Try.results27, go_sem, q0]) rfl ⟨by rw [unhide HR], unhide B⟩
      · obtain ⟨e1, he1⟩ : ∃ e1, meaE s (pN s) (pN s) = e1 := ⟨_, rfl⟩
        have HR : Hid (V = .tuple #[.int .i64 0, .int .i64 0, .int .i64 e1]) := by
          have : meaR s = e1 := by unfold meaR; rw [if_pos (unhide E1), if_pos (unhide E2), he1]
          rw [← unhide HV]; unfold meaV; rw [this, if_neg (by rw [← he1]; exact h3)]; exact rfl
        rw [he1] at H
        have hne : (e1 != 0) = true := by rw [← he1]; simpa using h3
        clear h3 he1
        go_wp2_with fail
        refine (unhide H).mono ?_
        rintro e W1 ⟨rfl, k1⟩
        clear H
        have q0 := k1.cells 1 0 _ rfl
        have g0 := k1.free 1 0 _ rfl
        have B := hide (bel_head0 k1.bel (.int .i64 0))
        clear k1
        go_wp2_with fail
        all_goals
          simp only [Exit.jump]
          refine bodyPost_ret (v := .tuple #[.int .i64 0, .int .i64 0, .int .i64 e1]) (by simp [results, Try.results27, go_sem, q0]) rfl ⟨by rw [unhide HR], unhide B⟩

end Go.Proofs.Ytefenejeppmfiaa
