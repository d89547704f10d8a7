/- The contracts of package ether's leaves (fits, isGroup, card, For), of its reading of a frame by closures and of Decode, over the loaded program; no memory that was there has turned. Conditions: numbers in their kinds' bounds, texts of bounded length. -/
import Derived.Test.YtdgjoconppmihaaWd7
namespace Go.Proofs.Ytdgjoconppmihaa
open Go.RowKit

/-- is it a group's? -/
def grp (x : Nat) : Bool := x / 1099511627776 % 2 == 1
theorem and_bit (x : Nat) : x &&& 1099511627776 = if grp x = true then 1099511627776 else 0 := by
  apply Nat.eq_of_testBit_eq
  intro i
  rw [Nat.testBit_and, show (1099511627776 : Nat) = 2 ^ 40 from rfl, Nat.testBit_two_pow]
  unfold grp
  rw [show (1099511627776 : Nat) = 2 ^ 40 from rfl]
  have h : x.testBit 40 = (x / 2 ^ 40 % 2 == 1) := by rw [Nat.testBit_eq_decide_div_mod_eq]; rfl
  rw [← h]
  cases hb : x.testBit 40
  · rw [if_neg (by decide), Nat.zero_testBit]
    by_cases e : 40 = i
    · subst e; rw [hb]; rfl
    · rw [decide_eq_false e, Bool.and_false]
  · rw [if_pos rfl, Nat.testBit_two_pow]
    by_cases e : 40 = i
    · subst e; rw [hb]; rfl
    · rw [decide_eq_false e, Bool.and_false]
theorem and_grp (x : Nat) (hx : x < 18446744073709551616) (h : grp x = true) : bits .and .u64 (x : Int) 1099511627776 = 1099511627776 := by
  have e := u64_and_nat x 1099511627776 hx (by omega)
  rw [and_bit, if_pos h] at e
  exact e
theorem and_not (x : Nat) (hx : x < 18446744073709551616) (h : grp x = false) : bits .and .u64 (x : Int) 1099511627776 = 0 := by
  have e := u64_and_nat x 1099511627776 hx (by omega)
  rw [and_bit, if_neg (by rw [h]; decide)] at e
  exact e

set_option maxHeartbeats 400000 in
theorem isgroup_any (x : Nat) (w : World) (hx : x < 18446744073709551616) :
    Calls Try.prog 21 #[.int .u64 (x : Int)] w fun e w' => e = .returned (.bool (grp x)) ∧ w' = w := by
  cases h : grp x
  · have e := and_not x hx h
    go_enter Try.func21, Try.ntmps21
    go_wp2
    go_ret
    exact ⟨rfl, rfl⟩
  · have e := and_grp x hx h
    go_enter Try.func21, Try.ntmps21
    go_wp2
    go_ret
    exact ⟨rfl, rfl⟩

theorem dec_val {p : Prop} [Decidable p] (h : p) : Ending.returned (.bool (decide p)) = Ending.returned (.bool true) := by rw [decide_eq_true h]
theorem dec_val2 {p : Prop} [Decidable p] (h : ¬ p) : Ending.returned (.bool (decide p)) = Ending.returned (.bool false) := by rw [decide_eq_false h]
set_option maxHeartbeats 400000 in
theorem fits_any (x : Nat) (w : World) (hx : x < 18446744073709551616) :
    Calls Try.prog 20 #[.int .u64 (x : Int)] w fun e w' => e = .returned (.bool (decide (x < 281474976710656))) ∧ w' = w := by
  by_cases h : x < 281474976710656
  · rw [decide_eq_true h]
    go_enter Try.func20, Try.ntmps20
    go_wp2
    go_ret
    exact ⟨dec_val (by omega), rfl⟩
  · rw [decide_eq_false h]
    go_enter Try.func20, Try.ntmps20
    go_wp2
    go_ret
    exact ⟨dec_val2 (by omega), rfl⟩

/-- six bytes, and two -/
def by6 (x : Nat) : ByteArray := ⟨(ofB x 6).toArray⟩
def by2 (x : Nat) : ByteArray := ⟨(ofB x 2).toArray⟩

set_option maxHeartbeats 400000 in
theorem card_any (x : Nat) (w : World) (hx : x < 18446744073709551616) :
    Calls Try.prog 23 #[.int .u64 (x : Int)] w fun e w' => e = .returned (.string (by6 x)) ∧ Below w.heap.size w w' := by
  have H := hide (fun w => of_6 x w hx)
  go_enter Try.func23, Try.ntmps23
  go_wp2_with fail
  refine (unhide H _).mono ?_
  rintro e w1 ⟨rfl, b1⟩
  go_wp2_with fail
  go_ret
  exact ⟨rfl, b1⟩

/-- a frame's value -/
abbrev fr (t f k : Nat) (d : ByteArray) : Value := .agg #[.int .u64 (t : Int), .int .u64 (f : Int), .int .u16 (k : Int), .string d]

theorem cell_lt' {W : World} {a : Addr} {v : Value} (h : W.cell? a = some v) : a.block < W.heap.size := by
  apply Classical.byContradiction
  intro hn
  have e : W.heap[a.block]? = none := Array.getElem?_eq_none (by omega)
  unfold World.cell? at h
  rw [e] at h
  simp at h

/-- what the call's own new blocks hold, cell by cell, and that they may be written -/
structure Tab (w0 : World) (n : Nat) (f : Nat → Nat → Option Value) (w : World) : Prop where
  bel : Below w0.heap.size w0 w
  lt : w0.heap.size + n ≤ w.heap.size
  dom : ∀ b j v, f b j = some v → b < n
  cells : ∀ b j v, f b j = some v → w.cell? ⟨w0.heap.size + b, j, none⟩ = some v
  free : ∀ b j v, f b j = some v → w.frozen? ⟨w0.heap.size + b, j, none⟩ = false
def upd (f : Nat → Nat → Option Value) (b j : Nat) (v : Value) : Nat → Nat → Option Value := fun b' j' => if b' = b ∧ j' = j then some v else f b' j'
theorem Tab.on {w0 w w' : World} {n : Nat} {f : Nat → Nat → Option Value} (k : Tab w0 n f w) (h : Below w.heap.size w w') : Tab w0 n f w' :=
  ⟨tr2 k.bel h, Nat.le_trans k.lt h.size, k.dom, fun b j v e => (h.cell (show w0.heap.size + b < w.heap.size by have := k.dom b j v e; have := k.lt; omega)).trans (k.cells b j v e),
    fun b j v e => (h.frozen (p := ⟨w0.heap.size + b, j, none⟩) (show w0.heap.size + b < w.heap.size by have := k.dom b j v e; have := k.lt; omega)).trans (k.free b j v e)⟩
theorem Tab.set {w0 w : World} {n : Nat} {f : Nat → Nat → Option Value} (k : Tab w0 n f w) (b j : Nat) (u v : Value) (h : f b j = some u) : Tab w0 n (upd f b j v) (w.setCell ⟨w0.heap.size + b, j, none⟩ v) := by
  refine ⟨k.bel.setCell (p := ⟨w0.heap.size + b, j, none⟩) (show w0.heap.size ≤ w0.heap.size + b by omega) _, by have := k.lt; simpa using this, fun b' j' v' e => ?_, fun b' j' v' e => ?_, fun b' j' v' e => ?_⟩
  · unfold upd at e
    split at e
    · rename_i hb; rw [hb.1]; exact k.dom b j u h
    · exact k.dom b' j' v' e
  · unfold upd at e
    split at e
    · rename_i hb
      obtain ⟨rfl, rfl⟩ := hb
      obtain rfl := Option.some.inj e
      exact World.cell?_setCell_same _ _ _ (k.cells b' j' u h)
    · rename_i hb
      have hne : (⟨w0.heap.size + b, j, none⟩ : Addr) ≠ ⟨w0.heap.size + b', j', none⟩ := fun x => hb ⟨by have := congrArg Addr.block x; simp at this; omega, by have := congrArg Addr.off x; simp at this; omega⟩
      exact (World.cell?_setCell_other _ _ _ _ hne).trans (k.cells b' j' v' e)
  · rw [World.frozen?_setCell]
    unfold upd at e
    split at e
    · rename_i hb
      obtain ⟨rfl, rfl⟩ := hb
      exact k.free b' j' u h
    · exact k.free b' j' v' e
/-- a new block more -/
def add (f : Nat → Nat → Option Value) (n : Nat) (cs : List Value) : Nat → Nat → Option Value := fun b j => if b = n then cs[j]? else f b j
theorem Tab.zero (w : World) : Tab w 0 (fun _ _ => none) w := ⟨Below.refl _ _, Nat.le_refl _, fun _ _ _ e => (by cases e), fun _ _ _ e => (by cases e), fun _ _ _ e => (by cases e)⟩
theorem Tab.alloc {w0 w : World} {n : Nat} {f : Nat → Nat → Option Value} (k : Tab w0 n f w) (hw : w.heap.size = w0.heap.size + n) (cs : List Value) (t : TypeId) : Tab w0 (n + 1) (add f n cs) (w.alloc (.cells cs.toArray t)) := by
  have k' := k.on (below_one w (.cells cs.toArray t))
  refine ⟨k'.bel, by simp; omega, fun b j v e => ?_, fun b j v e => ?_, fun b j v e => ?_⟩
  · unfold add at e
    split at e
    · omega
    · have := k.dom b j v e; omega
  · unfold add at e
    split at e
    · rename_i hb
      rw [hb, ← hw, cell_of_row _ _ j _ _ _ (heap_alloc_new w _)]
      simpa using e
    · exact k'.cells b j v e
  · unfold add at e
    split at e
    · rename_i hb
      rw [hb, ← hw]
      unfold World.frozen?
      rw [heap_alloc_new]
      simp
    · exact k'.free b j v e

set_option maxHeartbeats 400000 in
theorem rd1 (A P : Nat) (s : ByteArray) (k : Nat) (w : World) (hs : s.size ≤ maxLen) (h : k + 6 ≤ s.size) (ca : w.cell? ⟨A, 0, none⟩ = some (.string s)) (cp : w.cell? ⟨P, 0, none⟩ = some (.int .i64 (k : Int))) (fp : w.frozen? ⟨P, 0, none⟩ = false) :
    Calls Try.prog 38 #[.pointer (some ⟨A, 0, none⟩), .pointer (some ⟨P, 0, none⟩)] w fun e w' => e = .returned (.int .u64 (num (fld s k 6) : Nat)) ∧ ∃ w1, Below w.heap.size w w1 ∧ w' = w1.setCell ⟨P, 0, none⟩ (.int .i64 ((k + 6 : Nat) : Int)) := by
  have H := hide (fun w => six_ok s k w hs h)
  have hb := fld_lt s k 6
  have hk : (k : Int) + 6 ≤ 9223372036854775807 := by unfold maxLen at hs; omega
  generalize num (fld s k 6) = N at *
  have hlt := cell_lt' cp
  go_enter Try.func38, Try.ntmps38
  go_wp2_with fail
  refine (unhide H _).mono ?_
  rintro e w1 ⟨rfl, b1⟩
  have cp1 := (b1.cell hlt).trans cp
  have fp1 := (b1.frozen (p := ⟨P, 0, none⟩) hlt).trans fp
  go_wp2_with fail
  go_ret
  exact ⟨rfl, w1, b1, rfl⟩

set_option maxHeartbeats 400000 in
theorem rd2 (A P : Nat) (s : ByteArray) (k : Nat) (w : World) (hs : s.size ≤ maxLen) (h : k + 2 ≤ s.size) (ca : w.cell? ⟨A, 0, none⟩ = some (.string s)) (cp : w.cell? ⟨P, 0, none⟩ = some (.int .i64 (k : Int))) (fp : w.frozen? ⟨P, 0, none⟩ = false) :
    Calls Try.prog 40 #[.pointer (some ⟨A, 0, none⟩), .pointer (some ⟨P, 0, none⟩)] w fun e w' => e = .returned (.int .u16 (num (fld s k 2) : Nat)) ∧ ∃ w1, Below w.heap.size w w1 ∧ w' = w1.setCell ⟨P, 0, none⟩ (.int .i64 ((k + 2 : Nat) : Int)) := by
  have H := hide (fun w => two_ok s k w hs h)
  have hb := fld_lt s k 2
  have hk : (k : Int) + 2 ≤ 9223372036854775807 := by unfold maxLen at hs; omega
  generalize num (fld s k 2) = N at *
  have hlt := cell_lt' cp
  go_enter Try.func40, Try.ntmps40
  go_wp2_with fail
  refine (unhide H _).mono ?_
  rintro e w1 ⟨rfl, b1⟩
  have cp1 := (b1.cell hlt).trans cp
  have fp1 := (b1.frozen (p := ⟨P, 0, none⟩) hlt).trans fp
  go_wp2_with fail
  go_ret
  exact ⟨rfl, w1, b1, rfl⟩

set_option maxHeartbeats 400000 in
theorem rd3 (A P : Nat) (s : ByteArray) (k : Nat) (w : World) (hs : s.size ≤ 281474976710656) (h : k ≤ s.size) (ca : w.cell? ⟨A, 0, none⟩ = some (.string s)) (cp : w.cell? ⟨P, 0, none⟩ = some (.int .i64 (k : Int))) :
    Calls Try.prog 42 #[.pointer (some ⟨A, 0, none⟩), .pointer (some ⟨P, 0, none⟩)] w fun e w' => e = .returned (.string (s.extract k s.size)) ∧ Below w.heap.size w w' := by
  have H := hide (fun w => rest_ok s k w hs h)
  generalize s.extract k s.size = N at *
  go_enter Try.func42, Try.ntmps42
  go_wp2_with fail
  refine (unhide H _).mono ?_
  rintro e w1 ⟨rfl, b1⟩
  go_wp2_with fail
  go_ret
  exact ⟨rfl, b1⟩

/-- the blocks of the reading: the text's box, the answer's, the place's, the frame's -/
def rf (s : ByteArray) (k : Nat) (c0 c1 c2 c3 : Value) : Nat → Nat → Option Value :=
  add (add (add (add (fun _ _ => none) 0 [.string s]) 1 [.int .u64 0, .int .u64 0, .int .u16 0, .string ⟨#[]⟩]) 2 [.int .i64 (k : Int)]) 3 [c0, c1, c2, c3]
theorem rf_start (w : World) (s : ByteArray) (t0 t1 t2 t3 : TypeId) : Tab w 4 (rf s 0 (.int .u64 0) (.int .u64 0) (.int .u16 0) (.string ⟨#[]⟩)) ((((w.alloc (.cells #[.string s] t0)).alloc (.cells #[.int .u64 0, .int .u64 0, .int .u16 0, .string ⟨#[]⟩] t1)).alloc (.cells #[.int .i64 0] t2)).alloc (.cells #[.int .u64 0, .int .u64 0, .int .u16 0, .string ⟨#[]⟩] t3)) :=
  ((((Tab.zero w).alloc rfl [.string s] t0).alloc (by simp) [.int .u64 0, .int .u64 0, .int .u16 0, .string ⟨#[]⟩] t1).alloc (by simp) [.int .i64 0] t2).alloc (by simp) [.int .u64 0, .int .u64 0, .int .u16 0, .string ⟨#[]⟩] t3
theorem Tab.as {w0 w : World} {n : Nat} {f g : Nat → Nat → Option Value} (k : Tab w0 n f w) (h : ∀ b j v, g b j = some v → f b j = some v) : Tab w0 n g w :=
  ⟨k.bel, k.lt, fun b j v e => k.dom b j v (h b j v e), fun b j v e => k.cells b j v (h b j v e), fun b j v e => k.free b j v (h b j v e)⟩

set_option maxHeartbeats 1000000 in
theorem read_any (s : ByteArray) (w : World) (hs : s.size ≤ 281474976710656) (h : 14 ≤ s.size) :
    Calls Try.prog 27 #[.string s] w fun e w' => e = .returned (fr (num (fld s 0 6)) (num (fld s 6 6)) (num (fld s 12 2)) (s.extract 14 s.size)) ∧ Below w.heap.size w w' := by
  have hm : s.size ≤ maxLen := by unfold maxLen; omega
  have H1 := hide (fun A P w => rd1 A P s 0 w hm (by omega))
  have H2 := hide (fun A P w => rd1 A P s 6 w hm (by omega))
  have H3 := hide (fun A P w => rd2 A P s 12 w hm (by omega))
  have H4 := hide (fun A P w => rd3 A P s 14 w hs (by omega))
  generalize num (fld s 0 6) = X0 at *
  generalize num (fld s 6 6) = X1 at *
  generalize num (fld s 12 2) = X2 at *
  generalize s.extract 14 s.size = X3 at *
  have K := hide (rf_start w s 9 26 3 26)
  go_enter Try.func27, Try.ntmps27
  go_wp2_with fail
  have k0 := unhide K
  clear K
  generalize (((w.alloc (.cells #[.string s] 9)).alloc (.cells #[.int .u64 0, .int .u64 0, .int .u16 0, .string ⟨#[]⟩] 26)).alloc (.cells #[.int .i64 0] 3)).alloc (.cells #[.int .u64 0, .int .u64 0, .int .u16 0, .string ⟨#[]⟩] 26) = wa at *
  simp only [Nat.add_assoc, Nat.reduceAdd]
  refine (unhide H1 _ _ _ (k0.cells 0 0 _ rfl) (k0.cells 2 0 _ rfl) (k0.free 2 0 _ rfl)).mono ?_
  rintro e w2 ⟨rfl, w1, b1, rfl⟩
  have k1 := (k0.on b1).set 2 0 _ (.int .i64 ((0 + 6 : Nat) : Int)) rfl
  clear k0 b1 H1
  generalize w1.setCell ⟨w.heap.size + 2, 0, none⟩ (.int .i64 ((0 + 6 : Nat) : Int)) = w2 at *
  have c1 := k1.cells 3 0 _ rfl
  have f1 := k1.free 3 0 _ rfl
  have K2 := hide (k1.set 3 0 _ (.int .u64 (X0 : Int)) rfl)
  clear k1
  go_wp2_with fail
  have k0x := unhide K2
  clear K2 c1 f1
  generalize w2.setCell ⟨w.heap.size + 3, 0, none⟩ (.int .u64 (X0 : Int)) = w3 at *
  refine (unhide H2 _ _ _ (k0x.cells 0 0 _ rfl) (k0x.cells 2 0 _ rfl) (k0x.free 2 0 _ rfl)).mono ?_
  rintro e w2 ⟨rfl, w1, b1, rfl⟩
  have k1 := (k0x.on b1).set 2 0 _ (.int .i64 ((6 + 6 : Nat) : Int)) rfl
  clear k0x b1 H2
  generalize w1.setCell ⟨w.heap.size + 2, 0, none⟩ (.int .i64 ((6 + 6 : Nat) : Int)) = w2 at *
  have c1 := k1.cells 3 1 _ rfl
  have f1 := k1.free 3 1 _ rfl
  have K2 := hide (k1.set 3 1 _ (.int .u64 (X1 : Int)) rfl)
  clear k1
  go_wp2_with fail
  have k1x := unhide K2
  clear K2 c1 f1
  generalize w2.setCell ⟨w.heap.size + 3, 1, none⟩ (.int .u64 (X1 : Int)) = w3 at *
  refine (unhide H3 _ _ _ (k1x.cells 0 0 _ rfl) (k1x.cells 2 0 _ rfl) (k1x.free 2 0 _ rfl)).mono ?_
  rintro e w2 ⟨rfl, w1, b1, rfl⟩
  have k1 := (k1x.on b1).set 2 0 _ (.int .i64 ((12 + 2 : Nat) : Int)) rfl
  clear k1x b1 H3
  generalize w1.setCell ⟨w.heap.size + 2, 0, none⟩ (.int .i64 ((12 + 2 : Nat) : Int)) = w2 at *
  have c1 := k1.cells 3 2 _ rfl
  have f1 := k1.free 3 2 _ rfl
  have K2 := hide (k1.set 3 2 _ (.int .u16 (X2 : Int)) rfl)
  clear k1
  go_wp2_with fail
  have k2x := unhide K2
  clear K2 c1 f1
  generalize w2.setCell ⟨w.heap.size + 3, 2, none⟩ (.int .u16 (X2 : Int)) = w3 at *
  refine (unhide H4 _ _ _ (k2x.cells 0 0 _ rfl) (k2x.cells 2 0 _ rfl)).mono ?_
  rintro e w2 ⟨rfl, b1⟩
  have k1 := k2x.on b1
  clear k2x b1 H4
  have c1 := k1.cells 3 3 _ rfl
  have f1 := k1.free 3 3 _ rfl
  have k4 := k1.set 3 3 _ (.string X3) rfl
  have d0 := k4.cells 3 0 _ rfl
  have d1 := k4.cells 3 1 _ rfl
  have d2 := k4.cells 3 2 _ rfl
  have d3 := k4.cells 3 3 _ rfl
  have e0 := k4.cells 1 0 _ rfl
  have e1 := k4.cells 1 1 _ rfl
  have e2 := k4.cells 1 2 _ rfl
  have e3 := k4.cells 1 3 _ rfl
  have g0 := k4.free 1 0 _ rfl
  have g1 := k4.free 1 1 _ rfl
  have g2 := k4.free 1 2 _ rfl
  have g3 := k4.free 1 3 _ rfl
  have K4 := hide k4
  clear k1 k4
  go_wp2_with fail
  refine bodyPost_ret (v := fr X0 X1 X2 X3) (by simp [results, Try.results27, go_sem, e0, e1, e2, e3]) rfl ⟨rfl, ?_⟩
  have k5 := (((((unhide K4).set 1 0 _ (.int .u64 (X0 : Int)) rfl).set 1 1 _ (.int .u64 (X1 : Int)) rfl).set 1 2 _ (.int .u16 (X2 : Int)) rfl).set 1 3 _ (.string X3) rfl)
  exact k5.bel

end Go.Proofs.Ytdgjoconppmihaa
