/- The walk of the law AddrBack, over the loaded program: true; no memory that was there has turned. Condition: Env. -/
import Derived.Test.YtnglkadfnacmcaaDoorAl6
namespace Go.Proofs.YtnglkadfnacmcaaDoor
open Go.RowKit

/-- an address's text as a string -/
def txs (a : Nat) : ByteArray := ⟨(txtI a).toArray⟩
theorem txs_list (a : Nat) : (txs a).toList = txtI a := by rw [Lib.toList_data]; rfl
theorem txs_size (a : Nat) : 7 ≤ (txs a).size ∧ (txs a).size ≤ 15 := by
  have h := txt_len (a / 16777216) (a / 65536 % 256) (a / 256 % 256) (a % 256)
  have e : (txs a).size = (txtI a).length := by show (txtI a).toArray.size = _; rw [List.size_toArray]
  rw [e]
  exact h
theorem txs_eq (a b : Nat) (ha : a < 4294967296) (hb : b < 4294967296) : ((txs a).toList == (txs b).toList) = ((a : Int) == (b : Int)) := by
  rw [txs_list, txs_list, Bool.eq_iff_iff, beq_iff_eq, beq_iff_eq]
  constructor
  · intro h
    rw [txtI_inj ha hb h]
  · intro h
    rw [show a = b by omega]

set_option maxHeartbeats 1000000 in
theorem back_long (a b : Nat) (s : ByteArray) (h : 256 < s.size) (w : World) (E : Env w) :
    Calls Tryd.prog 5 #[.int .u32 (a : Int), .int .u32 (b : Int), .string s] w fun e w' => e = .returned (.bool true) ∧ Below w.heap.size w w' := by
  have H7 := hide alive_any
  go_enter Tryd.func5, Tryd.ntmps5
  go_wp2_with fail
  refine (unhide H7 _ E).mono ?_
  rintro e w7 ⟨rfl, b7⟩
  go_wp2_with fail
  go_ret
  exact ⟨rfl, b7⟩

set_option maxRecDepth 20000 in
set_option maxHeartbeats 1000000 in
theorem back_some (a b y : Nat) (s A B : ByteArray) (h : s.size ≤ 256) (w : World) (E : Env w) (hl : 7 ≤ A.size) (hu : A.size ≤ 15) (hc : (A.toList == B.toList) = ((a : Int) == (b : Int)))
    (H1 : Hid (∀ w, Env w → Calls Tryd.prog 11 #[.int .u32 (a : Int)] w fun e w' => e = .returned (.string A) ∧ Below w.heap.size w w'))
    (H2 : Hid (∀ w, Env w → Calls Tryd.prog 9 #[.string A] w fun e w' => e = .returned (.tuple #[.int .u32 (a : Int), .int .i64 0]) ∧ Below w.heap.size w w'))
    (H3 : Hid (∀ w, Env w → Calls Tryd.prog 9 #[.string s] w fun e w' => e = .returned (.tuple #[.int .u32 (y : Int), .int .i64 0]) ∧ Below w.heap.size w w'))
    (H4 : Hid (∀ w, Env w → Calls Tryd.prog 11 #[.int .u32 (b : Int)] w fun e w' => e = .returned (.string B) ∧ Below w.heap.size w w'))
    (H5 : Hid (∀ w, Env w → Calls Tryd.prog 11 #[.int .u32 (y : Int)] w fun e w' => e = .returned (.string s) ∧ Below w.heap.size w w')) :
    Calls Tryd.prog 5 #[.int .u32 (a : Int), .int .u32 (b : Int), .string s] w fun e w' => e = .returned (.bool true) ∧ Below w.heap.size w w' := by
  have H7 := hide alive_any
  have hs : (s.toList == s.toList) = true := by simp
  generalize hcc : ((a : Int) == (b : Int)) = cc at *
  have hcb : (cc == cc) = true := by cases cc <;> rfl
  go_enter Tryd.func5, Tryd.ntmps5
  go_wp2_with fail
  refine (unhide H1 _ E).mono ?_
  rintro e w1 ⟨rfl, b1⟩
  have E1 := E.on b1
  have bel1 := b1
  clear b1
  go_wp2_with fail
  refine (unhide H2 _ E1).mono ?_
  rintro e w2 ⟨rfl, b2⟩
  have E2 := E1.on b2
  have bel2 := tr2 bel1 b2
  clear b2 E1 bel1
  go_wp2_with fail
  refine (unhide H3 _ E2).mono ?_
  rintro e w3 ⟨rfl, b3⟩
  have E3 := E2.on b3
  have bel3 := tr2 bel2 b3
  clear b3 E2 bel2
  go_wp2_with fail
  refine (unhide H1 _ E3).mono ?_
  rintro e w4 ⟨rfl, b4⟩
  have E4 := E3.on b4
  have bel4 := tr2 bel3 b4
  clear b4 E3 bel3
  go_wp2_with fail
  refine (unhide H4 _ E4).mono ?_
  rintro e w5 ⟨rfl, b5⟩
  have E5 := E4.on b5
  have bel5 := tr2 bel4 b5
  clear b5 E4 bel4
  go_wp2_with fail
  refine (unhide H5 _ E5).mono ?_
  rintro e w6 ⟨rfl, b6⟩
  have E6 := E5.on b6
  have bel6 := tr2 bel5 b6
  clear b6 E5 bel5
  go_wp2_with fail
  refine (unhide H1 _ E6).mono ?_
  rintro e w7 ⟨rfl, b7⟩
  have E7 := E6.on b7
  have bel7 := tr2 bel6 b7
  clear b7 E6 bel6
  go_wp2_with fail
  refine (unhide H1 _ E7).mono ?_
  rintro e w8 ⟨rfl, b8⟩
  have E8 := E7.on b8
  have bel8 := tr2 bel7 b8
  clear b8 E7 bel7
  go_wp2_with fail
  refine (unhide H7 _ E8).mono ?_
  rintro e w9 ⟨rfl, b9⟩
  have E9 := E8.on b9
  have bel9 := tr2 bel8 b9
  clear b9 E8 bel8
  go_wp2_with fail
  go_ret
  exact ⟨rfl, bel9⟩

set_option maxRecDepth 20000 in
set_option maxHeartbeats 1000000 in
theorem back_none (a b : Nat) (s A B : ByteArray) (h : s.size ≤ 256) (w : World) (E : Env w) (hl : 7 ≤ A.size) (hu : A.size ≤ 15) (hc : (A.toList == B.toList) = ((a : Int) == (b : Int)))
    (H1 : Hid (∀ w, Env w → Calls Tryd.prog 11 #[.int .u32 (a : Int)] w fun e w' => e = .returned (.string A) ∧ Below w.heap.size w w'))
    (H2 : Hid (∀ w, Env w → Calls Tryd.prog 9 #[.string A] w fun e w' => e = .returned (.tuple #[.int .u32 (a : Int), .int .i64 0]) ∧ Below w.heap.size w w'))
    (H3 : Hid (∀ w, Env w → Calls Tryd.prog 9 #[.string s] w fun e w' => e = .returned (.tuple #[.int .u32 0, .int .i64 8]) ∧ Below w.heap.size w w'))
    (H4 : Hid (∀ w, Env w → Calls Tryd.prog 11 #[.int .u32 (b : Int)] w fun e w' => e = .returned (.string B) ∧ Below w.heap.size w w'))
    :
    Calls Tryd.prog 5 #[.int .u32 (a : Int), .int .u32 (b : Int), .string s] w fun e w' => e = .returned (.bool true) ∧ Below w.heap.size w w' := by
  have H7 := hide alive_any
  have hs : (s.toList == s.toList) = true := by simp
  generalize hcc : ((a : Int) == (b : Int)) = cc at *
  have hcb : (cc == cc) = true := by cases cc <;> rfl
  go_enter Tryd.func5, Tryd.ntmps5
  go_wp2_with fail
  refine (unhide H1 _ E).mono ?_
  rintro e w1 ⟨rfl, b1⟩
  have E1 := E.on b1
  have bel1 := b1
  clear b1
  go_wp2_with fail
  refine (unhide H2 _ E1).mono ?_
  rintro e w2 ⟨rfl, b2⟩
  have E2 := E1.on b2
  have bel2 := tr2 bel1 b2
  clear b2 E1 bel1
  go_wp2_with fail
  refine (unhide H3 _ E2).mono ?_
  rintro e w3 ⟨rfl, b3⟩
  have E3 := E2.on b3
  have bel3 := tr2 bel2 b3
  clear b3 E2 bel2
  go_wp2_with fail
  refine (unhide H1 _ E3).mono ?_
  rintro e w4 ⟨rfl, b4⟩
  have E4 := E3.on b4
  have bel4 := tr2 bel3 b4
  clear b4 E3 bel3
  go_wp2_with fail
  refine (unhide H4 _ E4).mono ?_
  rintro e w5 ⟨rfl, b5⟩
  have E5 := E4.on b5
  have bel5 := tr2 bel4 b5
  clear b5 E4 bel4
  go_wp2_with fail
  refine (unhide H1 _ E5).mono ?_
  rintro e w6 ⟨rfl, b6⟩
  have E6 := E5.on b6
  have bel6 := tr2 bel5 b6
  clear b6 E5 bel5
  go_wp2_with fail
  refine (unhide H1 _ E6).mono ?_
  rintro e w7 ⟨rfl, b7⟩
  have E7 := E6.on b7
  have bel7 := tr2 bel6 b7
  clear b7 E6 bel6
  go_wp2_with fail
  refine (unhide H7 _ E7).mono ?_
  rintro e w8 ⟨rfl, b8⟩
  have E8 := E7.on b8
  have bel8 := tr2 bel7 b8
  clear b8 E7 bel7
  go_wp2_with fail
  go_ret
  exact ⟨rfl, bel8⟩

theorem addrBack_walk (x y : Int) (s : ByteArray) (hx : (Lit.int .u32 x).wf = true) (hy : (Lit.int .u32 y).wf = true) (_ : s.size ≤ maxLen) (w : World) (E : Env w) :
    Calls Tryd.prog 5 #[.int .u32 x, .int .u32 y, .string s] w fun e w' => e = .returned (.bool true) ∧ Below w.heap.size w w' := by
  obtain ⟨a, rfl, ha⟩ := nat32 hx
  obtain ⟨b, rfl, hb⟩ := nat32 hy
  have hz := txs_size a
  have hp : addrOf (txs a).data.toList = some a := addrOf_txt ha
  by_cases h : s.size ≤ 256
  · cases hs : addrOf s.data.toList with
    | some ip =>
      obtain ⟨hi, hl⟩ := addrOf_some hs
      have e : (⟨(txtI ip).toArray⟩ : ByteArray) = s := by
        apply ByteArray.ext
        apply Array.toList_inj.1
        exact hl.symm
      refine back_some a b ip s (txs a) (txs b) h w E hz.1 hz.2 (txs_eq a b ha hb) (fun w E => text_any a w ha E) (fun w E => parse_ok (txs a) (by omega) a hp w E) (fun w E => parse_ok s (by omega) ip hs w E) (fun w E => text_any b w hb E) (fun w E => ?_)
      have := text_any ip w hi E
      rw [e] at this
      exact this
    | none => exact back_none a b s (txs a) (txs b) h w E hz.1 hz.2 (txs_eq a b ha hb) (fun w E => text_any a w ha E) (fun w E => parse_ok (txs a) (by omega) a hp w E) (fun w E => parse_no s (by omega) hs w E) (fun w E => text_any b w hb E)
  · exact back_long a b s (by omega) w E

end Go.Proofs.YtnglkadfnacmcaaDoor
