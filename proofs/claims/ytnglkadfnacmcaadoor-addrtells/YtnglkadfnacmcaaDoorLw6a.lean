/- The walk of the law AddrTells, over the loaded program: true; no memory that was there has turned. Condition: Env. -/
import Derived.Test.YtnglkadfnacmcaaDoorAl6
import Derived.Test.YtnglkadfnacmcaaDoorRd2
namespace Go.Proofs.YtnglkadfnacmcaaDoor
open Go.RowKit

theorem toList_refl (s : ByteArray) : (s.toList == s.toList) = true := by simp

set_option maxRecDepth 20000 in
set_option maxHeartbeats 1000000 in
theorem tells_short (x : Nat) (s T : ByteArray) (r k : Nat) (re : Int) (h : s.size ≤ 256) (w : World) (E : Env w)
    (H1 : Hid (∀ w, Env w → Calls Tryd.prog 9 #[.string s] w fun e w' => e = .returned (.tuple #[.int .u32 (r : Int), .int .i64 re]) ∧ Below w.heap.size w w'))
    (H2 : Hid (∀ w, Calls Tryd.prog 10 #[.string s] w fun e w' => e = .returned (.tuple #[.int .u32 (r : Int), .int .i64 re]) ∧ Below w.heap.size w w'))
    (H3 : Hid (∀ w, Env w → Calls Tryd.prog 11 #[.int .u32 (x : Int)] w fun e w' => e = .returned (.string T) ∧ Below w.heap.size w w'))
    (H4 : Hid (∀ w, Calls Tryd.prog 12 #[.int .u32 (x : Int)] w fun e w' => e = .returned (.string T) ∧ Below w.heap.size w w'))
    (H5 : Hid (∀ w, Calls Tryd.prog 13 #[.int .u32 (x : Int)] w fun e w' => e = .returned (.int .u8 (k : Int)) ∧ Below w.heap.size w w'))
    (H6 : Hid (∀ w, Calls Tryd.prog 14 #[.int .u32 (x : Int)] w fun e w' => e = .returned (.int .u8 (k : Int)) ∧ w' = w)) :
    Calls Tryd.prog 3 #[.int .u32 (x : Int), .string s] w fun e w' => e = .returned (.bool true) ∧ Below w.heap.size w w' := by
  have H7 := hide alive_any
  have ht := toList_refl T
  go_enter Tryd.func3, Tryd.ntmps3
  go_wp2_with fail
  refine (unhide H1 _ E).mono ?_
  rintro e w1 ⟨rfl, b1⟩
  have E1 := E.on b1
  go_wp2_with fail
  refine (unhide H2 _).mono ?_
  rintro e w2 ⟨rfl, b2⟩
  have E2 := E1.on b2
  have bel := tr2 b1 b2
  clear E1 b1 b2
  go_wp2_with fail
  refine (unhide H3 _ E2).mono ?_
  rintro e w3 ⟨rfl, b3⟩
  have E3 := E2.on b3
  have bel := tr2 bel b3
  clear E2 b3
  go_wp2_with fail
  refine (unhide H4 _).mono ?_
  rintro e w4 ⟨rfl, b4⟩
  have E4 := E3.on b4
  have bel := tr2 bel b4
  clear E3 b4
  go_wp2_with fail
  refine (unhide H5 _).mono ?_
  rintro e w5 ⟨rfl, b5⟩
  have E5 := E4.on b5
  have bel := tr2 bel b5
  clear E4 b5
  go_wp2_with fail
  refine (unhide H6 _).mono ?_
  rintro e w6 ⟨rfl, rfl⟩
  go_wp2_with fail
  refine (unhide H7 _ E5).mono ?_
  rintro e w7 ⟨rfl, b7⟩
  go_wp2_with fail
  go_ret
  exact ⟨rfl, tr2 bel b7⟩

set_option maxHeartbeats 1000000 in
theorem tells_long (x : Nat) (s : ByteArray) (h : 256 < s.size) (w : World) (E : Env w) :
    Calls Tryd.prog 3 #[.int .u32 (x : Int), .string s] w fun e w' => e = .returned (.bool true) ∧ Below w.heap.size w w' := by
  have H7 := hide alive_any
  go_enter Tryd.func3, Tryd.ntmps3
  go_wp2_with fail
  refine (unhide H7 _ E).mono ?_
  rintro e w7 ⟨rfl, b7⟩
  go_wp2_with fail
  go_ret
  exact ⟨rfl, b7⟩

theorem addrTells_walk (x : Int) (s : ByteArray) (hx : (Lit.int .u32 x).wf = true) (_ : s.size ≤ maxLen) (w : World) (E : Env w) :
    Calls Tryd.prog 3 #[.int .u32 x, .string s] w fun e w' => e = .returned (.bool true) ∧ Below w.heap.size w w' := by
  obtain ⟨n, rfl, hn⟩ := nat32 hx
  by_cases h : s.size ≤ 256
  · cases ha : addrOf s.data.toList with
    | some ip => exact tells_short n s _ ip _ 0 h w E (fun w E => parse_ok s (by omega) ip ha w E) (fun w => rparse_ok s (by omega) ip ha w) (fun w E => text_any n w hn E) (fun w => rtext_any n w hn) (fun w => kind_is n w hn) (fun w => rkind_any n w hn)
    | none => exact tells_short n s _ 0 _ 8 h w E (fun w E => parse_no s (by omega) ha w E) (fun w => rparse_no s (by omega) ha w) (fun w E => text_any n w hn E) (fun w => rtext_any n w hn) (fun w => kind_is n w hn) (fun w => rkind_any n w hn)
  · exact tells_long n s (by omega) w E

end Go.Proofs.YtnglkadfnacmcaaDoor
