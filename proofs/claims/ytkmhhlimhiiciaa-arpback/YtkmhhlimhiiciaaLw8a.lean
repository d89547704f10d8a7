/- The walk of the law ArpTells, over the loaded program: true; no memory that was there has turned. No conditions. -/
import Derived.Test.YtkmhhlimhiiciaaAl8
namespace Go.Proofs.Ytkmhhlimhiiciaa
open Go.RowKit

theorem toList_refl (s : ByteArray) : (s.toList == s.toList) = true := by simp
abbrev arC (o f i t j : Nat) : Obj := .cells #[.int .u16 (o : Int), .int .u64 (f : Int), .int .u32 (i : Int), .int .u64 (t : Int), .int .u32 (j : Int)] 27
theorem box_ar (w : World) (o f i t j : Nat) : Tab w 1 (add (fun _ _ => none) 0 (arL o f i t j)) (w.alloc (arC o f i t j)) := (Tab.zero w).alloc rfl (arL o f i t j) _

set_option maxHeartbeats 1000000 in
theorem tells_long (o f i t j : Nat) (s : ByteArray) (w : World) (h : (4096 : Int) < (s.size : Int)) :
    Calls Try.prog 3 #[ar o f i t j, .string s] w fun e w' => e = .returned (.bool true) ∧ Below w.heap.size w w' := by
  have H2 := hide alive_any
  have BEL := hide (below_one w (arC o f i t j))
  have g := decide_eq_true h
  clear h
  go_enter Try.func3, Try.ntmps3
  go_wp2_with fail
  refine (unhide H2 _).mono ?_
  rintro e w2 ⟨rfl, b2⟩
  go_wp2_with fail
  go_ret
  exact ⟨rfl, tr2 (unhide BEL) b2⟩

set_option maxRecDepth 20000 in
set_option maxHeartbeats 2000000 in
theorem tells_main (o f i t j : Nat) (s : ByteArray) (w : World) (h2 : (s.size : Int) ≤ 4096) (S : ByteArray) (E : Int) (O F I T J : Nat) (E2 : Int)
    (H1 : Hid (∀ w, Calls Try.prog 8 #[ar o f i t j] w fun x w' => x = .returned (.tuple #[.string S, .int .i64 E]) ∧ Below w.heap.size w w'))
    (H2 : Hid (∀ w, Calls Try.prog 9 #[ar o f i t j] w fun x w' => x = .returned (.tuple #[.string S, .int .i64 E]) ∧ Below w.heap.size w w'))
    (H3 : Hid (∀ w, Calls Try.prog 10 #[.string s] w fun x w' => x = .returned (.tuple #[ar O F I T J, .int .i64 E2]) ∧ Below w.heap.size w w'))
    (H4 : Hid (∀ w, Calls Try.prog 11 #[.string s] w fun x w' => x = .returned (.tuple #[ar O F I T J, .int .i64 E2]) ∧ Below w.heap.size w w')) :
    Calls Try.prog 3 #[ar o f i t j, .string s] w fun e w' => e = .returned (.bool true) ∧ Below w.heap.size w w' := by
  have H5 := hide alive_any
  have g := decide_eq_false (show ¬ (4096 : Int) < (s.size : Int) by omega)
  have K0 := hide (box_ar w o f i t j)
  have hS := toList_refl S
  have eq := same_ar O F I T J
  clear h2
  go_enter Try.func3, Try.ntmps3
  go_wp2_with fail
  refine (unhide H1 _).mono ?_
  rintro e w2 ⟨rfl, b2⟩
  have K2 := hide ((unhide K0).on b2)
  clear K0 b2 H1
  obtain ⟨c0, c1, c2, c3, c4⟩ := (unhide K2).five0 rfl rfl rfl rfl rfl
  go_wp2_with fail
  refine (unhide H2 _).mono ?_
  rintro e w3 ⟨rfl, b3⟩
  have B3 := hide ((unhide K2).on b3).bel
  clear K2 b3 H2 c0 c1 c2 c3 c4
  go_wp2_with fail
  refine (unhide H3 _).mono ?_
  rintro e w4 ⟨rfl, b4⟩
  have B4 := hide (tr2 (unhide B3) b4)
  have K4 := hide (box_ar w4 O F I T J)
  clear B3 b4 H3
  go_wp2_with fail
  refine (unhide H4 _).mono ?_
  rintro e w5 ⟨rfl, b5⟩
  have K5 := hide (((unhide K4).on b5).on (below_one _ (arC O F I T J)))
  obtain ⟨c0, c1, c2, c3, c4⟩ := (unhide K5).five0 rfl rfl rfl rfl rfl
  clear K4 b5 H4
  go_wp2_with fail
  refine (unhide H5 _).mono ?_
  rintro e w6 ⟨rfl, b6⟩
  go_wp2_with fail
  go_ret
  exact ⟨rfl, tr2 (unhide B4) ((unhide K5).on b6).bel⟩

theorem arpTells_walk (v : Value) (o f i t j : Nat) (s : ByteArray) (w : World) (hv : IsArp v o f i t j) (hs : s.size ≤ maxLen) :
    Calls Try.prog 3 #[v, .string s] w fun e w' => e = .returned (.bool true) ∧ Below w.heap.size w w' := by
  obtain ⟨rfl, ho, hf, hi, ht, hj⟩ := hv
  by_cases h2 : (4096 : Int) < (s.size : Int)
  · exact tells_long o f i t j s w h2
  · obtain ⟨S, E, he⟩ := enc_ex o f i t j
    obtain ⟨O, F, I, T, J, E2, hd2⟩ := dec_ex s
    exact tells_main o f i t j s w (by omega) S E O F I T J E2 (fun w => encode_any o f i t j w ho hf hi ht hj he) (fun w => rencode_any o f i t j w ho hf hi ht hj he) (fun w => decode_any s w hs hd2) (fun w => rdecode_any s w hs hd2)

end Go.Proofs.Ytkmhhlimhiiciaa
