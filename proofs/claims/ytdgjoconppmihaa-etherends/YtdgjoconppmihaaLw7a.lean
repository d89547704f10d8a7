/- The walk of the law EtherTells, over the loaded program: true; no memory that was there has turned. No conditions. -/
import Derived.Test.YtdgjoconppmihaaAl7
import Derived.Test.YtdgjoconppmihaaInp7
import Derived.Laws.StructEq
namespace Go.Proofs.Ytdgjoconppmihaa
open Go.RowKit

theorem fr_stood : Try.prog.stoodInHeld 26 = false := by kernel_rfl
theorem fr_str : Try.prog.underlying 26 = some (.struct (Try.prog.fieldsOf 26)) := by
  unfold Program.fieldsOf
  rw [Try.underlying26]
set_option maxRecDepth 100000 in
theorem in_fr (d : Nat) (t f k : Nat) (s : ByteArray) (w : World) : (Op.equalIn (d + 2) 26 (fr t f k s) (fr t f k s)).run Try.prog w = .ok true w := by
  rw [run_equalIn_struct w (d + 1) 26 _ _ fr_str fr_stood]
  unfold Program.fieldsOf
  rw [Try.underlying26]
  have u64 := fun (x y : Int) (w : World) => run_equalIn_int w d 23 .u64 .u64 x y Try.underlying23
  have u16 := fun (x y : Int) (w : World) => run_equalIn_int w d 24 .u16 .u16 x y Try.underlying24
  have us := fun (x y : ByteArray) (w : World) => run_equalIn_string w d 9 x y Try.underlying9
  have g64 := Try.isAgg23
  have g16 := Try.isAgg24
  have gs := Try.isAgg9
  simp only [Op.eqFields]
  simp [part, u64, u16, us, g64, g16, gs]
theorem eql_fr (t f k : Nat) (s : ByteArray) (w : World) : (binOp .eql 26 (fr t f k s) (fr t f k s)).run Try.prog w = .ok (.bool true) w := by
  rw [run_eql_struct, in_fr 9998 t f k s w]
  rfl
theorem toList_refl (s : ByteArray) : (s.toList == s.toList) = true := by simp

set_option maxHeartbeats 1000000 in
theorem tells_long1 (t f k : Nat) (d s : ByteArray) (w : World) (h : (131072 : Int) < (d.size : Int)) :
    Calls Try.prog 3 #[fr t f k d, .string s] w fun e w' => e = .returned (.bool true) ∧ Below w.heap.size w w' := by
  have H1 := hide (fun w => long_any t f k d w)
  rw [decide_eq_true h] at H1
  have H2 := hide alive_any
  have BEL := hide (below_one w (.cells #[.int .u64 (t : Int), .int .u64 (f : Int), .int .u16 (k : Int), .string d] 26))
  clear h
  go_enter Try.func3, Try.ntmps3
  go_wp2_with fail
  refine (unhide H1 _).mono ?_
  rintro e w1 ⟨rfl, b1⟩
  go_wp2_with fail
  refine (unhide H2 _).mono ?_
  rintro e w2 ⟨rfl, b2⟩
  go_wp2_with fail
  go_ret
  exact ⟨rfl, tr2 (tr2 (unhide BEL) b1) b2⟩

set_option maxHeartbeats 1000000 in
theorem tells_long2 (t f k : Nat) (d s : ByteArray) (w : World) (h : (d.size : Int) ≤ 131072) (h2 : (131072 : Int) < (s.size : Int)) :
    Calls Try.prog 3 #[fr t f k d, .string s] w fun e w' => e = .returned (.bool true) ∧ Below w.heap.size w w' := by
  have H1 := hide (fun w => long_any t f k d w)
  rw [decide_eq_false (by omega)] at H1
  have H2 := hide alive_any
  have BEL := hide (below_one w (.cells #[.int .u64 (t : Int), .int .u64 (f : Int), .int .u16 (k : Int), .string d] 26))
  have g := decide_eq_true h2
  clear h h2
  go_enter Try.func3, Try.ntmps3
  go_wp2_with fail
  refine (unhide H1 _).mono ?_
  rintro e w1 ⟨rfl, b1⟩
  go_wp2_with fail
  refine (unhide H2 _).mono ?_
  rintro e w2 ⟨rfl, b2⟩
  go_wp2_with fail
  go_ret
  exact ⟨rfl, tr2 (tr2 (unhide BEL) b1) b2⟩

/-- how a boxed frame's cells stand in a world -/
theorem box_cells {w0 w : World} {t f k : Nat} {d : ByteArray} (h : Tab w0 1 (add (fun _ _ => none) 0 [.int .u64 (t : Int), .int .u64 (f : Int), .int .u16 (k : Int), .string d]) w) :
    w.cell? ⟨w0.heap.size, 0, none⟩ = some (.int .u64 (t : Int)) ∧ w.cell? ⟨w0.heap.size, 1, none⟩ = some (.int .u64 (f : Int)) ∧ w.cell? ⟨w0.heap.size, 2, none⟩ = some (.int .u16 (k : Int)) ∧ w.cell? ⟨w0.heap.size, 3, none⟩ = some (.string d) :=
  ⟨h.cells 0 0 _ rfl, h.cells 0 1 _ rfl, h.cells 0 2 _ rfl, h.cells 0 3 _ rfl⟩

set_option maxRecDepth 20000 in
set_option maxHeartbeats 2000000 in
theorem tells_main (t f k : Nat) (d s : ByteArray) (w : World) (h : (d.size : Int) ≤ 131072) (h2 : (s.size : Int) ≤ 131072) (S : ByteArray) (E : Int) (T F K : Nat) (D : ByteArray) (E2 : Int)
    (H1 : Hid (∀ w, Calls Try.prog 10 #[fr t f k d] w fun x w' => x = .returned (.tuple #[.string S, .int .i64 E]) ∧ Below w.heap.size w w'))
    (H2 : Hid (∀ w, Calls Try.prog 11 #[fr t f k d] w fun x w' => x = .returned (.tuple #[.string S, .int .i64 E]) ∧ Below w.heap.size w w'))
    (H3 : Hid (∀ w, Calls Try.prog 12 #[.string s] w fun x w' => x = .returned (.tuple #[fr T F K D, .int .i64 E2]) ∧ Below w.heap.size w w'))
    (H4 : Hid (∀ w, Calls Try.prog 13 #[.string s] w fun x w' => x = .returned (.tuple #[fr T F K D, .int .i64 E2]) ∧ Below w.heap.size w w')) :
    Calls Try.prog 3 #[fr t f k d, .string s] w fun e w' => e = .returned (.bool true) ∧ Below w.heap.size w w' := by
  have H0 := hide (fun w => long_any t f k d w)
  rw [decide_eq_false (by omega)] at H0
  have H5 := hide alive_any
  have g := decide_eq_false (show ¬ (131072 : Int) < (s.size : Int) by omega)
  have K0 := hide (box_start w t f k d 26)
  have hS := toList_refl S
  have eq := eql_fr T F K D
  clear h h2
  go_enter Try.func3, Try.ntmps3
  go_wp2_with fail
  refine (unhide H0 _).mono ?_
  rintro e w1 ⟨rfl, b1⟩
  have K1 := hide ((unhide K0).on b1)
  clear K0 b1 H0
  obtain ⟨c0, c1, c2, c3⟩ := box_cells (unhide K1)
  go_wp2_with fail
  refine (unhide H1 _).mono ?_
  rintro e w2 ⟨rfl, b2⟩
  have K2 := hide ((unhide K1).on b2)
  clear K1 b2 H1 c0 c1 c2 c3
  obtain ⟨c0, c1, c2, c3⟩ := box_cells (unhide K2)
  go_wp2_with fail
  refine (unhide H2 _).mono ?_
  rintro e w3 ⟨rfl, b3⟩
  have B3 := hide ((unhide K2).on b3).bel
  clear K2 b3 H2 c0 c1 c2 c3
  go_wp2_with fail
  refine (unhide H3 _).mono ?_
  rintro e w4 ⟨rfl, b4⟩
  have B4 := hide (tr2 (unhide B3) b4)
  have K4 := hide (box_start w4 T F K D 26)
  clear B3 b4 H3
  go_wp2_with fail
  refine (unhide H4 _).mono ?_
  rintro e w5 ⟨rfl, b5⟩
  have K5 := hide (((unhide K4).on b5).on (below_one _ (.cells #[.int .u64 (T : Int), .int .u64 (F : Int), .int .u16 (K : Int), .string D] 26)))
  obtain ⟨c0, c1, c2, c3⟩ := box_cells (unhide K5)
  clear K4 b5 H4
  go_wp2_with fail
  refine (unhide H5 _).mono ?_
  rintro e w6 ⟨rfl, b6⟩
  go_wp2_with fail
  go_ret
  exact ⟨rfl, tr2 (unhide B4) ((unhide K5).on b6).bel⟩

theorem etherTells_walk (v : Value) (t f k : Nat) (d s : ByteArray) (w : World) (hv : IsFrame v t f k d) (_ : s.size ≤ maxLen) :
    Calls Try.prog 3 #[v, .string s] w fun e w' => e = .returned (.bool true) ∧ Below w.heap.size w w' := by
  obtain ⟨rfl, ht, hf, hk, hd⟩ := hv
  by_cases h1 : (131072 : Int) < (d.size : Int)
  · exact tells_long1 t f k d s w h1
  · by_cases h2 : (131072 : Int) < (s.size : Int)
    · exact tells_long2 t f k d s w (by omega) h2
    · obtain ⟨S, E, he⟩ := enc_ex t f k d
      obtain ⟨T, F, K, D, E2, hd2⟩ := dec_ex s
      exact tells_main t f k d s w (by omega) (by omega) S E T F K D E2 (fun w => encode_any t f k d w ht hf hk (by omega) he) (fun w => rencode_any t f k d w hf hk he) (fun w => decode_any s w hd2) (fun w => rdecode_any s w hd2)

end Go.Proofs.Ytdgjoconppmihaa
