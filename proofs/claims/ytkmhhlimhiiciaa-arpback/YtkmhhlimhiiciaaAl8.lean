/- The contracts of the laws' alive(), cut and behind, over the loaded program; no memory that was there has turned. Conditions: lengths within bounds. -/
import Derived.Test.YtkmhhlimhiiciaaEq8
import Derived.Laws.MakeOwn
import Derived.BigQuiet
namespace Go.Proofs.Ytkmhhlimhiiciaa
open Go.RowKit

theorem made_one (z : Value) (n : Nat) : madeCells #[z] n = Array.replicate n z := by
  apply Array.ext
  · rw [size_madeCells, Array.size_replicate]
  · intro i h1 h2
    have e : i % 1 = 0 := Nat.mod_one i
    simp [madeCells, e]
/-- bytes 0 -/
def zs (n : Nat) : ByteArray := ⟨(List.replicate n (0 : UInt8)).toArray⟩
def zc (n : Nat) : Obj := .cells (Array.replicate n (.int .u8 0)) 5
theorem mkz (n : Nat) (hn : n ≤ 1000000) (w : World) : (Instr.makeSlice 48 (.int .i64 (n : Int)) (.int .i64 (n : Int))).run Try.prog w = .ok (.slice (some ⟨w.heap.size, 0, none⟩) n n) (w.alloc (zc n)) := by
  obtain ⟨i0, hi, hz0, hz1, hz2⟩ := info_parts (P := Try.prog) (e := 5) (z := .int .u8 0) (size := 1) (bytes := 1) (by kernel_rfl)
  have h := run_make (P := Try.prog) w 48 5 i0 (.int .u8 0) Try.underlying48 hi hz0 .i64 .i64 (n : Int) (n : Int) (by omega) (by omega) (by rw [hz2]; omega) (by omega)
  rw [hz1, show (Value.int .u8 0).cells = #[.int .u8 0] from rfl, made_one] at h
  unfold zc
  simpa using h
theorem cvz (n : Nat) (W : World) : (convert 48 9 (.slice (some ⟨W.heap.size, 0, none⟩) n n)).run Try.prog (W.alloc (zc n)) = .ok (.string (zs n)) (W.alloc (zc n)) := by
  have h := run_convert_bytes_back (P := Try.prog) (W.alloc (zc n)) 48 9 5 ⟨W.heap.size, 0, none⟩ n (List.replicate n 0) Try.underlying48 Try.underlying5 Try.underlying9 (fun j hj => by
    have hj' : j < n := by simpa using hj
    have ha : (⟨W.heap.size, 0, none⟩ : Addr).add j = ⟨W.heap.size, j, none⟩ := by unfold Addr.add; split <;> simp_all
    rw [ha]
    unfold zc
    rw [cell_of_row _ _ j _ _ _ (heap_alloc_new W _)]
    simp [hj'])
  rw [List.length_replicate] at h
  exact h

theorem ext_all (s : ByteArray) (n : Nat) (h : s.size ≤ n) : s.extract 0 n = s := by
  apply ByteArray.ext
  rw [Lib.extract_eq]
  apply Array.toList_inj.1
  have := Lib.size_eq s
  rw [List.drop_zero, List.take_of_length_le (by omega)]

set_option maxHeartbeats 400000 in
theorem cut_any (s : ByteArray) (n : Nat) (w : World) :
    Calls Try.prog 17 #[.string s, .int .i64 (n : Int)] w fun e w' => e = .returned (.string (s.extract 0 n)) ∧ w' = w := by
  by_cases h : s.size < n
  · have e := ext_all s n (by omega)
    rw [e]
    have g : decide (s.size < n) = true := decide_eq_true h
    clear e h
    go_enter Try.func17, Try.ntmps17
    go_wp2
    go_ret
    exact ⟨rfl, rfl⟩
  · have g : decide (s.size < n) = false := decide_eq_false h
    have h' : n ≤ s.size := by omega
    clear h
    go_enter Try.func17, Try.ntmps17
    go_wp2
    go_ret
    exact ⟨rfl, rfl⟩

/-- the packet of the example, and texts made of it -/
def SE : ByteArray := encB 2 2 167772162 1 167772161
def SZ : ByteArray := SE ++ zs 18
def SC : ByteArray := SE.extract 0 27
def SB : ByteArray := SE.extract 1 SE.size
def SX : ByteArray := ⟨#[120]⟩ ++ SB
theorem SE_size : SE.size = 28 := by decide +kernel
theorem SB_size : SB.size = 27 := by decide +kernel
theorem zs18 : (zs 18).size = 18 := by decide +kernel

set_option maxHeartbeats 400000 in
theorem behind_1 (w : World) :
    Calls Try.prog 18 #[.string SE, .int .i64 1] w fun e w' => e = .returned (.string SB) ∧ w' = w := by
  have z := SE_size
  have hb : SE.extract 1 28 = SB := by rw [← SE_size]; rfl
  generalize SB = M at *
  generalize SE = A at *
  go_enter Try.func18, Try.ntmps18
  go_wp2
  go_ret
  exact ⟨rfl, rfl⟩

abbrev a1 : Value := .agg #[.int .u16 1, .int .u64 1, .int .u32 167772161, .int .u64 0, .int .u32 167772162]
abbrev a2 : Value := .agg #[.int .u16 2, .int .u64 2, .int .u32 167772162, .int .u64 1, .int .u32 167772161]
theorem al_ask (w : World) : Calls Try.prog 14 #[.int .u64 1, .int .u32 167772161, .int .u32 167772162] w fun e w' => e = .returned a1 ∧ Below w.heap.size w w' := ask_any 1 167772161 167772162 w
theorem al_tell (w : World) : Calls Try.prog 12 #[a1, .int .u64 2] w fun e w' => e = .returned (.tuple #[a2, .bool true]) ∧ Below w.heap.size w w' := tell_yes 1 167772161 0 167772162 2 w
theorem al_tell3 (w : World) : Calls Try.prog 12 #[a2, .int .u64 3] w fun e w' => e = .returned (.tuple #[ar0, .bool false]) ∧ Below w.heap.size w w' := tell_no 2 2 167772162 1 167772161 3 w rfl
theorem al_enc (w : World) : Calls Try.prog 8 #[a2] w fun e w' => e = .returned (.tuple #[.string SE, .int .i64 0]) ∧ Below w.heap.size w w' :=
  encode_any 2 2 167772162 1 167772161 w (by decide) (by decide) (by decide) (by decide) (by decide) (.inr ⟨⟨rfl, by decide, by decide⟩, rfl, rfl⟩)
theorem al_dec (w : World) : Calls Try.prog 10 #[.string SZ] w fun e w' => e = .returned (.tuple #[a2, .int .i64 0]) ∧ Below w.heap.size w w' :=
  decode_any SZ w (by have : SZ.size = 46 := by decide +kernel
                      rw [this]; decide) (O := 2) (F := 2) (I := 167772162) (T := 1) (J := 167772161) (e := 0) (.inr (.inr (.inr ⟨⟨by decide +kernel, by decide +kernel, by decide +kernel⟩, by decide +kernel, by decide +kernel, by decide +kernel, by decide +kernel, by decide +kernel, rfl⟩)))
theorem al_dec2 (w : World) : Calls Try.prog 10 #[.string SC] w fun e w' => e = .returned (.tuple #[ar0, .int .i64 10]) ∧ Below w.heap.size w w' := dec_short SC w (by decide +kernel)
theorem al_dec3 (w : World) : Calls Try.prog 10 #[.string SX] w fun e w' => e = .returned (.tuple #[ar0, .int .i64 80]) ∧ Below w.heap.size w w' := dec_head SX w (by decide +kernel) (by decide +kernel)
theorem al_call (w : World) : Calls Try.prog 16 #[.int .u64 5, .int .u32 6] w fun e w' => e = .returned (.agg #[.int .u16 1, .int .u64 5, .int .u32 6, .int .u64 0, .int .u32 6]) ∧ Below w.heap.size w w' := call_any 5 6 w

/-- a packet in a new box -/
theorem box5 (w : World) (v0 v1 v2 v3 v4 : Value) (ty : TypeId) : Tab w 1 (add (fun _ _ => none) 0 [v0, v1, v2, v3, v4]) (w.alloc (.cells #[v0, v1, v2, v3, v4] ty)) := (Tab.zero w).alloc rfl [v0, v1, v2, v3, v4] ty

set_option maxRecDepth 20000 in
set_option maxHeartbeats 2000000 in
theorem alive_any (w : World) : Calls Try.prog 7 #[] w fun e w' => e = .returned (.bool true) ∧ Below w.heap.size w w' := by
  have H1 := hide al_ask
  have H2 := hide al_tell
  have H3 := hide al_enc
  have H4 := hide al_dec
  have H5 := hide al_tell3
  have H6 : Hid (∀ w, Calls Try.prog 17 #[.string SE, .int .i64 27] w fun e w' => e = .returned (.string SC) ∧ w' = w) := fun w => cut_any SE 27 w
  have H7 := hide al_dec2
  have H8 := hide behind_1
  have H9 := hide al_dec3
  have H10 := hide al_call
  have hmk : ∀ w, (Instr.makeSlice 48 (.int .i64 18) (.int .i64 18)).run Try.prog w = .ok (.slice (some ⟨w.heap.size, 0, none⟩) 18 18) (w.alloc (zc 18)) := fun w => mkz 18 (by decide) w
  have hcv := fun w => cvz 18 w
  have z1 := SE_size
  have hZ : SE ++ zs 18 = SZ := rfl
  have z2 := zs18
  have hX : (⟨#[120]⟩ : ByteArray) ++ SB = SX := rfl
  have z3 := SB_size
  have eq : ∀ w, (binOp .eql 27 a2 a2).run Try.prog w = .ok (.bool true) w := fun w => same_ar 2 2 167772162 1 167772161 w
  generalize SE = S at *
  generalize SZ = Z at *
  generalize SC = C at *
  generalize SB = B' at *
  generalize SX = X at *
  generalize zs 18 = ZS at *
  generalize zc 18 = ZC at *
  go_enter Try.func7, Try.ntmps7
  go_wp2_with fail
  refine (unhide H1 _).mono ?_
  rintro e w1 ⟨rfl, b1⟩
  have B1 := hide (tr2 b1 (below_one w1 (.cells #[.int .u16 1, .int .u64 1, .int .u32 167772161, .int .u64 0, .int .u32 167772162] 27)))
  clear b1 H1
  go_wp2_with fail
  refine (unhide H2 _).mono ?_
  rintro e w2 ⟨rfl, b2⟩
  have B2 := hide (tr2 (unhide B1) b2)
  have K2 := hide (box5 w2 (.int .u16 2) (.int .u64 2) (.int .u32 167772162) (.int .u64 1) (.int .u32 167772161) 27)
  clear b2 H2 B1
  go_wp2_with fail
  refine (unhide H3 _).mono ?_
  rintro e w3 ⟨rfl, b3⟩
  have K3 := hide ((unhide K2).on b3)
  clear b3 H3 K2
  go_wp2_with fail
  refine (unhide H4 _).mono ?_
  rintro e w4 ⟨rfl, b4⟩
  have K4 := hide ((((unhide K3).on (below_one _ ZC)).on b4).on (below_one w4 (.cells #[.int .u16 2, .int .u64 2, .int .u32 167772162, .int .u64 1, .int .u32 167772161] 27)))
  have L4 := hide (box5 w4 (.int .u16 2) (.int .u64 2) (.int .u32 167772162) (.int .u64 1) (.int .u32 167772161) 27)
  clear b4 H4 K3 hmk hcv
  obtain ⟨c0, c1, c2, c3, c4⟩ := (unhide K4).five0 rfl rfl rfl rfl rfl
  go_wp2_with fail
  refine (unhide H5 _).mono ?_
  rintro e w5 ⟨rfl, b5⟩
  have K5 := hide (((unhide K4).on b5).on (below_one w5 (.cells #[.int .u16 0, .int .u64 0, .int .u32 0, .int .u64 0, .int .u32 0] 27)))
  have L5 := hide (((unhide L4).on b5).on (below_one w5 (.cells #[.int .u16 0, .int .u64 0, .int .u32 0, .int .u64 0, .int .u32 0] 27)))
  clear b5 H5 K4 L4 c0 c1 c2 c3 c4
  go_wp2_with fail
  refine (unhide H6 _).mono ?_
  rintro e w6 ⟨rfl, rfl⟩
  clear H6
  go_wp2_with fail
  refine (unhide H7 _).mono ?_
  rintro e w7 ⟨rfl, b7⟩
  have K7 := hide (((unhide K5).on b7).on (below_one w7 (.cells #[.int .u16 0, .int .u64 0, .int .u32 0, .int .u64 0, .int .u32 0] 27)))
  have L7 := hide (((unhide L5).on b7).on (below_one w7 (.cells #[.int .u16 0, .int .u64 0, .int .u32 0, .int .u64 0, .int .u32 0] 27)))
  clear b7 H7 K5 L5
  go_wp2_with fail
  refine (unhide H8 _).mono ?_
  rintro e w8 ⟨rfl, rfl⟩
  clear H8
  go_wp2_with fail
  refine (unhide H9 _).mono ?_
  rintro e w9 ⟨rfl, b9⟩
  have K9 := hide (((unhide K7).on b9).on (below_one w9 (.cells #[.int .u16 0, .int .u64 0, .int .u32 0, .int .u64 0, .int .u32 0] 27)))
  have L9 := hide (((unhide L7).on b9).on (below_one w9 (.cells #[.int .u16 0, .int .u64 0, .int .u32 0, .int .u64 0, .int .u32 0] 27)))
  clear b9 H9 K7 L7
  go_wp2_with fail
  refine (unhide H10 _).mono ?_
  rintro e w10 ⟨rfl, b10⟩
  have K10 := hide (((unhide K9).on b10).on (below_one w10 (.cells #[.int .u16 1, .int .u64 5, .int .u32 6, .int .u64 0, .int .u32 6] 27)))
  have L10 := hide (((unhide L9).on b10).on (below_one w10 (.cells #[.int .u16 1, .int .u64 5, .int .u32 6, .int .u64 0, .int .u32 6] 27)))
  clear b10 H10 K9 L9
  obtain ⟨c0, c1, c2, c3, c4⟩ := (unhide K10).five0 rfl rfl rfl rfl rfl
  obtain ⟨d0, d1, d2, d3, d4⟩ := (unhide L10).five0 rfl rfl rfl rfl rfl
  go_wp2_with fail
  go_ret
  exact ⟨rfl, tr2 (unhide B2) (unhide K10).bel⟩

end Go.Proofs.Ytkmhhlimhiiciaa
