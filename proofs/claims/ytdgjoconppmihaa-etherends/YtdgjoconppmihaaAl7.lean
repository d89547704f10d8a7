/- The contract of the laws' alive() and Long, over the loaded program; no memory that was there has turned. No conditions. -/
import Derived.Test.YtdgjoconppmihaaEt5
import Derived.Test.YtdgjoconppmihaaRf8
import Derived.BigQuiet
namespace Go.Proofs.Ytdgjoconppmihaa
open Go.RowKit

theorem cvz1 (n : Nat) (W : World) (o : Obj) : (convert 46 9 (.slice (some ⟨W.heap.size + 1, 0, none⟩) n n)).run Try.prog ((W.alloc o).alloc (zc n)) = .ok (.string (zs n)) ((W.alloc o).alloc (zc n)) := by
  have h := cvz n (W.alloc o)
  rw [World.size_alloc] at h
  exact h
/-- the frame of the example, and its data -/
def SE : ByteArray := encB 1 2 2048 ⟨#[97, 98]⟩
def DD : ByteArray := SE.extract 14 SE.size
theorem SE_size : SE.size = 60 := by decide +kernel
theorem DD_size : DD.size = 46 := by decide +kernel
theorem al_enc (w : World) : Calls Try.prog 10 #[.agg #[.int .u64 1, .int .u64 2, .int .u16 2048, .string ⟨#[97, 98]⟩]] w fun e w' => e = .returned (.tuple #[.string SE, .int .i64 0]) ∧ Below w.heap.size w w' :=
  encode_any 1 2 2048 ⟨#[97, 98]⟩ w (by decide) (by decide) (by decide) (by decide) (.inr (.inr ⟨⟨by decide, by decide, by decide +kernel, by decide⟩, rfl, rfl⟩))
theorem al_dec (w : World) : Calls Try.prog 12 #[.string SE] w fun e w' => e = .returned (.tuple #[.agg #[.int .u64 1, .int .u64 2, .int .u16 2048, .string DD], .int .i64 0]) ∧ Below w.heap.size w w' :=
  decode_any SE w (t := 1) (f := 2) (k := 2048) (d := DD) (e := 0) (.inr (.inr (.inr ⟨⟨by rw [SE_size]; decide, by rw [SE_size]; decide, by decide +kernel⟩, by decide +kernel, by decide +kernel, by decide +kernel, rfl, rfl⟩)))
theorem al_dec2 (w : World) : Calls Try.prog 12 #[.string (zs 59)] w fun e w' => e = .returned (.tuple #[.agg #[.int .u64 0, .int .u64 0, .int .u16 0, .string ⟨#[]⟩], .int .i64 10]) ∧ Below w.heap.size w w' :=
  decode_any (zs 59) w (t := 0) (f := 0) (k := 0) (d := ⟨#[]⟩) (e := 10) (.inl ⟨by rw [zs_size]; decide, rfl, rfl, rfl, rfl, rfl⟩)
theorem al_p1 (w : World) : Calls Try.prog 14 #[.string ⟨#[48, 48, 58, 48, 48, 58, 48, 48, 58, 48, 48, 58, 48, 48, 58, 48, 49]⟩] w fun e w' => e = .returned (.tuple #[.int .u64 1, .int .i64 0]) ∧ Below w.heap.size w w' := by
  have h : (⟨(mtxt 1).toArray⟩ : ByteArray) = ⟨#[48, 48, 58, 48, 48, 58, 48, 48, 58, 48, 48, 58, 48, 48, 58, 48, 49]⟩ := by decide +kernel
  have := parse_txt 1 (by decide) w
  rw [h] at this
  exact this
theorem al_p2 (w : World) : Calls Try.prog 14 #[.string ⟨#[48, 58, 48, 58, 48, 58, 48, 58, 48, 58, 49]⟩] w fun e w' => e = .returned (.tuple #[.int .u64 0, .int .i64 8]) ∧ Below w.heap.size w w' :=
  parse_len ⟨#[48, 58, 48, 58, 48, 58, 48, 58, 48, 58, 49]⟩ (by decide) w
theorem al_t (w : World) : Calls Try.prog 16 #[.int .u64 1] w fun e w' => e = .returned (.string ⟨#[48, 48, 58, 48, 48, 58, 48, 48, 58, 48, 48, 58, 48, 48, 58, 48, 49]⟩) ∧ Below w.heap.size w w' := by
  have h : (⟨(mtxt 1).toArray⟩ : ByteArray) = ⟨#[48, 48, 58, 48, 48, 58, 48, 48, 58, 48, 48, 58, 48, 48, 58, 48, 49]⟩ := by decide +kernel
  have := text_any 1 w (by decide)
  rw [h] at this
  exact this

set_option maxRecDepth 20000 in
set_option maxHeartbeats 2000000 in
theorem alive_any (w : World) : Calls Try.prog 9 #[] w fun e w' => e = .returned (.bool true) ∧ Below w.heap.size w w' := by
  have H1 := hide al_enc
  have H2 := hide al_dec
  have H3 := hide al_dec2
  have H4 := hide al_p1
  have H5 := hide al_p2
  have F1 : Hid (∀ w, Calls Try.prog 18 #[.agg #[.int .u64 1, .int .u64 2, .int .u16 2048, .string DD], .int .u64 1] w fun e w' => e = .returned (.bool true) ∧ Below w.heap.size w w') := fun w => for_any 1 2 2048 DD 1 w
  have F2 : Hid (∀ w, Calls Try.prog 18 #[.agg #[.int .u64 1, .int .u64 2, .int .u16 2048, .string DD], .int .u64 2] w fun e w' => e = .returned (.bool false) ∧ Below w.heap.size w w') := fun w => for_any 1 2 2048 DD 2 w
  have sl : ∀ w, (Instr.slice 9 (.string DD) none (some (.int .i64 2)) none).run Try.prog w = .ok (.string ⟨#[97, 98]⟩) w := fun _ => by kernel_rfl
  have hmk : ∀ w, (Instr.makeSlice 46 (.int .i64 59) (.int .i64 59)).run Try.prog w = .ok (.slice (some ⟨w.heap.size, 0, none⟩) 59 59) (w.alloc (zc 59)) := fun w => mkz 59 (by decide) w
  have hcv := fun w o => cvz1 59 w o
  have z1 := SE_size
  have z2 := DD_size
  generalize SE = S at *
  generalize DD = D at *
  generalize zs 59 = Z at *
  generalize zc 59 = ZC at *
  go_enter Try.func9, Try.ntmps9
  go_wp2_with fail
  refine (unhide H1 _).mono ?_
  rintro e w1 ⟨rfl, b1⟩
  go_wp2_with fail
  refine (unhide H2 _).mono ?_
  rintro e w2 ⟨rfl, b2⟩
  have B2 := hide (tr2 b1 b2)
  have K := hide (box_start w2 1 2 2048 D 26)
  clear b1 b2 H1 H2
  go_wp2_with fail
  refine (unhide H3 _).mono ?_
  rintro e w3 ⟨rfl, b3⟩
  have K3 := hide (((unhide K).on (below_one _ _)).on b3)
  clear K b3
  clear hcv hmk H3
  go_wp2_with fail
  refine (unhide H4 _).mono ?_
  rintro e w4 ⟨rfl, b4⟩
  have K4 := hide (((unhide K3).on (below_one _ _)).on b4)
  clear K3 b4 H4
  go_wp2_with fail
  refine (unhide H5 _).mono ?_
  rintro e w5 ⟨rfl, b5⟩
  have k5 := (unhide K4).on b5
  clear K4 b5 H5
  have c0 := k5.cells 0 0 _ rfl
  have c1 := k5.cells 0 1 _ rfl
  have c2 := k5.cells 0 2 _ rfl
  have c3 := k5.cells 0 3 _ rfl
  have K5 := hide k5
  simp only [Nat.add_zero] at c0 c1 c2 c3
  clear k5
  go_wp2_with fail
  refine (al_t _).mono ?_
  rintro e w6 ⟨rfl, b6⟩
  have k6 := (unhide K5).on b6
  have d0 := k6.cells 0 0 _ rfl
  have d1 := k6.cells 0 1 _ rfl
  have d2 := k6.cells 0 2 _ rfl
  have d3 := k6.cells 0 3 _ rfl
  have K6 := hide k6
  simp only [Nat.add_zero] at d0 d1 d2 d3
  clear k6 K5 b6 c0 c1 c2 c3
  go_wp2_with fail
  refine (unhide F1 _).mono ?_
  rintro e w7 ⟨rfl, b7⟩
  have k7 := (unhide K6).on b7
  have c0 := k7.cells 0 0 _ rfl
  have c1 := k7.cells 0 1 _ rfl
  have c2 := k7.cells 0 2 _ rfl
  have c3 := k7.cells 0 3 _ rfl
  have K7 := hide k7
  simp only [Nat.add_zero] at c0 c1 c2 c3
  clear k7 K6 b7 d0 d1 d2 d3 F1
  go_wp2_with fail
  refine (unhide F2 _).mono ?_
  rintro e w8 ⟨rfl, b8⟩
  go_wp2_with fail
  go_ret
  exact ⟨rfl, tr2 (unhide B2) ((unhide K7).on b8).bel⟩

set_option maxHeartbeats 400000 in
theorem long_any (t f k : Nat) (d : ByteArray) (w : World) :
    Calls Try.prog 8 #[fr t f k d] w fun e w' => e = .returned (.bool (decide ((131072 : Int) < (d.size : Int)))) ∧ Below w.heap.size w w' := by
  have BEL := hide (below_one w (.cells #[.int .u64 (t : Int), .int .u64 (f : Int), .int .u16 (k : Int), .string d] 26))
  go_enter Try.func8, Try.ntmps8
  go_wp2
  go_ret
  exact ⟨rfl, unhide BEL⟩

end Go.Proofs.Ytdgjoconppmihaa
