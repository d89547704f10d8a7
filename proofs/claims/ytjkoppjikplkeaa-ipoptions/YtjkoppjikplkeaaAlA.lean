/- The contract of the laws' alive(), over the loaded program; no memory that was there has turned. -/
import Derived.Test.YtjkoppjikplkeaaAl10
import Derived.BigQuiet
namespace Go.Proofs.Ytjkoppjikplkeaa
open Go.RowKit

abbrev v1 : Value := .agg #[.int .u8 0, .int .u16 0, .bool false, .bool false, .int .i64 0, .int .u8 64, .int .u8 17, .int .u32 1, .int .u32 2, .string ⟨#[]⟩]
abbrev v2 : Value := .agg #[.int .u8 0, .int .u16 0, .bool false, .bool false, .int .i64 0, .int .u8 1, .int .u8 0, .int .u32 0, .int .u32 0, .string ⟨#[]⟩]
abbrev hC (a b c d e f g h i j : Value) : Obj := .cells #[a, b, c, d, e, f, g, h, i, j] 25
abbrev v1C : Obj := hC (.int .u8 0) (.int .u16 0) (.bool false) (.bool false) (.int .i64 0) (.int .u8 64) (.int .u8 17) (.int .u32 1) (.int .u32 2) (.string ⟨#[]⟩)
abbrev v0C : Obj := hC (.int .u8 0) (.int .u16 0) (.bool false) (.bool false) (.int .i64 0) (.int .u8 0) (.int .u8 0) (.int .u32 0) (.int .u32 0) (.string ⟨#[]⟩)
def sXB : ByteArray := s1B ++ ⟨#[120, 121, 122]⟩
def sCB : ByteArray := s1B.extract 0 21
def sOB : ByteArray := ⟨#[7, 4, 120, 121, 1, 0, 0, 0]⟩
def sPB : ByteArray := ⟨(passL s1B).toArray⟩
theorem al_e1 (w : World) : Calls Try.prog 11 #[v1, .string ⟨#[97, 98]⟩] w fun e w' => e = .returned (.tuple #[.string s1B, .int .i64 0]) ∧ Below w.heap.size w w' := encode_any h1R ⟨#[97, 98]⟩ w h1_in (by decide) enc1_is
theorem al_e2 (w : World) : Calls Try.prog 11 #[v2, .string ⟨#[]⟩] w fun e w' => e = .returned (.tuple #[.string s2B, .int .i64 0]) ∧ Below w.heap.size w w' := encode_any h2R ⟨#[]⟩ w h2_in (by decide) enc2_is
theorem al_d1 (w : World) : Calls Try.prog 13 #[.string sXB] w fun e w' => e = .returned (.tuple #[v1, .string ⟨#[97, 98]⟩, .int .i64 0]) ∧ Below w.heap.size w w' := by
  have H := decode_any sXB w (by decide +kernel)
  rw [show sXB = s1B ++ ⟨#[120, 121, 122]⟩ from rfl, dec_enc (h := h1R) (d := ⟨#[97, 98]⟩) h1_in (by decide) (by decide) (by decide) (by decide +kernel)] at H
  exact H
theorem al_d2 (w : World) : Calls Try.prog 13 #[.string sCB] w fun e w' => e = .returned (.tuple #[hd0V, .string ⟨#[]⟩, .int .i64 10]) ∧ Below w.heap.size w w' := by
  have H := decode_any sCB w (by decide +kernel)
  rw [show decV sCB = _ from dec21] at H
  exact H
theorem al_p1 (w : World) : Calls Try.prog 23 #[.string s1B] w fun e w' => e = .returned (.tuple #[.string sPB, .int .i64 0]) ∧ Below w.heap.size w w' := by
  have H := pass_any s1B w (by decide)
  rw [pass1] at H
  exact H
theorem al_p2 (w : World) : Calls Try.prog 23 #[.string s2B] w fun e w' => e = .returned (.tuple #[.string ⟨#[]⟩, .int .i64 9]) ∧ Below w.heap.size w w' := by
  have H := pass_any s2B w (by decide)
  rw [pass2] at H
  exact H
theorem al_may (w : World) : Calls Try.prog 15 #[v1] w fun e w' => e = .returned (.bool true) ∧ Below w.heap.size w w' := may_any h1R w h1_in
theorem al_cut (w : World) : Calls Try.prog 25 #[.string s1B, .int .i64 21] w fun e w' => e = .returned (.string sCB) ∧ w' = w := cut_any s1B 21 w (by decide)
theorem al_opts (b : Nat) (w : World) (hI : OptsAt w.heap.size w (.slice (some ⟨b, 0, none⟩) 2 2) [(7, ⟨#[120, 121]⟩), (1, ⟨#[]⟩)]) : Calls Try.prog 18 #[.slice (some ⟨b, 0, none⟩) 2 2] w fun e w' => e = .returned (.tuple #[.string sOB, .int .i64 0]) ∧ Below w.heap.size w w' := by
  have H := opts_ok _ _ w (by decide) hI (by decide) (by decide +kernel)
  rw [show (⟨(pad4 (optsL [(7, ⟨#[120, 121]⟩), (1, ⟨#[]⟩)])).toArray⟩ : ByteArray) = sOB from by decide +kernel] at H
  exact H
theorem ten0 {w0 w : World} {n : Nat} {f : Nat → Nat → Option Value} (k : Tab w0 n f w) (b : Nat) {v0 v1 v2 v3 v4 v5 v6 v7 v8 v9 : Value} (h0 : f b 0 = some v0) (h1 : f b 1 = some v1) (h2 : f b 2 = some v2) (h3 : f b 3 = some v3) (h4 : f b 4 = some v4) (h5 : f b 5 = some v5) (h6 : f b 6 = some v6) (h7 : f b 7 = some v7) (h8 : f b 8 = some v8) (h9 : f b 9 = some v9) :
    w.cell? ⟨w0.heap.size + b, 0, none⟩ = some v0 ∧ w.cell? ⟨w0.heap.size + b, 1, none⟩ = some v1 ∧ w.cell? ⟨w0.heap.size + b, 2, none⟩ = some v2 ∧ w.cell? ⟨w0.heap.size + b, 3, none⟩ = some v3 ∧ w.cell? ⟨w0.heap.size + b, 4, none⟩ = some v4 ∧ w.cell? ⟨w0.heap.size + b, 5, none⟩ = some v5 ∧ w.cell? ⟨w0.heap.size + b, 6, none⟩ = some v6 ∧ w.cell? ⟨w0.heap.size + b, 7, none⟩ = some v7 ∧ w.cell? ⟨w0.heap.size + b, 8, none⟩ = some v8 ∧ w.cell? ⟨w0.heap.size + b, 9, none⟩ = some v9 :=
  ⟨k.cells b 0 _ h0, k.cells b 1 _ h1, k.cells b 2 _ h2, k.cells b 3 _ h3, k.cells b 4 _ h4, k.cells b 5 _ h5, k.cells b 6 _ h6, k.cells b 7 _ h7, k.cells b 8 _ h8, k.cells b 9 _ h9⟩
theorem box10 (w : World) (v0 v1 v2 v3 v4 v5 v6 v7 v8 v9 : Value) : Tab w 1 (add (fun _ _ => none) 0 [v0, v1, v2, v3, v4, v5, v6, v7, v8, v9]) (w.alloc (hC v0 v1 v2 v3 v4 v5 v6 v7 v8 v9)) := (Tab.zero w).alloc rfl [v0, v1, v2, v3, v4, v5, v6, v7, v8, v9] _
theorem sP_size : 8 < sPB.size := by decide +kernel
theorem sP8 : (sPB[8]'sP_size).toNat = 63 := by decide +kernel
abbrev oC : Obj := .cells #[.int .u8 7, .string ⟨#[120, 121]⟩, .int .u8 1, .string ⟨#[]⟩] 57
theorem opts2_at (w : World) : OptsAt (w.alloc oC).heap.size (w.alloc oC) (.slice (some ⟨w.heap.size, 0, none⟩) 2 2) [(7, ⟨#[120, 121]⟩), (1, ⟨#[]⟩)] := by
  have k : Tab w 1 _ (w.alloc oC) := (Tab.zero w).alloc rfl [.int .u8 7, .string ⟨#[120, 121]⟩, .int .u8 1, .string ⟨#[]⟩] _
  refine .inr ⟨w.heap.size, 0, 2, rfl, by simp, ?_⟩
  intro i x hx
  match i with
  | 0 => cases hx; exact ⟨k.cells 0 0 _ rfl, k.cells 0 1 _ rfl⟩
  | 1 => cases hx; exact ⟨k.cells 0 2 _ rfl, k.cells 0 3 _ rfl⟩
  | i + 2 => cases hx
theorem opts2_at' (w : World) (o : Obj) : OptsAt ((w.alloc o).alloc oC).heap.size ((w.alloc o).alloc oC) (.slice (some ⟨w.heap.size + 1, 0, none⟩) 2 2) [(7, ⟨#[120, 121]⟩), (1, ⟨#[]⟩)] := by
  have h := opts2_at (w.alloc o)
  rw [show (w.alloc o).heap.size = w.heap.size + 1 by simp] at h
  exact h

set_option maxHeartbeats 2000000 in
theorem alive_any (w : World) :
    Calls Try.prog 10 #[] w fun e w' => e = .returned (.bool true) ∧ Below w.heap.size w w' := by
  have H1 := hide al_e1
  have H2 := hide al_d1
  have H3 := hide @al_opts
  have H4 := hide al_p1
  have H5 := hide al_e2
  have H6 := hide al_p2
  have H7 := hide al_cut
  have H8 := hide al_d2
  have H9 := hide al_may
  have z1 : s1B.size = 22 := rfl
  have z2 : 8 < sPB.size := sP_size
  have z3 : s1B.extract 0 2 = ⟨#[69, 0]⟩ := by decide +kernel
  have z4 : (sPB[8]'z2).toNat = 63 := sP8
  have z5 : s1B ++ ⟨#[120, 121, 122]⟩ = sXB := rfl
  have z6 : sOB = ⟨#[7, 4, 120, 121, 1, 0, 0, 0]⟩ := rfl
  generalize s1B = S at *
  generalize s2B = T at *
  generalize sXB = X at *
  generalize sCB = C at *
  generalize sPB = P' at *
  generalize sOB = O at *
  go_enter Try.func10, Try.ntmps10
  go_wp2_with fail
  refine (unhide H1 _).mono ?_
  rintro e w1 ⟨rfl, b1⟩
  clear H1
  have K1 := hide b1
  clear b1
  go_wp2_with fail
  refine (unhide H2 _).mono ?_
  rintro e w2 ⟨rfl, b2⟩
  clear H2
  have K2 := hide (box10 w2 (.int .u8 0) (.int .u16 0) (.bool false) (.bool false) (.int .i64 0) (.int .u8 64) (.int .u8 17) (.int .u32 1) (.int .u32 2) (.string ⟨#[]⟩))
  have B2 := hide (tr2 (unhide K1) b2)
  clear b2 K1
  go_wp2_with fail
  refine (unhide H3 _ _ (opts2_at' w2 v1C)).mono ?_
  rintro e w3 ⟨rfl, b3⟩
  have K3 := hide (((unhide K2).on (below_one _ oC)).on b3)
  clear b3 H3 K2
  go_wp2_with fail
  refine (unhide H4 _).mono ?_
  rintro e w4 ⟨rfl, b4⟩
  have K4 := hide ((unhide K3).on b4)
  clear b4 H4 K3
  go_wp2_with fail
  refine (unhide H5 _).mono ?_
  rintro e w5 ⟨rfl, b5⟩
  have K5 := hide ((unhide K4).on b5)
  clear b5 H5 K4
  go_wp2_with fail
  refine (unhide H6 _).mono ?_
  rintro e w6 ⟨rfl, b6⟩
  have K6 := hide ((unhide K5).on b6)
  clear b6 H6 K5
  go_wp2_with fail
  refine (unhide H7 _).mono ?_
  rintro e w7 ⟨rfl, rfl⟩
  clear H7
  go_wp2_with fail
  refine (unhide H8 _).mono ?_
  rintro e w8 ⟨rfl, b8⟩
  have K8 := hide ((unhide K6).on (tr2 b8 (below_one w8 v0C)))
  clear b8 H8 K6
  obtain ⟨c0, c1, c2, c3, c4, c5, c6, c7, c8, c9⟩ := ten0 (unhide K8) 0 rfl rfl rfl rfl rfl rfl rfl rfl rfl rfl
  simp only [Nat.add_zero] at c0 c1 c2 c3 c4 c5 c6 c7 c8 c9
  go_wp2_with fail
  refine (unhide H9 _).mono ?_
  rintro e w9 ⟨rfl, b9⟩
  have K9 := hide ((unhide K8).on b9)
  clear b9 H9 K8
  go_wp2_with fail
  go_ret
  exact ⟨rfl, tr2 (unhide B2) (unhide K9).bel⟩

end Go.Proofs.Ytjkoppjikplkeaa
