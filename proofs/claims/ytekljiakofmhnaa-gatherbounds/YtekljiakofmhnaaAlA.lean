/- The contract of the laws' alive(), over the loaded program; no memory that was there has turned. -/
import Derived.Test.YtekljiakofmhnaaAl10
import Derived.BigQuiet
namespace Go.Proofs.Ytekljiakofmhnaa
open Go.RowKit

abbrev v1 : Value := .agg #[.int .u8 0, .int .u16 0, .bool false, .bool false, .int .i64 0, .int .u8 64, .int .u8 17, .int .u32 1, .int .u32 2, .string ⟨#[]⟩]
abbrev v2 : Value := .agg #[.int .u8 0, .int .u16 0, .bool false, .bool false, .int .i64 0, .int .u8 1, .int .u8 0, .int .u32 0, .int .u32 0, .string ⟨#[]⟩]
abbrev hC (a b c d e f g h i j : Value) : Obj := .cells #[a, b, c, d, e, f, g, h, i, j] 34
abbrev v1C : Obj := hC (.int .u8 0) (.int .u16 0) (.bool false) (.bool false) (.int .i64 0) (.int .u8 64) (.int .u8 17) (.int .u32 1) (.int .u32 2) (.string ⟨#[]⟩)
abbrev v0C : Obj := hC (.int .u8 0) (.int .u16 0) (.bool false) (.bool false) (.int .i64 0) (.int .u8 0) (.int .u8 0) (.int .u32 0) (.int .u32 0) (.string ⟨#[]⟩)
def sXB : ByteArray := s1B ++ ⟨#[120, 121, 122]⟩
def sCB : ByteArray := s1B.extract 0 21
def sOB : ByteArray := ⟨#[7, 4, 120, 121, 1, 0, 0, 0]⟩
def sPB : ByteArray := ⟨(passL s1B).toArray⟩
theorem al_e1 (w : World) : Calls Try.prog 21 #[v1, .string ⟨#[97, 98]⟩] w fun e w' => e = .returned (.tuple #[.string s1B, .int .i64 0]) ∧ Below w.heap.size w w' := encode_any h1R ⟨#[97, 98]⟩ w h1_in (by decide) enc1_is
theorem al_e2 (w : World) : Calls Try.prog 21 #[v2, .string ⟨#[]⟩] w fun e w' => e = .returned (.tuple #[.string s2B, .int .i64 0]) ∧ Below w.heap.size w w' := encode_any h2R ⟨#[]⟩ w h2_in (by decide) enc2_is
theorem al_may (w : World) : Calls Try.prog 33 #[v1] w fun e w' => e = .returned (.bool true) ∧ Below w.heap.size w w' := may_any h1R w h1_in
theorem ten0 {w0 w : World} {n : Nat} {f : Nat → Nat → Option Value} (k : Tab w0 n f w) (b : Nat) {v0 v1 v2 v3 v4 v5 v6 v7 v8 v9 : Value} (h0 : f b 0 = some v0) (h1 : f b 1 = some v1) (h2 : f b 2 = some v2) (h3 : f b 3 = some v3) (h4 : f b 4 = some v4) (h5 : f b 5 = some v5) (h6 : f b 6 = some v6) (h7 : f b 7 = some v7) (h8 : f b 8 = some v8) (h9 : f b 9 = some v9) :
    w.cell? ⟨w0.heap.size + b, 0, none⟩ = some v0 ∧ w.cell? ⟨w0.heap.size + b, 1, none⟩ = some v1 ∧ w.cell? ⟨w0.heap.size + b, 2, none⟩ = some v2 ∧ w.cell? ⟨w0.heap.size + b, 3, none⟩ = some v3 ∧ w.cell? ⟨w0.heap.size + b, 4, none⟩ = some v4 ∧ w.cell? ⟨w0.heap.size + b, 5, none⟩ = some v5 ∧ w.cell? ⟨w0.heap.size + b, 6, none⟩ = some v6 ∧ w.cell? ⟨w0.heap.size + b, 7, none⟩ = some v7 ∧ w.cell? ⟨w0.heap.size + b, 8, none⟩ = some v8 ∧ w.cell? ⟨w0.heap.size + b, 9, none⟩ = some v9 :=
  ⟨k.cells b 0 _ h0, k.cells b 1 _ h1, k.cells b 2 _ h2, k.cells b 3 _ h3, k.cells b 4 _ h4, k.cells b 5 _ h5, k.cells b 6 _ h6, k.cells b 7 _ h7, k.cells b 8 _ h8, k.cells b 9 _ h9⟩
theorem box10 (w : World) (v0 v1 v2 v3 v4 v5 v6 v7 v8 v9 : Value) : Tab w 1 (add (fun _ _ => none) 0 [v0, v1, v2, v3, v4, v5, v6, v7, v8, v9]) (w.alloc (hC v0 v1 v2 v3 v4 v5 v6 v7 v8 v9)) := (Tab.zero w).alloc rfl [v0, v1, v2, v3, v4, v5, v6, v7, v8, v9] _
theorem sP_size : 8 < sPB.size := by decide +kernel
theorem sP8 : (sPB[8]'sP_size).toNat = 63 := by decide +kernel
end Go.Proofs.Ytekljiakofmhnaa
