/- How packets are held against each other, over the loaded program; a packet that came in. No conditions. -/
import Derived.Test.YtkmhhlimhiiciaaRb8
import Derived.Laws.StructEq
import Derived.ProofKit
import Derived.ChangeSlices
import Derived.ChangeSame
namespace Go.Proofs.Ytkmhhlimhiiciaa
open Go.ChangeShapes Go.WideShapes Go.ChangeAt Go.RowKit

theorem ar_stood : Try.prog.stoodInHeld 27 = false := by kernel_rfl
theorem ar_str : Try.prog.underlying 27 = some (.struct (Try.prog.fieldsOf 27)) := by
  unfold Program.fieldsOf
  rw [Try.underlying27]
/-- are two packets alike? -/
def eqA (o f i t j o' f' i' t' j' : Nat) : Bool := decide (o = o' ∧ f = f' ∧ i = i' ∧ t = t' ∧ j = j')
theorem eqA_int (o f i t j o' f' i' t' j' : Nat) : (((o : Int) == (o' : Int)) && (((f : Int) == (f' : Int)) && (((i : Int) == (i' : Int)) && (((t : Int) == (t' : Int)) && ((j : Int) == (j' : Int)))))) = eqA o f i t j o' f' i' t' j' := by
  unfold eqA
  rw [Bool.eq_iff_iff, decide_eq_true_iff]
  simp only [Bool.and_eq_true, beq_iff_eq, Int.natCast_inj]
theorem eqA_refl (o f i t j : Nat) : eqA o f i t j o f i t j = true := decide_eq_true ⟨rfl, rfl, rfl, rfl, rfl⟩
set_option maxRecDepth 100000 in
theorem in_ar (d : Nat) (o f i t j o' f' i' t' j' : Nat) (w : World) : (Op.equalIn (d + 2) 27 (ar o f i t j) (ar o' f' i' t' j')).run Try.prog w = .ok (eqA o f i t j o' f' i' t' j') w := by
  rw [run_equalIn_struct w (d + 1) 27 _ _ ar_str ar_stood]
  unfold Program.fieldsOf
  rw [Try.underlying27]
  have u64 := fun (x y : Int) (w : World) => run_equalIn_int w d 24 .u64 .u64 x y Try.underlying24
  have u32 := fun (x y : Int) (w : World) => run_equalIn_int w d 25 .u32 .u32 x y Try.underlying25
  have u16 := fun (x y : Int) (w : World) => run_equalIn_int w d 22 .u16 .u16 x y Try.underlying22
  have g64 := Try.isAgg24
  have g32 := Try.isAgg25
  have g16 := Try.isAgg22
  rw [← eqA_int]
  simp only [Op.eqFields]
  simp [part, u64, u32, u16, g64, g32, g16]
  by_cases h1 : (o : Int) = (o' : Int) <;> by_cases h2 : (f : Int) = (f' : Int) <;> by_cases h3 : (i : Int) = (i' : Int) <;> by_cases h4 : (t : Int) = (t' : Int) <;> by_cases h5 : (j : Int) = (j' : Int) <;> simp [h1, h2, h3, h4, h5]
theorem eql_ar (o f i t j o' f' i' t' j' : Nat) (w : World) : (binOp .eql 27 (ar o f i t j) (ar o' f' i' t' j')).run Try.prog w = .ok (.bool (eqA o f i t j o' f' i' t' j')) w := by
  rw [run_eql_struct, in_ar 9998 o f i t j o' f' i' t' j' w]
  rfl
theorem neq_ar (o f i t j o' f' i' t' j' : Nat) (w : World) : (binOp .neq 27 (ar o f i t j) (ar o' f' i' t' j')).run Try.prog w = .ok (.bool (!eqA o f i t j o' f' i' t' j')) w := by
  rw [run_neq_struct, in_ar 9998 o f i t j o' f' i' t' j' w]
  rfl
theorem same_ar (o f i t j : Nat) (w : World) : (binOp .eql 27 (ar o f i t j) (ar o f i t j)).run Try.prog w = .ok (.bool true) w := by
  rw [eql_ar, eqA_refl]
theorem unlike_ar (o f i t j : Nat) (w : World) : (binOp .neq 27 (ar o f i t j) (ar o f i t j)).run Try.prog w = .ok (.bool false) w := by
  rw [neq_ar, eqA_refl]
  rfl

theorem list5 {α : Type} (l : List α) (h : l.length = 5) : ∃ a b c d e, l = [a, b, c, d, e] := match l, h with
  | [a, b, c, d, e], _ => ⟨a, b, c, d, e, rfl⟩

/-- a packet that came in -/
def IsArp (v : Value) (o f i t j : Nat) : Prop := v = ar o f i t j ∧ o < 65536 ∧ f < 18446744073709551616 ∧ i < 4294967296 ∧ t < 18446744073709551616 ∧ j < 4294967296

set_option maxRecDepth 100000 in
theorem isArp_of {H : Type} {enc : TypeId × Value → H} {W : World} {v : Value} {d : DataW H} {ps : List MemPlace} {base : Nat}
    (hv : Value.okWide Try.prog W .any base 27 v) (h : DataW.Trod enc Try.prog W 0 (fun _ => true) true 27 v d ps) : ∃ o f i t j, IsArp v o f i t j := by
  obtain ⟨cs, rfl, hsz⟩ := okWide_struct Try.underlying27 hv
  have k5 : Try.prog.cellsOf 27 = 5 := by kernel_rfl
  have k1 : Try.prog.cellsOf 24 = 1 := by kernel_rfl
  have k2 : Try.prog.cellsOf 22 = 1 := by kernel_rfl
  have k3 : Try.prog.cellsOf 25 = 1 := by kernel_rfl
  rw [k5] at hsz
  obtain ⟨cl, rfl⟩ : ∃ cl : List Value, cs = cl.toArray := ⟨cs.toList, by simp⟩
  obtain ⟨c0, c1, c2, c3, c4, rfl⟩ := list5 cl (by simpa using hsz)
  obtain ⟨fuel, hf⟩ := h
  obtain ⟨xs, n, _, _, _, hlen, hx⟩ := DataW.trod_struct Try.underlying27 hf
  obtain ⟨y0, y1, y2, y3, y4, rfl⟩ := list5 xs hlen
  have e0 : DataW.trod enc Try.prog W 0 (fun _ => true) true n 22 [c0] = some y0 := by simpa [k2, Value.cells] using hx 0 _ rfl
  have e1 : DataW.trod enc Try.prog W 0 (fun _ => true) true n 24 [c1] = some y1 := by simpa [k1, Value.cells] using hx 1 _ rfl
  have e2 : DataW.trod enc Try.prog W 0 (fun _ => true) true n 25 [c2] = some y2 := by simpa [k3, Value.cells] using hx 2 _ rfl
  have e3 : DataW.trod enc Try.prog W 0 (fun _ => true) true n 24 [c3] = some y3 := by simpa [k1, Value.cells] using hx 3 _ rfl
  have e4 : DataW.trod enc Try.prog W 0 (fun _ => true) true n 25 [c4] = some y4 := by simpa [k3, Value.cells] using hx 4 _ rfl
  obtain ⟨n0, g0, _, w0⟩ := DataW.trod_int Try.underlying22 e0
  obtain ⟨n1, g1, _, w1⟩ := DataW.trod_int Try.underlying24 e1
  obtain ⟨n2, g2, _, w2⟩ := DataW.trod_int Try.underlying25 e2
  obtain ⟨n3, g3, _, w3⟩ := DataW.trod_int Try.underlying24 e3
  obtain ⟨n4, g4, _, w4⟩ := DataW.trod_int Try.underlying25 e4
  obtain rfl : c0 = .int .u16 n0 := by simpa using g0
  obtain rfl : c1 = .int .u64 n1 := by simpa using g1
  obtain rfl : c2 = .int .u32 n2 := by simpa using g2
  obtain rfl : c3 = .int .u64 n3 := by simpa using g3
  obtain rfl : c4 = .int .u32 n4 := by simpa using g4
  obtain ⟨a, rfl, ha⟩ := nat16 w0
  obtain ⟨b, rfl, hb⟩ := nat64 w1
  obtain ⟨c, rfl, hc⟩ := nat32 w2
  obtain ⟨p, rfl, hp⟩ := nat64 w3
  obtain ⟨q, rfl, hq⟩ := nat32 w4
  exact ⟨a, b, c, p, q, rfl, ha, hb, hc, hp, hq⟩

end Go.Proofs.Ytkmhhlimhiiciaa
