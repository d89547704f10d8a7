/- How pairs and addresses are held against each other, over the loaded program. No conditions. -/
import Derived.Test.YtnglkadfnacmcaaDoorKit
import Derived.Laws.StructEq
namespace Go.Proofs.YtnglkadfnacmcaaDoor
open Go.RowKit

theorem addr_stood : Tryd.prog.stoodInHeld 34 = false := by kernel_rfl
theorem pair_stood : Tryd.prog.stoodInHeld 36 = false := by kernel_rfl
theorem addr_str : Tryd.prog.underlying 34 = some (.struct (Tryd.prog.fieldsOf 34)) := by
  unfold Program.fieldsOf
  rw [Tryd.underlying34]
theorem pair_str : Tryd.prog.underlying 36 = some (.struct (Tryd.prog.fieldsOf 36)) := by
  unfold Program.fieldsOf
  rw [Tryd.underlying36]

set_option maxRecDepth 100000 in
theorem in_addr (d : Nat) (a p a' p' : Nat) (w : World) : (Op.equalIn (d + 2) 34 (.agg #[.int .u32 (a : Int), .int .u16 (p : Int)]) (.agg #[.int .u32 (a' : Int), .int .u16 (p' : Int)])).run Tryd.prog w = .ok (((a : Int) == (a' : Int)) && ((p : Int) == (p' : Int))) w := by
  rw [run_equalIn_struct w (d + 1) 34 _ _ addr_str addr_stood]
  unfold Program.fieldsOf
  rw [Tryd.underlying34]
  have u32 := fun (x y : Int) (w : World) => run_equalIn_int w d 22 .u32 .u32 x y Tryd.underlying22
  have u16 := fun (x y : Int) (w : World) => run_equalIn_int w d 32 .u16 .u16 x y Tryd.underlying32
  have g32 := Tryd.isAgg22
  have g16 := Tryd.isAgg32
  simp only [Op.eqFields]
  simp [part, u32, u16, g32, g16]
  by_cases h1 : (a : Int) = (a' : Int)
  · by_cases h2 : (p : Int) = (p' : Int)
    · simp [h1, h2]
    · simp [h1, h2]
  · simp [h1]

set_option maxRecDepth 100000 in
theorem in_pair (d : Nat) (a p b q a' p' b' q' : Nat) (w : World) : (Op.equalIn (d + 3) 36 (.agg #[.int .u32 (a : Int), .int .u16 (p : Int), .int .u32 (b : Int), .int .u16 (q : Int)]) (.agg #[.int .u32 (a' : Int), .int .u16 (p' : Int), .int .u32 (b' : Int), .int .u16 (q' : Int)])).run Tryd.prog w
    = .ok ((((a : Int) == (a' : Int)) && ((p : Int) == (p' : Int))) && (((b : Int) == (b' : Int)) && ((q : Int) == (q' : Int)))) w := by
  rw [run_equalIn_struct w (d + 2) 36 _ _ pair_str pair_stood]
  unfold Program.fieldsOf
  rw [Tryd.underlying36]
  have u := fun (x y z t : Nat) (w : World) => in_addr d x y z t w
  have g := Tryd.isAgg34
  have z := Tryd.sizeOf34
  simp only [Op.eqFields]
  simp [part, u, g, z]
  by_cases h1 : (a : Int) = (a' : Int) <;> by_cases h2 : (p : Int) = (p' : Int) <;> by_cases h3 : (b : Int) = (b' : Int) <;> by_cases h4 : (q : Int) = (q' : Int) <;> simp [h1, h2, h3, h4]

/-- whether two pairs are alike -/
def eqP (a p b q a' p' b' q' : Nat) : Bool := decide (a = a' ∧ p = p' ∧ b = b' ∧ q = q')
theorem eqP_int (a p b q a' p' b' q' : Nat) : ((((a : Int) == (a' : Int)) && ((p : Int) == (p' : Int))) && (((b : Int) == (b' : Int)) && ((q : Int) == (q' : Int)))) = eqP a p b q a' p' b' q' := by
  unfold eqP
  rw [Bool.eq_iff_iff, decide_eq_true_iff]
  simp only [Bool.and_eq_true, beq_iff_eq, Int.natCast_inj]
  constructor
  · rintro ⟨⟨h1, h2⟩, h3, h4⟩; exact ⟨h1, h2, h3, h4⟩
  · rintro ⟨h1, h2, h3, h4⟩; exact ⟨⟨h1, h2⟩, h3, h4⟩
theorem eqA_int (a p a' p' : Nat) : (((a : Int) == (a' : Int)) && ((p : Int) == (p' : Int))) = decide (a = a' ∧ p = p') := by
  rw [Bool.eq_iff_iff, decide_eq_true_iff]
  simp only [Bool.and_eq_true, beq_iff_eq, Int.natCast_inj]
theorem eql_pair (a p b q a' p' b' q' : Nat) (w : World) : (binOp .eql 36 (.agg #[.int .u32 (a : Int), .int .u16 (p : Int), .int .u32 (b : Int), .int .u16 (q : Int)]) (.agg #[.int .u32 (a' : Int), .int .u16 (p' : Int), .int .u32 (b' : Int), .int .u16 (q' : Int)])).run Tryd.prog w = .ok (.bool (eqP a p b q a' p' b' q')) w := by
  rw [run_eql_struct, in_pair 9997 a p b q a' p' b' q' w, eqP_int]
  rfl
theorem neq_pair (a p b q a' p' b' q' : Nat) (w : World) : (binOp .neq 36 (.agg #[.int .u32 (a : Int), .int .u16 (p : Int), .int .u32 (b : Int), .int .u16 (q : Int)]) (.agg #[.int .u32 (a' : Int), .int .u16 (p' : Int), .int .u32 (b' : Int), .int .u16 (q' : Int)])).run Tryd.prog w = .ok (.bool (!eqP a p b q a' p' b' q')) w := by
  rw [run_neq_struct, in_pair 9997 a p b q a' p' b' q' w, eqP_int]
  rfl
theorem eql_addr (a p a' p' : Nat) (w : World) : (binOp .eql 34 (.agg #[.int .u32 (a : Int), .int .u16 (p : Int)]) (.agg #[.int .u32 (a' : Int), .int .u16 (p' : Int)])).run Tryd.prog w = .ok (.bool (decide (a = a' ∧ p = p'))) w := by
  rw [run_eql_struct, in_addr 9998 a p a' p' w, eqA_int]
  rfl

end Go.Proofs.YtnglkadfnacmcaaDoor
