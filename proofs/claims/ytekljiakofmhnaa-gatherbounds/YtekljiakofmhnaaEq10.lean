/- How heads are held against each other, over the loaded program; a head that came in. -/
import Derived.Test.YtekljiakofmhnaaAlA
import Derived.Laws.StructEq
import Derived.ProofKit
import Derived.ChangeSlices
import Derived.ChangeSame
namespace Go.Proofs.Ytekljiakofmhnaa
open Go.ChangeShapes Go.WideShapes Go.ChangeAt Go.RowKit

theorem hd_stood : Try.prog.stoodInHeld 34 = false := by kernel_rfl
theorem hd_str : Try.prog.underlying 34 = some (.struct (Try.prog.fieldsOf 34)) := by
  unfold Program.fieldsOf
  rw [Try.underlying34]
instance : DecidableEq Rh := fun a b =>
  if h : a.tos = b.tos ∧ a.id = b.id ∧ a.hold = b.hold ∧ a.more = b.more ∧ a.at' = b.at' ∧ a.ttl = b.ttl ∧ a.proto = b.proto ∧ a.frm = b.frm ∧ a.to = b.to ∧ a.op = b.op then
    .isTrue (by obtain ⟨a0, a1, a2, a3, a4, a5, a6, a7, a8, a9⟩ := a; obtain ⟨b0, b1, b2, b3, b4, b5, b6, b7, b8, b9⟩ := b; simp only at h; obtain ⟨rfl, rfl, rfl, rfl, rfl, rfl, rfl, rfl, rfl, rfl⟩ := h; rfl)
  else .isFalse (fun e => h (by subst e; exact ⟨rfl, rfl, rfl, rfl, rfl, rfl, rfl, rfl, rfl, rfl⟩))
theorem eqH_int (a b : Rh) : (((a.tos : Int) == (b.tos : Int)) && (((a.id : Int) == (b.id : Int)) && ((a.hold == b.hold) && ((a.more == b.more) && ((a.at' == b.at') && (((a.ttl : Int) == (b.ttl : Int)) && (((a.proto : Int) == (b.proto : Int)) && (((a.frm : Int) == (b.frm : Int)) && (((a.to : Int) == (b.to : Int)) && (a.op.toList == b.op.toList)))))))))) = decide (a = b) := by
  rw [Bool.eq_iff_iff, decide_eq_true_iff]
  simp only [Bool.and_eq_true, beq_iff_eq, Int.natCast_inj]
  obtain ⟨a0, a1, a2, a3, a4, a5, a6, a7, a8, a9⟩ := a
  obtain ⟨b0, b1, b2, b3, b4, b5, b6, b7, b8, b9⟩ := b
  simp only [Rh.mk.injEq]
  have hs : a9.toList = b9.toList ↔ a9 = b9 := ⟨fun h => by rw [ByteArray.toList_eq, ByteArray.toList_eq] at h; exact list_ba h, fun h => by rw [h]⟩
  rw [hs]
set_option maxRecDepth 100000 in
theorem in_head (d : Nat) (a b : Rh) (w : World) : (Op.equalIn (d + 2) 34 (hdV a) (hdV b)).run Try.prog w = .ok (decide (a = b)) w := by
  rw [run_equalIn_struct w (d + 1) 34 _ _ hd_str hd_stood]
  unfold Program.fieldsOf
  rw [Try.underlying34]
  have u64 := fun (x y : Int) (w : World) => run_equalIn_int w d 3 .i64 .i64 x y Try.underlying3
  have u32 := fun (x y : Int) (w : World) => run_equalIn_int w d 32 .u32 .u32 x y Try.underlying32
  have u16 := fun (x y : Int) (w : World) => run_equalIn_int w d 31 .u16 .u16 x y Try.underlying31
  have u8 := fun (x y : Int) (w : World) => run_equalIn_int w d 5 .u8 .u8 x y Try.underlying5
  have ub := fun (x y : Bool) (w : World) => run_equalIn_bool w d 4 x y Try.underlying4
  have us := fun (x y : ByteArray) (w : World) => run_equalIn_string w d 9 x y Try.underlying9
  have g64 := Try.isAgg3
  have g32 := Try.isAgg32
  have g16 := Try.isAgg31
  have g8 := Try.isAgg5
  have gb := Try.isAgg4
  have gs := Try.isAgg9
  rw [← eqH_int]
  simp only [Op.eqFields]
  simp [part, u64, u32, u16, u8, ub, us, g64, g32, g16, g8, gb, gs]
  by_cases h0 : (a.tos : Int) = (b.tos : Int)
  case neg => simp [h0]
  simp only [h0, if_true, beq_self_eq_true, Bool.true_and]
  by_cases h1 : (a.id : Int) = (b.id : Int)
  case neg => simp [h1]
  simp only [h1, if_true, beq_self_eq_true, Bool.true_and]
  by_cases h2 : a.hold = b.hold
  case neg => simp [h2]
  simp only [h2, if_true, beq_self_eq_true, Bool.true_and]
  by_cases h3 : a.more = b.more
  case neg => simp [h3]
  simp only [h3, if_true, beq_self_eq_true, Bool.true_and]
  by_cases h4 : a.at' = b.at'
  case neg => simp [h4]
  simp only [h4, if_true, beq_self_eq_true, Bool.true_and]
  by_cases h5 : (a.ttl : Int) = (b.ttl : Int)
  case neg => simp [h5]
  simp only [h5, if_true, beq_self_eq_true, Bool.true_and]
  by_cases h6 : (a.proto : Int) = (b.proto : Int)
  case neg => simp [h6]
  simp only [h6, if_true, beq_self_eq_true, Bool.true_and]
  by_cases h7 : (a.frm : Int) = (b.frm : Int)
  case neg => simp [h7]
  simp only [h7, if_true, beq_self_eq_true, Bool.true_and]
  by_cases h8 : (a.to : Int) = (b.to : Int)
  case neg => simp [h8]
  simp only [h8, if_true, beq_self_eq_true, Bool.true_and]
  by_cases h9 : a.op.toList = b.op.toList <;> simp [h9]
theorem eql_hd (a b : Rh) (w : World) : (binOp .eql 34 (hdV a) (hdV b)).run Try.prog w = .ok (.bool (decide (a = b))) w := by
  rw [run_eql_struct, in_head 9998 a b w]
  rfl
theorem neq_hd (a b : Rh) (w : World) : (binOp .neq 34 (hdV a) (hdV b)).run Try.prog w = .ok (.bool (!decide (a = b))) w := by
  rw [run_neq_struct, in_head 9998 a b w]
  rfl

theorem list10 {α : Type} (l : List α) (h : l.length = 10) : ∃ a b c d e f g i j k, l = [a, b, c, d, e, f, g, i, j, k] := match l, h with
  | [a, b, c, d, e, f, g, i, j, k], _ => ⟨a, b, c, d, e, f, g, i, j, k, rfl⟩

/-- a head that came in -/
structure IsHead (v : Value) (h : Rh) : Prop where
  eq : v = hdV h
  tos : h.tos < 256
  id : h.id < 65536
  at' : (Lit.int .i64 h.at').wf = true
  ttl : h.ttl < 256
  proto : h.proto < 256
  frm : h.frm < 4294967296
  to : h.to < 4294967296
  op : h.op.size ≤ maxLen
theorem i64_wf {z : Int} (h : (Lit.int .i64 z).wf = true) : -9223372036854775808 ≤ z ∧ z ≤ 9223372036854775807 := by
  unfold Lit.wf at h
  have h2 : IntKind.i64.min ≤ z ∧ z ≤ 9223372036854775807 := by simpa using h
  have h3 : IntKind.i64.min = -9223372036854775808 := by decide
  omega
theorem IsHead.in' {v : Value} {h : Rh} (k : IsHead v h) (ho : h.op.size ≤ 1073741824) : h.In :=
  ⟨k.tos, k.id, (i64_wf k.at').1, (i64_wf k.at').2, k.ttl, k.proto, k.frm, k.to, ho⟩

set_option maxRecDepth 100000 in
theorem isHead_of {H : Type} {enc : TypeId × Value → H} {W : World} {v : Value} {d : DataW H} {ps : List MemPlace} {base : Nat}
    (hv : Value.okWide Try.prog W .any base 34 v) (h : DataW.Trod enc Try.prog W 0 (fun _ => true) true 34 v d ps) : ∃ h, IsHead v h := by
  obtain ⟨cs, rfl, hsz⟩ := okWide_struct Try.underlying34 hv
  have kk : Try.prog.cellsOf 34 = 10 := by kernel_rfl
  have k_uint8 : Try.prog.cellsOf 5 = 1 := by kernel_rfl
  have k_uint16 : Try.prog.cellsOf 31 = 1 := by kernel_rfl
  have k_bool : Try.prog.cellsOf 4 = 1 := by kernel_rfl
  have k_int : Try.prog.cellsOf 3 = 1 := by kernel_rfl
  have k_uint32 : Try.prog.cellsOf 32 = 1 := by kernel_rfl
  have k_string : Try.prog.cellsOf 9 = 1 := by kernel_rfl
  rw [kk] at hsz
  obtain ⟨cl, rfl⟩ : ∃ cl : List Value, cs = cl.toArray := ⟨cs.toList, by simp⟩
  obtain ⟨c0, c1, c2, c3, c4, c5, c6, c7, c8, c9, rfl⟩ := list10 cl (by simpa using hsz)
  obtain ⟨fuel, hf⟩ := h
  obtain ⟨xs, n, _, _, _, hlen, hx⟩ := DataW.trod_struct Try.underlying34 hf
  obtain ⟨y0, y1, y2, y3, y4, y5, y6, y7, y8, y9, rfl⟩ := list10 xs hlen
  have e0 : DataW.trod enc Try.prog W 0 (fun _ => true) true n 5 [c0] = some y0 := by simpa [k_uint8, Value.cells] using hx 0 _ rfl
  have e1 : DataW.trod enc Try.prog W 0 (fun _ => true) true n 31 [c1] = some y1 := by simpa [k_uint16, Value.cells] using hx 1 _ rfl
  have e2 : DataW.trod enc Try.prog W 0 (fun _ => true) true n 4 [c2] = some y2 := by simpa [k_bool, Value.cells] using hx 2 _ rfl
  have e3 : DataW.trod enc Try.prog W 0 (fun _ => true) true n 4 [c3] = some y3 := by simpa [k_bool, Value.cells] using hx 3 _ rfl
  have e4 : DataW.trod enc Try.prog W 0 (fun _ => true) true n 3 [c4] = some y4 := by simpa [k_int, Value.cells] using hx 4 _ rfl
  have e5 : DataW.trod enc Try.prog W 0 (fun _ => true) true n 5 [c5] = some y5 := by simpa [k_uint8, Value.cells] using hx 5 _ rfl
  have e6 : DataW.trod enc Try.prog W 0 (fun _ => true) true n 5 [c6] = some y6 := by simpa [k_uint8, Value.cells] using hx 6 _ rfl
  have e7 : DataW.trod enc Try.prog W 0 (fun _ => true) true n 32 [c7] = some y7 := by simpa [k_uint32, Value.cells] using hx 7 _ rfl
  have e8 : DataW.trod enc Try.prog W 0 (fun _ => true) true n 32 [c8] = some y8 := by simpa [k_uint32, Value.cells] using hx 8 _ rfl
  have e9 : DataW.trod enc Try.prog W 0 (fun _ => true) true n 9 [c9] = some y9 := by simpa [k_string, Value.cells] using hx 9 _ rfl
  obtain ⟨n0, g0, _, w0⟩ := DataW.trod_int Try.underlying5 e0
  obtain ⟨n1, g1, _, w1⟩ := DataW.trod_int Try.underlying31 e1
  obtain ⟨n2, g2, _⟩ := DataW.trod_bool Try.underlying4 e2
  obtain ⟨n3, g3, _⟩ := DataW.trod_bool Try.underlying4 e3
  obtain ⟨n4, g4, _, w4⟩ := DataW.trod_int Try.underlying3 e4
  obtain ⟨n5, g5, _, w5⟩ := DataW.trod_int Try.underlying5 e5
  obtain ⟨n6, g6, _, w6⟩ := DataW.trod_int Try.underlying5 e6
  obtain ⟨n7, g7, _, w7⟩ := DataW.trod_int Try.underlying32 e7
  obtain ⟨n8, g8, _, w8⟩ := DataW.trod_int Try.underlying32 e8
  obtain ⟨n9, g9, _, w9⟩ := DataW.trod_string Try.underlying9 e9
  obtain rfl : c0 = .int .u8 n0 := by simpa using g0
  obtain rfl : c1 = .int .u16 n1 := by simpa using g1
  obtain rfl : c2 = .bool n2 := by simpa using g2
  obtain rfl : c3 = .bool n3 := by simpa using g3
  obtain rfl : c4 = .int .i64 n4 := by simpa using g4
  obtain rfl : c5 = .int .u8 n5 := by simpa using g5
  obtain rfl : c6 = .int .u8 n6 := by simpa using g6
  obtain rfl : c7 = .int .u32 n7 := by simpa using g7
  obtain rfl : c8 = .int .u32 n8 := by simpa using g8
  obtain rfl : c9 = .string n9 := by simpa using g9
  obtain ⟨m0, rfl, q0⟩ := nat8 w0
  obtain ⟨m1, rfl, q1⟩ := nat16 w1
  obtain ⟨m5, rfl, q5⟩ := nat8 w5
  obtain ⟨m6, rfl, q6⟩ := nat8 w6
  obtain ⟨m7, rfl, q7⟩ := nat32 w7
  obtain ⟨m8, rfl, q8⟩ := nat32 w8
  exact ⟨⟨m0, m1, n2, n3, n4, m5, m6, m7, m8, n9⟩, rfl, q0, q1, w4, q5, q6, q7, q8, w9⟩

end Go.Proofs.Ytekljiakofmhnaa
