/- Packets' keys: how package gather makes them of heads, holds them against each other, finds one in a slice and lets it go out of it; the keys' law of its map; over the loaded program. Conditions: the row is the caller's own. -/
import Derived.Test.YtekljiakofmhnaaGn3
import Derived.Lib.SliceRun
import Derived.DeepKeys4
import Derived.Maps.Keyed
namespace Go.Proofs.Ytekljiakofmhnaa
open Go.RowKit

theorem pkt_laid : laidOutB Try.prog = true := by kernel_rfl
theorem pkt_row : (56 : TypeId) < Try.prog.types.size := of_decide_eq_true (by kernel_rfl)
theorem pkt_wide : (match Try.prog.underlying 56 with | some (.array _ _) | some (.struct _) => true | _ => false) = true := by rw [Try.underlying56]
set_option maxRecDepth 20000 in
theorem pkt_law : Maps.Keyed Try.prog 56 := Maps.Keyed.of_law (deep_law_laid pkt_laid (m := 2) (by omega) pkt_row (by kernel_rfl) pkt_wide)
theorem pkt_cells : Try.prog.cellsOf 56 = 4 := by kernel_rfl
theorem pkt_type : Try.prog.keyType 56 = true := by kernel_rfl
theorem u32_cells : Try.prog.cellsOf 32 = 1 := by kernel_rfl
theorem u16_cells : Try.prog.cellsOf 31 = 1 := by kernel_rfl
theorem u8_cells : Try.prog.cellsOf 5 = 1 := by kernel_rfl
set_option maxRecDepth 20000 in
theorem pk_key (k : Pk) (h : k.In) : ∃ l, keyOf Try.prog 56 (pkV k) = some l := by
  obtain ⟨a, b, c, d⟩ := h
  obtain ⟨n, hn⟩ : ∃ n, Try.prog.types.size = n + 1 := ⟨_, (Nat.succ_pred_eq_of_pos (Nat.lt_of_le_of_lt (Nat.zero_le _) pkt_row)).symm⟩
  have hf : (pkV k).formed Try.prog 56 = true := by simp [Value.formed, Try.underlying56, pkt_cells]
  have w1 : (Lit.int .u32 (k.frm : Int)).wf = true := by simp [Lit.wf, IntKind.min, IntKind.max, IntKind.signed, IntKind.bits]; omega
  have w2 : (Lit.int .u32 (k.dst : Int)).wf = true := by simp [Lit.wf, IntKind.min, IntKind.max, IntKind.signed, IntKind.bits]; omega
  have w3 : (Lit.int .u8 (k.pr : Int)).wf = true := by simp [Lit.wf, IntKind.min, IntKind.max, IntKind.signed, IntKind.bits]; omega
  have w4 : (Lit.int .u16 (k.idn : Int)).wf = true := by simp [Lit.wf, IntKind.min, IntKind.max, IntKind.signed, IntKind.bits]; omega
  unfold keyOf
  rw [Try.underlying56]
  simp only [pkt_type, hf, hn, Bool.and_self, if_true]
  simp [Program.keyLits, Try.underlying56, Try.underlying32, Try.underlying31, Try.underlying5, pkt_cells, u32_cells, u16_cells, u8_cells, Value.cells, w1, w2, w3, w4]

set_option maxHeartbeats 1000000 in
theorem packetof_any (h : Rh) (w : World) :
    Calls Try.prog 25 #[hdV h] w fun e w' => e = .returned (pkV (pkOf h)) ∧ Below w.heap.size w w' := by
  have b0 := below_one w (.cells (hdL h).toArray 34)
  have b2 := hide (tr2 b0 (below_one _ (.cells #[.int .u32 (h.frm : Int), .int .u32 (h.to : Int), .int .u8 (h.proto : Int), .int .u16 (h.id : Int)] 56)))
  clear b0
  go_enter Try.func25, Try.ntmps25
  go_wp2_with fail
  refine bodyPost_ret (v := pkV (pkOf h)) (by simp [results, Try.results25, go_sem]) rfl ?_
  exact ⟨rfl, unhide b2⟩

theorem pk_stood : Try.prog.stoodInHeld 56 = false := by kernel_rfl
theorem pk_str : Try.prog.underlying 56 = some (.struct (Try.prog.fieldsOf 56)) := by
  unfold Program.fieldsOf
  rw [Try.underlying56]
theorem eqK_int (a b : Pk) : (((a.frm : Int) == (b.frm : Int)) && (((a.dst : Int) == (b.dst : Int)) && (((a.pr : Int) == (b.pr : Int)) && ((a.idn : Int) == (b.idn : Int))))) = decide (a = b) := by
  rw [Bool.eq_iff_iff, decide_eq_true_iff]
  simp only [Bool.and_eq_true, beq_iff_eq, Int.natCast_inj]
  obtain ⟨a0, a1, a2, a3⟩ := a
  obtain ⟨b0, b1, b2, b3⟩ := b
  simp only [Pk.mk.injEq]
theorem in_pk (d : Nat) (a b : Pk) (w : World) : (Op.equalIn (d + 2) 56 (pkV a) (pkV b)).run Try.prog w = .ok (decide (a = b)) w := by
  rw [run_equalIn_struct w (d + 1) 56 _ _ pk_str pk_stood]
  unfold Program.fieldsOf
  rw [Try.underlying56]
  have u32 := fun (x y : Int) (w : World) => run_equalIn_int w d 32 .u32 .u32 x y Try.underlying32
  have u16 := fun (x y : Int) (w : World) => run_equalIn_int w d 31 .u16 .u16 x y Try.underlying31
  have u8 := fun (x y : Int) (w : World) => run_equalIn_int w d 5 .u8 .u8 x y Try.underlying5
  have g32 := Try.isAgg32
  have g16 := Try.isAgg31
  have g8 := Try.isAgg5
  rw [← eqK_int]
  simp only [Op.eqFields]
  simp [part, u32, u16, u8, g32, g16, g8]
  by_cases h0 : (a.frm : Int) = (b.frm : Int)
  case neg => simp [h0]
  simp only [h0, if_true, beq_self_eq_true, Bool.true_and]
  by_cases h1 : (a.dst : Int) = (b.dst : Int)
  case neg => simp [h1]
  simp only [h1, if_true, beq_self_eq_true, Bool.true_and]
  by_cases h2 : (a.pr : Int) = (b.pr : Int)
  case neg => simp [h2]
  simp only [h2, if_true, beq_self_eq_true, Bool.true_and]
  by_cases h3 : (a.idn : Int) = (b.idn : Int) <;> simp [h3]
theorem eql_pk (a b : Pk) (w : World) : (binOp .eql 56 (pkV a) (pkV b)).run Try.prog w = .ok (.bool (decide (a = b))) w := by
  rw [run_eql_struct, in_pk 9998 a b w]
  rfl

/-- a key's box -/
structure KB (w : World) (b : Nat) (k : Pk) : Prop where
  c0 : w.cell? ⟨b, 0, none⟩ = some (.int .u32 (k.frm : Int))
  c1 : w.cell? ⟨b, 1, none⟩ = some (.int .u32 (k.dst : Int))
  c2 : w.cell? ⟨b, 2, none⟩ = some (.int .u8 (k.pr : Int))
  c3 : w.cell? ⟨b, 3, none⟩ = some (.int .u16 (k.idn : Int))
theorem KB.box (w : World) (k : Pk) (t : TypeId) : KB (w.alloc (.cells #[.int .u32 (k.frm : Int), .int .u32 (k.dst : Int), .int .u8 (k.pr : Int), .int .u16 (k.idn : Int)] t)) w.heap.size k := by
  have e := heap_alloc_new w (.cells #[.int .u32 (k.frm : Int), .int .u32 (k.dst : Int), .int .u8 (k.pr : Int), .int .u16 (k.idn : Int)] t)
  exact ⟨cell_of_row _ _ 0 _ _ _ e, cell_of_row _ _ 1 _ _ _ e, cell_of_row _ _ 2 _ _ _ e, cell_of_row _ _ 3 _ _ _ e⟩
theorem KB.lt {w : World} {b : Nat} {k : Pk} (h : KB w b k) : b < w.heap.size := cell_lt' h.c0
theorem KB.on {w w' : World} {b : Nat} {k : Pk} (h : KB w b k) (q : Below w.heap.size w w') : KB w' b k :=
  have l := h.lt
  ⟨(q.cell (p := ⟨b, 0, none⟩) l).trans h.c0, (q.cell (p := ⟨b, 1, none⟩) l).trans h.c1, (q.cell (p := ⟨b, 2, none⟩) l).trans h.c2, (q.cell (p := ⟨b, 3, none⟩) l).trans h.c3⟩

set_option maxHeartbeats 400000 in
theorem drop1_any (x k : Pk) (B : Nat) (w : World) (hB : KB w B k) :
    Calls Try.prog 29 #[pkV x, .pointer (some ⟨B, 0, none⟩)] w fun e w' => e = .returned (.bool (decide (x = k))) ∧ Below w.heap.size w w' := by
  have BEL := below_one w (.cells #[.int .u32 (x.frm : Int), .int .u32 (x.dst : Int), .int .u8 (x.pr : Int), .int .u16 (x.idn : Int)] 56)
  obtain ⟨c0, c1, c2, c3⟩ := hB.on BEL
  have hE := fun w => eql_pk x k w
  generalize decide (x = k) = z at *
  have BEL := hide BEL
  go_enter Try.func29, Try.ntmps29
  go_wp2_with fail
  go_ret
  exact ⟨rfl, unhide BEL⟩

end Go.Proofs.Ytekljiakofmhnaa
