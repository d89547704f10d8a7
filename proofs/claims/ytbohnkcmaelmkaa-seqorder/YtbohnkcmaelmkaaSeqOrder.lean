/- The walk of the statement SeqOrder, over the loaded program, out of the contracts. No conditions but the numbers' bounds. -/
import Derived.Test.YtbohnkcmaelmkaaAlive03
import Derived.Test.YtbohnkcmaelmkaaSeqAt
namespace Go.Proofs.Ytbohnkcmaelmkaa
open Go.RowKit

set_option maxRecDepth 100000 in
set_option maxHeartbeats 4000000 in
theorem order_nat (a x y t : Nat) (ha : a < 4294967296) (hx : x < 4294967296) (hy : y < 4294967296) (_ht : t < 4294967296) (w : World) :
    Calls Try.prog 4 #[.int .u32 (a : Int), .int .u32 (x : Int), .int .u32 (y : Int), .int .u32 (t : Int)] w fun e w' => e = .returned (.bool true) ∧ Below w.heap.size w w' := by
  have H1 := hide (fun w => less_at (a : Int) (((a : Int) + (x : Int) % 1073741824) % 4294967296) ((x : Int) % 1073741824) w (by omega) (by omega) (by omega) (by omega) (by omega) (by omega) (by omega))
  have H2 := hide (fun w => less_at (((a : Int) + (x : Int) % 1073741824) % 4294967296) (a : Int) (-((x : Int) % 1073741824)) w (by omega) (by omega) (by omega) (by omega) (by omega) (by omega) (by omega))
  have H3 := hide (fun w => less_at (a : Int) (((a : Int) + (x : Int) % 1073741824 + (y : Int) % 1073741824) % 4294967296) ((x : Int) % 1073741824 + (y : Int) % 1073741824) w (by omega) (by omega) (by omega) (by omega) (by omega) (by omega) (by omega))
  have H4 := hide (fun w => max_at (a : Int) (((a : Int) + (x : Int) % 1073741824 + (y : Int) % 1073741824) % 4294967296) ((x : Int) % 1073741824 + (y : Int) % 1073741824) (((a : Int) + (x : Int) % 1073741824 + (y : Int) % 1073741824) % 4294967296) w (by omega) (by omega) (by omega) (by omega) (by omega) (by omega) (by omega) (by omega))
  have H5 := hide (fun w => max_at (((a : Int) + (x : Int) % 1073741824 + (y : Int) % 1073741824) % 4294967296) (a : Int) (-((x : Int) % 1073741824 + (y : Int) % 1073741824)) (((a : Int) + (x : Int) % 1073741824 + (y : Int) % 1073741824) % 4294967296) w (by omega) (by omega) (by omega) (by omega) (by omega) (by omega) (by omega) (by omega))
  have H6 := hide (fun w => behind_at (a : Int) (((a : Int) + (x : Int) % 1073741824 + (y : Int) % 1073741824) % 4294967296) ((x : Int) % 1073741824 + (y : Int) % 1073741824) w (by omega) (by omega) (by omega) (by omega) (by omega) (by omega) (by omega))
  have H7 := hide (fun w => behind_at (((a : Int) + (x : Int) % 1073741824 + (y : Int) % 1073741824) % 4294967296) (a : Int) (-((x : Int) % 1073741824 + (y : Int) % 1073741824)) w (by omega) (by omega) (by omega) (by omega) (by omega) (by omega) (by omega))
  have H8 := hide (fun w => behind_at (a : Int) (((a : Int) + (x : Int) % 1073741824) % 4294967296) ((x : Int) % 1073741824) w (by omega) (by omega) (by omega) (by omega) (by omega) (by omega) (by omega))
  have H9 := hide (fun w => behind_at (((a : Int) + (x : Int) % 1073741824) % 4294967296) (((a : Int) + (x : Int) % 1073741824 + (y : Int) % 1073741824) % 4294967296) ((y : Int) % 1073741824) w (by omega) (by omega) (by omega) (by omega) (by omega) (by omega) (by omega))
  have H10 := hide (fun w => less_at (((a : Int) + (t : Int)) % 4294967296) (((a : Int) + (x : Int) % 1073741824 + (y : Int) % 1073741824 + (t : Int)) % 4294967296) ((x : Int) % 1073741824 + (y : Int) % 1073741824) w (by omega) (by omega) (by omega) (by omega) (by omega) (by omega) (by omega))
  have H11 := hide (fun w => behind_at (((a : Int) + (t : Int)) % 4294967296) (((a : Int) + (x : Int) % 1073741824 + (y : Int) % 1073741824 + (t : Int)) % 4294967296) ((x : Int) % 1073741824 + (y : Int) % 1073741824) w (by omega) (by omega) (by omega) (by omega) (by omega) (by omega) (by omega))
  have H12 := hide (fun w => in_at (((a : Int) + (x : Int) % 1073741824 + (t : Int)) % 4294967296) (((a : Int) + (t : Int)) % 4294967296) ((y : Int) % 1073741824) ((x : Int) % 1073741824) w (by omega) (by omega) (by omega) (by omega) (by omega) (by omega) (by omega) (by omega) (by omega))
  have H13 := hide (fun w => in_at (((a : Int) + (x : Int) % 1073741824) % 4294967296) (a : Int) ((y : Int) % 1073741824) ((x : Int) % 1073741824) w (by omega) (by omega) (by omega) (by omega) (by omega) (by omega) (by omega) (by omega) (by omega))
  rw [decide_eq_false (by omega)] at H2
  have HA := hide alive_any
  go_enter Try.func4, Try.ntmps4
  go_wp2_with fail
  refine (unhide H1 _).mono ?_
  rintro e w0 ⟨rfl, rfl⟩
  go_wp2_with fail
  refine (unhide H2 _).mono ?_
  rintro e w1 ⟨rfl, rfl⟩
  go_wp2_with fail
  refine (unhide H3 _).mono ?_
  rintro e w2 ⟨rfl, rfl⟩
  go_wp2_with fail
  refine (unhide H4 _).mono ?_
  rintro e w3 ⟨rfl, rfl⟩
  go_wp2_with fail
  refine (unhide H5 _).mono ?_
  rintro e w4 ⟨rfl, rfl⟩
  go_wp2_with fail
  refine (unhide H6 _).mono ?_
  rintro e w5 ⟨rfl, rfl⟩
  go_wp2_with fail
  refine (unhide H7 _).mono ?_
  rintro e w6 ⟨rfl, rfl⟩
  go_wp2_with fail
  refine (unhide H6 _).mono ?_
  rintro e w7 ⟨rfl, rfl⟩
  go_wp2_with fail
  refine (unhide H8 _).mono ?_
  rintro e w8 ⟨rfl, rfl⟩
  go_wp2_with fail
  refine (unhide H9 _).mono ?_
  rintro e w9 ⟨rfl, rfl⟩
  go_wp2_with fail
  refine (unhide H10 _).mono ?_
  rintro e w10 ⟨rfl, rfl⟩
  go_wp2_with fail
  refine (unhide H3 _).mono ?_
  rintro e w11 ⟨rfl, rfl⟩
  go_wp2_with fail
  refine (unhide H11 _).mono ?_
  rintro e w12 ⟨rfl, rfl⟩
  go_wp2_with fail
  refine (unhide H6 _).mono ?_
  rintro e w13 ⟨rfl, rfl⟩
  go_wp2_with fail
  refine (unhide H12 _).mono ?_
  rintro e w14 ⟨rfl, hb14⟩
  go_wp2_with fail
  refine (unhide H13 _).mono ?_
  rintro e w15 ⟨rfl, hb15⟩
  go_wp2_with fail
  refine (unhide HA _).mono ?_
  rintro e w16 ⟨rfl, hb16⟩
  go_wp2
  go_ret
  exact ⟨rfl, tr2 hb14 (tr2 hb15 hb16)⟩

theorem seqOrder_walk (a x y t : Int) (ha : (Lit.int .u32 a).wf = true) (hx : (Lit.int .u32 x).wf = true) (hy : (Lit.int .u32 y).wf = true) (ht : (Lit.int .u32 t).wf = true) (w : World) :
    Calls Try.prog 4 #[.int .u32 a, .int .u32 x, .int .u32 y, .int .u32 t] w fun e w' => e = .returned (.bool true) ∧ Below w.heap.size w w' := by
  obtain ⟨a, rfl, h1⟩ := nat32 ha
  obtain ⟨x, rfl, h2⟩ := nat32 hx
  obtain ⟨y, rfl, h3⟩ := nat32 hy
  obtain ⟨t, rfl, h4⟩ := nat32 ht
  exact order_nat a x y t h1 h2 h3 h4 w

end Go.Proofs.Ytbohnkcmaelmkaa
