/- The walk of the statement SeqTells, over the loaded program, out of the contracts. No conditions but the numbers' bounds. -/
import Derived.Test.YtbohnkcmaelmkaaAlive03
import Derived.Test.YtbohnkcmaelmkaaRef03
namespace Go.Proofs.Ytbohnkcmaelmkaa
open Go.RowKit

set_option maxRecDepth 100000 in
set_option maxHeartbeats 4000000 in
theorem tells_nat (a b n : Nat) (z : Int) (ha : a < 4294967296) (hb : b < 4294967296) (hn : n < 4294967296) (hz : -9223372036854775808 ≤ z) (hz2 : z ≤ 9223372036854775807) (w : World) :
    Calls Try.prog 3 #[.int .u32 (a : Int), .int .u32 (b : Int), .int .u32 (n : Int), .int .i64 z] w fun e w' => e = .returned (.bool true) ∧ Below w.heap.size w w' := by
  have l1 := behind_ge a b
  have l2 := behind_le a b
  have H0 := hide (fun w => less_any a b w ha hb)
  have H1 := hide (fun w => Less_any a b w ha hb)
  have H2 := hide (fun w => behind_any a b w ha hb)
  have H3 := hide (fun w => Behind_any a b w ha hb)
  have H4 := hide (fun w => in_any a b n w ha hb hn)
  have H5 := hide (fun w => In_any a b n w ha hb hn)
  have H6 := hide (fun w => max_any a b w ha hb)
  have H7 := hide (fun w => Max_any a b w ha hb)
  have H8 := hide (fun w => takes_any a z b n w ha hb hn hz hz2)
  have H9 := hide (fun w => Takes_any a z b n w ha hb hn hz hz2)
  have H10 := hide alive_any
  generalize less a b = x0 at *
  generalize behind a b = x1 at *
  generalize inW a b n = x2 at *
  generalize most a b = x3 at *
  generalize takes a z b n = x4 at *
  go_enter Try.func3, Try.ntmps3
  go_wp2_with fail
  refine (unhide H0 _).mono ?_
  rintro e w0 ⟨rfl, rfl⟩
  go_wp2_with fail
  refine (unhide H1 _).mono ?_
  rintro e w1 ⟨rfl, rfl⟩
  go_wp2_with fail
  refine (unhide H2 _).mono ?_
  rintro e w2 ⟨rfl, rfl⟩
  go_wp2_with fail
  refine (unhide H3 _).mono ?_
  rintro e w3 ⟨rfl, rfl⟩
  go_wp2_with fail
  refine (unhide H4 _).mono ?_
  rintro e w4 ⟨rfl, hb4⟩
  go_wp2_with fail
  refine (unhide H5 _).mono ?_
  rintro e w5 ⟨rfl, rfl⟩
  go_wp2_with fail
  refine (unhide H6 _).mono ?_
  rintro e w6 ⟨rfl, rfl⟩
  go_wp2_with fail
  refine (unhide H7 _).mono ?_
  rintro e w7 ⟨rfl, rfl⟩
  go_wp2_with fail
  refine (unhide H8 _).mono ?_
  rintro e w8 ⟨rfl, hb8⟩
  go_wp2_with fail
  refine (unhide H9 _).mono ?_
  rintro e w9 ⟨rfl, rfl⟩
  go_wp2_with fail
  refine (unhide H10 _).mono ?_
  rintro e w10 ⟨rfl, hb10⟩
  go_wp2
  go_ret
  exact ⟨rfl, tr2 hb4 (tr2 hb8 hb10)⟩

theorem seqTells_walk (a b n z : Int) (ha : (Lit.int .u32 a).wf = true) (hb : (Lit.int .u32 b).wf = true) (hn : (Lit.int .u32 n).wf = true) (hz : (Lit.int .i64 z).wf = true) (w : World) :
    Calls Try.prog 3 #[.int .u32 a, .int .u32 b, .int .u32 n, .int .i64 z] w fun e w' => e = .returned (.bool true) ∧ Below w.heap.size w w' := by
  obtain ⟨a, rfl, h1⟩ := nat32 ha
  obtain ⟨b, rfl, h2⟩ := nat32 hb
  obtain ⟨n, rfl, h3⟩ := nat32 hn
  have h4 := bounds_i64 hz
  exact tells_nat a b n z h1 h2 h3 (by omega) (by omega) w

end Go.Proofs.Ytbohnkcmaelmkaa
