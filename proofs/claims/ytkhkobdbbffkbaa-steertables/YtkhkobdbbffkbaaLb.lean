/- The statement SteerTables's walk: tables, queues and cores. -/
import Derived.Test.YtkhkobdbbffkbaaLb0
namespace Go.Proofs.Ytkhkobdbbffkbaa
open Go.RowKit

set_option maxRecDepth 100000 in
set_option maxHeartbeats 1000000 in
theorem tables_atc (z : Int) (x1 x2 : Option Addr) (n1 c1 n2 c2 h : Nat) (L1 L2 : Nat → Int) (w : World) (hz : z < 1) (hn1 : n1 = 128) (hn2 : n2 ≤ 1024) (h0 : 0 < n2) (hh : h < 4294967296) (hT : Came w x1 n1 L1) (hC : Came w x2 n2 L2) :
    Calls Try.prog 6 #[.int .i64 z, .slice x1 n1 c1, .slice x2 n2 c2, .int .u32 (h : Int)] w fun e w' => e = .returned (.bool true) ∧ Below w.heap.size w w' := by
  subst hn1
  have HW := hide works_any
  have HE := hide (same (fun w => even_none z w (.inl hz)))
  go_enter Try.func6, Try.ntmps6
  go_wp2_with fail
  refine (unhide HE _).mono ?_
  rintro e w1 ⟨rfl, hbE⟩
  clear HE
  have hT1 := hT.on hbE
  have hC1 := hC.on hbE
  obtain ⟨y1, d1, w2, ha1, hb1, hy1⟩ := app_nums c1 hT1 (by omega)
  obtain ⟨y2, d2, w3, ha2, hb2, hy2⟩ := app_nums c2 (hC1.on hb1) (by omega)
  have HB := hide (tr2 hbE (tr2 hb1 hb2))
  obtain ⟨b, off, rfl, hbl, q0⟩ := hT1 (h % 128) (by omega)
  obtain ⟨g, rfl, hg⟩ := hy1 (h % 128) (by omega)
  have q1 : w2.cell? ⟨b, off + h % 128, none⟩ = some (.int .i64 (L1 (h % 128))) := (hb1.cell hbl).trans q0
  have HP := hide (pick_ok g 0 d1 h _ w2 hh (by rw [Nat.zero_add]; exact hg))
  clear hg q0 hbl
  obtain ⟨b2, off2, rfl, hbl2, r0⟩ := (hC1.on hb1).on hb2 (plc h n2) (plc_lt hh h0)
  obtain ⟨g2, rfl, hg2⟩ := hy2 (plc h n2) (plc_lt hh h0)
  have HK := hide (core_ok g2 0 n2 d2 h _ w3 hh h0 hn2 (by rw [Nat.zero_add]; exact hg2))
  have hp := plc_lt hh h0
  have hm := mul_lt2 hh hn2
  have hwr : IntKind.u64.wrap ((h : Int) * (n2 : Int)) = ((h * n2 : Nat) : Int) := by
    rw [← Int.natCast_mul, IntKind.wrap_u64, Int.emod_eq_of_lt (by omega) (by omega)]
  clear hbl2 hg2
  have HA1 := hide ha1
  have HA2 := hide ha2
  clear ha1 ha2 hT hC hT1 hC1 hy1 hy2 hb1 hb2 hbE
  unfold plc at *
  generalize h * n2 = m at *
  generalize L1 (h % 128) = Q at *
  generalize L2 (m / 4294967296) = R at *
  go_wp2_with (at_builtin; refine wpList_app rfl _ _ 39 rfl _ _ _ _ rfl rfl (unhide HA1) ?_; clear HA1)
  refine (unhide HP).mono ?_
  rintro e w4 ⟨rfl, rfl⟩
  go_wp2_with (at_builtin; refine wpList_app rfl _ _ 39 rfl _ _ _ _ rfl rfl (unhide HA2) ?_; clear HA2)
  refine (unhide HK).mono ?_
  rintro e w5 ⟨rfl, rfl⟩
  go_wp2_with fail
  refine (unhide HW _).mono ?_
  rintro e w6 ⟨rfl, b6⟩
  go_wp2
  go_ret
  exact ⟨rfl, tr2 (unhide HB) b6⟩


set_option maxRecDepth 100000 in
set_option maxHeartbeats 1000000 in
theorem tables_anc (z : Int) (x1 x2 : Option Addr) (n1 c1 n2 c2 h : Nat) (L1 L2 : Nat → Int) (w : World) (hz : z < 1) (hn1 : n1 ≠ 128) (hl1 : n1 ≤ 1024) (hn2 : n2 ≤ 1024) (h0 : 0 < n2) (hh : h < 4294967296) (hT : Came w x1 n1 L1) (hC : Came w x2 n2 L2) :
    Calls Try.prog 6 #[.int .i64 z, .slice x1 n1 c1, .slice x2 n2 c2, .int .u32 (h : Int)] w fun e w' => e = .returned (.bool true) ∧ Below w.heap.size w w' := by
  have HW := hide works_any
  have HE := hide (same (fun w => even_none z w (.inl hz)))
  go_enter Try.func6, Try.ntmps6
  go_wp2_with fail
  refine (unhide HE _).mono ?_
  rintro e w1 ⟨rfl, hbE⟩
  clear HE
  have hT1 := hT.on hbE
  have hC1 := hC.on hbE
  obtain ⟨y1, d1, w2, ha1, hb1, hy1⟩ := app_nums c1 hT1 (by omega)
  obtain ⟨y2, d2, w3, ha2, hb2, hy2⟩ := app_nums c2 (hC1.on hb1) (by omega)
  have HB := hide (tr2 hbE (tr2 hb1 hb2))
  have HP := hide (pick_none y1 n1 d1 (h : Int) w2 hn1)
  have hb128 : ((n1 : Int) == 128) = false := by rw [beq_eq_false_iff_ne]; omega
  obtain ⟨b2, off2, rfl, hbl2, r0⟩ := (hC1.on hb1).on hb2 (plc h n2) (plc_lt hh h0)
  obtain ⟨g2, rfl, hg2⟩ := hy2 (plc h n2) (plc_lt hh h0)
  have HK := hide (core_ok g2 0 n2 d2 h _ w3 hh h0 hn2 (by rw [Nat.zero_add]; exact hg2))
  have hp := plc_lt hh h0
  have hm := mul_lt2 hh hn2
  have hwr : IntKind.u64.wrap ((h : Int) * (n2 : Int)) = ((h * n2 : Nat) : Int) := by
    rw [← Int.natCast_mul, IntKind.wrap_u64, Int.emod_eq_of_lt (by omega) (by omega)]
  clear hbl2 hg2
  have HA1 := hide ha1
  have HA2 := hide ha2
  clear ha1 ha2 hT hC hT1 hC1 hy1 hy2 hb1 hb2 hbE
  unfold plc at *
  generalize h * n2 = m at *
  generalize L2 (m / 4294967296) = R at *
  go_wp2_with (at_builtin; refine wpList_app rfl _ _ 39 rfl _ _ _ _ rfl rfl (unhide HA1) ?_; clear HA1)
  refine (unhide HP).mono ?_
  rintro e w4 ⟨rfl, rfl⟩
  go_wp2_with (at_builtin; refine wpList_app rfl _ _ 39 rfl _ _ _ _ rfl rfl (unhide HA2) ?_; clear HA2)
  refine (unhide HK).mono ?_
  rintro e w5 ⟨rfl, rfl⟩
  go_wp2_with fail
  refine (unhide HW _).mono ?_
  rintro e w6 ⟨rfl, b6⟩
  go_wp2
  go_ret
  exact ⟨rfl, tr2 (unhide HB) b6⟩


set_option maxRecDepth 100000 in
set_option maxHeartbeats 1000000 in
theorem tables_atz (z : Int) (x1 x2 : Option Addr) (n1 c1 n2 c2 h : Nat) (L1 L2 : Nat → Int) (w : World) (hz : z < 1) (hn1 : n1 = 128) (h0 : n2 = 0) (hh : h < 4294967296) (hT : Came w x1 n1 L1) (hC : Came w x2 n2 L2) :
    Calls Try.prog 6 #[.int .i64 z, .slice x1 n1 c1, .slice x2 n2 c2, .int .u32 (h : Int)] w fun e w' => e = .returned (.bool true) ∧ Below w.heap.size w w' := by
  subst hn1
  subst h0
  have HW := hide works_any
  have HE := hide (same (fun w => even_none z w (.inl hz)))
  go_enter Try.func6, Try.ntmps6
  go_wp2_with fail
  refine (unhide HE _).mono ?_
  rintro e w1 ⟨rfl, hbE⟩
  clear HE
  have hT1 := hT.on hbE
  have hC1 := hC.on hbE
  obtain ⟨y1, d1, w2, ha1, hb1, hy1⟩ := app_nums c1 hT1 (by omega)
  obtain ⟨y2, d2, w3, ha2, hb2, hy2⟩ := app_nums c2 (hC1.on hb1) (by omega)
  have HB := hide (tr2 hbE (tr2 hb1 hb2))
  obtain ⟨b, off, rfl, hbl, q0⟩ := hT1 (h % 128) (by omega)
  obtain ⟨g, rfl, hg⟩ := hy1 (h % 128) (by omega)
  have q1 : w2.cell? ⟨b, off + h % 128, none⟩ = some (.int .i64 (L1 (h % 128))) := (hb1.cell hbl).trans q0
  have HP := hide (pick_ok g 0 d1 h _ w2 hh (by rw [Nat.zero_add]; exact hg))
  clear hg q0 hbl
  have HK := hide (core_none y2 d2 (h : Int) w3)
  have HA1 := hide ha1
  have HA2 := hide ha2
  clear ha1 ha2 hT hC hT1 hC1 hy1 hy2 hb1 hb2 hbE
  generalize L1 (h % 128) = Q at *
  go_wp2_with (at_builtin; refine wpList_app rfl _ _ 39 rfl _ _ _ _ rfl rfl (unhide HA1) ?_; clear HA1)
  refine (unhide HP).mono ?_
  rintro e w4 ⟨rfl, rfl⟩
  go_wp2_with (at_builtin; refine wpList_app rfl _ _ 39 rfl _ _ _ _ rfl rfl (unhide HA2) ?_; clear HA2)
  refine (unhide HK).mono ?_
  rintro e w5 ⟨rfl, rfl⟩
  go_wp2_with fail
  refine (unhide HW _).mono ?_
  rintro e w6 ⟨rfl, b6⟩
  go_wp2
  go_ret
  exact ⟨rfl, tr2 (unhide HB) b6⟩


set_option maxRecDepth 100000 in
set_option maxHeartbeats 1000000 in
theorem tables_anz (z : Int) (x1 x2 : Option Addr) (n1 c1 n2 c2 h : Nat) (L1 L2 : Nat → Int) (w : World) (hz : z < 1) (hn1 : n1 ≠ 128) (hl1 : n1 ≤ 1024) (h0 : n2 = 0)  (hT : Came w x1 n1 L1) (hC : Came w x2 n2 L2) :
    Calls Try.prog 6 #[.int .i64 z, .slice x1 n1 c1, .slice x2 n2 c2, .int .u32 (h : Int)] w fun e w' => e = .returned (.bool true) ∧ Below w.heap.size w w' := by
  subst h0
  have HW := hide works_any
  have HE := hide (same (fun w => even_none z w (.inl hz)))
  go_enter Try.func6, Try.ntmps6
  go_wp2_with fail
  refine (unhide HE _).mono ?_
  rintro e w1 ⟨rfl, hbE⟩
  clear HE
  have hT1 := hT.on hbE
  have hC1 := hC.on hbE
  obtain ⟨y1, d1, w2, ha1, hb1, hy1⟩ := app_nums c1 hT1 (by omega)
  obtain ⟨y2, d2, w3, ha2, hb2, hy2⟩ := app_nums c2 (hC1.on hb1) (by omega)
  have HB := hide (tr2 hbE (tr2 hb1 hb2))
  have HP := hide (pick_none y1 n1 d1 (h : Int) w2 hn1)
  have hb128 : ((n1 : Int) == 128) = false := by rw [beq_eq_false_iff_ne]; omega
  have HK := hide (core_none y2 d2 (h : Int) w3)
  have HA1 := hide ha1
  have HA2 := hide ha2
  clear ha1 ha2 hT hC hT1 hC1 hy1 hy2 hb1 hb2 hbE
  go_wp2_with (at_builtin; refine wpList_app rfl _ _ 39 rfl _ _ _ _ rfl rfl (unhide HA1) ?_; clear HA1)
  refine (unhide HP).mono ?_
  rintro e w4 ⟨rfl, rfl⟩
  go_wp2_with (at_builtin; refine wpList_app rfl _ _ 39 rfl _ _ _ _ rfl rfl (unhide HA2) ?_; clear HA2)
  refine (unhide HK).mono ?_
  rintro e w5 ⟨rfl, rfl⟩
  go_wp2_with fail
  refine (unhide HW _).mono ?_
  rintro e w6 ⟨rfl, b6⟩
  go_wp2
  go_ret
  exact ⟨rfl, tr2 (unhide HB) b6⟩


set_option maxRecDepth 100000 in
set_option maxHeartbeats 1000000 in
theorem tables_btc (z : Int) (x1 x2 : Option Addr) (n1 c1 n2 c2 h : Nat) (L1 L2 : Nat → Int) (w : World) (hz : 8 < z) (hn1 : n1 = 128) (hn2 : n2 ≤ 1024) (h0 : 0 < n2) (hh : h < 4294967296) (hT : Came w x1 n1 L1) (hC : Came w x2 n2 L2) :
    Calls Try.prog 6 #[.int .i64 z, .slice x1 n1 c1, .slice x2 n2 c2, .int .u32 (h : Int)] w fun e w' => e = .returned (.bool true) ∧ Below w.heap.size w w' := by
  subst hn1
  have HW := hide works_any
  have HE := hide (same (fun w => even_none z w (.inr hz)))
  have hz1 : ¬ z < 1 := by omega
  go_enter Try.func6, Try.ntmps6
  go_wp2_with fail
  refine (unhide HE _).mono ?_
  rintro e w1 ⟨rfl, hbE⟩
  clear HE
  have hT1 := hT.on hbE
  have hC1 := hC.on hbE
  obtain ⟨y1, d1, w2, ha1, hb1, hy1⟩ := app_nums c1 hT1 (by omega)
  obtain ⟨y2, d2, w3, ha2, hb2, hy2⟩ := app_nums c2 (hC1.on hb1) (by omega)
  have HB := hide (tr2 hbE (tr2 hb1 hb2))
  obtain ⟨b, off, rfl, hbl, q0⟩ := hT1 (h % 128) (by omega)
  obtain ⟨g, rfl, hg⟩ := hy1 (h % 128) (by omega)
  have q1 : w2.cell? ⟨b, off + h % 128, none⟩ = some (.int .i64 (L1 (h % 128))) := (hb1.cell hbl).trans q0
  have HP := hide (pick_ok g 0 d1 h _ w2 hh (by rw [Nat.zero_add]; exact hg))
  clear hg q0 hbl
  obtain ⟨b2, off2, rfl, hbl2, r0⟩ := (hC1.on hb1).on hb2 (plc h n2) (plc_lt hh h0)
  obtain ⟨g2, rfl, hg2⟩ := hy2 (plc h n2) (plc_lt hh h0)
  have HK := hide (core_ok g2 0 n2 d2 h _ w3 hh h0 hn2 (by rw [Nat.zero_add]; exact hg2))
  have hp := plc_lt hh h0
  have hm := mul_lt2 hh hn2
  have hwr : IntKind.u64.wrap ((h : Int) * (n2 : Int)) = ((h * n2 : Nat) : Int) := by
    rw [← Int.natCast_mul, IntKind.wrap_u64, Int.emod_eq_of_lt (by omega) (by omega)]
  clear hbl2 hg2
  have HA1 := hide ha1
  have HA2 := hide ha2
  clear ha1 ha2 hT hC hT1 hC1 hy1 hy2 hb1 hb2 hbE
  unfold plc at *
  generalize h * n2 = m at *
  generalize L1 (h % 128) = Q at *
  generalize L2 (m / 4294967296) = R at *
  go_wp2_with (at_builtin; refine wpList_app rfl _ _ 39 rfl _ _ _ _ rfl rfl (unhide HA1) ?_; clear HA1)
  refine (unhide HP).mono ?_
  rintro e w4 ⟨rfl, rfl⟩
  go_wp2_with (at_builtin; refine wpList_app rfl _ _ 39 rfl _ _ _ _ rfl rfl (unhide HA2) ?_; clear HA2)
  refine (unhide HK).mono ?_
  rintro e w5 ⟨rfl, rfl⟩
  go_wp2_with fail
  refine (unhide HW _).mono ?_
  rintro e w6 ⟨rfl, b6⟩
  go_wp2
  go_ret
  exact ⟨rfl, tr2 (unhide HB) b6⟩


set_option maxRecDepth 100000 in
set_option maxHeartbeats 1000000 in
theorem tables_bnc (z : Int) (x1 x2 : Option Addr) (n1 c1 n2 c2 h : Nat) (L1 L2 : Nat → Int) (w : World) (hz : 8 < z) (hn1 : n1 ≠ 128) (hl1 : n1 ≤ 1024) (hn2 : n2 ≤ 1024) (h0 : 0 < n2) (hh : h < 4294967296) (hT : Came w x1 n1 L1) (hC : Came w x2 n2 L2) :
    Calls Try.prog 6 #[.int .i64 z, .slice x1 n1 c1, .slice x2 n2 c2, .int .u32 (h : Int)] w fun e w' => e = .returned (.bool true) ∧ Below w.heap.size w w' := by
  have HW := hide works_any
  have HE := hide (same (fun w => even_none z w (.inr hz)))
  have hz1 : ¬ z < 1 := by omega
  go_enter Try.func6, Try.ntmps6
  go_wp2_with fail
  refine (unhide HE _).mono ?_
  rintro e w1 ⟨rfl, hbE⟩
  clear HE
  have hT1 := hT.on hbE
  have hC1 := hC.on hbE
  obtain ⟨y1, d1, w2, ha1, hb1, hy1⟩ := app_nums c1 hT1 (by omega)
  obtain ⟨y2, d2, w3, ha2, hb2, hy2⟩ := app_nums c2 (hC1.on hb1) (by omega)
  have HB := hide (tr2 hbE (tr2 hb1 hb2))
  have HP := hide (pick_none y1 n1 d1 (h : Int) w2 hn1)
  have hb128 : ((n1 : Int) == 128) = false := by rw [beq_eq_false_iff_ne]; omega
  obtain ⟨b2, off2, rfl, hbl2, r0⟩ := (hC1.on hb1).on hb2 (plc h n2) (plc_lt hh h0)
  obtain ⟨g2, rfl, hg2⟩ := hy2 (plc h n2) (plc_lt hh h0)
  have HK := hide (core_ok g2 0 n2 d2 h _ w3 hh h0 hn2 (by rw [Nat.zero_add]; exact hg2))
  have hp := plc_lt hh h0
  have hm := mul_lt2 hh hn2
  have hwr : IntKind.u64.wrap ((h : Int) * (n2 : Int)) = ((h * n2 : Nat) : Int) := by
    rw [← Int.natCast_mul, IntKind.wrap_u64, Int.emod_eq_of_lt (by omega) (by omega)]
  clear hbl2 hg2
  have HA1 := hide ha1
  have HA2 := hide ha2
  clear ha1 ha2 hT hC hT1 hC1 hy1 hy2 hb1 hb2 hbE
  unfold plc at *
  generalize h * n2 = m at *
  generalize L2 (m / 4294967296) = R at *
  go_wp2_with (at_builtin; refine wpList_app rfl _ _ 39 rfl _ _ _ _ rfl rfl (unhide HA1) ?_; clear HA1)
  refine (unhide HP).mono ?_
  rintro e w4 ⟨rfl, rfl⟩
  go_wp2_with (at_builtin; refine wpList_app rfl _ _ 39 rfl _ _ _ _ rfl rfl (unhide HA2) ?_; clear HA2)
  refine (unhide HK).mono ?_
  rintro e w5 ⟨rfl, rfl⟩
  go_wp2_with fail
  refine (unhide HW _).mono ?_
  rintro e w6 ⟨rfl, b6⟩
  go_wp2
  go_ret
  exact ⟨rfl, tr2 (unhide HB) b6⟩


set_option maxRecDepth 100000 in
set_option maxHeartbeats 1000000 in
theorem tables_btz (z : Int) (x1 x2 : Option Addr) (n1 c1 n2 c2 h : Nat) (L1 L2 : Nat → Int) (w : World) (hz : 8 < z) (hn1 : n1 = 128) (h0 : n2 = 0) (hh : h < 4294967296) (hT : Came w x1 n1 L1) (hC : Came w x2 n2 L2) :
    Calls Try.prog 6 #[.int .i64 z, .slice x1 n1 c1, .slice x2 n2 c2, .int .u32 (h : Int)] w fun e w' => e = .returned (.bool true) ∧ Below w.heap.size w w' := by
  subst hn1
  subst h0
  have HW := hide works_any
  have HE := hide (same (fun w => even_none z w (.inr hz)))
  have hz1 : ¬ z < 1 := by omega
  go_enter Try.func6, Try.ntmps6
  go_wp2_with fail
  refine (unhide HE _).mono ?_
  rintro e w1 ⟨rfl, hbE⟩
  clear HE
  have hT1 := hT.on hbE
  have hC1 := hC.on hbE
  obtain ⟨y1, d1, w2, ha1, hb1, hy1⟩ := app_nums c1 hT1 (by omega)
  obtain ⟨y2, d2, w3, ha2, hb2, hy2⟩ := app_nums c2 (hC1.on hb1) (by omega)
  have HB := hide (tr2 hbE (tr2 hb1 hb2))
  obtain ⟨b, off, rfl, hbl, q0⟩ := hT1 (h % 128) (by omega)
  obtain ⟨g, rfl, hg⟩ := hy1 (h % 128) (by omega)
  have q1 : w2.cell? ⟨b, off + h % 128, none⟩ = some (.int .i64 (L1 (h % 128))) := (hb1.cell hbl).trans q0
  have HP := hide (pick_ok g 0 d1 h _ w2 hh (by rw [Nat.zero_add]; exact hg))
  clear hg q0 hbl
  have HK := hide (core_none y2 d2 (h : Int) w3)
  have HA1 := hide ha1
  have HA2 := hide ha2
  clear ha1 ha2 hT hC hT1 hC1 hy1 hy2 hb1 hb2 hbE
  generalize L1 (h % 128) = Q at *
  go_wp2_with (at_builtin; refine wpList_app rfl _ _ 39 rfl _ _ _ _ rfl rfl (unhide HA1) ?_; clear HA1)
  refine (unhide HP).mono ?_
  rintro e w4 ⟨rfl, rfl⟩
  go_wp2_with (at_builtin; refine wpList_app rfl _ _ 39 rfl _ _ _ _ rfl rfl (unhide HA2) ?_; clear HA2)
  refine (unhide HK).mono ?_
  rintro e w5 ⟨rfl, rfl⟩
  go_wp2_with fail
  refine (unhide HW _).mono ?_
  rintro e w6 ⟨rfl, b6⟩
  go_wp2
  go_ret
  exact ⟨rfl, tr2 (unhide HB) b6⟩


set_option maxRecDepth 100000 in
set_option maxHeartbeats 1000000 in
theorem tables_bnz (z : Int) (x1 x2 : Option Addr) (n1 c1 n2 c2 h : Nat) (L1 L2 : Nat → Int) (w : World) (hz : 8 < z) (hn1 : n1 ≠ 128) (hl1 : n1 ≤ 1024) (h0 : n2 = 0)  (hT : Came w x1 n1 L1) (hC : Came w x2 n2 L2) :
    Calls Try.prog 6 #[.int .i64 z, .slice x1 n1 c1, .slice x2 n2 c2, .int .u32 (h : Int)] w fun e w' => e = .returned (.bool true) ∧ Below w.heap.size w w' := by
  subst h0
  have HW := hide works_any
  have HE := hide (same (fun w => even_none z w (.inr hz)))
  have hz1 : ¬ z < 1 := by omega
  go_enter Try.func6, Try.ntmps6
  go_wp2_with fail
  refine (unhide HE _).mono ?_
  rintro e w1 ⟨rfl, hbE⟩
  clear HE
  have hT1 := hT.on hbE
  have hC1 := hC.on hbE
  obtain ⟨y1, d1, w2, ha1, hb1, hy1⟩ := app_nums c1 hT1 (by omega)
  obtain ⟨y2, d2, w3, ha2, hb2, hy2⟩ := app_nums c2 (hC1.on hb1) (by omega)
  have HB := hide (tr2 hbE (tr2 hb1 hb2))
  have HP := hide (pick_none y1 n1 d1 (h : Int) w2 hn1)
  have hb128 : ((n1 : Int) == 128) = false := by rw [beq_eq_false_iff_ne]; omega
  have HK := hide (core_none y2 d2 (h : Int) w3)
  have HA1 := hide ha1
  have HA2 := hide ha2
  clear ha1 ha2 hT hC hT1 hC1 hy1 hy2 hb1 hb2 hbE
  go_wp2_with (at_builtin; refine wpList_app rfl _ _ 39 rfl _ _ _ _ rfl rfl (unhide HA1) ?_; clear HA1)
  refine (unhide HP).mono ?_
  rintro e w4 ⟨rfl, rfl⟩
  go_wp2_with (at_builtin; refine wpList_app rfl _ _ 39 rfl _ _ _ _ rfl rfl (unhide HA2) ?_; clear HA2)
  refine (unhide HK).mono ?_
  rintro e w5 ⟨rfl, rfl⟩
  go_wp2_with fail
  refine (unhide HW _).mono ?_
  rintro e w6 ⟨rfl, b6⟩
  go_wp2
  go_ret
  exact ⟨rfl, tr2 (unhide HB) b6⟩


set_option maxRecDepth 100000 in
set_option maxHeartbeats 1000000 in
theorem tables_itc (z : Nat) (x1 x2 : Option Addr) (n1 c1 n2 c2 h : Nat) (L1 L2 : Nat → Int) (w : World) (h1 : 1 ≤ z) (h8 : z ≤ 8) (hn1 : n1 = 128) (hn2 : n2 ≤ 1024) (h0 : 0 < n2) (hh : h < 4294967296) (hT : Came w x1 n1 L1) (hC : Came w x2 n2 L2) :
    Calls Try.prog 6 #[.int .i64 (z : Int), .slice x1 n1 c1, .slice x2 n2 c2, .int .u32 (h : Int)] w fun e w' => e = .returned (.bool true) ∧ Below w.heap.size w w' := by
  subst hn1
  have HW := hide works_any
  have HE := hide (fun w => even_ok z w h1 h8)
  go_enter Try.func6, Try.ntmps6
  go_wp2_with fail
  refine (unhide HE _).mono ?_
  rintro e w1 ⟨rfl, hR, hbE⟩
  have HR : Hid (∀ k, k < 128 → w1.cell? ⟨w.heap.size, k, none⟩ = some (.int .i64 ((k : Int) % (z : Int)))) := fun k hk => by
    rw [hR.cell k hk, Int.natCast_emod]
  clear HE hR
  go_wp2_with fail
  go_loopw [10] (fun i wr => ∃ k : Nat, k ≤ 128 ∧ i = .int .i64 (k : Int) ∧ ∃ n, wr = w1.drewN n) (fun i _ => 128 - (intOf i).toNat)
  case atStart => exact ⟨0, Nat.zero_le _, rfl, 0, rfl⟩
  case round =>
    obtain ⟨k, hk, rfl, n, rfl⟩ := hrel
    by_cases hlt : k < 128
    · have hck := unhide HR k hlt
      go_wp2_with fail
      go_quiet (fail)
      go_wp2_with fail
      go_roundw
      case rel => exact ⟨k + 1, by omega, by go_num, _, rfl⟩
      case measure => simp [intOf]; omega
    · have ek : k = 128 := by omega
      subst ek
      clear hlt hk
      replace hbE := below_draw hbE n
      have hT1 := hT.on hbE
      have hC1 := hC.on hbE
      obtain ⟨y1, d1, w2, ha1, hb1, hy1⟩ := app_nums c1 hT1 (by omega)
      obtain ⟨y2, d2, w3, ha2, hb2, hy2⟩ := app_nums c2 (hC1.on hb1) (by omega)
      have HB := hide (tr2 hbE (tr2 hb1 hb2))
      obtain ⟨b, off, rfl, hbl, q0⟩ := hT1 (h % 128) (by omega)
      obtain ⟨g, rfl, hg⟩ := hy1 (h % 128) (by omega)
      have q1 : w2.cell? ⟨b, off + h % 128, none⟩ = some (.int .i64 (L1 (h % 128))) := (hb1.cell hbl).trans q0
      have HP := hide (pick_ok g 0 d1 h _ w2 hh (by rw [Nat.zero_add]; exact hg))
      clear hg q0 hbl
      obtain ⟨b2, off2, rfl, hbl2, r0⟩ := (hC1.on hb1).on hb2 (plc h n2) (plc_lt hh h0)
      obtain ⟨g2, rfl, hg2⟩ := hy2 (plc h n2) (plc_lt hh h0)
      have HK := hide (core_ok g2 0 n2 d2 h _ w3 hh h0 hn2 (by rw [Nat.zero_add]; exact hg2))
      have hp := plc_lt hh h0
      have hm := mul_lt2 hh hn2
      have hwr : IntKind.u64.wrap ((h : Int) * (n2 : Int)) = ((h * n2 : Nat) : Int) := by
        rw [← Int.natCast_mul, IntKind.wrap_u64, Int.emod_eq_of_lt (by omega) (by omega)]
      clear hbl2 hg2
      have HA1 := hide ha1
      have HA2 := hide ha2
      clear ha1 ha2 hT hC hT1 hC1 hy1 hy2 hb1 hb2 hbE
      unfold plc at *
      generalize h * n2 = m at *
      generalize L1 (h % 128) = Q at *
      generalize L2 (m / 4294967296) = R at *
      go_wp2_with (at_builtin; refine wpList_app rfl _ _ 39 rfl _ _ _ _ rfl rfl (unhide HA1) ?_; clear HA1)
      refine (unhide HP).mono ?_
      rintro e w4 ⟨rfl, rfl⟩
      go_wp2_with (at_builtin; refine wpList_app rfl _ _ 39 rfl _ _ _ _ rfl rfl (unhide HA2) ?_; clear HA2)
      refine (unhide HK).mono ?_
      rintro e w5 ⟨rfl, rfl⟩
      go_wp2_with fail
      refine (unhide HW _).mono ?_
      rintro e w6 ⟨rfl, b6⟩
      go_wp2
      go_ret
      exact ⟨rfl, tr2 (unhide HB) b6⟩


set_option maxRecDepth 100000 in
set_option maxHeartbeats 1000000 in
theorem tables_inc (z : Nat) (x1 x2 : Option Addr) (n1 c1 n2 c2 h : Nat) (L1 L2 : Nat → Int) (w : World) (h1 : 1 ≤ z) (h8 : z ≤ 8) (hn1 : n1 ≠ 128) (hl1 : n1 ≤ 1024) (hn2 : n2 ≤ 1024) (h0 : 0 < n2) (hh : h < 4294967296) (hT : Came w x1 n1 L1) (hC : Came w x2 n2 L2) :
    Calls Try.prog 6 #[.int .i64 (z : Int), .slice x1 n1 c1, .slice x2 n2 c2, .int .u32 (h : Int)] w fun e w' => e = .returned (.bool true) ∧ Below w.heap.size w w' := by
  have HW := hide works_any
  have HE := hide (fun w => even_ok z w h1 h8)
  go_enter Try.func6, Try.ntmps6
  go_wp2_with fail
  refine (unhide HE _).mono ?_
  rintro e w1 ⟨rfl, hR, hbE⟩
  have HR : Hid (∀ k, k < 128 → w1.cell? ⟨w.heap.size, k, none⟩ = some (.int .i64 ((k : Int) % (z : Int)))) := fun k hk => by
    rw [hR.cell k hk, Int.natCast_emod]
  clear HE hR
  go_wp2_with fail
  go_loopw [10] (fun i wr => ∃ k : Nat, k ≤ 128 ∧ i = .int .i64 (k : Int) ∧ ∃ n, wr = w1.drewN n) (fun i _ => 128 - (intOf i).toNat)
  case atStart => exact ⟨0, Nat.zero_le _, rfl, 0, rfl⟩
  case round =>
    obtain ⟨k, hk, rfl, n, rfl⟩ := hrel
    by_cases hlt : k < 128
    · have hck := unhide HR k hlt
      go_wp2_with fail
      go_quiet (fail)
      go_wp2_with fail
      go_roundw
      case rel => exact ⟨k + 1, by omega, by go_num, _, rfl⟩
      case measure => simp [intOf]; omega
    · have ek : k = 128 := by omega
      subst ek
      clear hlt hk
      replace hbE := below_draw hbE n
      have hT1 := hT.on hbE
      have hC1 := hC.on hbE
      obtain ⟨y1, d1, w2, ha1, hb1, hy1⟩ := app_nums c1 hT1 (by omega)
      obtain ⟨y2, d2, w3, ha2, hb2, hy2⟩ := app_nums c2 (hC1.on hb1) (by omega)
      have HB := hide (tr2 hbE (tr2 hb1 hb2))
      have HP := hide (pick_none y1 n1 d1 (h : Int) w2 hn1)
      have hb128 : ((n1 : Int) == 128) = false := by rw [beq_eq_false_iff_ne]; omega
      obtain ⟨b2, off2, rfl, hbl2, r0⟩ := (hC1.on hb1).on hb2 (plc h n2) (plc_lt hh h0)
      obtain ⟨g2, rfl, hg2⟩ := hy2 (plc h n2) (plc_lt hh h0)
      have HK := hide (core_ok g2 0 n2 d2 h _ w3 hh h0 hn2 (by rw [Nat.zero_add]; exact hg2))
      have hp := plc_lt hh h0
      have hm := mul_lt2 hh hn2
      have hwr : IntKind.u64.wrap ((h : Int) * (n2 : Int)) = ((h * n2 : Nat) : Int) := by
        rw [← Int.natCast_mul, IntKind.wrap_u64, Int.emod_eq_of_lt (by omega) (by omega)]
      clear hbl2 hg2
      have HA1 := hide ha1
      have HA2 := hide ha2
      clear ha1 ha2 hT hC hT1 hC1 hy1 hy2 hb1 hb2 hbE
      unfold plc at *
      generalize h * n2 = m at *
      generalize L2 (m / 4294967296) = R at *
      go_wp2_with (at_builtin; refine wpList_app rfl _ _ 39 rfl _ _ _ _ rfl rfl (unhide HA1) ?_; clear HA1)
      refine (unhide HP).mono ?_
      rintro e w4 ⟨rfl, rfl⟩
      go_wp2_with (at_builtin; refine wpList_app rfl _ _ 39 rfl _ _ _ _ rfl rfl (unhide HA2) ?_; clear HA2)
      refine (unhide HK).mono ?_
      rintro e w5 ⟨rfl, rfl⟩
      go_wp2_with fail
      refine (unhide HW _).mono ?_
      rintro e w6 ⟨rfl, b6⟩
      go_wp2
      go_ret
      exact ⟨rfl, tr2 (unhide HB) b6⟩


set_option maxRecDepth 100000 in
set_option maxHeartbeats 1000000 in
theorem tables_itz (z : Nat) (x1 x2 : Option Addr) (n1 c1 n2 c2 h : Nat) (L1 L2 : Nat → Int) (w : World) (h1 : 1 ≤ z) (h8 : z ≤ 8) (hn1 : n1 = 128) (h0 : n2 = 0) (hh : h < 4294967296) (hT : Came w x1 n1 L1) (hC : Came w x2 n2 L2) :
    Calls Try.prog 6 #[.int .i64 (z : Int), .slice x1 n1 c1, .slice x2 n2 c2, .int .u32 (h : Int)] w fun e w' => e = .returned (.bool true) ∧ Below w.heap.size w w' := by
  subst hn1
  subst h0
  have HW := hide works_any
  have HE := hide (fun w => even_ok z w h1 h8)
  go_enter Try.func6, Try.ntmps6
  go_wp2_with fail
  refine (unhide HE _).mono ?_
  rintro e w1 ⟨rfl, hR, hbE⟩
  have HR : Hid (∀ k, k < 128 → w1.cell? ⟨w.heap.size, k, none⟩ = some (.int .i64 ((k : Int) % (z : Int)))) := fun k hk => by
    rw [hR.cell k hk, Int.natCast_emod]
  clear HE hR
  go_wp2_with fail
  go_loopw [10] (fun i wr => ∃ k : Nat, k ≤ 128 ∧ i = .int .i64 (k : Int) ∧ ∃ n, wr = w1.drewN n) (fun i _ => 128 - (intOf i).toNat)
  case atStart => exact ⟨0, Nat.zero_le _, rfl, 0, rfl⟩
  case round =>
    obtain ⟨k, hk, rfl, n, rfl⟩ := hrel
    by_cases hlt : k < 128
    · have hck := unhide HR k hlt
      go_wp2_with fail
      go_quiet (fail)
      go_wp2_with fail
      go_roundw
      case rel => exact ⟨k + 1, by omega, by go_num, _, rfl⟩
      case measure => simp [intOf]; omega
    · have ek : k = 128 := by omega
      subst ek
      clear hlt hk
      replace hbE := below_draw hbE n
      have hT1 := hT.on hbE
      have hC1 := hC.on hbE
      obtain ⟨y1, d1, w2, ha1, hb1, hy1⟩ := app_nums c1 hT1 (by omega)
      obtain ⟨y2, d2, w3, ha2, hb2, hy2⟩ := app_nums c2 (hC1.on hb1) (by omega)
      have HB := hide (tr2 hbE (tr2 hb1 hb2))
      obtain ⟨b, off, rfl, hbl, q0⟩ := hT1 (h % 128) (by omega)
      obtain ⟨g, rfl, hg⟩ := hy1 (h % 128) (by omega)
      have q1 : w2.cell? ⟨b, off + h % 128, none⟩ = some (.int .i64 (L1 (h % 128))) := (hb1.cell hbl).trans q0
      have HP := hide (pick_ok g 0 d1 h _ w2 hh (by rw [Nat.zero_add]; exact hg))
      clear hg q0 hbl
      have HK := hide (core_none y2 d2 (h : Int) w3)
      have HA1 := hide ha1
      have HA2 := hide ha2
      clear ha1 ha2 hT hC hT1 hC1 hy1 hy2 hb1 hb2 hbE
      generalize L1 (h % 128) = Q at *
      go_wp2_with (at_builtin; refine wpList_app rfl _ _ 39 rfl _ _ _ _ rfl rfl (unhide HA1) ?_; clear HA1)
      refine (unhide HP).mono ?_
      rintro e w4 ⟨rfl, rfl⟩
      go_wp2_with (at_builtin; refine wpList_app rfl _ _ 39 rfl _ _ _ _ rfl rfl (unhide HA2) ?_; clear HA2)
      refine (unhide HK).mono ?_
      rintro e w5 ⟨rfl, rfl⟩
      go_wp2_with fail
      refine (unhide HW _).mono ?_
      rintro e w6 ⟨rfl, b6⟩
      go_wp2
      go_ret
      exact ⟨rfl, tr2 (unhide HB) b6⟩


set_option maxRecDepth 100000 in
set_option maxHeartbeats 1000000 in
theorem tables_inz (z : Nat) (x1 x2 : Option Addr) (n1 c1 n2 c2 h : Nat) (L1 L2 : Nat → Int) (w : World) (h1 : 1 ≤ z) (h8 : z ≤ 8) (hn1 : n1 ≠ 128) (hl1 : n1 ≤ 1024) (h0 : n2 = 0)  (hT : Came w x1 n1 L1) (hC : Came w x2 n2 L2) :
    Calls Try.prog 6 #[.int .i64 (z : Int), .slice x1 n1 c1, .slice x2 n2 c2, .int .u32 (h : Int)] w fun e w' => e = .returned (.bool true) ∧ Below w.heap.size w w' := by
  subst h0
  have HW := hide works_any
  have HE := hide (fun w => even_ok z w h1 h8)
  go_enter Try.func6, Try.ntmps6
  go_wp2_with fail
  refine (unhide HE _).mono ?_
  rintro e w1 ⟨rfl, hR, hbE⟩
  have HR : Hid (∀ k, k < 128 → w1.cell? ⟨w.heap.size, k, none⟩ = some (.int .i64 ((k : Int) % (z : Int)))) := fun k hk => by
    rw [hR.cell k hk, Int.natCast_emod]
  clear HE hR
  go_wp2_with fail
  go_loopw [10] (fun i wr => ∃ k : Nat, k ≤ 128 ∧ i = .int .i64 (k : Int) ∧ ∃ n, wr = w1.drewN n) (fun i _ => 128 - (intOf i).toNat)
  case atStart => exact ⟨0, Nat.zero_le _, rfl, 0, rfl⟩
  case round =>
    obtain ⟨k, hk, rfl, n, rfl⟩ := hrel
    by_cases hlt : k < 128
    · have hck := unhide HR k hlt
      go_wp2_with fail
      go_quiet (fail)
      go_wp2_with fail
      go_roundw
      case rel => exact ⟨k + 1, by omega, by go_num, _, rfl⟩
      case measure => simp [intOf]; omega
    · have ek : k = 128 := by omega
      subst ek
      clear hlt hk
      replace hbE := below_draw hbE n
      have hT1 := hT.on hbE
      have hC1 := hC.on hbE
      obtain ⟨y1, d1, w2, ha1, hb1, hy1⟩ := app_nums c1 hT1 (by omega)
      obtain ⟨y2, d2, w3, ha2, hb2, hy2⟩ := app_nums c2 (hC1.on hb1) (by omega)
      have HB := hide (tr2 hbE (tr2 hb1 hb2))
      have HP := hide (pick_none y1 n1 d1 (h : Int) w2 hn1)
      have hb128 : ((n1 : Int) == 128) = false := by rw [beq_eq_false_iff_ne]; omega
      have HK := hide (core_none y2 d2 (h : Int) w3)
      have HA1 := hide ha1
      have HA2 := hide ha2
      clear ha1 ha2 hT hC hT1 hC1 hy1 hy2 hb1 hb2 hbE
      go_wp2_with (at_builtin; refine wpList_app rfl _ _ 39 rfl _ _ _ _ rfl rfl (unhide HA1) ?_; clear HA1)
      refine (unhide HP).mono ?_
      rintro e w4 ⟨rfl, rfl⟩
      go_wp2_with (at_builtin; refine wpList_app rfl _ _ 39 rfl _ _ _ _ rfl rfl (unhide HA2) ?_; clear HA2)
      refine (unhide HK).mono ?_
      rintro e w5 ⟨rfl, rfl⟩
      go_wp2_with fail
      refine (unhide HW _).mono ?_
      rintro e w6 ⟨rfl, b6⟩
      go_wp2
      go_ret
      exact ⟨rfl, tr2 (unhide HB) b6⟩


end Go.Proofs.Ytkhkobdbbffkbaa
