/- The contract of package arp's Tell, over the loaded program; no memory that was there has turned. No conditions. -/
import Derived.Test.YtkmhhlimhiiciaaAr2
import Derived.Deep.RegionHeld3
namespace Go.Proofs.Ytkmhhlimhiiciaa
open Go.RowKit

abbrev ar0 : Value := .agg #[.int .u16 0, .int .u64 0, .int .u32 0, .int .u64 0, .int .u32 0]

set_option maxHeartbeats 1000000 in
theorem tell_no (o f i t j a : Nat) (w : World) (h : ((o : Int) == 1) = false) :
    Calls Try.prog 12 #[ar o f i t j, .int .u64 (a : Int)] w fun e w' => e = .returned (.tuple #[ar0, .bool false]) ∧ Below w.heap.size w w' := by
  have K := hide (((Tab.zero w).alloc rfl (arL o f i t j) 27).alloc (by simp) zL 27)
  have H1 := hide (fun w => packet_any o f i t j w)
  go_enter Try.func12, Try.ntmps12
  go_wp2_with fail
  refine (unhide H1 _).mono ?_
  rintro e w1 ⟨rfl, b1⟩
  have k := ((unhide K).on b1).on (below_one w1 (.cells #[.int .u16 (o : Int), .int .u64 (f : Int), .int .u32 (i : Int), .int .u64 (t : Int), .int .u32 (j : Int)] 55))
  obtain ⟨e0, e1, e2, e3, e4⟩ := k.five 1 rfl rfl rfl rfl rfl
  obtain ⟨g0, g1, g2, g3, g4⟩ := k.free5 1 rfl rfl rfl rfl rfl
  have B1 := hide k.bel
  clear k K b1 H1
  go_wp2_with fail
  refine bodyPost_ret (v := .tuple #[ar0, .bool false]) (by simp [results, Try.results12, go_sem, e0, e1, e2, e3, e4]) rfl ⟨rfl, ?_⟩
  exact below_set5 (unhide B1) (Nat.le_succ _) _ _ _ _ _

/-- the call's own boxes, and the packet's -/
structure PT (w : World) (p f i t j : Nat) (wx : World) : Prop where
  k : Tab w 2 (add (add (fun _ _ => none) 0 (arL 1 f i t j)) 1 zL) wx
  lt : p < wx.heap.size
  c1 : wx.cell? ⟨p, 1, none⟩ = some (.int .u64 (f : Int))
  c2 : wx.cell? ⟨p, 2, none⟩ = some (.int .u32 (i : Int))
  c3 : wx.cell? ⟨p, 3, none⟩ = some (.int .u64 (t : Int))
  c4 : wx.cell? ⟨p, 4, none⟩ = some (.int .u32 (j : Int))
theorem PT.on {w wx wy : World} {p f i t j : Nat} (h : PT w p f i t j wx) (b : Below wx.heap.size wx wy) : PT w p f i t j wy :=
  ⟨h.k.on b, Nat.lt_of_lt_of_le h.lt b.size, (b.cell h.lt).trans h.c1, (b.cell h.lt).trans h.c2, (b.cell h.lt).trans h.c3, (b.cell h.lt).trans h.c4⟩
theorem PT.new {w w1 : World} {f i t j : Nat} (k : Tab w 2 (add (add (fun _ _ => none) 0 (arL 1 f i t j)) 1 zL) w1) (ty : TypeId) : PT w w1.heap.size f i t j (w1.alloc (.cells #[.int .u16 1, .int .u64 (f : Int), .int .u32 (i : Int), .int .u64 (t : Int), .int .u32 (j : Int)] ty)) := by
  have h := heap_alloc_new w1 (.cells #[.int .u16 1, .int .u64 (f : Int), .int .u32 (i : Int), .int .u64 (t : Int), .int .u32 (j : Int)] ty)
  exact ⟨k.on (below_one _ _), by simp, cell_of_row _ _ 1 _ _ _ h, cell_of_row _ _ 2 _ _ _ h, cell_of_row _ _ 3 _ _ _ h, cell_of_row _ _ 4 _ _ _ h⟩
theorem PT.via {w : World} {p f i t j : Nat} {F : FuncId} {args : Array Value} {v : Value} (H : ∀ w, Calls Try.prog F args w fun e w' => e = .returned v ∧ Below w.heap.size w w') (wx : World) (h : PT w p f i t j wx) : Calls Try.prog F args wx fun e w' => e = .returned v ∧ PT w p f i t j w' :=
  (H wx).mono fun _ _ r => ⟨r.1, h.on r.2⟩

set_option maxHeartbeats 1000000 in
theorem tell_yes (f i t j a : Nat) (w : World) :
    Calls Try.prog 12 #[ar 1 f i t j, .int .u64 (a : Int)] w fun e w' => e = .returned (.tuple #[ar 2 a j f i, .bool true]) ∧ Below w.heap.size w w' := by
  have K := hide (((Tab.zero w).alloc rfl (arL 1 f i t j) 27).alloc (by simp) zL 27)
  have H1 := hide (fun w => packet_any 1 f i t j w)
  go_enter Try.func12, Try.ntmps12
  go_wp2_with fail
  refine (unhide H1 _).mono ?_
  rintro e w1 ⟨rfl, b1⟩
  have k1 := (unhide K).on b1
  have hp := PT.new k1 55
  have ne : w.heap.size + 1 ≠ w1.heap.size := by have := k1.lt; omega
  clear K b1 H1 k1
  go_wp2_with fail
  generalize w1.alloc (.cells #[.int .u16 1, .int .u64 (f : Int), .int .u32 (i : Int), .int .u64 (t : Int), .int .u32 (j : Int)] 55) = wb at *
  generalize w1.heap.size = p at *
  have HS := hide (hp.on (below_drew wb))
  have hfd : ∀ w, (Instr.field 50 (en t j) 1).run Try.prog w = .ok (.int .u32 (j : Int)) w := fun _ => by kernel_rfl
  obtain ⟨_, _, c1, c2, c3, c4⟩ := hp
  have H2 := hide (PT.via (w := w) (p := p) (f := f) (i := i) (t := t) (j := j) (fun w => to_any t j w))
  have H3 := hide (PT.via (w := w) (p := p) (f := f) (i := i) (t := t) (j := j) (fun w => from_any f i w))
  have H4 := hide (PT.via (w := w) (p := p) (f := f) (i := i) (t := t) (j := j) (fun w => between_any 2 a j f i w))
  have H5 := hide (PT.via (w := w) (p := p) (f := f) (i := i) (t := t) (j := j) (fun w => told_any 2 a j f i w))
  go_region_held3 (fun w' => w'.cell? ⟨p, 1, none⟩ = some (.int .u64 (f : Int)) ∧ w'.cell? ⟨p, 2, none⟩ = some (.int .u32 (i : Int)) ∧ w'.cell? ⟨p, 3, none⟩ = some (.int .u64 (t : Int)) ∧ w'.cell? ⟨p, 4, none⟩ = some (.int .u32 (j : Int))) (simp (maxDischargeDepth := 30) [*, World.cell?_setCell_far])
    (first
      | (go_at_call 23; refine (unhide H2 _ (unhide HS)).mono ?_; rintro e w2 ⟨rfl, k2⟩; obtain ⟨_, _, q21, q22, q23, q24⟩ := id k2; clear H2)
      | (go_at_call 21; refine (unhide H3 _ k2).mono ?_; rintro e w3 ⟨rfl, k3⟩; obtain ⟨_, _, q31, q32, q33, q34⟩ := id k3; clear H3)
      | (go_at_call 31; refine (unhide H4 _ k3).mono ?_; rintro e w4 ⟨rfl, k4⟩; obtain ⟨_, _, q41, q42, q43, q44⟩ := id k4; clear H4)
      | (go_at_call 29; refine (unhide H5 _ k4).mono ?_; rintro e w5 ⟨rfl, k5⟩; obtain ⟨_, _, q51, q52, q53, q54⟩ := id k5; obtain ⟨r0, r1, r2, r3, r4⟩ := k5.k.five 1 rfl rfl rfl rfl rfl; obtain ⟨g0, g1, g2, g3, g4⟩ := k5.k.free5 1 rfl rfl rfl rfl rfl; clear H5))
  go_wp2_with fail
  refine bodyPost_ret (v := .tuple #[ar 2 a j f i, .bool true]) (by simp [results, Try.results12, go_sem, r0, r1, r2, r3, r4]) rfl ⟨rfl, ?_⟩
  exact below_set5 k5.k.bel (Nat.le_succ _) _ _ _ _ _

/-- what Tell answers -/
def TelIs (o f i j a : Nat) (O F I T J : Nat) (b : Bool) : Prop :=
  ((o == 1) = false ∧ O = 0 ∧ F = 0 ∧ I = 0 ∧ T = 0 ∧ J = 0 ∧ b = false) ∨
  (o = 1 ∧ O = 2 ∧ F = a ∧ I = j ∧ T = f ∧ J = i ∧ b = true)
theorem tel_ex (o f i j a : Nat) : ∃ O F I T J b, TelIs o f i j a O F I T J b := by
  by_cases h : o = 1
  · exact ⟨_, _, _, _, _, _, .inr ⟨h, rfl, rfl, rfl, rfl, rfl, rfl⟩⟩
  · exact ⟨_, _, _, _, _, _, .inl ⟨beq_eq_false_iff_ne.2 h, rfl, rfl, rfl, rfl, rfl, rfl⟩⟩
theorem tell_any {o f i t j a : Nat} (w : World) {O F I T J : Nat} {b : Bool} (h : TelIs o f i j a O F I T J b) :
    Calls Try.prog 12 #[ar o f i t j, .int .u64 (a : Int)] w fun e w' => e = .returned (.tuple #[ar O F I T J, .bool b]) ∧ Below w.heap.size w w' := by
  rcases h with ⟨h, rfl, rfl, rfl, rfl, rfl, rfl⟩ | ⟨rfl, rfl, rfl, rfl, rfl, rfl, rfl⟩
  · exact tell_no _ _ _ _ _ _ w ((eqI1 _).trans h)
  · exact tell_yes _ _ _ _ _ w

end Go.Proofs.Ytkmhhlimhiiciaa
