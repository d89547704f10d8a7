/- The contracts of package addr's Turn, Bytes and Compare, over the loaded program; no memory that was there has turned. Conditions: numbers in their kinds' bounds. -/
import Derived.Test.YtnglkadfnacmcaaDoorAd1
import Derived.Test.YtnglkadfnacmcaaDoorAd0
import Derived.Deep.RegionHeld3
import Derived.Deep.RegionWith
namespace Go.Proofs.YtnglkadfnacmcaaDoor
open Go.RowKit

/-- a pair's bytes -/
def ptx (a p b q : Nat) : ByteArray := by4 a ++ by4 b ++ by2 p ++ by2 q
theorem ptx_cat (a p b q : Nat) : by4 a ++ by4 b ++ by2 p ++ by2 q = ptx a p b q := rfl

/-- what stands while a pair's bytes are put together -/
structure P4 (w : World) (a p b q : Nat) (w2 : World) : Prop where
  bel : Below w.heap.size w w2
  lt : w.heap.size < w2.heap.size
  c0 : w2.cell? ⟨w.heap.size, 0, none⟩ = some (.int .u32 (a : Int))
  c1 : w2.cell? ⟨w.heap.size, 1, none⟩ = some (.int .u16 (p : Int))
  c2 : w2.cell? ⟨w.heap.size, 2, none⟩ = some (.int .u32 (b : Int))
  c3 : w2.cell? ⟨w.heap.size, 3, none⟩ = some (.int .u16 (q : Int))
theorem P4.on {w w2 w3 : World} {a p b q : Nat} (h : P4 w a p b q w2) (k : Below w2.heap.size w2 w3) : P4 w a p b q w3 :=
  ⟨tr2 h.bel k, Nat.lt_of_lt_of_le h.lt k.size, (k.cell h.lt).trans h.c0, (k.cell h.lt).trans h.c1, (k.cell h.lt).trans h.c2, (k.cell h.lt).trans h.c3⟩
theorem P4.start (w : World) (a p b q : Nat) (t : TypeId) : P4 w a p b q (w.alloc (.cells #[.int .u32 (a : Int), .int .u16 (p : Int), .int .u32 (b : Int), .int .u16 (q : Int)] t)).drew := by
  have hh := heap_alloc_new w (.cells #[.int .u32 (a : Int), .int .u16 (p : Int), .int .u32 (b : Int), .int .u16 (q : Int)] t)
  exact ⟨(below_one w _).drew, by simp, cell_of_row _ _ 0 _ _ _ hh, cell_of_row _ _ 1 _ _ _ hh, cell_of_row _ _ 2 _ _ _ hh, cell_of_row _ _ 3 _ _ _ hh⟩

set_option maxHeartbeats 1000000 in
theorem bytes_any (a p b q : Nat) (w : World) (ha : a < 4294967296) (hp : p < 65536) (hb : b < 4294967296) (hq : q < 65536) :
    Calls Tryd.prog 21 #[.agg #[.int .u32 (a : Int), .int .u16 (p : Int), .int .u32 (b : Int), .int .u16 (q : Int)]] w fun e w' => e = .returned (.string (ptx a p b q)) ∧ Below w.heap.size w w' := by
  have H1 : Hid (∀ w2, P4 w a p b q w2 → Calls Tryd.prog 34 #[.int .u32 (a : Int)] w2 fun e w' => e = .returned (.string (by4 a)) ∧ P4 w a p b q w') := fun w2 k => (four_any a w2 ha).mono fun e w' h => ⟨h.1, k.on h.2⟩
  have H2 : Hid (∀ w2, P4 w a p b q w2 → Calls Tryd.prog 34 #[.int .u32 (b : Int)] w2 fun e w' => e = .returned (.string (by4 b)) ∧ P4 w a p b q w') := fun w2 k => (four_any b w2 hb).mono fun e w' h => ⟨h.1, k.on h.2⟩
  have H3 : Hid (∀ w2, P4 w a p b q w2 → Calls Tryd.prog 35 #[.int .u16 (p : Int)] w2 fun e w' => e = .returned (.string (by2 p)) ∧ P4 w a p b q w') := fun w2 k => (two_any p w2 hp).mono fun e w' h => ⟨h.1, k.on h.2⟩
  have H4 : Hid (∀ w2, P4 w a p b q w2 → Calls Tryd.prog 35 #[.int .u16 (q : Int)] w2 fun e w' => e = .returned (.string (by2 q)) ∧ P4 w a p b q w') := fun w2 k => (two_any q w2 hq).mono fun e w' h => ⟨h.1, k.on h.2⟩
  have HS := hide (P4.start w a p b q 36)
  have HE := hide (ptx_cat a p b q)
  have s1 : (by4 a).size = 4 := rfl
  have s2 : (by4 b).size = 4 := rfl
  have s3 : (by2 p).size = 2 := rfl
  have s4 : (by2 q).size = 2 := rfl
  generalize by4 a = A at *
  generalize by4 b = B at *
  generalize by2 p = P at *
  generalize by2 q = Q at *
  go_enter Tryd.func21, Tryd.ntmps21
  go_wp2_with fail
  go_region_held3 (fun w' => w'.cell? ⟨w.heap.size, 0, none⟩ = some (.int .u32 (a : Int)) ∧ w'.cell? ⟨w.heap.size, 1, none⟩ = some (.int .u16 (p : Int)) ∧ w'.cell? ⟨w.heap.size, 2, none⟩ = some (.int .u32 (b : Int)) ∧ w'.cell? ⟨w.heap.size, 3, none⟩ = some (.int .u16 (q : Int))) (go_keep)
    (first
      | (go_at_call 34; refine (unhide H1 _ (unhide HS)).mono ?_; rintro e w1 ⟨rfl, k1⟩; obtain ⟨_, _, q10, q11, q12, q13⟩ := id k1; clear H1)
      | (go_at_call 34; refine (unhide H2 _ k1).mono ?_; rintro e w2 ⟨rfl, k2⟩; obtain ⟨_, _, q20, q21, q22, q23⟩ := id k2; clear H2)
      | (go_at_call 35; refine (unhide H3 _ k2).mono ?_; rintro e w3 ⟨rfl, k3⟩; obtain ⟨_, _, q30, q31, q32, q33⟩ := id k3; clear H3)
      | (go_at_call 35; refine (unhide H4 _ k3).mono ?_; rintro e w4 ⟨rfl, k4⟩; obtain ⟨_, _, q40, q41, q42, q43⟩ := id k4; clear H4))
  go_wp2
  rw [unhide HE]
  go_ret
  exact ⟨rfl, k4.bel⟩

def pv (a p b q : Nat) : Value := .agg #[.int .u32 (a : Int), .int .u16 (p : Int), .int .u32 (b : Int), .int .u16 (q : Int)]

set_option maxHeartbeats 1000000 in
theorem turn_any (a p b q : Nat) (w : World) :
    Calls Tryd.prog 19 #[.agg #[.int .u32 (a : Int), .int .u16 (p : Int), .int .u32 (b : Int), .int .u16 (q : Int)]] w fun e w' => e = .returned (.agg #[.int .u32 (b : Int), .int .u16 (q : Int), .int .u32 (a : Int), .int .u16 (p : Int)]) ∧ Below w.heap.size w w' := by
  go_enter Tryd.func19, Tryd.ntmps19
  go_wp2
  refine bodyPost_ret (v := .agg #[.int .u32 (b : Int), .int .u16 (q : Int), .int .u32 (a : Int), .int .u16 (p : Int)]) (by simp [results, Tryd.results19, go_sem]) rfl ⟨rfl, ?_⟩
  exact ((below_one w _).alloc (by simp) _)

/-- a pair in a block -/
structure PB (w : World) (k a p b q : Nat) : Prop where
  lt : k < w.heap.size
  c0 : w.cell? ⟨k, 0, none⟩ = some (.int .u32 (a : Int))
  c1 : w.cell? ⟨k, 1, none⟩ = some (.int .u16 (p : Int))
  c2 : w.cell? ⟨k, 2, none⟩ = some (.int .u32 (b : Int))
  c3 : w.cell? ⟨k, 3, none⟩ = some (.int .u16 (q : Int))
theorem PB.on {w w' : World} {k a p b q : Nat} (h : PB w k a p b q) (z : Below w.heap.size w w') : PB w' k a p b q :=
  ⟨Nat.lt_of_lt_of_le h.lt z.size, (z.cell h.lt).trans h.c0, (z.cell h.lt).trans h.c1, (z.cell h.lt).trans h.c2, (z.cell h.lt).trans h.c3⟩
theorem PB.new (w : World) (a p b q : Nat) (t : TypeId) : PB (w.alloc (.cells #[.int .u32 (a : Int), .int .u16 (p : Int), .int .u32 (b : Int), .int .u16 (q : Int)] t)) w.heap.size a p b q := by
  have hh := heap_alloc_new w (.cells #[.int .u32 (a : Int), .int .u16 (p : Int), .int .u32 (b : Int), .int .u16 (q : Int)] t)
  exact ⟨by simp, cell_of_row _ _ 0 _ _ _ hh, cell_of_row _ _ 1 _ _ _ hh, cell_of_row _ _ 2 _ _ _ hh, cell_of_row _ _ 3 _ _ _ hh⟩
theorem PB.two' (w : World) (o : Obj) (a p b q : Nat) (t : TypeId) : PB ((w.alloc o).alloc (.cells #[.int .u32 (a : Int), .int .u16 (p : Int), .int .u32 (b : Int), .int .u16 (q : Int)] t)) (w.heap.size + 1) a p b q := by
  have h := PB.new (w.alloc o) a p b q t
  rw [show (w.alloc o).heap.size = w.heap.size + 1 by simp] at h
  exact h
theorem PB.two (w : World) (o : Obj) (a p b q : Nat) (t : TypeId) : PB ((w.alloc o).alloc (.cells #[.int .u32 (a : Int), .int .u16 (p : Int), .int .u32 (b : Int), .int .u16 (q : Int)] t)).drew (w.heap.size + 1) a p b q := by
  have h := PB.new (w.alloc o) a p b q t
  rw [show (w.alloc o).heap.size = w.heap.size + 1 by simp] at h
  exact h.on ⟨rfl, rfl, rfl, Nat.le_refl _, fun _ _ => rfl⟩

set_option maxHeartbeats 1000000 in
theorem compare_any (a p b q a' p' b' q' : Nat) (w : World) (ha : a < 4294967296) (hp : p < 65536) (hb : b < 4294967296) (hq : q < 65536) (ha' : a' < 4294967296) (hp' : p' < 65536) (hb' : b' < 4294967296) (hq' : q' < 65536) :
    Calls Tryd.prog 23 #[.agg #[.int .u32 (a : Int), .int .u16 (p : Int), .int .u32 (b : Int), .int .u16 (q : Int)], .agg #[.int .u32 (a' : Int), .int .u16 (p' : Int), .int .u32 (b' : Int), .int .u16 (q' : Int)]] w fun e w' => e = .returned (.int .i64 (Lib.compareBytes (ptx a p b q).data.toList (ptx a' p' b' q').data.toList)) ∧ Below w.heap.size w w' := by
  have H1 := hide (fun w => bytes_any a p b q w ha hp hb hq)
  have H2 := hide (fun w => bytes_any a' p' b' q' w ha' hp' hb' hq')
  have H3 := hide (fun w => cmp_any (ptx a p b q) (ptx a' p' b' q') w)
  have HB := hide (PB.two w (.cells #[.int .u32 (a : Int), .int .u16 (p : Int), .int .u32 (b : Int), .int .u16 (q : Int)] 36) a' p' b' q' 36)
  generalize Lib.compareBytes (ptx a p b q).data.toList (ptx a' p' b' q').data.toList = r at *
  generalize ptx a p b q = X at *
  generalize ptx a' p' b' q' = Y at *
  go_enter Tryd.func23, Tryd.ntmps23
  go_wp2_with fail
  go_region_with (first
    | (go_at_call 21; refine (unhide H1 _).mono ?_; rintro e w1 ⟨rfl, b1⟩; obtain ⟨_, q0, q1, q2, q3⟩ := (unhide HB).on b1; clear H1)
    | (go_at_call 21; refine (unhide H2 _).mono ?_; rintro e w2 ⟨rfl, b2⟩; clear H2)
    | (go_at_call 36; refine (unhide H3 _).mono ?_; rintro e w3 ⟨rfl, rfl⟩))
  all_goals
    go_simp
    go_wp2_with fail
    go_ret
    exact ⟨rfl, ((below_one w _).alloc (by simp) _).trans ((undrew (tr2 b1 b2)).mono (by show w.heap.size ≤ ((w.alloc _).alloc _).heap.size; simp; omega))⟩

end Go.Proofs.YtnglkadfnacmcaaDoor
