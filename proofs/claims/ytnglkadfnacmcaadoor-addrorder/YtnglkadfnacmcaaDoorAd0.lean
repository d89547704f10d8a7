/- The contracts of package addr's leaves (four, two, spread, joined), over the loaded program; no memory that was there has turned. Conditions: numbers in their kinds' bounds. -/
import Derived.Test.YtnglkadfnacmcaaDoorWd6
import Derived.Deep.RegionWith
import Derived.Laws.CopyOwn
namespace Go.Proofs.YtnglkadfnacmcaaDoor
open Go.RowKit

/-- a number's four bytes, and two bytes, the highest first -/
def by4 (x : Nat) : ByteArray := ⟨(ofB x 4).toArray⟩
def by2 (x : Nat) : ByteArray := ⟨(ofB x 2).toArray⟩
theorem by4_eq (x : Nat) : by4 x = ⟨#[byt x 3, byt x 2, byt x 1, byt x 0]⟩ := rfl
theorem by2_eq (x : Nat) : by2 x = ⟨#[byt x 1, byt x 0]⟩ := rfl

set_option maxHeartbeats 400000 in
theorem four_any (x : Nat) (w : World) (hx : x < 4294967296) :
    Calls Tryd.prog 34 #[.int .u32 (x : Int)] w fun e w' => e = .returned (.string (by4 x)) ∧ Below w.heap.size w w' := by
  have H := hide (fun w => of_4 x w (by omega))
  go_enter Tryd.func34, Tryd.ntmps34
  go_wp2_with fail
  refine (unhide H _).mono ?_
  rintro e w1 ⟨rfl, b1⟩
  go_wp2_with fail
  go_ret
  exact ⟨rfl, b1⟩

set_option maxHeartbeats 400000 in
theorem two_any (x : Nat) (w : World) (hx : x < 65536) :
    Calls Tryd.prog 35 #[.int .u16 (x : Int)] w fun e w' => e = .returned (.string (by2 x)) ∧ Below w.heap.size w w' := by
  have H := hide (fun w => of_2 x w (by omega))
  go_enter Tryd.func35, Tryd.ntmps35
  go_wp2_with fail
  refine (unhide H _).mono ?_
  rintro e w1 ⟨rfl, b1⟩
  go_wp2_with fail
  go_ret
  exact ⟨rfl, b1⟩

/-- what the copy of four bytes leaves -/
structure Copied4 (w : World) (x : Nat) (w2 : World) : Prop where
  bel : Below w.heap.size w w2
  lt : w.heap.size + 1 < w2.heap.size
  c0 : w2.cell? ⟨w.heap.size + 1, 0, none⟩ = some (.int .u8 ((byt x 3).toNat : Int))
  c1 : w2.cell? ⟨w.heap.size + 1, 1, none⟩ = some (.int .u8 ((byt x 2).toNat : Int))
  c2 : w2.cell? ⟨w.heap.size + 1, 2, none⟩ = some (.int .u8 ((byt x 1).toNat : Int))
  c3 : w2.cell? ⟨w.heap.size + 1, 3, none⟩ = some (.int .u8 ((byt x 0).toNat : Int))
  z0 : w2.cell? ⟨w.heap.size, 0, none⟩ = some (.int .u8 0)
  z1 : w2.cell? ⟨w.heap.size, 1, none⟩ = some (.int .u8 0)
  z2 : w2.cell? ⟨w.heap.size, 2, none⟩ = some (.int .u8 0)
  z3 : w2.cell? ⟨w.heap.size, 3, none⟩ = some (.int .u8 0)
  f0 : w2.frozen? ⟨w.heap.size, 0, none⟩ = false
  f1 : w2.frozen? ⟨w.heap.size, 1, none⟩ = false
  f2 : w2.frozen? ⟨w.heap.size, 2, none⟩ = false
  f3 : w2.frozen? ⟨w.heap.size, 3, none⟩ = false

def zero4 : Array Value := #[.int .u8 0, .int .u8 0, .int .u8 0, .int .u8 0]

theorem heap_setRow_other (w : World) (b : Nat) (X : Array Value) (k : Nat) (h : k ≠ b) : (w.setRow b X).heap[k]? = w.heap[k]? := by
  show (w.heap.modify b _)[k]? = _
  rw [Array.getElem?_modify, if_neg (Ne.symm h)]

theorem heap_setRow_same (w : World) (b : Nat) (X cur : Array Value) (t : TypeId) (h : w.heap[b]? = some (.cells cur t)) : (w.setRow b X).heap[b]? = some (.cells X t) := setRow_heap w b cur X t (0, 0) h

theorem copy4 (w w1 : World) (x : Nat) (hb : Below (w.heap.size + 2) ((w.alloc (.cells zero4 48)).alloc (.cells zero4 48)) w1) :
    ∃ w2, (Builtin.copy_ #[71, 9] 3 #[.slice (some ⟨w.heap.size + 1, 0, none⟩) 4 4, .string (by4 x)]).run Tryd.prog w1 = .ok (.int .i64 4) w2 ∧ Copied4 w x w2 := by
  have h1 : w1.heap[w.heap.size + 1]? = some (.cells zero4 48) := by
    rw [hb.block _ (by omega)]
    have := heap_alloc_new (w.alloc (.cells zero4 48)) (.cells zero4 48)
    simpa using this
  have h0 : w1.heap[w.heap.size]? = some (.cells zero4 48) := by
    rw [hb.block _ (by omega), Below.heap_alloc _ _ _ (by simp)]
    exact heap_alloc_new _ _
  have hr := Lib.run_copy_row_string (P := Tryd.prog) w1 71 9 3 5 (w.heap.size + 1) 0 4 4 (by4 x) zero4 48 Tryd.underlying71 (by kernel_rfl) h1 (Nat.le_refl _) (Nat.le_refl _)
  refine ⟨w1.setRow (w.heap.size + 1) #[.int .u8 ((byt x 3).toNat : Int), .int .u8 ((byt x 2).toNat : Int), .int .u8 ((byt x 1).toNat : Int), .int .u8 ((byt x 0).toNat : Int)], hr, ?_⟩
  have g1 := heap_setRow_same w1 (w.heap.size + 1) #[.int .u8 ((byt x 3).toNat : Int), .int .u8 ((byt x 2).toNat : Int), .int .u8 ((byt x 1).toNat : Int), .int .u8 ((byt x 0).toNat : Int)] zero4 48 h1
  have g0 := heap_setRow_other w1 (w.heap.size + 1) #[.int .u8 ((byt x 3).toNat : Int), .int .u8 ((byt x 2).toNat : Int), .int .u8 ((byt x 1).toNat : Int), .int .u8 ((byt x 0).toNat : Int)] w.heap.size (by omega)
  have hs := hb.size
  simp at hs
  have hz : ∀ k, (zero4[k]? = some (.int .u8 0) ∨ 4 ≤ k) := by
    intro k
    rcases (by omega : k = 0 ∨ k = 1 ∨ k = 2 ∨ k = 3 ∨ 4 ≤ k) with rfl | rfl | rfl | rfl | h
    · exact .inl rfl
    · exact .inl rfl
    · exact .inl rfl
    · exact .inl rfl
    · exact .inr h
  have bel : Below w.heap.size w (w1.setRow (w.heap.size + 1) #[.int .u8 ((byt x 3).toNat : Int), .int .u8 ((byt x 2).toNat : Int), .int .u8 ((byt x 1).toNat : Int), .int .u8 ((byt x 0).toNat : Int)]) := by
    refine below_setRow ?_ (by omega) _
    exact (((Below.refl _ _).alloc (Nat.le_refl _) _).alloc (by simp) _).trans (hb.mono (by omega))
  exact {
    bel := bel
    lt := (Array.getElem?_eq_some_iff.1 g1).1
    c0 := by rw [cell_of_row _ _ 0 _ _ _ g1]; rfl
    c1 := by rw [cell_of_row _ _ 1 _ _ _ g1]; rfl
    c2 := by rw [cell_of_row _ _ 2 _ _ _ g1]; rfl
    c3 := by rw [cell_of_row _ _ 3 _ _ _ g1]; rfl
    z0 := by rw [cell_of_row _ _ 0 _ _ _ (g0.trans h0)]; rfl
    z1 := by rw [cell_of_row _ _ 1 _ _ _ (g0.trans h0)]; rfl
    z2 := by rw [cell_of_row _ _ 2 _ _ _ (g0.trans h0)]; rfl
    z3 := by rw [cell_of_row _ _ 3 _ _ _ (g0.trans h0)]; rfl
    f0 := by unfold World.frozen?; rw [g0.trans h0]; rfl
    f1 := by unfold World.frozen?; rw [g0.trans h0]; rfl
    f2 := by unfold World.frozen?; rw [g0.trans h0]; rfl
    f3 := by unfold World.frozen?; rw [g0.trans h0]; rfl }

theorem undrew {n : Nat} {a b : World} (h : Below n a.drew b) : Below n a b := ⟨h.os, h.tape, h.output, h.size, h.block⟩
theorem copy4' (w w1 : World) (x : Nat) (hb : Below ((w.alloc (.cells zero4 48)).alloc (.cells zero4 48)).drew.heap.size ((w.alloc (.cells zero4 48)).alloc (.cells zero4 48)).drew w1) :
    ∃ w2, (Builtin.copy_ #[71, 9] 3 #[.slice (some ⟨w.heap.size + 1, 0, none⟩) 4 4, .string (by4 x)]).run Tryd.prog w1 = .ok (.int .i64 4) w2 ∧ Copied4 w x w2 :=
  copy4 w w1 x ((undrew hb).mono (by show w.heap.size + 2 ≤ ((w.alloc (.cells zero4 48)).alloc (.cells zero4 48)).heap.size; simp))

set_option maxHeartbeats 1000000 in
theorem aspread_any (x : Nat) (w : World) (hx : x < 4294967296) :
    Calls Tryd.prog 28 #[.int .u32 (x : Int)] w fun e w' => e = .returned (.agg #[B (byt x 3), B (byt x 2), B (byt x 1), B (byt x 0)]) ∧ Below w.heap.size w w' := by
  have H := hide (fun w => four_any x w hx)
  have HS := hide (fun w1 => copy4' w w1 x)
  unfold zero4 at HS
  unfold B
  go_enter Tryd.func28, Tryd.ntmps28
  go_wp2_with fail
  go_region_with (go_at_call 34; refine (unhide H _).mono ?_; rintro e w1 ⟨rfl, b1⟩; obtain ⟨w2, hrun, k2⟩ := unhide HS _ b1)
  obtain ⟨bel, lt, c0, c1, c2, c3, z0, z1, z2, z3, f0, f1, f2, f3⟩ := k2
  clear hrun b1 H HS
  go_simp
  go_wp2
  refine bodyPost_ret (v := .agg #[.int .u8 ((byt x 3).toNat : Int), .int .u8 ((byt x 2).toNat : Int), .int .u8 ((byt x 1).toNat : Int), .int .u8 ((byt x 0).toNat : Int)]) (by simp [results, Tryd.results28, go_sem, z0, z1, z2, z3]) rfl ⟨rfl, ?_⟩
  exact (((bel.setCell (Nat.le_refl _) _).setCell (Nat.le_refl _) _).setCell (Nat.le_refl _) _).setCell (Nat.le_refl _) _

set_option maxHeartbeats 1000000 in
theorem ajoined_any (c0 c1 c2 c3 : UInt8) (w : World) :
    Calls Tryd.prog 27 #[.agg #[.int .u8 (c0.toNat : Int), .int .u8 (c1.toNat : Int), .int .u8 (c2.toNat : Int), .int .u8 (c3.toNat : Int)]] w fun e w' => e = .returned (.int .u32 (num [c0, c1, c2, c3] : Nat)) ∧ Below w.heap.size w w' := by
  have H := hide (fun w => wfour_ok c0 c1 c2 c3 w)
  have hbk : (convert 71 9 (.slice (some ⟨w.heap.size, 0, none⟩) 4 4)).run Tryd.prog (w.alloc (.cells #[.int .u8 (c0.toNat : Int), .int .u8 (c1.toNat : Int), .int .u8 (c2.toNat : Int), .int .u8 (c3.toNat : Int)] 48)) = .ok (.string ⟨#[c0, c1, c2, c3]⟩) (w.alloc (.cells #[.int .u8 (c0.toNat : Int), .int .u8 (c1.toNat : Int), .int .u8 (c2.toNat : Int), .int .u8 (c3.toNat : Int)] 48)) :=
    run_convert_bytes_back (P := Tryd.prog) _ 71 9 5 ⟨w.heap.size, 0, none⟩ 4 [c0, c1, c2, c3] Tryd.underlying71 Tryd.underlying5 Tryd.underlying9 (fun j hj => by
      have ha : (⟨w.heap.size, 0, none⟩ : Addr).add j = ⟨w.heap.size, j, none⟩ := by unfold Addr.add; split <;> simp_all
      rw [ha, cell_of_row _ _ j _ _ _ (heap_alloc_new w _)]
      have hj' : j < 4 := hj
      rcases (by omega : j = 0 ∨ j = 1 ∨ j = 2 ∨ j = 3) with rfl | rfl | rfl | rfl <;> rfl)
  go_enter Tryd.func27, Tryd.ntmps27
  go_wp2_with fail
  refine (unhide H _).mono ?_
  rintro e w1 ⟨rfl, b1⟩
  go_wp2_with fail
  go_ret
  exact ⟨rfl, (below_one w _).trans (b1.mono (by simp))⟩

end Go.Proofs.YtnglkadfnacmcaaDoor
