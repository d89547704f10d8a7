/- A new meter; the document's example; what no meter answers. -/
import Derived.Test.YtfbbdfeigenodaaMt4
import Derived.Test.YtfbbdfeigenodaaMt5
namespace Go.Proofs.Ytfbbdfeigenodaa
open Go.RowKit Go.Maps

theorem new_pm (w : World) : Calls Try.prog 17 #[] w fun e w' => e = .returned (.pointer (some ⟨w.heap.size + 1, 0, none⟩)) ∧ PM w' (w.heap.size + 1) w.heap.size [] ∧ Below w.heap.size w w' := by
  refine (new_any w).mono ?_
  rintro e w' ⟨rfl, rfl⟩
  have hm := World.ownsMap_made w Try.prog 9 cElem
  refine ⟨rfl, ⟨?_, ?_⟩, ((Below.refl _ _).alloc (Nat.le_refl _) _).alloc (by simp) _⟩
  · have := heap_alloc_new (w.alloc (.map #[] 0)) (.cells #[.map (some w.heap.size)] 64)
    simpa using this
  · exact hm.alloc _

theorem total_nil (w : World) : Calls Try.prog 20 #[.pointer none] w fun e w' => e = .returned (.complex .f64 0 0) ∧ w' = w := by
  have H := hide (made_nil w)
  go_enter Try.func20, Try.ntmps20
  go_wp2_with fail
  refine (unhide H).mono ?_
  rintro e w1 ⟨rfl, rfl⟩
  go_wp2
  go_ret
  exact ⟨rfl, rfl⟩
theorem all_nil (w : World) : Calls Try.prog 19 #[.pointer none] w fun e w' => e = .returned (.slice none 0 0) ∧ w' = w := by
  have H := hide (made_nil w)
  go_enter Try.func19, Try.ntmps19
  go_wp2_with fail
  refine (unhide H).mono ?_
  rintro e w1 ⟨rfl, rfl⟩
  go_wp2
  go_ret
  exact ⟨rfl, rfl⟩
theorem join_nil (v : Value) (w : World) : Calls Try.prog 14 #[.pointer none, v] w fun e w' => e = .returned (.int .i64 1) ∧ w' = w := by
  have H := hide (made_nil w)
  go_enter Try.func14, Try.ntmps14
  go_wp2_with fail
  refine (unhide H).mono ?_
  rintro e w1 ⟨rfl, rfl⟩
  go_wp2
  go_ret
  exact ⟨rfl, rfl⟩

def rx : List UInt8 := [114, 120]
theorem ex1 : addL [] rx 3 1 = (0, [(rx, 3, 1)]) := by decide
theorem ex2 : addL [(rx, 3, 1)] rx 2 0 = (0, [(rx, 5, 1)]) := by decide
theorem ex3 : addL [(rx, 5, 1)] [] 1 1 = (2, [(rx, 5, 1)]) := by decide
theorem cn1 : Cnt [(rx, 3, 1)] := by have := cnt_addL cnt_nil rx 3 1; rw [ex1] at this; exact this
theorem cn2 : Cnt [(rx, 5, 1)] := by have := cnt_addL cn1 rx 2 0; rw [ex2] at this; exact this

set_option maxRecDepth 100000 in
set_option maxHeartbeats 2000000 in
theorem works_any (w : World) : Calls Try.prog 8 #[] w fun e w' => e = .returned (.bool true) ∧ Below w.heap.size w w' := by
  have HN := hide (new_pm w)
  have H1 : Hid (∀ (p b : Nat) (w : World), PM w p b [] → Calls Try.prog 18 #[.pointer (some ⟨p, 0, none⟩), .string ⟨#[114, 120]⟩, .int .i64 3, .int .i64 1] w fun e w' => e = .returned (.int .i64 0) ∧ PM w' p b [(rx, 3, 1)] ∧ Kp [b] w w') := by
    intro p b w h
    have := add_any p b [] ⟨#[114, 120]⟩ 3 1 w h (by decide) cnt_nil
    rw [show (⟨#[114, 120]⟩ : ByteArray).data.toList = rx from rfl, ex1] at this
    exact this
  have H2 : Hid (∀ (p b : Nat) (w : World), PM w p b [(rx, 3, 1)] → Calls Try.prog 18 #[.pointer (some ⟨p, 0, none⟩), .string ⟨#[114, 120]⟩, .int .i64 2, .int .i64 0] w fun e w' => e = .returned (.int .i64 0) ∧ PM w' p b [(rx, 5, 1)] ∧ Kp [b] w w') := by
    intro p b w h
    have := add_any p b _ ⟨#[114, 120]⟩ 2 0 w h (by decide) cn1
    rw [show (⟨#[114, 120]⟩ : ByteArray).data.toList = rx from rfl, ex2] at this
    exact this
  have H3 : Hid (∀ (p b : Nat) (w : World), PM w p b [(rx, 5, 1)] → Calls Try.prog 18 #[.pointer (some ⟨p, 0, none⟩), .string ⟨#[]⟩, .int .i64 1, .int .i64 1] w fun e w' => e = .returned (.int .i64 2) ∧ PM w' p b [(rx, 5, 1)] ∧ Kp [b] w w') := by
    intro p b w h
    have := add_any p b _ ⟨#[]⟩ 1 1 w h (by decide) cn2
    rw [show (⟨#[]⟩ : ByteArray).data.toList = [] from rfl, ex3] at this
    exact this
  have HG : Hid (∀ (p b : Nat) (w : World), PM w p b [(rx, 5, 1)] → Calls Try.prog 13 #[.pointer (some ⟨p, 0, none⟩), .string ⟨#[114, 120]⟩] w fun e w' => e = .returned (.complex .f64 (F 5) (F 1)) ∧ w' = w) := by
    intro p b w h
    have := get_any p b _ ⟨#[114, 120]⟩ w h (by decide)
    rw [show cntE (⟨#[114, 120]⟩ : ByteArray).data.toList [(rx, 5, 1)] = (5, 1) from by decide] at this
    exact this
  have HT : Hid (∀ (p b : Nat) (w : World), PM w p b [(rx, 5, 1)] → Calls Try.prog 20 #[.pointer (some ⟨p, 0, none⟩)] w fun e w' => e = .returned (.complex .f64 (F 5) (F 1)) ∧ Below w.heap.size w w') := by
    intro p b w h
    exact total_any p b _ w h cn2
  have HR := hide (fun w => read_ok 5 1 w (by decide) (by decide))
  have HM := hide (fun w => make_ok 5 1 w (by decide) (by decide))
  have HI := hide (fun w => is_same 5 1 w (by decide) (by decide))
  generalize F 5 = X at *
  generalize F 1 = Y at *
  go_enter Try.func8, Try.ntmps8
  go_wp2_with fail
  refine (unhide HN).mono ?_
  rintro e w1 ⟨rfl, hP1, hB1⟩
  go_wp2_with fail
  refine (unhide H1 _ _ _ hP1).mono ?_
  rintro e w2 ⟨rfl, hP2, hK2⟩
  go_wp2_with fail
  refine (unhide H2 _ _ _ hP2).mono ?_
  rintro e w3 ⟨rfl, hP3, hK3⟩
  go_wp2_with fail
  refine (unhide H3 _ _ _ hP3).mono ?_
  rintro e w4 ⟨rfl, hP4, hK4⟩
  have HB : Hid (Below w.heap.size w w4) := by
    have hT : ∀ i ∈ [w.heap.size], w.heap.size ≤ i := by simp
    have s1 := hB1.size
    have s2 := hK2.size
    have s3 := hK3.size
    exact hB1.trans ((hK2.below s1 hT).trans ((hK3.below (by omega) hT).trans (hK4.below (by omega) hT)))
  have hs4 : w.heap.size ≤ w4.heap.size := (unhide HB).size
  clear hP1 hP2 hP3 hK2 hK3 hK4 hB1
  go_wp2_with fail
  refine (unhide HG _ _ _ hP4).mono ?_
  rintro e w5 ⟨rfl, rfl⟩
  go_wp2_with fail
  refine (unhide HR _).mono ?_
  rintro e w6 ⟨rfl, rfl⟩
  go_wp2_with fail
  refine (unhide HM _).mono ?_
  rintro e w7 ⟨rfl, rfl⟩
  go_wp2_with fail
  refine (unhide HI _).mono ?_
  rintro e w8 ⟨rfl, rfl⟩
  go_wp2_with fail
  refine (unhide HT _ _ _ hP4).mono ?_
  rintro e w9 ⟨rfl, hB9⟩
  go_wp2_with fail
  refine (unhide HI _).mono ?_
  rintro e w10 ⟨rfl, rfl⟩
  go_wp2
  go_ret
  exact ⟨rfl, (unhide HB).trans (hB9.mono hs4)⟩

end Go.Proofs.Ytfbbdfeigenodaa
