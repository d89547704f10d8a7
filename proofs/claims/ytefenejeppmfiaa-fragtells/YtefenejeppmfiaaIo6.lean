/- firstOption of package ip4, brought together. -/
import Derived.Test.YtefenejeppmfiaaIo5
namespace Go.Proofs.Ytefenejeppmfiaa
open Go.RowKit

set_option maxHeartbeats 1000000 in
theorem fo_one (s : ByteArray) (w : World) (h : 1 ≤ s.size) (hK : byteAt s.data.toList 0 = 1) :
    Calls Try.prog 38 #[.string s] w fun e w' => e = .returned (.tuple #[poV (1, ⟨#[]⟩), .int .i64 0]) ∧ Below w.heap.size w w' := by
  have hb := byteAt_eq (s := s) (k := 0) (by omega)
  rw [hK] at hb
  have hi : (0 : Int) < (s.size : Int) := by omega
  have k := hide ((((Tab.zero w).alloc rfl [.string s] 9).alloc (by simp) [.int .u8 1, .string ⟨#[]⟩] 44).alloc (by simp) [.int .u8 1, .string ⟨#[]⟩] 44)
  go_enter Try.func38, Try.ntmps38
  go_wp2_with fail
  have r0 := (unhide k).cells 1 0 _ rfl
  have r1 := (unhide k).cells 1 1 _ rfl
  refine bodyPost_ret (v := .tuple #[poV (1, ⟨#[]⟩), .int .i64 0]) (by simp [results, Try.results38, go_sem, r0, r1]) rfl ⟨rfl, (unhide k).bel⟩

theorem fo_start (s : ByteArray) (K : Nat) (w : World) : Tab w 5 (foT w.heap.size s K 0) (((((w.alloc (.cells #[.string s] 9)).alloc (.cells #[.int .u8 0, .string ⟨#[]⟩] 44)).alloc (.cells #[.int .u8 (K : Int), .string ⟨#[]⟩] 44)).alloc (.cells #[.int .i64 0] 3)).alloc (.cells (foFs w.heap.size (w.heap.size + 3)).toArray 68)) :=
  (((((Tab.zero w).alloc rfl [.string s] _).alloc (by simp) [.int .u8 0, .string ⟨#[]⟩] _).alloc (by simp) [.int .u8 (K : Int), .string ⟨#[]⟩] _).alloc (by simp) [.int .i64 0] _).alloc (by simp) (foFs w.heap.size (w.heap.size + 3)) _
theorem below_set2 {w0 w : World} {b : Nat} (h : Below w0.heap.size w0 w) (hb : w0.heap.size ≤ b) (a0 a1 : Value) : Below w0.heap.size w0 ((w.setCell ⟨b, 0, none⟩ a0).setCell ⟨b, 1, none⟩ a1) :=
  (h.setCell (p := ⟨b, 0, none⟩) hb _).setCell (p := ⟨b, 1, none⟩) hb _

set_option maxHeartbeats 1000000 in
theorem fo_bad (s : ByteArray) (w : World) (h : 1 ≤ s.size) (hK1 : byteAt s.data.toList 0 ≠ 1) (hbad : foBad s) :
    Calls Try.prog 38 #[.string s] w fun e w' => e = .returned (.tuple #[poV (0, ⟨#[]⟩), .int .i64 102]) ∧ Below w.heap.size w w' := by
  have hb := byteAt_eq (s := s) (k := 0) (by omega)
  have K0 := hide (fun W k => fwfst_any s (byteAt s.data.toList 0) w W k)
  rw [if_pos hbad] at K0
  have k0 := hide (fo_start s (byteAt s.data.toList 0) w)
  generalize byteAt s.data.toList 0 = K at *
  have e1 : ((K : Int) == 1) = false := by rw [beq_eq_false_iff_ne]; omega
  have hi : (0 : Int) < (s.size : Int) := by omega
  clear hK1 hbad
  go_enter Try.func38, Try.ntmps38
  go_wp2_with fail
  simp only [Nat.add_assoc, Nat.reduceAdd]
  refine (unhide K0 _ (unhide k0)).mono ?_
  rintro e w1 ⟨rfl, kz, n, kn, _⟩
  have r0 := kn.cells 1 0 _ rfl
  have f0 := kn.free 1 0 _ rfl
  have r1 := kn.cells 1 1 _ rfl
  have f1 := kn.free 1 1 _ rfl
  have B := hide kz.bel
  clear K0 k0 kz kn
  go_wp2_with fail
  refine bodyPost_ret (v := .tuple #[poV (0, ⟨#[]⟩), .int .i64 102]) (by simp [results, Try.results38, go_sem, r0, r1]) rfl ⟨rfl, ?_⟩
  exact below_set2 (unhide B) (Nat.le_succ _) _ _

set_option maxHeartbeats 1000000 in
theorem fo_good (s : ByteArray) (w : World) (hs : s.size ≤ 1048576) (h : 1 ≤ s.size) (hK1 : byteAt s.data.toList 0 ≠ 1) (hbad : ¬ foBad s) :
    Calls Try.prog 38 #[.string s] w fun e w' => e = .returned (.tuple #[poV (byteAt s.data.toList 0, s.extract 2 (byteAt s.data.toList 1)), .int .i64 0]) ∧ Below w.heap.size w w' := by
  have hb := byteAt_eq (s := s) (k := 0) (by omega)
  have K0 := hide (fun W k => fwfst_any s (byteAt s.data.toList 0) w W k)
  rw [if_neg hbad] at K0
  have k0 := hide (fo_start s (byteAt s.data.toList 0) w)
  obtain ⟨h2, h3, h4⟩ : 2 ≤ s.size ∧ 2 ≤ byteAt s.data.toList 1 ∧ byteAt s.data.toList 1 ≤ s.size := Classical.byContradiction hbad
  have HT := fun w => wtext_ok s 2 ((byteAt s.data.toList 1 : Nat) - 2) w (by omega) (by omega) (by omega) (by omega)
  rw [show (2 + (((byteAt s.data.toList 1 : Nat) : Int) - 2)).toNat = byteAt s.data.toList 1 by omega] at HT
  have HT := hide HT
  have x1 : wrap64 (((byteAt s.data.toList 1 : Nat) : Int) - 2) = ((byteAt s.data.toList 1 : Nat) : Int) - 2 := by unfold wrap64; omega
  generalize byteAt s.data.toList 0 = K at *
  generalize byteAt s.data.toList 1 = M at *
  rw [show (2 : Int).toNat = 2 from rfl] at HT
  generalize s.extract 2 M = D at *
  have e1 : ((K : Int) == 1) = false := by rw [beq_eq_false_iff_ne]; omega
  have hi : (0 : Int) < (s.size : Int) := by omega
  clear hK1 h2 h3 h4
  go_enter Try.func38, Try.ntmps38
  go_wp2_with fail
  simp only [Nat.add_assoc, Nat.reduceAdd]
  refine (unhide K0 _ (unhide k0)).mono ?_
  rintro e w1 ⟨rfl, kz, n, kn, hn⟩
  obtain rfl := hn hbad
  have c0 := kn.cells 0 0 _ rfl
  have c3 := kn.cells 3 0 _ rfl
  have KN := hide kn
  clear K0 k0 kz kn hn hbad
  simp only [Nat.add_zero] at c0
  go_wp2_with fail
  refine (unhide HT _).mono ?_
  rintro e w2 ⟨rfl, b2⟩
  have kn := (unhide KN).on b2
  have r0 := kn.cells 1 0 _ rfl
  have f0 := kn.free 1 0 _ rfl
  have r1 := kn.cells 1 1 _ rfl
  have f1 := kn.free 1 1 _ rfl
  have o0 := kn.cells 2 0 _ rfl
  have o1 := kn.cells 2 1 _ rfl
  have g1 := kn.free 2 1 _ rfl
  have B := hide kn.bel
  clear kn KN b2 HT c0 c3
  go_wp2_with fail
  refine bodyPost_ret (v := .tuple #[poV (K, D), .int .i64 0]) (by simp [results, Try.results38, go_sem, r0, r1]) rfl ⟨rfl, ?_⟩
  exact below_set2 ((unhide B).setCell (p := ⟨w.heap.size + 2, 1, none⟩) (by simp) _) (Nat.le_succ _) _ _

end Go.Proofs.Ytefenejeppmfiaa
