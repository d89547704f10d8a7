/- The statement SteerTurned's walk: a key of two bytes again and again. -/
import Derived.Test.YtkhkobdbbffkbaaLt0
namespace Go.Proofs.Ytkhkobdbbffkbaa
open Go.RowKit

theorem P4.on1 {w w2 w3 : World} {a p b q : Nat} (h : P4 w a p b q w2) (k : Below (w.heap.size + 1) w2 w3) : P4 w a p b q w3 :=
  ⟨h.bel.trans (k.mono (Nat.le_succ _)), Nat.lt_of_lt_of_le h.lt k.size, (k.cell (Nat.lt_succ_self _)).trans h.c0, (k.cell (Nat.lt_succ_self _)).trans h.c1, (k.cell (Nat.lt_succ_self _)).trans h.c2, (k.cell (Nat.lt_succ_self _)).trans h.c3⟩

set_option maxRecDepth 100000 in
set_option maxHeartbeats 1000000 in
theorem steerTurned_walk (x y : Int) (v : Value) (a p b q : Nat) (w : World) (wx : (Lit.int .u8 x).wf = true) (wy : (Lit.int .u8 y).wf = true) (hv : IsPair v a p b q) :
    Calls Try.prog 5 #[.int .u8 x, .int .u8 y, v] w fun e w' => e = .returned (.bool true) ∧ Below w.heap.size w w' := by
  obtain ⟨rfl, ha, hp, hb, hq⟩ := hv
  obtain ⟨s, rfl, hs⟩ := nat8 wx
  obtain ⟨t, rfl, ht⟩ := nat8 wy
  clear wx wy
  obtain ⟨i0, hi, hz0, hz1, hz2⟩ := info_parts (P := Try.prog) (e := 5) (z := .int .u8 0) (size := 1) (bytes := 1) (by kernel_rfl)
  have H0 := hide (P4.start0 w a p b q 27)
  have HW := hide (p4_of w a p b q works_any)
  go_enter Try.func5, Try.ntmps5
  go_wp2_with fail
  go_loopw [7, 8] (fun v i wr => ∃ k : Nat, k ≤ 20 ∧ i = .int .i64 (k : Int) ∧ wr.ownsRow (w.heap.size + 1) 5 1 v (2 * k) (kcells s t k) ∧ P4 w a p b q wr) (fun _ i _ => 20 - (intOf i).toNat)
  case atStart => exact ⟨0, Nat.zero_le _, rfl, World.ownsRow_nil _ _ _ _, unhide H0⟩
  case round =>
    obtain ⟨k, hk, rfl, hown, hP⟩ := hrel
    by_cases hlt : k < 20
    · have hlt4 := hown.lt
      have HP := hide hP
      have HK := hide (kcells_snoc s t k)
      have hsz := hP.lt
      clear hP
      generalize kcells s t k = KC at *
      go_wp2_with (at_builtin; refine wpList_append_lies _ rfl _ _ 36 rfl (w.heap.size + 1) 5 i0 _ 1 1 Try.underlying36 hi hz0 hz1 hz2 rfl (by decide) u7 (2 * k) _ rfl (hown.alloc _) ⟨wr.heap.size, 0, none⟩ 2 2 [.int .u8 (s : Nat), .int .u8 (t : Nat)] rfl rfl (World.news_of_block (heap_alloc_new wr _)) (by intro u hu; simp at hu; rcases hu with rfl | rfl <;> rfl) (by decide) (by unfold maxLen; omega) (by omega) (by simp; omega) _ rfl ?_; intro g2 cap2 w5 hown5 hgrow5 hat5 hlt5)
      go_roundw
      case rel =>
        refine ⟨k + 1, by omega, by go_num, by rw [unhide HK]; exact hown5, (unhide HP).on1 (((Below.refl _ wr).alloc (by omega) _).grown hgrow5 (by simp; omega) (fun j hj => (hlt4 j hj).1))⟩
      case measure => simp [intOf]; omega
    · have e20 : k = 20 := by omega
      subst e20
      obtain ⟨g, c, rfl, hg, hRB⟩ := rowB_of (f := kb2 s t) hown (by decide) (fun j hj => kcells_get s t 20 j hj)
      have hcv : (convert 36 9 (.slice (some ⟨g, 0, none⟩) 40 c)).run Try.prog wr = .ok (.string (k2 s t)) wr := conv_rowB hRB
      have HV : Hid (∀ w', Below wr.heap.size wr w' → (convert 36 9 (.slice (some ⟨g, 0, none⟩) 40 c)).run Try.prog w' = .ok (.string (k2 s t)) w') := fun w' h => conv_rowB (hRB.on h)
      have H1 := hide (fun w => pair_ok (k2 s t) a p b q w (k2_size s t) ha hp hb hq)
      have H2 := fun w => pair_ok (k2 s t) b q a p w (k2_size s t) hb hq ha hp
      rw [← hsh_turned hs ht] at H2
      have H2 := hide H2
      obtain ⟨_, _, c0, c1, c2, c3⟩ := id hP
      have HP := hide hP
      clear hP hown hRB H0
      generalize k2 s t = KK at *
      generalize hsh KK (ptx a p b q) = HH at *
      go_wp2_with fail
      refine (unhide H1 _).mono ?_
      rintro e w1 ⟨rfl, b1⟩
      have hcv1 := unhide HV w1 b1
      have HP1 := hide ((unhide HP).on b1)
      obtain ⟨_, _, d0, d1, d2, d3⟩ := id (unhide HP1)
      clear c0 c1 c2 c3 hcv b1
      go_wp2_with fail
      refine (unhide H2 _).mono ?_
      rintro e w2 ⟨rfl, b2⟩
      have HP2 := hide ((unhide HP1).on b2)
      clear b2 hcv1 d0 d1 d2 d3
      go_wp2_with fail
      refine (unhide HW _ (unhide HP2)).mono ?_
      rintro e w3 ⟨rfl, k3⟩
      go_wp2
      go_ret
      exact ⟨rfl, k3.bel⟩

end Go.Proofs.Ytkhkobdbbffkbaa
