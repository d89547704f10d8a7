/- alike of the laws: has a meter just the document's counters? -/
import Derived.Test.YtfbbdfeigenodaaLw1
import Derived.Laws.StructEq
namespace Go.Proofs.Ytfbbdfeigenodaa
open Go.RowKit Go.Maps

theorem neq_same (s : ByteArray) (a b : Int) (w : World) : (binOp .neq 49 (.agg #[.string s, .int .i64 a, .int .i64 b]) (.agg #[.string s, .int .i64 a, .int .i64 b])).run Try.prog w = .ok (.bool false) w := by
  have u9 := Try.underlying9
  have a9 := Try.isAgg9
  have z9 := Try.sizeOf9
  have u2 := Try.underlying2
  have a2 := Try.isAgg2
  have z2 := Try.sizeOf2
  have hS : Try.prog.underlying 49 = some (.struct (Try.prog.fieldsOf 49)) := by kernel_rfl
  have hp : Try.prog.stoodInHeld 49 = false := by kernel_rfl
  rw [run_neq_struct, show (10000 : Nat) = 9999 + 1 from rfl, run_equalIn_agg w 9999 49 _ _ hS hp]
  simp only [Program.fieldsOf, Try.underlying49]
  go_simp
theorem PM.drewN {w : World} {p b : Nat} {L : List Ent} (h : PM w p b L) (n : Nat) : PM (w.drewN n) p b L := ⟨h.box, h.map⟩

theorem row_form {w : World} {base n : Nat} {v : Value} {L : List Ent} (h : w.ownsRow base 49 3 v n (cellsL L)) (hn : n = L.length) : (v = .slice none 0 0 ∧ L = []) ∨
    ∃ g c, v = .slice (some ⟨g, 0, none⟩) n c ∧ n ≤ c ∧ g < w.heap.size ∧ ∀ k x, L[k]? = some x → w.cell? ⟨g, k * 3, none⟩ = some (encStr x.1) ∧ w.cell? ⟨g, k * 3 + 1, none⟩ = some (.int .i64 (x.2.1 : Int)) ∧ w.cell? ⟨g, k * 3 + 2, none⟩ = some (.int .i64 (x.2.2 : Int)) := by
  rcases h.2 with ⟨hv, h0⟩ | ⟨g, cap, cur, hv, _, hg, hn', _, _, ht⟩
  · exact .inl ⟨hv, List.eq_nil_of_length_eq_zero (by omega)⟩
  · refine .inr ⟨g, cap, hv, hn', (Array.getElem?_eq_some_iff.1 hg).1, fun k x hx => ?_⟩
    have c := cellsL_get L hx
    exact ⟨row_cell hg ht (c 0 (by omega)), row_cell hg ht (c 1 (by omega)), row_cell hg ht (c 2 (by omega))⟩

set_option maxRecDepth 100000 in
set_option maxHeartbeats 4000000 in
theorem alike_any (p b r : Nat) (v : Value) (L : List Ent) (w : World) (hP : PM w p b L) (hR : RM w r v L) (hL : Cnt L) :
    Calls Try.prog 10 #[.pointer (some ⟨p, 0, none⟩), .pointer (some ⟨r, 0, none⟩)] w fun e w' => e = .returned (.bool true) ∧ Below w.heap.size w w' := by
  have HA := hide (all_any p b L w hP hL)
  have e52 : (2 : Nat) ^ 52 = 4503599627370496 := by decide
  have HT : Hid (∀ w', PM w' p b L → Calls Try.prog 20 #[.pointer (some ⟨p, 0, none⟩)] w' fun e w'' => e = .returned (.complex .f64 (F (min (sumA L) 4503599627370496)) (F (min (sumB L) 4503599627370496))) ∧ Below w'.heap.size w' w'') := fun w' hw' => total_any p b L w' hw' hL
  have HRT : Hid (∀ w', RM w' r v L → Calls Try.prog 24 #[.pointer (some ⟨r, 0, none⟩)] w' fun e w'' => e = .returned (.tuple #[.int .i64 ((min (sumA L) 4503599627370496 : Nat) : Int), .int .i64 ((min (sumB L) 4503599627370496 : Nat) : Int)]) ∧ w'' = w') := fun w' hw' => rtotal_any r v L w' hw' hL
  have HI := hide (fun w => is_same (min (sumA L) 4503599627370496) (min (sumB L) 4503599627370496) w (by omega) (by omega))
  generalize min (sumA L) 4503599627370496 = ta at *
  generalize min (sumB L) 4503599627370496 = tb at *
  generalize F ta = FA at *
  generalize F tb = FB at *
  have hroom := hL.room
  go_enter Try.func10, Try.ntmps10
  go_wp2_with fail
  refine (unhide HA).mono ?_
  rintro e w1 ⟨vl, rfl, hrow, hb1⟩
  have hP1 := hP.kept (Kp.of_below [] hb1) (by simp) (by simp)
  have hR1 := hR.kept (Kp.of_below [] hb1) (by simp) (by simp)
  have hcr := hR1.cell
  by_cases hnil : L = []
  · subst hnil
    obtain ⟨p0, c0, rfl⟩ := row_slice hrow
    obtain ⟨p', c', rfl⟩ : ∃ p c, v = .slice p 0 c := by
      rcases hR.form with ⟨rfl, _⟩ | ⟨g, c, rfl, _⟩
      · exact ⟨_, _, rfl⟩
      · exact ⟨_, _, rfl⟩
    have HP1 := hide hP1
    have HR1 := hide hR1
    clear hP hR hP1 hR1 hrow
    go_wp2
    go_loop [6] (fun i => i = .int .i64 0) (fun _ => 0)
    case atStart => exact rfl
    case round =>
      obtain rfl := hrel
      go_wp2_with fail
      refine (unhide HRT _ (unhide HR1)).mono ?_
      rintro e w2 ⟨rfl, rfl⟩
      go_wp2_with fail
      refine (unhide HT _ (unhide HP1)).mono ?_
      rintro e w3 ⟨rfl, hb3⟩
      go_wp2_with fail
      refine (unhide HI _).mono ?_
      rintro e w4 ⟨rfl, rfl⟩
      go_wp2
      go_ret
      exact ⟨rfl, hb1.trans (hb3.mono hb1.size)⟩
  · obtain ⟨g, c, rfl, hnc, hg, hcell⟩ := (row_form hrow rfl).resolve_left (fun k => hnil k.2)
    obtain ⟨g2, c2, rfl, hnc2, hg2, hcell2⟩ := hR1.form.resolve_left (fun k => hnil k.2)
    have HC := hide hcell
    have HC2 := hide hcell2
    have HP1 := hide hP1
    have HR1 := hide hR1
    have HL := hide hL
    clear hP hR hP1 hR1 hrow hcell hcell2 hnil hL
    have hq := neq_same
    go_wp2
    go_loopw [6] (fun i wr => ∃ k : Nat, k ≤ L.length ∧ i = .int .i64 (k : Int) ∧ Below w1.heap.size w1 wr) (fun i _ => L.length - (intOf i).toNat)
    case atStart => exact ⟨0, Nat.zero_le _, rfl, Below.refl _ _⟩
    case round =>
      obtain ⟨k, hk, rfl, hb⟩ := hrel
      have hPr := (unhide HP1).kept (Kp.of_below [] hb) (by simp) (by simp)
      have hRr := (unhide HR1).kept (Kp.of_below [] hb) (by simp) (by simp)
      by_cases hlt : k < L.length
      · obtain ⟨x, hx⟩ : ∃ x, L[k]? = some x := ⟨L[k], List.getElem?_eq_getElem hlt⟩
        obtain ⟨c0, c1, c2'⟩ := unhide HC k x hx
        obtain ⟨d0, d1, d2⟩ := unhide HC2 k x hx
        have q0 := (hb.cell (p := ⟨g, k * 3, none⟩) hg).trans c0
        have q1 := (hb.cell (p := ⟨g, k * 3 + 1, none⟩) hg).trans c1
        have q2 := (hb.cell (p := ⟨g, k * 3 + 2, none⟩) hg).trans c2'
        have r0 := (hb.cell (p := ⟨g2, k * 3, none⟩) hg2).trans d0
        have r1 := (hb.cell (p := ⟨g2, k * 3 + 1, none⟩) hg2).trans d1
        have r2 := (hb.cell (p := ⟨g2, k * 3 + 2, none⟩) hg2).trans d2
        have hcr' := hRr.cell
        have hi1 : (0 : Int) ≤ (k : Int) := by omega
        have hi2 : (k : Int) < (L.length : Int) := by omega
        have hi3 : (L.length : Int) ≤ (c : Int) := by omega
        have hi4 : (L.length : Int) ≤ (c2 : Int) := by omega
        have hmem := List.mem_of_getElem? hx
        have hcap := (unhide HL).cap x hmem
        have hlen := (unhide HL).len x hmem
        have hsz : (⟨x.1.toArray⟩ : ByteArray).size ≤ maxLen := by
          show x.1.toArray.size ≤ maxLen
          rw [List.size_toArray]
          exact Nat.le_trans hlen (by decide)
        have ecn : cntE x.1 L = x.2 := by unfold cntE; rw [srt_get (unhide HL).srt hx]; rfl
        have HG : Hid (∀ n, Calls Try.prog 13 #[.pointer (some ⟨p, 0, none⟩), encStr x.1] (wr.drewN n) fun e w' => e = .returned (.complex .f64 (F x.2.1) (F x.2.2)) ∧ w' = wr.drewN n) := by
          intro n
          have := get_any p b L ⟨x.1.toArray⟩ (wr.drewN n) (hPr.drewN n) hsz
          rw [show (⟨x.1.toArray⟩ : ByteArray).data.toList = x.1 by simp, ecn] at this
          exact this
        have HI2 := hide (fun w => is_same x.2.1 x.2.2 w (by omega) (by omega))
        clear hx hmem hcap hlen hsz ecn c0 c1 c2' d0 d1 d2 hPr hRr
        go_wp2_with fail
        go_quiet (first
          | (go_at_call 13; exact Calls.quiet_of_same (unhide HG _))
          | (go_at_call 12; exact Calls.quiet_of_same (unhide HI2 _)))
        clear q0 q1 q2 r0 r1 r2 hcr'
        go_wp2
        go_roundw
        case rel => exact ⟨k + 1, by omega, by go_num, ⟨hb.os, hb.tape, hb.output, hb.size, hb.block⟩⟩
        case measure => simp [intOf]; omega
      · obtain rfl : k = L.length := by omega
        have HPr := hide hPr
        have HRr := hide hRr
        have hcr' := hRr.cell
        clear hPr hRr
        go_wp2_with fail
        refine (unhide HRT _ (unhide HRr)).mono ?_
        rintro e w2 ⟨rfl, rfl⟩
        go_wp2_with fail
        refine (unhide HT _ (unhide HPr)).mono ?_
        rintro e w3 ⟨rfl, hb3⟩
        go_wp2_with fail
        refine (unhide HI _).mono ?_
        rintro e w4 ⟨rfl, rfl⟩
        go_wp2
        go_ret
        exact ⟨rfl, hb1.trans ((hb.trans (hb3.mono hb.size)).mono hb1.size)⟩

end Go.Proofs.Ytfbbdfeigenodaa
