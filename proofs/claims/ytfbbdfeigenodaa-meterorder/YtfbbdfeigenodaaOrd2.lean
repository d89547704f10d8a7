/- The statement MeterOrder's walk: no step; and the two together. -/
import Derived.Test.YtfbbdfeigenodaaOrd1
namespace Go.Proofs.Ytfbbdfeigenodaa
open Go.RowKit Go.Maps

set_option maxRecDepth 100000 in
set_option maxHeartbeats 4000000 in
theorem meterOrder_none (a : Option Addr) (c : Nat) (at' : Nat) (w : World) (h : IsSteps w (.slice a 0 c) []) :
    Calls Try.prog 5 #[.slice a 0 c, .int .u8 (at' : Int)] w fun e w' => e = .returned (.bool true) ∧ Below w.heap.size w w' := by
  have HH := hide (heavy_any _ [] w h)
  have HW := hide works_any
  clear h
  go_enter Try.func5, Try.ntmps5
  go_wp2_with fail
  refine (unhide HH).mono ?_
  rintro e w1 ⟨hv, rfl, rfl, hle⟩
  clear hle
  cases hv with
  | true =>
    go_wp2_with fail
    refine (unhide HW _).mono ?_
    rintro e w2 ⟨rfl, hb⟩
    go_wp2
    go_ret
    exact ⟨rfl, hb⟩
  | false =>
    go_wp2
    go_loop [5] (fun i => i = .int .i64 0) (fun _ => 0)
    case atStart => exact rfl
    case round =>
      obtain rfl := hrel
      have HN := hide new_pm
      go_wp2_with fail
      refine (unhide HN _).mono ?_
      rintro e wa ⟨rfl, hPa, hBa⟩
      go_wp2_with fail
      refine (unhide HN _).mono ?_
      rintro e wb ⟨rfl, hPb, hBb⟩
      go_wp2_with fail
      refine (unhide HN _).mono ?_
      rintro e wc ⟨rfl, hPc, hBc⟩
      go_wp2_with fail
      refine (unhide HN _).mono ?_
      rintro e wd ⟨rfl, hPd, hBd⟩
      have hap : Apart w1.heap.size (w1.heap.size + 1) w1.heap.size (wa.heap.size + 1) wa.heap.size (wb.heap.size + 1) wb.heap.size (wc.heap.size + 1) wc.heap.size := by
        have := hPa.plt
        have := hPb.plt
        have := hPc.plt
        exact ⟨by omega⟩
      have hPb' := hPb.kept (Kp.of_below [] hBc) (by simp) (by simp)
      have hPa' := (hPa.kept (Kp.of_below [] hBb) (by simp) (by simp)).kept (Kp.of_below [] hBc) (by simp) (by simp)
      have hfour : Four wd (w1.heap.size + 1) w1.heap.size (wa.heap.size + 1) wa.heap.size (wb.heap.size + 1) wb.heap.size (wc.heap.size + 1) wc.heap.size [] [] [] [] :=
        ⟨hPa'.kept (Kp.of_below [] hBd) (by simp) (by simp), hPb'.kept (Kp.of_below [] hBd) (by simp) (by simp), hPc.kept (Kp.of_below [] hBd) (by simp) (by simp), hPd⟩
      have hbel : Below w1.heap.size w1 wd := by
        have s1 := hBa.size
        have s2 := hBb.size
        have s3 := hBc.size
        exact hBa.trans ((hBb.mono s1).trans ((hBc.mono (by omega)).trans (hBd.mono (by omega))))
      clear hPa hPb hPc hPd hPa' hPb' hBa hBb hBc hBd HN
      have hapn := hap.h
      clear hap
      go_wp2
      go_loop [10] (fun i => i = .int .i64 0) (fun _ => 0)
      case atStart => exact rfl
      case round =>
        obtain rfl := hrel
        have HJ : Hid (∀ o, (∀ u, o = u → u = Obj.cells #[.pointer (some ⟨wb.heap.size + 1, 0, none⟩)] 25) → Calls Try.prog 14 #[.pointer (some ⟨wc.heap.size + 1, 0, none⟩), .slice (some ⟨wd.heap.size, 0, none⟩) 1 1] (wd.alloc o) fun e w' => e = .returned (.int .i64 0) ∧ ∃ b', PM w' (w1.heap.size + 1) w1.heap.size [] ∧ PM w' (wa.heap.size + 1) wa.heap.size [] ∧ PM w' (wc.heap.size + 1) b' [] ∧ Below w1.heap.size w1 w') := by
          intro o ho
          have hoo := ho o rfl
          subst hoo
          have k0 := below_one wd (Obj.cells #[.pointer (some ⟨wb.heap.size + 1, 0, none⟩)] 25)
          have f4 := hfour.kept k0
          have hfx := heap_alloc_new wd (Obj.cells #[.pointer (some ⟨wb.heap.size + 1, 0, none⟩)] 25)
          have hbe := hbel.alloc hbel.size (Obj.cells #[.pointer (some ⟨wb.heap.size + 1, 0, none⟩)] 25)
          refine (join_any _ _ [] wd.heap.size 1 [⟨wb.heap.size + 1, wb.heap.size, []⟩] _ f4.d cnt_nil (by simp) (by simp) ⟨by simp, ?_⟩ ?_).mono ?_
          · intro j q hq
            match j, hq with
            | 0, hq =>
              simp at hq
              subst hq
              rw [cell_of_row _ wd.heap.size 0 _ _ _ hfx]
              rfl
            | j + 1, hq => simp at hq
          · intro z hz
            simp at hz
            subst hz
            exact ⟨f4.c, cnt_nil⟩
          · rintro e w' ⟨he, hp⟩
            simp only [List.map_cons, List.map_nil, joinL, addAll, if_true] at he hp
            rcases hp with ⟨_, b', hP, hlo, hK⟩ | ⟨h0, _⟩
            · exact ⟨he, b', f4.a.kept hK (by simp; omega) (by simp; omega), f4.b.kept hK (by simp; omega) (by simp; omega), hP, hbe.trans (hK.below hbe.size (by simp; omega))⟩
            · exact absurd rfl h0
        clear hfour hbel
        go_wp2_with fail
        refine (unhide HJ _ (fun u hu => hu.symm)).mono ?_
        rintro e w2 ⟨rfl, b', hPa, hPb, hPd, hB2⟩
        clear HJ
        have HAll : Hid (∀ p b w, PM w p b [] → Calls Try.prog 19 #[.pointer (some ⟨p, 0, none⟩)] w fun e w' => ∃ v, e = .returned v ∧ w'.ownsRow w.heap.size 49 3 v 0 (cellsL []) ∧ Below w.heap.size w w') := fun p b w h => all_any p b [] w h cnt_nil
        have HTot : Hid (∀ p b w, PM w p b [] → Calls Try.prog 20 #[.pointer (some ⟨p, 0, none⟩)] w fun e w' => e = .returned (.complex .f64 0 0) ∧ Below w.heap.size w w') := by
          intro p b w h
          have := total_any p b [] w h cnt_nil
          rw [show min (sumA []) 4503599627370496 = 0 by rfl, show min (sumB []) 4503599627370496 = 0 by rfl, F_zero] at this
          exact this
        have ordA : ((FloatKind.f64.format.order 0 0 == some .eq) && (FloatKind.f64.format.order 0 0 == some .eq)) = true := by decide
        go_wp2_with fail
        refine (unhide HAll _ _ _ hPa).mono ?_
        rintro e w3 ⟨vx, rfl, hx3, hb3⟩
        have hPa3 := hPa.kept (Kp.of_below [] hb3) (by simp) (by simp)
        have hPb3 := hPb.kept (Kp.of_below [] hb3) (by simp) (by simp)
        have hPd3 := hPd.kept (Kp.of_below [] hb3) (by simp) (by simp)
        have hB3 := hB2.trans (hb3.mono hB2.size)
        clear hPa hPb hPd hB2 hb3
        go_wp2_with fail
        refine (unhide HAll _ _ _ hPb3).mono ?_
        rintro e w4 ⟨vy, rfl, hy4, hb4⟩
        have hPa4 := hPa3.kept (Kp.of_below [] hb4) (by simp) (by simp)
        have hPb4 := hPb3.kept (Kp.of_below [] hb4) (by simp) (by simp)
        have hPd4 := hPd3.kept (Kp.of_below [] hb4) (by simp) (by simp)
        have hB4 := hB3.trans (hb4.mono hB3.size)
        have hx4 := row_below hx3 hb4
        clear hPa3 hPb3 hPd3 hB3 hb4 hx3
        go_wp2_with fail
        refine (unhide HAll _ _ _ hPd4).mono ?_
        rintro e w5 ⟨vz, rfl, hz5, hb5⟩
        have hPa5 := hPa4.kept (Kp.of_below [] hb5) (by simp) (by simp)
        have hPb5 := hPb4.kept (Kp.of_below [] hb5) (by simp) (by simp)
        have hPd5 := hPd4.kept (Kp.of_below [] hb5) (by simp) (by simp)
        have hB5 := hB4.trans (hb5.mono hB4.size)
        have hx5 := row_below hx4 hb5
        have hy5 := row_below hy4 hb5
        clear hPa4 hPb4 hPd4 hB4 hb5 hx4 hy4
        obtain ⟨px, cx, rfl⟩ := row_slice' hx5
        obtain ⟨py, cy, rfl⟩ := row_slice' hy5
        obtain ⟨pz, cz, rfl⟩ := row_slice' hz5
        have HX5 := hide hx5
        have HY5 := hide hy5
        have HZ5 := hide hz5
        clear hx5 hy5 hz5
        go_wp2_with fail
        refine (unhide HTot _ _ _ hPa5).mono ?_
        rintro e w6 ⟨rfl, hb6⟩
        have hPa6 := hPa5.kept (Kp.of_below [] hb6) (by simp) (by simp)
        have hPb6 := hPb5.kept (Kp.of_below [] hb6) (by simp) (by simp)
        have hPd6 := hPd5.kept (Kp.of_below [] hb6) (by simp) (by simp)
        clear hPa5 hPb5 hPd5
        go_wp2_with fail
        refine (unhide HTot _ _ _ hPb6).mono ?_
        rintro e w7 ⟨rfl, hb7⟩
        have hPa7 := hPa6.kept (Kp.of_below [] hb7) (by simp) (by simp)
        have hPd7 := hPd6.kept (Kp.of_below [] hb7) (by simp) (by simp)
        have hb57 := hb6.trans (hb7.mono hb6.size)
        clear hPa6 hPb6 hPd6 hb6 hb7
        go_wp2_with fail
        refine (unhide HTot _ _ _ hPa7).mono ?_
        rintro e w8 ⟨rfl, hb8⟩
        have hPa8 := hPa7.kept (Kp.of_below [] hb8) (by simp) (by simp)
        have hPd8 := hPd7.kept (Kp.of_below [] hb8) (by simp) (by simp)
        have hb58 := hb57.trans (hb8.mono hb57.size)
        clear hPa7 hPd7 hb57 hb8
        go_wp2_with fail
        refine (unhide HTot _ _ _ hPd8).mono ?_
        rintro e w9 ⟨rfl, hb9⟩
        have hPa9 := hPa8.kept (Kp.of_below [] hb9) (by simp) (by simp)
        have hb59 := hb58.trans (hb9.mono hb58.size)
        have hB9 := hB5.trans (hb59.mono hB5.size)
        have HX9 := hide (row_below (unhide HX5) hb59)
        have HY9 := hide (row_below (unhide HY5) hb59)
        have HZ9 := hide (row_below (unhide HZ5) hb59)
        clear hPa8 hPd8 hb58 hb9 HX5 HY5 HZ5 hb59 hB5
        have HPa := hide hPa9
        clear hPa9
        go_wp2
        go_loop [15, 16] (fun sm i => sm = .complex .f64 0 0 ∧ i = .int .i64 0) (fun _ _ => 0)
        case atStart => exact ⟨rfl, rfl⟩
        case round =>
          obtain ⟨rfl, rfl⟩ := hrel
          go_wp2_with fail
          refine (unhide HTot _ _ _ (unhide HPa)).mono ?_
          rintro e wx ⟨rfl, hbx⟩
          have hBx := hB9.trans (hbx.mono hB9.size)
          go_wp2_with fail
          refine (unhide HW _).mono ?_
          rintro e wy ⟨rfl, hby⟩
          go_wp2
          go_ret
          exact ⟨rfl, hBx.trans (hby.mono hBx.size)⟩


theorem meterOrder_walk (sv : Value) (l : List Stp) (a : Int) (w : World) (h : IsSteps w sv l) (wa : (Lit.int .u8 a).wf = true) :
    Calls Try.prog 5 #[sv, .int .u8 a] w fun e w' => e = .returned (.bool true) ∧ Below w.heap.size w w' := by
  obtain ⟨n, rfl, hn⟩ := nat8 wa
  have h' := h
  obtain ⟨hf, hm, hok⟩ := h'
  rcases hf with ⟨⟨a, c, rfl⟩, rfl⟩ | ⟨g, off, c, rfl, hnc, hg, hcell⟩
  · exact meterOrder_none a c n w h
  · by_cases hl : 0 < l.length
    · exact meterOrder_some g off c l n w hl hnc hg hcell hok hn h
    · obtain rfl : l = [] := List.eq_nil_of_length_eq_zero (by omega)
      exact meterOrder_none _ c n w h

end Go.Proofs.Ytfbbdfeigenodaa
