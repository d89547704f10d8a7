/- The statement MeterPlays' walk: what each Add answers, which counters there are, and what they come to. -/
import Derived.Test.YtfbbdfeigenodaaLw2
namespace Go.Proofs.Ytfbbdfeigenodaa
open Go.RowKit Go.Maps

set_option maxRecDepth 100000 in
set_option maxHeartbeats 2000000 in
theorem meterPlays_walk (sv : Value) (l : List Stp) (s : ByteArray) (w : World) (h : IsSteps w sv l) (hs : s.size ≤ maxLen) :
    Calls Try.prog 3 #[sv, .string s] w fun e w' => e = .returned (.bool true) ∧ Below w.heap.size w w' := by
  have HH := hide (heavy_any sv l w h)
  have HW := hide works_any
  go_enter Try.func3, Try.ntmps3
  go_wp2_with fail
  refine (unhide HH).mono ?_
  rintro e w1 ⟨hv, rfl, rfl, hle⟩
  cases hv with
  | true =>
    clear hle
    go_wp2_with fail
    refine (unhide HW _).mono ?_
    rintro e w2 ⟨rfl, hb⟩
    go_wp2
    go_ret
    exact ⟨rfl, hb⟩
  | false =>
    have hl := hle rfl
    clear hle
    by_cases hn : (1024 : Int) < (s.size : Int)
    · go_wp2_with fail
      refine (unhide HW _).mono ?_
      rintro e w2 ⟨rfl, hb⟩
      go_wp2
      go_ret
      exact ⟨rfl, hb⟩
    · have HF := hide (filled_any sv l w1 h hl)
      clear h
      go_wp2_with fail
      refine (unhide HF).mono ?_
      rintro e w2 ⟨p, b, r, v, rfl, hBo, hB⟩
      have HA := hide (alike_any p b r v _ w2 hBo.pm hBo.rm hBo.cnt)
      have HK : Hid (∀ w3, Below w2.heap.size w2 w3 → Both w3 w1.heap.size p b r v (runL l)) := fun w3 h3 => hBo.kept (Kp.of_below [] h3) (by simp)
      clear hBo
      go_wp2_with fail
      refine (unhide HA).mono ?_
      rintro e w3 ⟨rfl, hb3⟩
      have hBo := unhide HK w3 hb3
      have hB3 := hB.trans (hb3.mono hB.size)
      have hc := hBo.cnt
      generalize runL l = L at *
      clear HK HA HF hb3 hB
      cases hl0 : lookE s.data.toList L with
      | some q =>
        have HT := hide (at_some r v L s w3 hBo.rm q hl0 hc.room hc.srt)
        clear hBo hl0
        go_wp2_with fail
        refine (unhide HT).mono ?_
        rintro e w4 ⟨k, rfl, rfl, _⟩
        have hk : (0 : Int) ≤ (k : Int) := by omega
        go_wp2_with fail
        refine (unhide HW _).mono ?_
        rintro e w5 ⟨rfl, hb5⟩
        go_wp2
        go_ret
        exact ⟨rfl, hB3.trans (hb5.mono hB3.size)⟩
      | none =>
        have HT := hide (at_none r v L s w3 hBo.rm hl0 hc.room)
        have HG := get_any p b L s w3 hBo.pm hs
        have ecn : cntE s.data.toList L = (0, 0) := by unfold cntE; rw [hl0]; rfl
        rw [ecn] at HG
        have HG := hide HG
        have HI := hide (fun w => is_same 0 0 w (by decide) (by decide))
        clear hBo hl0 ecn
        generalize F 0 = X at *
        go_wp2_with fail
        refine (unhide HT).mono ?_
        rintro e w4 ⟨rfl, rfl⟩
        go_wp2_with fail
        refine (unhide HG).mono ?_
        rintro e w4 ⟨rfl, rfl⟩
        go_wp2_with fail
        refine (unhide HI _).mono ?_
        rintro e w4 ⟨rfl, rfl⟩
        go_wp2_with fail
        refine (unhide HW _).mono ?_
        rintro e w5 ⟨rfl, hb5⟩
        go_wp2
        go_ret
        exact ⟨rfl, hB3.trans (hb5.mono hB3.size)⟩

end Go.Proofs.Ytfbbdfeigenodaa
