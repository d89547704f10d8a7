/- What layer 12's statements call alive and heavy, over the loaded program; a part's bytes are read. -/
import Derived.Test.YtefenejeppmfiaaCu12
import Derived.Test.YtefenejeppmfiaaEq10
namespace Go.Proofs.Ytefenejeppmfiaa
open Go.RowKit

theorem dec_pc (p : Pc) (hv : HOk p.1 p.2.size) : decV (pcB p) = .tuple #[hdV p.1, .string p.2, .int .i64 0] := by
  have := dec_enc hv.i hv.m hv.w hv.r (d := p.2) (s := pcB p) rfl ⟨#[]⟩
  rwa [ba_app_nil] at this
theorem pcB_le (p : Pc) (hv : HOk p.1 p.2.size) : (pcB p).size ≤ 65535 := by
  rw [pcB_size]
  have := hv.r; have := hv.m.1; unfold roomB at *; omega
theorem dec_pc_any (p : Pc) (hv : HOk p.1 p.2.size) (w : World) : Calls Try.prog 14 #[.string (pcB p)] w fun e w' => e = .returned (.tuple #[hdV p.1, .string p.2, .int .i64 0]) ∧ Below w.heap.size w w' := by
  have := decode_any (pcB p) w (by have := pcB_le p hv; omega)
  rwa [dec_pc p hv] at this

/-- more than is cut -/
def heavyB (h : Rh) (d : ByteArray) (room : Int) : Prop := longB h d ∨ (2048 < d.size ∧ room < 256)
instance (h : Rh) (d : ByteArray) (room : Int) : Decidable (heavyB h d room) := by unfold heavyB; infer_instance
set_option maxHeartbeats 1000000 in
theorem heavy_any (h : Rh) (d : ByteArray) (room : Int) (w : World) (h1 : h.op.size ≤ maxLen) (h2 : d.size ≤ maxLen) :
    Calls Try.prog 7 #[hdV h, .string d, .int .i64 room] w fun e w' => e = .returned (.bool (decide (heavyB h d room))) ∧ Below w.heap.size w w' := by
  have BEL := hide (fun o => below_one w o)
  have H := hide (fun w => long_any h d w h1 h2)
  obtain ⟨r, hr, e⟩ := hidec (heavyB h d room)
  rw [← e]
  clear e
  by_cases hl : longB h d
  · rw [decide_eq_true hl] at H
    have hr2 : r = true := (unhide hr).trans (decide_eq_true (.inl hl))
    subst hr2
    clear hl hr
    go_enter Try.func7, Try.ntmps7
    go_wp2_with fail
    refine (unhide H _).mono ?_
    rintro e w1 ⟨rfl, b1⟩
    have HB := hide (tr2 (unhide BEL _) b1)
    go_wp2_with fail
    go_ret
    exact ⟨rfl, unhide HB⟩
  · rw [decide_eq_false hl] at H
    have hr2 : Hid (r = decide (2048 < d.size ∧ room < 256)) := by
      rw [unhide hr]
      exact decide_eq_decide.2 ⟨fun x => x.resolve_left hl, .inr⟩
    unfold maxLen at h1 h2
    by_cases h3 : 2048 < d.size
    · have d3 : decide ((2048 : Int) < (d.size : Int)) = true := decide_eq_true (by omega)
      by_cases h4 : room < 256
      · have d4 : decide (room < 256) = true := decide_eq_true h4
        have hr3 : r = true := by rw [unhide hr2]; exact decide_eq_true ⟨h3, h4⟩
        subst hr3
        clear hl hr hr2 h3 h4 h1
        go_enter Try.func7, Try.ntmps7
        go_wp2_with fail
        refine (unhide H _).mono ?_
        rintro e w1 ⟨rfl, b1⟩
        have HB := hide (tr2 (unhide BEL _) b1)
        go_wp2_with fail
        go_ret
        exact ⟨rfl, unhide HB⟩
      · have d4 : decide (room < 256) = false := decide_eq_false h4
        have hr3 : r = false := by rw [unhide hr2]; exact decide_eq_false (fun x => h4 x.2)
        subst hr3
        clear hl hr hr2 h3 h4 h1
        go_enter Try.func7, Try.ntmps7
        go_wp2_with fail
        refine (unhide H _).mono ?_
        rintro e w1 ⟨rfl, b1⟩
        have HB := hide (tr2 (unhide BEL _) b1)
        go_wp2_with fail
        go_ret
        exact ⟨rfl, unhide HB⟩
    · have d3 : decide ((2048 : Int) < (d.size : Int)) = false := decide_eq_false (by omega)
      have hr3 : r = false := by rw [unhide hr2]; exact decide_eq_false (fun x => h3 x.1)
      subst hr3
      clear hl hr hr2 h3 h1
      go_enter Try.func7, Try.ntmps7
      go_wp2_with fail
      refine (unhide H _).mono ?_
      rintro e w1 ⟨rfl, b1⟩
      have HB := hide (tr2 (unhide BEL _) b1)
      go_wp2_with fail
      go_ret
      exact ⟨rfl, unhide HB⟩
end Go.Proofs.Ytefenejeppmfiaa
