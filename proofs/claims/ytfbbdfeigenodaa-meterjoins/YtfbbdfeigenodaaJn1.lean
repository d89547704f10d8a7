/- Is one of these no meter? slices.ContainsFunc at Join's closure. -/
import Derived.Test.YtfbbdfeigenodaaJn0
namespace Go.Proofs.Ytfbbdfeigenodaa
open Go.RowKit Go.Maps Go.Shelf

theorem joinfn_nil (w : World) : Calls Try.prog 27 #[.pointer none] w fun e w' => e = .returned (.bool true) ∧ w' = w := by
  have H := hide (made_nil w)
  go_enter Try.func27, Try.ntmps27
  go_wp2_with fail
  refine (unhide H).mono ?_
  rintro e w1 ⟨rfl, rfl⟩
  go_wp2
  go_ret
  exact ⟨rfl, rfl⟩
theorem joinfn_ok (p b : Nat) (w : World) (hc : w.cell? ⟨p, 0, none⟩ = some (.map (some b))) : Calls Try.prog 27 #[.pointer (some ⟨p, 0, none⟩)] w fun e w' => e = .returned (.bool false) ∧ w' = w := by
  have H := hide (made_ok p b w hc)
  go_enter Try.func27, Try.ntmps27
  go_wp2_with fail
  refine (unhide H).mono ?_
  rintro e w1 ⟨rfl, rfl⟩
  go_wp2
  go_ret
  exact ⟨rfl, rfl⟩

/-- a pointer to a meter, or none -/
def PtrOk (w : World) (o : Option Nat) : Prop := ∀ p, o = some p → p < w.heap.size ∧ ∃ b, w.cell? ⟨p, 0, none⟩ = some (.map (some b))
abbrev Ptr (w : World) := { o : Option Nat // PtrOk w o }
instance (w : World) : Inhabited (Ptr w) := ⟨⟨none, fun _ h => by cases h⟩⟩
def encP (o : Option Nat) : Value := .pointer (o.map fun p => ⟨p, 0, none⟩)

theorem predP (w : World) : PredAt Try.prog 27 #[] (fun x : Ptr w => encP x.1) (fun x => x.1.isNone) w := by
  rintro W ⟨o, ho⟩ hb
  cases o with
  | none => exact (joinfn_nil W).mono fun e w' ⟨he, hw⟩ => ⟨he, 0, hw⟩
  | some p =>
    obtain ⟨hlt, b, hc⟩ := ho p rfl
    exact (joinfn_ok p b W ((hb.cell hlt).trans hc)).mono fun e w' ⟨he, hw⟩ => ⟨he, 0, hw⟩

theorem has_call (w : World) (os : List (Option Nat)) (hos : ∀ o ∈ os, PtrOk w o) (g c : Nat) (hn : os.length ≤ 1000) (hc : ∀ j o, os[j]? = some o → w.cell? ⟨g, j, none⟩ = some (encP o)) :
    Calls Try.prog 26 #[.slice (some ⟨g, 0, none⟩) os.length c, .func (.func 27) #[] #[]] w fun e w' => e = .returned (.bool (os.any Option.isNone)) ∧ ∃ q, w' = w.drewN q := by
  have h := AnyE.slices_ContainsFunc Try.hasA (fun x : Ptr w => encP x.1) (fun x => x.1.isNone) 27 #[] (enters_of Try.func27 (by kernel_rfl) rfl) g 0 os.length c (os.attach.map fun x => ⟨x.1, hos x.1 x.2⟩) w (predP w) (by simp) (by omega) ?_
  · have e : ((os.attach.map fun x => (⟨x.1, hos x.1 x.2⟩ : Ptr w)).take os.length).any (fun x => x.1.isNone) = os.any Option.isNone := by
      rw [List.take_of_length_le (by simp), List.any_map]
      conv => rhs; rw [← List.attach_map_subtype_val os, List.any_map]
      rfl
    rw [e] at h
    exact h
  · intro j hj
    have hj' : j < os.length := by simpa using hj
    rw [Nat.zero_add, hc j os[j] (List.getElem?_eq_getElem hj')]
    congr 2
    rw [getElem!_pos _ j hj]
    simp

end Go.Proofs.Ytfbbdfeigenodaa
