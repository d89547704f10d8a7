/- Behind Put the Gather's numbers are in their bounds again. No program in it. -/
import Derived.Test.YtekljiakofmhnaaGu5
namespace Go.Proofs.Ytekljiakofmhnaa
open Go.RowKit Go.Shelf

theorem WF.spoilt {c : Cf} {L : List En} {last now : Int} {h : Rh} {d : ByteArray} (hw : WF c L last) (hin : h.In) (hnw : ¬ (h.at' = 0 ∧ h.more = false)) (hr : takeS c L last h ⟨h.at', d, h.more⟩ now = .spoil) :
    WF c (setE (pkOf h) (spoiltG (xOf L (pkOf h)).ov) (.slice none 0 0) L) last := by
  have hx := hw.xof (pkOf h)
  refine hw.set ⟨hin.frm, hin.to, hin.proto, hin.id⟩ ⟨Nat.zero_le _, (by intro q hq; cases hq), (fun i j p q _ hp => by simp [spoiltG] at hp), Nat.zero_le 1073741824, hx.o0, hx.o1⟩ ?_ ?_ hw.l0 hw.l1
  · left
    rcases hl : lookE (pkOf h) L with _ | e
    · have := spoil_there (pt := ⟨h.at', d, h.more⟩) hl rfl rfl hnw
      unfold takeS at hr
      split at hr
      · cases hr
      split at hr
      · cases hr
      split at hr
      · cases hr
      split at hr
      · rename_i t4
        rw [this] at t4
        cases t4
      split at hr
      · cases hr
      · cases hr
    · unfold thereB
      rw [hl]
      rfl
  · have := hw.held
    show heldE L + 0 ≤ _
    omega
/-- whatever Put does, what stands behind it is a Gather in its bounds -/
theorem put_wf {No : Nat → Prop} {w w' : World} {p b : Nat} {c : Cf} {L : List En} {last now : Int} {h : Rh} {d : ByteArray} {x : Ending} (hw : WF c L last) (hin : h.In) (hop : h.op.size ≤ 1073741824) (hp : PutPost No w p b c L last h d now x w') :
    ∃ L' last', GQ No w' p b c L' last' ∧ WF c L' last' := by
  obtain ⟨-, hp⟩ := hp
  split at hp
  · exact ⟨L, last, hp.2, hw⟩
  rename_i he
  split at hp
  · exact ⟨L, _, hp.2, hw.now now⟩
  rename_i hn
  have he0 : encE h d.size = 0 := by simpa using he
  obtain ⟨m1, m2, m3⟩ := encE_zero he0
  have hpt : Pt.In ⟨h.at', d, h.more⟩ := by
    obtain ⟨a1, a2, a3, a4, a5⟩ := m1
    unfold roomB at m3
    exact ⟨a1, by show h.at' ≤ 65535; omega, by show d.size ≤ 65535; omega⟩
  rcases hr : takeS c L last h ⟨h.at', d, h.more⟩ now with e | _ | ⟨y, l'⟩
  · rw [hr] at hp
    exact ⟨L, last, hp.2, hw⟩
  · rw [hr] at hp
    exact ⟨_, last, hp.2, hw.spoilt hin hn hr⟩
  · rw [hr] at hp
    simp only [takenQ] at hp
    split at hp
    · obtain ⟨wf, -, -⟩ := hw.taken hin hop hpt hr (.slice none 0 0)
      have := wf.drop (lookE_setE_same _ _ _ _)
      rw [drop_set] at this
      exact ⟨_, _, hp.2, this⟩
    · obtain ⟨-, v, g⟩ := hp
      exact ⟨_, _, g, (hw.taken hin hop hpt hr v).1⟩

end Go.Proofs.Ytekljiakofmhnaa
