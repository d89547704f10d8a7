/- In whatever order routes of unlike prefixes are added, there are the same; what one more changes (layer 11). No program in it but the texts it imports. -/
import Derived.Test.YtmicgkoicmeflaaLw11c
namespace Go.Proofs.Ytmicgkoicmeflaa
open Go.RowKit

def Unlike (l : List Rt) : Prop := l.Pairwise fun x y => ¬ keyE x y.n y.b
theorem unlike_symm {x y : Rt} (h : ¬ keyE x y.n y.b) : ¬ keyE y x.n x.b := fun e => h ⟨e.1.symm, e.2.symm⟩
theorem made_some : ∀ (l acc : List Rt), OkL acc → (∀ r ∈ l, Rin r) → (∀ r ∈ l, mayR r) → acc.length + l.length ≤ 1024 → Unlike l → (∀ r ∈ l, ∀ y ∈ acc, ¬ keyE y r.n r.b) →
    ∃ L, madeR acc l = some L ∧ OkL L ∧ (∀ y, y ∈ L ↔ y ∈ acc ∨ y ∈ l) ∧ L.length = acc.length + l.length
  | [], acc, hk, _, _, _, _, _ => ⟨acc, rfl, hk, by simp, by simp⟩
  | r :: l, acc, hk, hin, hm, hlen, hu, hn => by
    have hl : lookR r.n r.b acc = none := look_none.2 (hn r (by simp))
    have hlt : acc.length < 1024 := by simp at hlen; omega
    have e0 := addE_ok (hm r (by simp)) (.inr hlt)
    have hT : addT r acc = addR r acc := by unfold addT; rw [if_pos e0]
    have hok : OkL (addR r acc) := by rw [← hT]; exact hk.add (hin r (by simp))
    have hlen2 : (addR r acc).length = acc.length + 1 := by rw [len_add hk.srt, hl]; rfl
    obtain ⟨hu1, hu2⟩ := List.pairwise_cons.1 hu
    obtain ⟨L, h1, h2, h3, h4⟩ := made_some l (addR r acc) hok (fun y hy => hin y (by simp [hy])) (fun y hy => hm y (by simp [hy])) (by rw [hlen2]; simp at hlen; omega) hu2 (fun y hy z hz => by
      rcases mem_addR.1 hz with rfl | ⟨hz, _⟩
      · exact hu1 y hy
      · exact hn y (by simp [hy]) z hz)
    refine ⟨L, ?_, h2, fun y => ?_, ?_⟩
    · rw [made_yes e0, hT]; exact h1
    · rw [h3, mem_addR, List.mem_cons]
      constructor
      · rintro ((rfl | ⟨h, _⟩) | h)
        · exact .inr (.inl rfl)
        · exact .inl h
        · exact .inr (.inr h)
      · rintro (h | rfl | h)
        · exact .inl (.inr ⟨h, hn r (by simp) y h⟩)
        · exact .inl (.inl rfl)
        · exact .inr h
    · rw [h4, hlen2, List.length_cons]; omega
theorem made_none : ∀ (l acc : List Rt), (∃ r ∈ l, ¬ mayR r) → madeR acc l = none
  | [], _, h => by obtain ⟨r, hr, _⟩ := h; simp at hr
  | r :: l, acc, h => by
    by_cases e : addE r acc = 0
    · rw [made_yes e]
      refine made_none l _ ?_
      obtain ⟨y, hy, hm⟩ := h
      rcases List.mem_cons.1 hy with rfl | hy
      · unfold addE at e
        rw [if_pos hm] at e
        cases e
      · exact ⟨y, hy, hm⟩
    · exact made_no e
theorem made_rot {l : List Rt} (k : Nat) (hlen : l.length ≤ 1024) (hin : ∀ r ∈ l, Rin r) (hu : Unlike l) :
    (∃ L, madeR [] l = some L ∧ madeR [] (l.drop k ++ l.take k) = some L ∧ OkL L ∧ (∀ y, y ∈ L ↔ y ∈ l) ∧ L.length = l.length) ∨ (madeR [] l = none ∧ madeR [] (l.drop k ++ l.take k) = none) := by
  have hp : (l.drop k ++ l.take k).Perm l := List.perm_append_comm.trans (by rw [List.take_append_drop])
  by_cases hall : ∀ r ∈ l, mayR r
  · left
    obtain ⟨L, h1, h2, h3, h4⟩ := made_some l [] OkL.nil hin hall (by simpa using hlen) hu (by simp)
    obtain ⟨L', g1, g2, g3, _⟩ := made_some (l.drop k ++ l.take k) [] OkL.nil (fun r hr => hin r (hp.mem_iff.1 hr)) (fun r hr => hall r (hp.mem_iff.1 hr)) (by rw [hp.length_eq]; simpa using hlen) ((hp.pairwise_iff (fun h => unlike_symm h)).2 hu) (by simp)
    have he : L' = L := srt_same g2.srt h2.srt (fun y => by rw [g3, h3]; simp [-List.mem_append, hp.mem_iff])
    exact ⟨L, h1, by rw [g1, he], h2, fun y => by rw [h3]; simp, by rw [h4]; simp⟩
  · right
    have : ∃ r ∈ l, ¬ mayR r := by
      apply Classical.byContradiction
      intro hn
      exact hall (fun r hr => Classical.byContradiction fun hm => hn ⟨r, hr, hm⟩)
    obtain ⟨r, hr, hm⟩ := this
    exact ⟨made_none _ _ ⟨r, hr, hm⟩, made_none _ _ ⟨r, hp.mem_iff.2 hr, hm⟩⟩
/-- one more -/
theorem find_more {L : List Rt} (h : OkL L) {r : Rt} (hr : Rin r) (hm : mayR r) (hlen : L.length < 1024) (hno : ∀ y ∈ L, ¬ keyE y r.n r.b) {ip : Nat} (hip : ip < 4294967296) :
    addE r L = 0 ∧ (lookR r.n r.b (addT r L)).isSome = true ∧ delR r.n r.b (addT r L) = L ∧
    findR ip (addT r L) = if inB ip r.n (clip r.b) = true ∧ ∀ R, findR ip L = some R → R.b < r.b then some r else findR ip L := by
  have hl : lookR r.n r.b L = none := look_none.2 hno
  have e0 := addE_ok (L := L) hm (.inr hlen)
  have hT : addT r L = addR r L := by unfold addT; rw [if_pos e0]
  have hok : OkL (addR r L) := by rw [← hT]; exact h.add hr
  have hmem : ∀ y, y ∈ addR r L ↔ y = r ∨ y ∈ L := fun y => by
    rw [mem_addR]
    constructor
    · rintro (rfl | ⟨h, _⟩)
      · exact .inl rfl
      · exact .inr h
    · rintro (rfl | h)
      · exact .inl rfl
      · exact .inr ⟨h, hno y h⟩
  refine ⟨e0, ?_, ?_, ?_⟩
  · rw [hT, look_add h.srt, if_pos ⟨rfl, rfl⟩]; rfl
  · rw [hT]
    refine srt_same (srt_del hok.srt _ _) h.srt (fun y => ?_)
    rw [mem_delR, hmem]
    constructor
    · rintro ⟨rfl | h, hk⟩
      · exact absurd ⟨rfl, rfl⟩ hk
      · exact h
    · intro hy
      exact ⟨.inr hy, hno y hy⟩
  · rw [hT]
    have hrm : r ∈ addR r L := (hmem r).2 (.inl rfl)
    have hsub : ∀ y, y ∈ L → y ∈ addR r L := fun y hy => (hmem y).2 (.inr hy)
    have hN : ∀ {M : List Rt}, findR ip M = none → ∀ y ∈ M, inB ip y.n (clip y.b) = false := fun {M} hM y hy => by
      unfold findR at hM
      have := List.find?_eq_none.1 hM y hy
      simpa using this
    cases hf : findR ip (addR r L) with
    | none =>
      have h1 := hN hf
      rw [if_neg (fun hc => by rw [h1 r hrm] at hc; cases hc.1)]
      cases hL : findR ip L with
      | none => rfl
      | some R =>
        have := (find_spec h hip hL)
        rw [h1 R (hsub R this.1)] at this
        cases this.2.1
    | some y =>
      obtain ⟨hy1, hy2, hy3⟩ := find_spec hok hip hf
      split
      · rename_i hc
        rcases (hmem y).1 hy1 with rfl | hyL
        · rfl
        · have h1 := hy3 r hrm hc.1
          cases hL : findR ip L with
          | none =>
            have := hN hL y hyL
            rw [this] at hy2
            cases hy2
          | some R =>
            have h2 := hc.2 R hL
            obtain ⟨_, _, g3⟩ := find_spec h hip hL
            have h3 := g3 y hyL hy2
            exfalso
            omega
      · rename_i hc
        cases hL : findR ip L with
        | none =>
          exfalso
          rcases (hmem y).1 hy1 with rfl | hyL
          · exact hc ⟨hy2, fun R hR => by rw [hL] at hR; cases hR⟩
          · have := hN hL y hyL
            rw [this] at hy2
            cases hy2
        | some R =>
          obtain ⟨g1, g2, g3⟩ := find_spec h hip hL
          have h1 := hy3 R (hsub R g1) g2
          rcases (hmem y).1 hy1 with rfl | hyL
          · exfalso
            by_cases hb : R.b < y.b
            · exact hc ⟨hy2, fun R' hR' => by rw [hL] at hR'; cases hR'; exact hb⟩
            · have := h1.2 (by omega)
              subst this
              exact hno _ g1 ⟨rfl, rfl⟩
          · have h2 := g3 y hyL hy2
            have := h2.2 (by omega)
            rw [this]
end Go.Proofs.Ytmicgkoicmeflaa
