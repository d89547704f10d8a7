/- The statement MeterJoins' two Joins, one behind the other. -/
import Derived.Test.YtfbbdfeigenodaaJo0
namespace Go.Proofs.Ytfbbdfeigenodaa
open Go.RowKit Go.Maps

/-- three pairs, the first apart from the others -/
structure Tri (w : World) (lo lo2 lo3 : Nat) (p1 b1 r1 : Nat) (v1 : Value) (L1 : List Ent) (p2 b2 r2 : Nat) (v2 : Value) (L2 : List Ent) (p3 b3 r3 : Nat) (v3 : Value) (L3 : List Ent) : Prop where
  one : Both w lo p1 b1 r1 v1 L1
  two : Both w lo2 p2 b2 r2 v2 L2
  three : Both w lo3 p3 b3 r3 v3 L3
  ord : p1 < lo2 ∧ r1 < lo2 ∧ p1 < lo3 ∧ r1 < lo3

def msOf (self : Bool) (p1 b1 : Nat) (L1 : List Ent) (p2 b2 : Nat) (L2 : List Ent) (p3 b3 : Nat) (L3 : List Ent) : List Mtr := if self then [⟨p2, b2, L2⟩, ⟨p3, b3, L3⟩, ⟨p1, b1, L1⟩] else [⟨p2, b2, L2⟩, ⟨p3, b3, L3⟩]
def rsOf (self : Bool) (r1 : Nat) (v1 : Value) (L1 : List Ent) (r2 : Nat) (v2 : Value) (L2 : List Ent) (r3 : Nat) (v3 : Value) (L3 : List Ent) : List Rtr := if self then [⟨r2, v2, L2⟩, ⟨r3, v3, L3⟩, ⟨r1, v1, L1⟩] else [⟨r2, v2, L2⟩, ⟨r3, v3, L3⟩]
def LsOf (self : Bool) (L1 L2 L3 : List Ent) : List (List Ent) := if self then [L2, L3, L1] else [L2, L3]

/-- behind the first Join -/
structure Mid (w : World) (lo lo2 lo3 : Nat) (p1 r1 : Nat) (v1 : Value) (L1 X : List Ent) (p2 b2 r2 : Nat) (v2 : Value) (L2 : List Ent) (p3 b3 r3 : Nat) (v3 : Value) (L3 : List Ent) : Prop where
  pm : ∃ b', PM w p1 b' X ∧ b' ≠ r1
  rm : RM w r1 v1 L1
  two : Both w lo2 p2 b2 r2 v2 L2
  three : Both w lo3 p3 b3 r3 v3 L3
  ord : p1 < lo2 ∧ r1 < lo2 ∧ p1 < lo3 ∧ r1 < lo3
  ne : r1 ≠ p1
  lor : lo ≤ r1
  cntL : Cnt L1
  cntX : Cnt X

section
variable {w : World} {lo lo2 lo3 p1 b1 r1 p2 b2 r2 p3 b3 r3 : Nat} {v1 v2 v3 : Value} {L1 L2 L3 : List Ent}

theorem tri_join (h : Tri w lo lo2 lo3 p1 b1 r1 v1 L1 p2 b2 r2 v2 L2 p3 b3 r3 v3 L3) (self : Bool) (g c n : Nat) (hn : n = (msOf self p1 b1 L1 p2 b2 L2 p3 b3 L3).length) (hnc : n ≤ c)
    (hg : g < w.heap.size) (hc : ∀ j x, (msOf self p1 b1 L1 p2 b2 L2 p3 b3 L3)[j]? = some x → w.cell? ⟨g, j, none⟩ = some (.pointer (some ⟨x.p, 0, none⟩))) :
    Calls Try.prog 14 #[.pointer (some ⟨p1, 0, none⟩), .slice (some ⟨g, 0, none⟩) n c] w fun e w' => e = .returned (.int .i64 (joinL (LsOf self L1 L2 L3) L1).1) ∧ Mid w' lo lo2 lo3 p1 r1 v1 L1 (jX (LsOf self L1 L2 L3) L1) p2 b2 r2 v2 L2 p3 b3 r3 v3 L3 ∧ Kp [p1] w w' := by
  subst hn
  have hLs : (msOf self p1 b1 L1 p2 b2 L2 p3 b3 L3).map (·.L) = LsOf self L1 L2 L3 := by cases self <;> rfl
  have hlen : (msOf self p1 b1 L1 p2 b2 L2 p3 b3 L3).length ≤ 3 := by cases self <;> simp [msOf]
  have := join_x p1 b1 L1 g c (msOf self p1 b1 L1 p2 b2 L2 p3 b3 L3) w h.one.pm h.one.cnt (by omega) hnc ⟨hg, ?_⟩ ?_
  · rw [hLs] at this
    refine this.mono ?_
    rintro e w' ⟨he, ⟨b', hP, hb'⟩, hK⟩
    have ho := h.ord
    have hl2 := h.two
    have hl3 := h.three
    have hrl := h.one.rm.rlt
    refine ⟨he, ⟨⟨b', hP, ?_⟩, h.one.rm.kept hK (by simpa using h.one.rp) (by simpa using h.one.vp), hl2.kept hK ?_, hl3.kept hK ?_, ho, h.one.rp, h.one.lor, h.one.cnt, cnt_jX h.one.cnt⟩, hK⟩
    · rcases hb' with rfl | hb'
      · exact Ne.symm h.one.rb
      · omega
    · intro i hi
      obtain rfl : i = p1 := by simpa using hi
      have h1 := hl2.lop
      have h2 := hl2.lob
      have h3 := hl2.lor
      exact ⟨by omega, by omega, by omega, fun e => by have := hl2.lov _ e; omega⟩
    · intro i hi
      obtain rfl : i = p1 := by simpa using hi
      have h1 := hl3.lop
      have h2 := hl3.lob
      have h3 := hl3.lor
      exact ⟨by omega, by omega, by omega, fun e => by have := hl3.lov _ e; omega⟩
  · intro j o ho
    rw [List.getElem?_map] at ho
    cases hx : (msOf self p1 b1 L1 p2 b2 L2 p3 b3 L3)[j]? with
    | none => rw [hx] at ho; simp at ho
    | some x =>
      rw [hx] at ho
      simp at ho
      subst ho
      exact hc j x hx
  · intro x hx
    have h1 : x = ⟨p2, b2, L2⟩ ∨ x = ⟨p3, b3, L3⟩ ∨ x = ⟨p1, b1, L1⟩ := by
      cases self <;> simp [msOf] at hx <;> rcases hx with hx | hx <;> simp_all
    rcases h1 with rfl | rfl | rfl
    · exact ⟨h.two.pm, h.two.cnt⟩
    · exact ⟨h.three.pm, h.three.cnt⟩
    · exact ⟨h.one.pm, h.one.cnt⟩

theorem mid_join {X : List Ent} (h : Mid w lo lo2 lo3 p1 r1 v1 L1 X p2 b2 r2 v2 L2 p3 b3 r3 v3 L3) (self : Bool) (hX : X = jX (LsOf self L1 L2 L3) L1) (g c n : Nat) (hn : n = (rsOf self r1 v1 L1 r2 v2 L2 r3 v3 L3).length) (hnc : n ≤ c)
    (hg : g < w.heap.size) (hc : ∀ j x, (rsOf self r1 v1 L1 r2 v2 L2 r3 v3 L3)[j]? = some x → w.cell? ⟨g, j, none⟩ = some (.pointer (some ⟨x.r, 0, none⟩))) :
    Calls Try.prog 15 #[.pointer (some ⟨r1, 0, none⟩), .slice (some ⟨g, 0, none⟩) n c] w fun e w' => e = .returned (.int .i64 (joinL (LsOf self L1 L2 L3) L1).1) ∧ (Pr w' p1 r1 X ∧ Pr w' p2 r2 L2 ∧ Pr w' p3 r3 L3 ∧ PM w' p2 b2 L2) ∧ Kp [r1] w w' := by
  subst hn
  have hLs : (rsOf self r1 v1 L1 r2 v2 L2 r3 v3 L3).map (·.L) = LsOf self L1 L2 L3 := by cases self <;> rfl
  have hlen : (rsOf self r1 v1 L1 r2 v2 L2 r3 v3 L3).length ≤ 3 := by cases self <;> simp [rsOf]
  have ho := h.ord
  have hl2 := h.two
  have hl3 := h.three
  have l2r := hl2.lor
  have l3r := hl3.lor
  have := rjoin_x r1 v1 L1 g c (rsOf self r1 v1 L1 r2 v2 L2 r3 v3 L3) w h.rm h.cntL (by omega) hnc hg hc ?_
  · rw [hLs] at this
    refine this.mono ?_
    rintro e w' ⟨he, ⟨v', hR⟩, hK⟩
    obtain ⟨b', hP, hb'⟩ := h.pm
    have k2 : Both w' lo2 p2 b2 r2 v2 L2 := by
      refine hl2.kept hK ?_
      intro i hi
      obtain rfl : i = r1 := by simpa using hi
      have h1 := hl2.lop
      have h2 := hl2.lob
      exact ⟨by omega, by omega, by omega, fun e => by have := hl2.lov _ e; omega⟩
    have k3 : Both w' lo3 p3 b3 r3 v3 L3 := by
      refine hl3.kept hK ?_
      intro i hi
      obtain rfl : i = r1 := by simpa using hi
      have h1 := hl3.lop
      have h2 := hl3.lob
      exact ⟨by omega, by omega, by omega, fun e => by have := hl3.lov _ e; omega⟩
    refine ⟨he, ⟨⟨⟨b', hP.kept hK (by simpa using Ne.symm h.ne) (by simpa using hb')⟩, ⟨v', by rw [hX]; exact hR⟩, h.cntX⟩, k2.pr, k3.pr, k2.pm⟩, hK⟩
  · intro x hx
    have h1 : x = ⟨r2, v2, L2⟩ ∨ x = ⟨r3, v3, L3⟩ ∨ x = ⟨r1, v1, L1⟩ := by
      cases self <;> simp [rsOf] at hx <;> rcases hx with hx | hx <;> simp_all
    rcases h1 with rfl | rfl | rfl
    · exact ⟨hl2.rm, hl2.cnt, fun e => by simp at e; omega⟩
    · exact ⟨hl3.rm, hl3.cnt, fun e => by simp at e; omega⟩
    · exact ⟨h.rm, h.cntL, fun _ => rfl⟩
end

end Go.Proofs.Ytfbbdfeigenodaa
