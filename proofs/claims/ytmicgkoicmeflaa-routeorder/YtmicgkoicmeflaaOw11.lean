/- Routes that came in, with room known; a row of them put together anew from its two parts; made, with its two ways in one (layer 11). -/
import Derived.Test.YtmicgkoicmeflaaOr11
import Derived.Test.YtmicgkoicmeflaaRxh
import Derived.Maps.AppendAt
namespace Go.Proofs.Ytmicgkoicmeflaa
open Go.RowKit

/-- routes that came in, and their room -/
def IsRtc (w : World) (v : Value) (l : List Rt) : Prop := IsRts w v l ∧ ∃ a c, v = .slice a l.length c ∧ l.length ≤ c
set_option maxRecDepth 100000 in
theorem isRtc_of {H : Type} {enc : TypeId × Value → H} {W : World} {a0 : Option Addr} {len0 cap0 : Nat} {d : DataW H} {ps : List MemPlace}
    (h : DataW.Trod enc Try.prog W 0 (fun _ => true) true 27 (.slice a0 len0 cap0) d ps) : ∃ l, IsRtc W (.slice a0 len0 cap0) l := by
  obtain ⟨l, hl⟩ := isRts_of h
  refine ⟨l, hl, a0, cap0, ?_, ?_⟩
  · obtain ⟨a, c, e⟩ := hl.1.slice
    injection e with e1 e2 e3
    rw [e2]
  · obtain ⟨a, c, e⟩ := hl.1.slice
    injection e with e1 e2 e3
    rw [← e2]
    obtain ⟨fuel, hf⟩ := h
    rcases Go.Deep.open_slice Try.underlying27 hf with ⟨hcs, _⟩ | ⟨a, len, cap, m, n, D, Pl, hcs, _, hl, hm, hmm, _, hx⟩
    · simp [Value.cells] at hcs
      omega
    · simp [Value.cells] at hcs
      omega

theorem cellsR_len (ss : List Rt) : (cellsR ss).length = ss.length * 5 := by
  induction ss with
  | nil => rfl
  | cons r t ih =>
    have : cellsR (r :: t) = (rtCs r).toList ++ cellsR t := rfl
    rw [this, List.length_append, ih, List.length_cons]
    simp
    omega
theorem cellsR_app (a b : List Rt) : cellsR (a ++ b) = cellsR a ++ cellsR b := by simp [cellsR]
theorem cellsR_at : ∀ (ss : List Rt) (t : Nat) (u : Value), (cellsR ss)[t]? = some u → ∃ r, ss[t / 5]? = some r ∧ (rtCs r)[t % 5]? = some u
  | [], t, u, h => by simp [cellsR] at h
  | r :: s, t, u, h => by
    have e : cellsR (r :: s) = (rtCs r).toList ++ cellsR s := rfl
    rw [e] at h
    have hl : (rtCs r).toList.length = 5 := rfl
    by_cases ht : t < 5
    · rw [List.getElem?_append_left (by omega)] at h
      refine ⟨r, ?_, ?_⟩
      · rw [Nat.div_eq_of_lt ht]; rfl
      · rw [Nat.mod_eq_of_lt ht]; simpa using h
    · rw [List.getElem?_append_right (by omega), hl] at h
      obtain ⟨y, h1, h2⟩ := cellsR_at s (t - 5) u h
      refine ⟨y, ?_, ?_⟩
      · rw [show t / 5 = (t - 5) / 5 + 1 by omega, List.getElem?_cons_succ]; exact h1
      · rw [show t % 5 = (t - 5) % 5 by omega]; exact h2
theorem cellsR_one (ss : List Rt) : ∀ u ∈ cellsR ss, u.oneCell' = true := by
  intro u hu
  unfold cellsR at hu
  obtain ⟨r, _, hr⟩ := List.mem_flatMap.1 hu
  simp at hr
  rcases hr with rfl | rfl | rfl | rfl | rfl <;> rfl
theorem rts_part {w : World} {g off n cap : Nat} {l ss : List Rt} (h : RtsAt w (.slice (some ⟨g, off, none⟩) n cap) l) (k : Nat) (hss : ∀ i r, ss[i]? = some r → l[k + i]? = some r) :
    ∀ j u, (cellsR ss)[j]? = some u → w.cell? ((⟨g, off + k * 5, none⟩ : Addr).add j) = some u := by
  intro j u hj
  obtain ⟨r, h1, h2⟩ := cellsR_at ss j u hj
  rw [hadd]
  rcases h with ⟨_, e⟩ | ⟨g', off', cap', e, hg, hc⟩
  · have := hss _ _ h1
    rw [e] at this
    cases this
  · injection e with e1 e2 e3
    injection e1 with e1
    injection e1 with e4 e5 e6
    subst e4 e5
    have := hc _ r (hss _ _ h1) _ u h2
    rw [← this]
    congr 2
    omega
theorem grown_row {w w' : World} {base e size n : Nat} {v : Value} {xs : List Value} (g : w.grownBy w' v.ownBlock) (h : w.ownsRow base e size v n xs) (hb : base ≤ w.heap.size) : Below base w w' := by
  rcases h.2 with ⟨rfl, _⟩ | ⟨k, cap, cur, rfl, hk, _⟩
  · exact ⟨g.os, g.tape, g.output, g.size, fun i hi => g.block i (by omega) (by intro x; cases x)⟩
  · exact grown_below (r := k) g hb hk

theorem rot_rows {D0 : World} {g off ca m : Nat} {l : List Rt} (h : RtsAt D0 (.slice (some ⟨g, off, none⟩) l.length ca) l) (hm : m < l.length) (hlen : l.length ≤ 1000) :
    ∃ v1 W2 v2 W3, (Builtin.append_ #[27, 27] 27 #[.slice (some ⟨D0.heap.size, 0, none⟩) 0 0, .slice (some ⟨g, off + m * 5, none⟩) (l.length - m) (ca - m)]).run Try.prog (D0.alloc (.cells #[] 32)) = .ok v1 W2 ∧
      (Builtin.append_ #[27, 27] 27 #[v1, .slice (some ⟨g, off, none⟩) m ca]).run Try.prog W2 = .ok v2 W3 ∧ RtsAt W3 v2 (l.drop m ++ l.take m) ∧ Below D0.heap.size D0 W3 := by
  obtain ⟨i0, hi, hz0, hz1, hz2⟩ := info_parts (P := Try.prog) (e := 32) (z := rtZ) (size := 5) (bytes := 40) (by kernel_rfl)
  have hD1 := below_one D0 (.cells #[] 32)
  have ho : (D0.alloc (.cells #[] 32)).ownsRow D0.heap.size 32 5 (.slice (some ⟨D0.heap.size, 0, none⟩) 0 0) 0 [] :=
    ⟨rfl, .inr ⟨D0.heap.size, 0, #[], rfl, Nat.le_refl _, heap_alloc_new D0 _, Nat.le_refl _, Nat.zero_le _, rfl, rfl⟩⟩
  have h1 := h.below hD1
  obtain ⟨v1, W2, r1, o1, g1, _, _⟩ := run_append_own_at (P := Try.prog) (D0.alloc (.cells #[] 32)) D0.heap.size 27 27 32 i0 _ 5 40 Try.underlying27 hi hz0 hz1 hz2 rfl (by decide) _ 0 [] ho
    ⟨g, off + m * 5, none⟩ (l.length - m) (ca - m) (cellsR (l.drop m)) (by rw [cellsR_len, List.length_drop]) (rts_part h1 m (fun i r hr => by rwa [List.getElem?_drop] at hr)) (cellsR_one _) (by unfold maxLen; omega) (by omega) hD1.size
  have b1 := grown_row g1 ho hD1.size
  have hz2' : D0.heap.size ≤ W2.heap.size := Nat.le_trans hD1.size b1.size
  have h2 := h.below (hD1.trans b1)
  obtain ⟨v2, W3, r2, o2, g2, _, _⟩ := run_append_own_at (P := Try.prog) W2 D0.heap.size 27 27 32 i0 _ 5 40 Try.underlying27 hi hz0 hz1 hz2 rfl (by decide) v1 _ _ o1
    ⟨g, off, none⟩ m ca (cellsR (l.take m)) (by rw [cellsR_len, List.length_take]; omega) (by
      have := rts_part (ss := l.take m) h2 0 (fun i r hr => by
        rw [Nat.zero_add]
        rw [List.getElem?_take] at hr
        split at hr
        · exact hr
        · cases hr)
      simpa using this) (cellsR_one _) (by unfold maxLen; omega) (by omega) hz2'
  have b2 := grown_row g2 o1 hz2'
  refine ⟨v1, W2, v2, W3, r1, r2, rts_of_row (base := D0.heap.size) ?_, (hD1.trans b1).trans b2⟩
  have e1 : (l.drop m ++ l.take m).length = 0 + (l.length - m) + m := by simp; omega
  rw [e1, cellsR_app]
  simpa using o2

/-- what made leaves -/
def MD (base : Nat) (l : List Rt) (u : Value) (ok : Bool) (W : World) : Prop := (∃ L p b, madeR [] l = some L ∧ u = .pointer (some ⟨p, 0, none⟩) ∧ ok = true ∧ PT W p b L ∧ base ≤ p ∧ base ≤ b) ∨ (madeR [] l = none ∧ u = .pointer none ∧ ok = false)
theorem made_md {w : World} {v : Value} {l : List Rt} (h : IsRts w v l) (hl : l.length ≤ 1000000) :
    Calls Try.prog 18 #[v] w fun e w' => ∃ u ok, e = .returned (.tuple #[u, .bool ok]) ∧ MD w.heap.size l u ok w' ∧ Below w.heap.size w w' := by
  refine (made_any h hl).mono ?_
  rintro e w' ⟨hb, ⟨L, p, b, h1, rfl, h2, h3, h4⟩ | ⟨h1, rfl⟩⟩
  · exact ⟨_, _, rfl, .inl ⟨L, p, b, h1, rfl, rfl, h2, h3, h4⟩, hb⟩
  · exact ⟨_, _, rfl, .inr ⟨h1, rfl, rfl⟩, hb⟩

/-- what memory holds while the row is put together anew, and told to made -/
structure QW (D0 W1 W2 W3 : World) (M : Value → Bool → World → Prop) (c : Value × Bool) (l : Array Bool) (W : World) : Prop where
  s0 : l.getD 0 false = false → W = D0
  s1 : l.getD 0 false = true → l.getD 4 false = false → W = W1
  s2 : l.getD 4 false = true → l.getD 8 false = false → W = W2
  s3 : l.getD 8 false = true → l.getD 9 false = false → W = W3
  s4 : l.getD 9 false = true → M c.1 c.2 W
section
variable {D0 W1 W2 W3 W : World} {M : Value → Bool → World → Prop} {c : Value × Bool} {l : Array Bool}
theorem QW.same (h : QW D0 W1 W2 W3 M c l W) {k : Nat} (h0 : k ≠ 0) (h4 : k ≠ 4) (h8 : k ≠ 8) (h9 : k ≠ 9) : QW D0 W1 W2 W3 M c (l.setIfInBounds k true) W := by
  refine ⟨?_, ?_, ?_, ?_, ?_⟩
  · rw [getD_upd h0]; exact h.s0
  · rw [getD_upd h0, getD_upd h4]; exact h.s1
  · rw [getD_upd h4, getD_upd h8]; exact h.s2
  · rw [getD_upd h8, getD_upd h9]; exact h.s3
  · rw [getD_upd h9]; exact h.s4
theorem ft_no {i : Nat} (h : l.getD i true = false) (h2 : l.getD i false = true) : False := by
  rw [getD_ft h] at h2; cases h2
theorem getD_set_self' {i : Nat} (h : l.getD i true = false) : (l.setIfInBounds i true).getD i false = true := by
  have hi : i < l.size := by
    apply Classical.byContradiction
    intro hn
    simp [Array.getD, hn] at h
  simp [Array.getD, hi]
theorem QW.at0 (hu : l.getD 0 true = false) (k0 : l.getD 4 false = true → l.getD 0 false = true) (k4 : l.getD 8 false = true → l.getD 4 false = true) (k8 : l.getD 9 false = true → l.getD 8 false = true) : QW D0 W1 W2 W3 M c (l.setIfInBounds 0 true) W1 := by
  have n4 : ¬ l.getD 4 false = true := fun e => ft_no hu (k0 e)
  have n8 : ¬ l.getD 8 false = true := fun e => n4 (k4 e)
  have n9 : ¬ l.getD 9 false = true := fun e => n8 (k8 e)
  refine ⟨fun e => ?_, fun _ _ => rfl, fun e => ?_, fun e => ?_, fun e => ?_⟩
  · rw [getD_set_self' hu] at e; cases e
  · rw [getD_upd (by decide)] at e; exact absurd e n4
  · rw [getD_upd (by decide)] at e; exact absurd e n8
  · rw [getD_upd (by decide)] at e; exact absurd e n9
theorem QW.at4 (hd : l.getD 0 false = true) (hu : l.getD 4 true = false) (k4 : l.getD 8 false = true → l.getD 4 false = true) (k8 : l.getD 9 false = true → l.getD 8 false = true) : QW D0 W1 W2 W3 M c (l.setIfInBounds 4 true) W2 := by
  have n8 : ¬ l.getD 8 false = true := fun e => ft_no hu (k4 e)
  have n9 : ¬ l.getD 9 false = true := fun e => n8 (k8 e)
  refine ⟨fun e => ?_, fun _ e => ?_, fun _ _ => rfl, fun e => ?_, fun e => ?_⟩
  · rw [getD_upd (by decide), hd] at e; cases e
  · rw [getD_set_self' hu] at e; cases e
  · rw [getD_upd (by decide)] at e; exact absurd e n8
  · rw [getD_upd (by decide)] at e; exact absurd e n9
theorem QW.at8 (h0 : l.getD 0 false = true) (hd : l.getD 4 false = true) (hu : l.getD 8 true = false) (k8 : l.getD 9 false = true → l.getD 8 false = true) : QW D0 W1 W2 W3 M c (l.setIfInBounds 8 true) W3 := by
  have n9 : ¬ l.getD 9 false = true := fun e => ft_no hu (k8 e)
  refine ⟨fun e => ?_, fun _ e => ?_, fun _ e => ?_, fun _ _ => rfl, fun e => ?_⟩
  · rw [getD_upd (by decide), h0] at e; cases e
  · rw [getD_upd (by decide), hd] at e; cases e
  · rw [getD_set_self' hu] at e; cases e
  · rw [getD_upd (by decide)] at e; exact absurd e n9
theorem QW.at9 (h0 : l.getD 0 false = true) (h4 : l.getD 4 false = true) (hd : l.getD 8 false = true) (hu : l.getD 9 true = false) {W' : World} (hm : M c.1 c.2 W') : QW D0 W1 W2 W3 M c (l.setIfInBounds 9 true) W' := by
  refine ⟨fun e => ?_, fun _ e => ?_, fun _ e => ?_, fun _ e => ?_, fun _ => hm⟩
  · rw [getD_upd (by decide), h0] at e; cases e
  · rw [getD_upd (by decide), h4] at e; cases e
  · rw [getD_upd (by decide), hd] at e; cases e
  · rw [getD_set_self' hu] at e; cases e
end

/-- what is found once there is one more, with the zero route where none is -/
theorem found_more {L : List Rt} (h : OkL L) {r : Rt} (hr : Rin r) (hm : mayR r) (hlen : L.length < 1024) (hno : ∀ y ∈ L, ¬ keyE y r.n r.b) {ip : Nat} (hip : ip < 4294967296) :
    (inB ip r.n (clip r.b) = true ∧ ((findR ip L).isSome = false ∨ ((findR ip L).getD RZ).b < r.b) → (findR ip (addT r L)).getD RZ = r ∧ (findR ip (addT r L)).isSome = true) ∧
    (¬ (inB ip r.n (clip r.b) = true ∧ ((findR ip L).isSome = false ∨ ((findR ip L).getD RZ).b < r.b)) → (findR ip (addT r L)).getD RZ = (findR ip L).getD RZ ∧ (findR ip (addT r L)).isSome = (findR ip L).isSome) := by
  have hf := (find_more h hr hm hlen hno hip).2.2.2
  constructor
  · rintro ⟨h1, h2⟩
    rw [if_pos ⟨h1, fun R hR => by
      rw [hR] at h2
      rcases h2 with h2 | h2
      · cases h2
      · exact h2⟩] at hf
    rw [hf]
    exact ⟨rfl, rfl⟩
  · intro hn
    rw [if_neg (fun hc => hn ⟨hc.1, by
      cases hL : findR ip L with
      | none => exact .inl rfl
      | some R => exact .inr (hc.2 R hL)⟩)] at hf
    rw [hf]
    exact ⟨rfl, rfl⟩
end Go.Proofs.Ytmicgkoicmeflaa
