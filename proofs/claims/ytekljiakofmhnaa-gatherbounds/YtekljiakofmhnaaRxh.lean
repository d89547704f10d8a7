/- Regions that draw their order, as Rxg has them, where it is known that what has been done waited for what has been done. No program in it. -/
import Derived.Test.YtekljiakofmhnaaRxg
namespace Go.Proofs.Ytekljiakofmhnaa
open Go Go.RowKit

/-- what has been done waited for what has been done -/
def Closed (L : List Oper) (l : Array Bool) : Prop := ∀ k o, L[k]? = some o → l.getD k false = true → ∀ e ∈ o.after, Region.binds .any e = true → l.getD e.on false = true
theorem Closed.start (L : List Oper) (n : Nat) : Closed L (Array.replicate n false) := fun k o _ h => by rw [getD_rep] at h; cases h
theorem getD_more {l : Array Bool} {i k : Nat} (h : l.getD k false = true) : (l.setIfInBounds i true).getD k false = true := by
  by_cases e : i = k
  · subst e
    have hi : i < l.size := by
      apply Classical.byContradiction
      intro hn
      simp [Array.getD, hn] at h
    simp [Array.getD, hi]
  · rw [getD_upd e]; exact h
theorem Closed.step {L : List Oper} {l : Array Bool} (h : Closed L l) {i : Nat} {o : Oper} (ho : L[i]? = some o) (hd : ∀ e ∈ o.after, Region.binds .any e = true → l.getD e.on false = true) : Closed L (l.setIfInBounds i true) := by
  intro k o' hk hl e he hb
  by_cases e' : i = k
  · subst e'
    rw [ho] at hk
    cases hk
    exact getD_more (hd e he hb)
  · rw [getD_upd e'] at hl
    exact getD_more (h k o' hk hl e he hb)

section
variable {α : Type} {P : Program} {L : List Oper} {Q : Exit → Act → World → Prop} {a0 : Act} {ds : List Nat} {vs : α → List Value} {W : α → Array Bool → World → Prop}
def StepC {α : Type} (P : Program) (L : List Oper) (Q : Exit → Act → World → Prop) (a0 : Act) (ds : List Nat) (vs : α → List Value) (W : α → Array Bool → World → Prop) (i : Nat) (o : Oper) : Prop :=
  ∀ l a w p, (∀ e ∈ o.after, Region.binds .any e = true → l.getD e.on false = true) → l.getD i true = false → Closed L l → Fr a0 ds (vs p) l a → W p l w → Region.wanted o (yielded L.toArray a.tmps) = true ∧ o.wp P a w (fun a' w' => ∃ p', Fr a0 ds (vs p') (l.setIfInBounds i true) a' ∧ W p' (l.setIfInBounds i true) w') Q
theorem wp_region_fc {id : Nat} {w : World} (ds : List Nat) (vs : α → List Value) (W : α → Array Bool → World → Prop) (hm : P.follows .mixedOrders = true) (hb : depG L = true)
    (hn : ds.Nodup) (hl : ∀ p, ds.length = (vs p).length) (hs : ∀ d ∈ ds, d < a0.tmps.size) (hL : ds.length ≤ L.length)
    (h0 : ∃ p, W p (Array.replicate L.length false) { w with drawn := w.drawn + 1 }) (hstep : AllSteps (StepC P L Q a0 ds vs W) 0 L)
    (hend : ∀ p l w', (∀ k, k < L.length → l.getD k false = true) → W p l w' → Q .normal { tmps := fill ds (vs p) a0.tmps, defers := a0.defers } w') : (Code.region id L.toArray true).wp P Q a0 w := by
  refine wp_region_any hm ?_
  have h := any_invG (P := P) (Q := Q) (fun l a w' => Closed L l ∧ ∃ p, Fr a0 ds (vs p) l a ∧ W p l w') hb (fun i o ho l a w' _ hd hu ⟨hc, p, k, hw⟩ => by
    have := hstep.get ho
    rw [Nat.zero_add] at this
    obtain ⟨h1, h2⟩ := this l a w' p hd hu hc k hw
    exact ⟨h1, Oper.wp_mono (fun a' w2 hh => ⟨hc.step ho hd, hh⟩) h2⟩) (fun l a w' h ⟨_, p, k, hw⟩ => by
    rw [k.done hn (hl p) hs (fun j hj => h j (by omega))]
    exact hend p l w' h hw) L.length (Array.replicate L.length false) a0 { w with drawn := w.drawn + 1 } (by simp) (by simp) (by
    obtain ⟨p, hp⟩ := h0
    exact ⟨Closed.start _ _, p, Fr.start _ _ _ _, hp⟩)
  simpa using h
theorem stepC_val {i d : Nat} {o : Oper} (v : Value) (hn : ds.Nodup) (hs : ∀ d ∈ ds, d < a0.tmps.size) (hg : GuardOk L ds vs o) (ho : o.dst = some d) (hd : ds[i]? = some d) (hv : ∀ p, v = (vs p).getD i undef)
    (hrun : ∀ l a w p, (∀ e ∈ o.after, Region.binds .any e = true → l.getD e.on false = true) → l.getD i true = false → Closed L l → Fr a0 ds (vs p) l a → W p l w → ∃ w', (execOp a.eval o).run P w = .ok (.value v) w' ∧ W p (l.setIfInBounds i true) w') : StepC P L Q a0 ds vs W i o := by
  intro l a w p hdep hu hc k hw
  obtain ⟨w', h1, h2⟩ := hrun l a w p hdep hu hc k hw
  refine ⟨hg.wanted hdep k, op_val h1 ⟨p, ?_, h2⟩⟩
  rw [ho]
  exact k.step hn hs hd (hv p)
/-- a value that leans on what has been chosen -/
theorem stepC_same {i d : Nat} {o : Oper} (V : α → Value) (hn : ds.Nodup) (hs : ∀ d ∈ ds, d < a0.tmps.size) (hg : GuardOk L ds vs o) (ho : o.dst = some d) (hd : ds[i]? = some d) (hv : ∀ p, V p = (vs p).getD i undef)
    (hrun : ∀ l a w p, (∀ e ∈ o.after, Region.binds .any e = true → l.getD e.on false = true) → l.getD i true = false → Closed L l → Fr a0 ds (vs p) l a → W p l w → (execOp a.eval o).run P w = .ok (.value (V p)) w ∧ W p (l.setIfInBounds i true) w) : StepC P L Q a0 ds vs W i o := by
  intro l a w p hdep hu hc k hw
  obtain ⟨h1, h2⟩ := hrun l a w p hdep hu hc k hw
  refine ⟨hg.wanted hdep k, op_val h1 ⟨p, ?_, h2⟩⟩
  rw [ho]
  exact k.step hn hs hd (hv p)
theorem stepC_call {i d : Nat} {o : Oper} (v : Value) (f : Nat) (args : Array Value) (hn : ds.Nodup) (hs : ∀ d ∈ ds, d < a0.tmps.size) (hg : GuardOk L ds vs o) (ho : o.dst = some d) (hd : ds[i]? = some d) (hv : ∀ p, v = (vs p).getD i undef)
    (hrun : ∀ l a w p, (∀ e ∈ o.after, Region.binds .any e = true → l.getD e.on false = true) → l.getD i true = false → Closed L l → Fr a0 ds (vs p) l a → W p l w → (execOp a.eval o).run P w = .ok (.enter f args) w ∧ (Calls P f args w fun e w' => e = .returned v ∧ W p (l.setIfInBounds i true) w')) : StepC P L Q a0 ds vs W i o := by
  intro l a w p hdep hu hc k hw
  obtain ⟨h1, h2⟩ := hrun l a w p hdep hu hc k hw
  refine ⟨hg.wanted hdep k, op_call (R := fun w' => W p (l.setIfInBounds i true) w') h1 h2 (fun w' hb => ⟨p, ?_, hb⟩)⟩
  rw [ho]
  exact k.step hn hs hd (hv p)
theorem stepC_callp {i d : Nat} {o : Oper} (v : Value) (f : Nat) (args : α → Array Value) (hn : ds.Nodup) (hs : ∀ d ∈ ds, d < a0.tmps.size) (hg : GuardOk L ds vs o) (ho : o.dst = some d) (hd : ds[i]? = some d) (hv : ∀ p, v = (vs p).getD i undef)
    (hrun : ∀ l a w p, (∀ e ∈ o.after, Region.binds .any e = true → l.getD e.on false = true) → l.getD i true = false → Closed L l → Fr a0 ds (vs p) l a → W p l w → (execOp a.eval o).run P w = .ok (.enter f (args p)) w ∧ (Calls P f (args p) w fun e w' => e = .returned v ∧ W p (l.setIfInBounds i true) w')) : StepC P L Q a0 ds vs W i o := by
  intro l a w p hdep hu hc k hw
  obtain ⟨h1, h2⟩ := hrun l a w p hdep hu hc k hw
  refine ⟨hg.wanted hdep k, op_call (R := fun w' => W p (l.setIfInBounds i true) w') h1 h2 (fun w' hb => ⟨p, ?_, hb⟩)⟩
  rw [ho]
  exact k.step hn hs hd (hv p)
/-- a value that is known under way only, and what leans on it -/
theorem stepC_pick {i d : Nat} {o : Oper} (V : α → Value) (hn : ds.Nodup) (hs : ∀ d ∈ ds, d < a0.tmps.size) (hg : GuardOk L ds vs o) (ho : o.dst = some d) (hd : ds[i]? = some d) (hv : ∀ p, V p = (vs p).getD i undef) (hsame : ∀ p p' j, j < i → (vs p).getD j undef = (vs p').getD j undef)
    (hafter : ∀ l, Closed L l → ∀ j, i < j → j < ds.length → l.getD j false = true → l.getD i false = true) (hlen : ∀ p, (vs p).length = ds.length)
    (hrun : ∀ l a w p, (∀ e ∈ o.after, Region.binds .any e = true → l.getD e.on false = true) → l.getD i true = false → Closed L l → Fr a0 ds (vs p) l a → W p l w → ∃ f args, (execOp a.eval o).run P w = .ok (.enter f args) w ∧ (Calls P f args w fun e w' => ∃ p', e = .returned (V p') ∧ W p' (l.setIfInBounds i true) w')) : StepC P L Q a0 ds vs W i o := by
  intro l a w p hdep hu hc k hw
  obtain ⟨f, args, h1, h2⟩ := hrun l a w p hdep hu hc k hw
  refine ⟨hg.wanted hdep k, ?_⟩
  unfold Oper.wp; rw [h1]
  refine h2.mono ?_
  rintro e w' ⟨p', rfl, hw'⟩
  refine ⟨p', ?_, hw'⟩
  rw [ho]
  have hno : l.getD i false = true → False := fun h3 => by
    rw [Array.getD_eq_getD_getElem?] at h3 hu
    cases hx : l[i]? with
    | none => rw [hx] at h3; cases h3
    | some b =>
      rw [hx] at h3 hu
      have e1 : b = true := h3
      have e2 : b = false := hu
      rw [e1] at e2
      cases e2
  refine (k.as (vs' := vs p') (fun j hj => ?_)).step hn hs hd (hv p')
  rcases Nat.lt_trichotomy j i with g | g | g
  · exact hsame p p' j g
  · subst g
    exact (hno hj).elim
  · by_cases hjl : j < ds.length
    · exact (hno (hafter l hc j g hjl hj)).elim
    · have e1 : ∀ q, (vs q).getD j undef = undef := fun q => by
        rw [List.getD_eq_getElem?_getD, List.getElem?_eq_none (by rw [hlen q]; omega)]
        rfl
      rw [e1, e1]
end
end Go.Proofs.Ytekljiakofmhnaa
