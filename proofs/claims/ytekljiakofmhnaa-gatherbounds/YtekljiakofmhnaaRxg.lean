/- Regions that draw their order, with operations under a guard, by an invariant over which operations have been done, where what is under way may choose a value. No program in it. -/
import Derived.Test.YtekljiakofmhnaaRx
namespace Go.Proofs.Ytekljiakofmhnaa
open Go Go.RowKit

def depG (L : List Oper) : Bool := (List.range L.length).all fun k => match L[k]? with | some o => o.after.all fun e => !Region.binds .any e || decide (e.on < k) | none => true
theorem depG_spec {L : List Oper} (h : depG L = true) {k : Nat} {o : Oper} (ho : L[k]? = some o) : ∀ e ∈ o.after, Region.binds .any e = true → e.on < k := by
  unfold depG at h
  rw [List.all_eq_true] at h
  have hk : k < L.length := (List.getElem?_eq_some_iff.1 ho).1
  have h1 := h k (List.mem_range.2 hk)
  simp only [ho] at h1
  intro e he hb
  have := Array.all_eq_true'.1 h1 e he
  simpa [hb] using this

section
variable {P : Program} {L : List Oper}
theorem none_readyG {listed : Array Bool} (hs : listed.size = L.length) (hb : depG L = true) (h : Region.ready .any L.toArray listed = []) : ∀ k, k < L.length → listed.getD k false = true := by
  intro k
  induction k using Nat.strongRecOn with
  | ind k ih =>
    intro hk
    cases hc : listed.getD k false with
    | true => rfl
    | false =>
      exfalso
      have hm : k ∈ Region.ready .any L.toArray listed := by
        rw [mem_ready]
        refine ⟨?_, L[k], by simp [hk], fun e he hbe => ?_⟩
        · simpa [Array.getD, show k < listed.size by omega] using hc
        · have := depG_spec hb (k := k) (o := L[k]) (by simp [hk]) e he hbe
          exact ih _ this (by omega)
      rw [h] at hm
      cases hm
theorem any_invG {Q : Exit → Act → World → Prop} (I : Array Bool → Act → World → Prop) (hb : depG L = true)
    (hstep : ∀ i o, L[i]? = some o → ∀ l a w, l.size = L.length → (∀ e ∈ o.after, Region.binds .any e = true → l.getD e.on false = true) → l.getD i true = false → I l a w → Region.wanted o (yielded L.toArray a.tmps) = true ∧ o.wp P a w (I (l.setIfInBounds i true)) Q)
    (hend : ∀ l a w, (∀ k, k < L.length → l.getD k false = true) → I l a w → Q .normal a w) :
    ∀ (fuel : Nat) (l : Array Bool) (a : Act) (w : World), l.size = L.length → l.toList.count false ≤ fuel → I l a w → wpAny P .any L.toArray Q fuel l a w := by
  intro fuel
  induction fuel with
  | zero =>
    intro l a w hs hc hI
    have hr : Region.ready .any L.toArray l = [] := by
      rw [List.eq_nil_iff_forall_not_mem]
      intro i hi
      have := count_less (mem_ready.1 hi).1
      omega
    exact ⟨hr, hend l a w (none_readyG hs hb hr) hI⟩
  | succ fuel ih =>
    intro l a w hs hc hI
    refine ⟨fun hr => hend l a w (none_readyG hs hb hr) hI, fun i hi => ?_⟩
    obtain ⟨hun, o, ho, hall⟩ := mem_ready.1 hi
    have ho' : L[i]? = some o := by simpa using ho
    obtain ⟨hwant, hwp⟩ := hstep i o ho' l a w hs hall hun hI
    unfold wpOp
    simp only [ho, hwant, if_true]
    have hcl := count_less hun
    exact .inl (Oper.wp_mono (fun a' w' h => ih _ a' w' (by simpa using hs) (by omega) h) hwp)
end

section
variable {α : Type} {P : Program} {L : List Oper} {Q : Exit → Act → World → Prop} {a0 : Act} {ds : List Nat} {vs : α → List Value} {W : α → Array Bool → World → Prop}
def StepG {α : Type} (P : Program) (L : List Oper) (Q : Exit → Act → World → Prop) (a0 : Act) (ds : List Nat) (vs : α → List Value) (W : α → Array Bool → World → Prop) (i : Nat) (o : Oper) : Prop :=
  ∀ l a w p, (∀ e ∈ o.after, Region.binds .any e = true → l.getD e.on false = true) → l.getD i true = false → Fr a0 ds (vs p) l a → W p l w → Region.wanted o (yielded L.toArray a.tmps) = true ∧ o.wp P a w (fun a' w' => ∃ p', Fr a0 ds (vs p') (l.setIfInBounds i true) a' ∧ W p' (l.setIfInBounds i true) w') Q
theorem wp_region_fg {id : Nat} {w : World} (ds : List Nat) (vs : α → List Value) (W : α → Array Bool → World → Prop) (hm : P.follows .mixedOrders = true) (hb : depG L = true)
    (hn : ds.Nodup) (hl : ∀ p, ds.length = (vs p).length) (hs : ∀ d ∈ ds, d < a0.tmps.size) (hL : ds.length ≤ L.length)
    (h0 : ∃ p, W p (Array.replicate L.length false) { w with drawn := w.drawn + 1 }) (hstep : AllSteps (StepG P L Q a0 ds vs W) 0 L)
    (hend : ∀ p l w', (∀ k, k < L.length → l.getD k false = true) → W p l w' → Q .normal { tmps := fill ds (vs p) a0.tmps, defers := a0.defers } w') : (Code.region id L.toArray true).wp P Q a0 w := by
  refine wp_region_any hm ?_
  have h := any_invG (P := P) (Q := Q) (fun l a w' => ∃ p, Fr a0 ds (vs p) l a ∧ W p l w') hb (fun i o ho l a w' _ hd hu ⟨p, k, hw⟩ => by
    have := hstep.get ho
    rw [Nat.zero_add] at this
    exact this l a w' p hd hu k hw) (fun l a w' h ⟨p, k, hw⟩ => by
    rw [k.done hn (hl p) hs (fun j hj => h j (by omega))]
    exact hend p l w' h hw) L.length (Array.replicate L.length false) a0 { w with drawn := w.drawn + 1 } (by simp) (by simp) (by
    obtain ⟨p, hp⟩ := h0
    exact ⟨p, Fr.start _ _ _ _, hp⟩)
  simpa using h
/-- a guard that holds: none, or that of an operation it waits for, whose value is known -/
def GuardOk (L : List Oper) (ds : List Nat) (vs : α → List Value) (o : Oper) : Prop :=
  o.guard = none ∨ ∃ g d b, o.guard = some (g, b) ∧ (L[g]?).bind (·.dst) = some d ∧ ds[g]? = some d ∧ (∀ p, (vs p).getD g undef = .bool b) ∧ ∃ e ∈ o.after, e.on = g ∧ Region.binds .any e = true
theorem GuardOk.wanted {o : Oper} (h : GuardOk L ds vs o) {l : Array Bool} {a : Act} {p : α} (hd : ∀ e ∈ o.after, Region.binds .any e = true → l.getD e.on false = true) (k : Fr a0 ds (vs p) l a) : Region.wanted o (yielded L.toArray a.tmps) = true := by
  rcases h with h | ⟨g, d, b, h1, h2, h3, h4, e, he, heg, hbe⟩
  · exact wanted_none h _
  · have hl := hd e he hbe
    rw [heg] at hl
    have h5 := k.at' g d h3 hl
    unfold Region.wanted
    rw [h1]
    show (yielded L.toArray a.tmps g == some b) = true
    have : yielded L.toArray a.tmps g = some b := by
      unfold yielded
      rw [show (L.toArray[g]?).bind (·.dst) = some d by simpa using h2]
      show (match a.tmps[d]? with | some (.bool b) => some b | _ => none) = some b
      rw [h5, h4 p]
    rw [this]
    simp
theorem stepG_val {i d : Nat} {o : Oper} (v : Value) (hn : ds.Nodup) (hs : ∀ d ∈ ds, d < a0.tmps.size) (hg : GuardOk L ds vs o) (ho : o.dst = some d) (hd : ds[i]? = some d) (hv : ∀ p, v = (vs p).getD i undef)
    (hrun : ∀ l a w p, (∀ e ∈ o.after, Region.binds .any e = true → l.getD e.on false = true) → l.getD i true = false → Fr a0 ds (vs p) l a → W p l w → (execOp a.eval o).run P w = .ok (.value v) w ∧ W p (l.setIfInBounds i true) w) : StepG P L Q a0 ds vs W i o := by
  intro l a w p hdep hu k hw
  obtain ⟨h1, h2⟩ := hrun l a w p hdep hu k hw
  refine ⟨hg.wanted hdep k, op_val h1 ⟨p, ?_, h2⟩⟩
  rw [ho]
  exact k.step hn hs hd (hv p)
theorem stepG_call {i d : Nat} {o : Oper} (v : Value) (f : Nat) (args : Array Value) (hn : ds.Nodup) (hs : ∀ d ∈ ds, d < a0.tmps.size) (hg : GuardOk L ds vs o) (ho : o.dst = some d) (hd : ds[i]? = some d) (hv : ∀ p, v = (vs p).getD i undef)
    (hrun : ∀ l a w p, (∀ e ∈ o.after, Region.binds .any e = true → l.getD e.on false = true) → l.getD i true = false → Fr a0 ds (vs p) l a → W p l w → (execOp a.eval o).run P w = .ok (.enter f args) w ∧ (Calls P f args w fun e w' => e = .returned v ∧ W p (l.setIfInBounds i true) w')) : StepG P L Q a0 ds vs W i o := by
  intro l a w p hdep hu k hw
  obtain ⟨h1, h2⟩ := hrun l a w p hdep hu k hw
  refine ⟨hg.wanted hdep k, op_call (R := fun w' => W p (l.setIfInBounds i true) w') h1 h2 (fun w' hb => ⟨p, ?_, hb⟩)⟩
  rw [ho]
  exact k.step hn hs hd (hv p)
theorem stepG_callp {i d : Nat} {o : Oper} (v : Value) (f : Nat) (args : α → Array Value) (hn : ds.Nodup) (hs : ∀ d ∈ ds, d < a0.tmps.size) (hg : GuardOk L ds vs o) (ho : o.dst = some d) (hd : ds[i]? = some d) (hv : ∀ p, v = (vs p).getD i undef)
    (hrun : ∀ l a w p, (∀ e ∈ o.after, Region.binds .any e = true → l.getD e.on false = true) → l.getD i true = false → Fr a0 ds (vs p) l a → W p l w → (execOp a.eval o).run P w = .ok (.enter f (args p)) w ∧ (Calls P f (args p) w fun e w' => e = .returned v ∧ W p (l.setIfInBounds i true) w')) : StepG P L Q a0 ds vs W i o := by
  intro l a w p hdep hu k hw
  obtain ⟨h1, h2⟩ := hrun l a w p hdep hu k hw
  refine ⟨hg.wanted hdep k, op_call (R := fun w' => W p (l.setIfInBounds i true) w') h1 h2 (fun w' hb => ⟨p, ?_, hb⟩)⟩
  rw [ho]
  exact k.step hn hs hd (hv p)
/-- a value that is known under way only -/
theorem stepG_pick {i d : Nat} {o : Oper} (V : α → Value) (hn : ds.Nodup) (hs : ∀ d ∈ ds, d < a0.tmps.size) (hg : GuardOk L ds vs o) (ho : o.dst = some d) (hd : ds[i]? = some d) (hv : ∀ p, V p = (vs p).getD i undef) (hsame : ∀ p p' j, j ≠ i → (vs p).getD j undef = (vs p').getD j undef)
    (hrun : ∀ l a w p, (∀ e ∈ o.after, Region.binds .any e = true → l.getD e.on false = true) → l.getD i true = false → Fr a0 ds (vs p) l a → W p l w → ∃ f args, (execOp a.eval o).run P w = .ok (.enter f args) w ∧ (Calls P f args w fun e w' => ∃ p', e = .returned (V p') ∧ W p' (l.setIfInBounds i true) w')) : StepG P L Q a0 ds vs W i o := by
  intro l a w p hdep hu k hw
  obtain ⟨f, args, h1, h2⟩ := hrun l a w p hdep hu k hw
  refine ⟨hg.wanted hdep k, ?_⟩
  unfold Oper.wp; rw [h1]
  refine h2.mono ?_
  rintro e w' ⟨p', rfl, hw'⟩
  refine ⟨p', ?_, hw'⟩
  rw [ho]
  refine (k.as (vs' := vs p') (fun j hj => hsame p p' j (fun e => ?_))).step hn hs hd (hv p')
  subst e
  have h3 : l.getD j true = true := by
    rw [Array.getD_eq_getD_getElem?] at hj ⊢
    cases hx : l[j]? with
    | none => rfl
    | some b => rw [hx] at hj; simpa using hj
  rw [h3] at hu
  cases hu
end
end Go.Proofs.Ytekljiakofmhnaa
