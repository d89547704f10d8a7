/- Regions that draw their order, by an invariant over which operations have been done, where some operations write no slot; plainly, and within a round of a loop over a function. No program in it. -/
import Derived.Test.YtmicgkoicmeflaaRx
import Derived.Test.YtmicgkoicmeflaaRg
namespace Go.Proofs.Ytmicgkoicmeflaa
open Go Go.RowKit

/-- each slot is written by one operation -/
def uniqB (ds : List (Option Nat)) : Bool := (List.range ds.length).all fun i => (List.range ds.length).all fun j => match ds[i]?, ds[j]? with
  | some (some a), some (some b) => !(a == b) || i == j
  | _, _ => true
theorem uniqB_spec {ds : List (Option Nat)} (h : uniqB ds = true) {i j d : Nat} (hi : ds[i]? = some (some d)) (hj : ds[j]? = some (some d)) : i = j := by
  unfold uniqB at h
  rw [List.all_eq_true] at h
  have h1 := h i (List.mem_range.2 (List.getElem?_eq_some_iff.1 hi).1)
  rw [List.all_eq_true] at h1
  have h2 := h1 j (List.mem_range.2 (List.getElem?_eq_some_iff.1 hj).1)
  rw [hi, hj] at h2
  simpa using h2
/-- what a frame holds while a region is under way -/
structure Fo (a0 : Act) (ds : List (Option Nat)) (vs : List Value) (l : Array Bool) (a : Act) : Prop where
  defs : a.defers = a0.defers
  size : a.tmps.size = a0.tmps.size
  out : ∀ k, some k ∉ ds → a.tmps[k]? = a0.tmps[k]?
  at' : ∀ j d, ds[j]? = some (some d) → l.getD j false = true → a.tmps[d]? = some (vs.getD j undef)
theorem Fo.start (a0 : Act) (ds : List (Option Nat)) (vs : List Value) (n : Nat) : Fo a0 ds vs (Array.replicate n false) a0 :=
  ⟨rfl, rfl, fun _ _ => rfl, fun j d _ h => by rw [getD_rep] at h; cases h⟩
theorem Fo.step {a0 a : Act} {ds : List (Option Nat)} {vs : List Value} {l : Array Bool} (k : Fo a0 ds vs l a) (hn : uniqB ds = true) (hs : ∀ d, some d ∈ ds → d < a0.tmps.size) {j d : Nat} (h : ds[j]? = some (some d)) {v : Value} (hv : v = vs.getD j undef) : Fo a0 ds vs (l.setIfInBounds j true) (a.put (some d) v) := by
  refine ⟨k.defs, by simpa [Act.put] using k.size, fun k' hk' => ?_, fun j' d' h' hl => ?_⟩
  · have : d ≠ k' := fun e => hk' (e ▸ List.mem_of_getElem? h)
    simp only [Act.put, Array.getElem?_setIfInBounds, if_neg this]
    exact k.out k' hk'
  · simp only [Act.put, Array.getElem?_setIfInBounds]
    by_cases e : d = d'
    · subst e
      obtain rfl := uniqB_spec hn h h'
      rw [if_pos rfl, if_pos (by rw [k.size]; exact hs d (List.mem_of_getElem? h)), hv]
    · rw [if_neg e]
      have hj : j ≠ j' := fun x => by subst x; rw [h] at h'; exact e (by cases h'; rfl)
      rw [getD_upd hj] at hl
      exact k.at' j' d' h' hl
theorem Fo.pass {a0 a : Act} {ds : List (Option Nat)} {vs : List Value} {l : Array Bool} (k : Fo a0 ds vs l a) {j : Nat} (h : ds[j]? = some none) : Fo a0 ds vs (l.setIfInBounds j true) a :=
  ⟨k.defs, k.size, k.out, fun j' d' h' hl => k.at' j' d' h' (by
    have : j ≠ j' := fun e => by subst e; rw [h] at h'; cases h'
    rwa [getD_upd this] at hl)⟩
theorem Fo.eval {a0 a : Act} {ds : List (Option Nat)} {vs : List Value} {l : Array Bool} (k : Fo a0 ds vs l a) (j : Nat) {d : Nat} {v : Value} (h : ds[j]? = some (some d)) (hl : l.getD j false = true) (hv : vs.getD j undef = v) : a.eval (.tmp d) = v := by
  show a.tmps.getD d undef = v
  rw [Array.getD_eq_getD_getElem?, k.at' j d h hl, hv]
  rfl
theorem Fo.evalOut {a0 a : Act} {ds : List (Option Nat)} {vs : List Value} {l : Array Bool} (k : Fo a0 ds vs l a) (d : Nat) {v : Value} (h : some d ∉ ds) (hv : a0.tmps.getD d undef = v) : a.eval (.tmp d) = v := by
  show a.tmps.getD d undef = v
  rw [Array.getD_eq_getD_getElem?, k.out d h, ← Array.getD_eq_getD_getElem?, hv]
def fillO : List (Option Nat) → List Value → Array Value → Array Value
  | some d :: ds, v :: vs, t => fillO ds vs (t.setIfInBounds d v)
  | none :: ds, _ :: vs, t => fillO ds vs t
  | _, _, t => t
theorem fillO_size : ∀ (ds : List (Option Nat)) (vs : List Value) (t : Array Value), (fillO ds vs t).size = t.size
  | [], _, _ => rfl
  | some _ :: _, [], _ => rfl
  | none :: _, [], _ => rfl
  | some d :: ds, v :: vs, t => by rw [fillO, fillO_size ds vs]; simp
  | none :: ds, v :: vs, t => by rw [fillO, fillO_size ds vs]
theorem fillO_out : ∀ (ds : List (Option Nat)) (vs : List Value) (t : Array Value) (k : Nat), some k ∉ ds → (fillO ds vs t)[k]? = t[k]?
  | [], _, _, _, _ => rfl
  | some _ :: _, [], _, _, _ => rfl
  | none :: _, [], _, _, _ => rfl
  | some d :: ds, v :: vs, t, k, h => by
    rw [fillO, fillO_out ds vs _ k (fun x => h (by simp [x])), Array.getElem?_setIfInBounds, if_neg (fun x => h (by simp [x]))]
  | none :: ds, v :: vs, t, k, h => by
    rw [fillO, fillO_out ds vs _ k (fun x => h (by simp [x]))]
theorem fillO_in : ∀ (ds : List (Option Nat)) (vs : List Value) (t : Array Value), (∀ i j d : Nat, ds[i]? = some (some d) → ds[j]? = some (some d) → i = j) → ds.length = vs.length → (∀ d, some d ∈ ds → d < t.size) → ∀ j d : Nat, ds[j]? = some (some d) → (fillO ds vs t)[d]? = some (vs.getD j undef)
  | [], _, _, _, _, _, _, _, h => by simp at h
  | some _ :: _, [], _, _, hl, _, _, _, _ => by simp at hl
  | none :: _, [], _, _, hl, _, _, _, _ => by simp at hl
  | some d :: ds, v :: vs, t, hn, hl, hs, 0, d', h => by
    obtain rfl : d = d' := by simpa using h
    have hnm : some d ∉ ds := fun hm => by
      obtain ⟨i, hi, e⟩ := List.getElem_of_mem hm
      have := hn 0 (i + 1) d (by simp) (by simp [List.getElem?_eq_getElem hi, e])
      omega
    rw [fillO, fillO_out ds vs _ d hnm, Array.getElem?_setIfInBounds, if_pos rfl, if_pos (hs d (by simp))]
    rfl
  | some d :: ds, v :: vs, t, hn, hl, hs, j + 1, d', h => by
    rw [fillO, fillO_in ds vs _ (fun i j d a b => by have := hn (i + 1) (j + 1) d (by simpa using a) (by simpa using b); omega) (by simpa using hl) (fun x hx => by simpa using hs x (by simp [hx])) j d' (by simpa using h)]
    rfl
  | none :: ds, v :: vs, t, hn, hl, hs, 0, d', h => by simp at h
  | none :: ds, v :: vs, t, hn, hl, hs, j + 1, d', h => by
    rw [fillO, fillO_in ds vs _ (fun i j d a b => by have := hn (i + 1) (j + 1) d (by simpa using a) (by simpa using b); omega) (by simpa using hl) (fun x hx => hs x (by simp [hx])) j d' (by simpa using h)]
    rfl
theorem Fo.done {a0 a : Act} {ds : List (Option Nat)} {vs : List Value} {l : Array Bool} (k : Fo a0 ds vs l a) (hn : uniqB ds = true) (hl : ds.length = vs.length) (hs : ∀ d, some d ∈ ds → d < a0.tmps.size) (h : ∀ j, j < ds.length → l.getD j false = true) : a = { tmps := fillO ds vs a0.tmps, defers := a0.defers } := by
  have e : a.tmps = fillO ds vs a0.tmps := by
    apply Array.ext_getElem?
    intro i
    by_cases hi : some i ∈ ds
    · obtain ⟨j, hj, e⟩ := List.getElem_of_mem hi
      have h2 : ds[j]? = some (some i) := by rw [List.getElem?_eq_getElem hj, e]
      rw [fillO_in ds vs _ (fun i j d a b => uniqB_spec hn a b) hl hs j _ h2]
      exact k.at' j _ h2 (h j hj)
    · rw [fillO_out ds vs _ i hi]
      exact k.out i hi
  cases a
  simp only at e
  have d := k.defs
  simp only at d
  rw [e, d]

def StepO (P : Program) (Q : Exit → Act → World → Prop) (a0 : Act) (ds : List (Option Nat)) (vs : List Value) (W : Array Bool → World → Prop) (i : Nat) (o : Oper) : Prop :=
  ∀ l a w, (∀ e ∈ o.after, Region.binds .any e = true → l.getD e.on false = true) → l.getD i true = false → Fo a0 ds vs l a → W l w → o.wp P a w (fun a' w' => Fo a0 ds vs (l.setIfInBounds i true) a' ∧ W (l.setIfInBounds i true) w') Q
theorem stepO_any {P : Program} {L : List Oper} {Q : Exit → Act → World → Prop} {a0 : Act} {w : World} (ds : List (Option Nat)) (vs : List Value) (W : Array Bool → World → Prop) (hb : depB L = true)
    (hn : uniqB ds = true) (hl : ds.length = vs.length) (hs : ∀ d, some d ∈ ds → d < a0.tmps.size) (hL : ds.length = L.length)
    (h0 : W (Array.replicate L.length false) { w with drawn := w.drawn + 1 }) (hstep : AllSteps (StepO P Q a0 ds vs W) 0 L)
    (hend : ∀ l w', (∀ k, k < L.length → l.getD k false = true) → W l w' → Q .normal { tmps := fillO ds vs a0.tmps, defers := a0.defers } w') : wpAny P .any L.toArray Q L.toArray.size (Array.replicate L.toArray.size false) a0 { w with drawn := w.drawn + 1 } := by
  have h := any_inv (P := P) (Q := Q) (fun l a w' => Fo a0 ds vs l a ∧ W l w') hb (fun i o ho l a w' _ hd hu ⟨k, hw⟩ => by
    have := hstep.get ho
    rw [Nat.zero_add] at this
    exact this l a w' hd hu k hw) (fun l a w' h ⟨k, hw⟩ => by
    rw [k.done hn hl hs (fun j hj => h j (by omega))]
    exact hend l w' h hw) L.length (Array.replicate L.length false) a0 { w with drawn := w.drawn + 1 } (by simp) (by simp) ⟨Fo.start _ _ _ _, h0⟩
  simpa using h
/-- plainly -/
theorem wp_region_fo {P : Program} {L : List Oper} {id : Nat} {Q : Exit → Act → World → Prop} {a0 : Act} {w : World} (ds : List (Option Nat)) (vs : List Value) (W : Array Bool → World → Prop) (hm : P.follows .mixedOrders = true) (hb : depB L = true)
    (hn : uniqB ds = true) (hl : ds.length = vs.length) (hs : ∀ d, some d ∈ ds → d < a0.tmps.size) (hL : ds.length = L.length)
    (h0 : W (Array.replicate L.length false) { w with drawn := w.drawn + 1 }) (hstep : AllSteps (StepO P Q a0 ds vs W) 0 L)
    (hend : ∀ l w', (∀ k, k < L.length → l.getD k false = true) → W l w' → Q .normal { tmps := fillO ds vs a0.tmps, defers := a0.defers } w') : (Code.region id L.toArray true).wp P Q a0 w :=
  wp_region_any hm (stepO_any ds vs W hb hn hl hs hL h0 hstep hend)
/-- within a round -/
theorem round_fo {P : Program} {L : List Oper} {id k n : Nat} {R : Exit → Act → World → Prop} {a0 : Act} {w : World} (ds : List (Option Nat)) (vs : List Value) (W : Array Bool → World → Prop) (hm : P.follows .mixedOrders = true) (hb : depB L = true) (hd : noDeferB L = true)
    (hn : uniqB ds = true) (hl : ds.length = vs.length) (hs : ∀ d, some d ∈ ds → d < a0.tmps.size) (hL : ds.length = L.length)
    (h0 : W (Array.replicate L.length false) { w with drawn := w.drawn + 1 }) (hstep : AllSteps (StepO P (Exit.then (fun a w => R .normal a w) (fun _ _ _ => False)) a0 ds vs W) 0 L)
    (hend : ∀ l w', (∀ k, k < L.length → l.getD k false = true) → W l w' → R .normal { tmps := fillO ds vs a0.tmps, defers := a0.defers } w') : (Code.region id L.toArray true).wpIn (Fence.wide.inRound k) n P R a0 w := by
  refine round_mono ?_
  refine wpIn_region_any hm ?_
  exact any_in hd then_out _ _ _ _ (stepO_any ds vs W hb hn hl hs hL h0 hstep hend)
section
variable {P : Program} {Q : Exit → Act → World → Prop} {a0 : Act} {ds : List (Option Nat)} {vs : List Value} {W : Array Bool → World → Prop}
theorem stepO_val {i d : Nat} {o : Oper} (v : Value) (hn : uniqB ds = true) (hs : ∀ d, some d ∈ ds → d < a0.tmps.size) (ho : o.dst = some d) (hd : ds[i]? = some (some d)) (hv : v = vs.getD i undef)
    (hrun : ∀ l a w, (∀ e ∈ o.after, Region.binds .any e = true → l.getD e.on false = true) → l.getD i true = false → Fo a0 ds vs l a → W l w → ∃ w', (execOp a.eval o).run P w = .ok (.value v) w' ∧ W (l.setIfInBounds i true) w') : StepO P Q a0 ds vs W i o := by
  intro l a w hdep hu k hw
  obtain ⟨w', h1, h2⟩ := hrun l a w hdep hu k hw
  refine op_val h1 ⟨?_, h2⟩
  rw [ho]
  exact k.step hn hs hd hv
theorem stepO_none {i : Nat} {o : Oper} (ho : o.dst = none) (hd : ds[i]? = some none)
    (hrun : ∀ l a w, (∀ e ∈ o.after, Region.binds .any e = true → l.getD e.on false = true) → l.getD i true = false → Fo a0 ds vs l a → W l w → ∃ w', (execOp a.eval o).run P w = .ok .skip w' ∧ W (l.setIfInBounds i true) w') : StepO P Q a0 ds vs W i o := by
  intro l a w hdep hu k hw
  obtain ⟨w', h1, h2⟩ := hrun l a w hdep hu k hw
  refine op_skip h1 ⟨?_, h2⟩
  rw [ho]
  exact k.pass hd
end
end Go.Proofs.Ytmicgkoicmeflaa
