/- Regions that draw their order, whatever is in them, by an invariant over which operations have been done: a rule for every order at once; and what a frame holds while a region is under way, slot by slot. No program in it. -/
import Derived.OrdersIn
import Derived.BigQuiet
import Derived.Below
namespace Go.Proofs.Ytekljiakofmhnaa
open Go Go.RowKit

def depB (L : List Oper) : Bool := (List.range L.length).all fun k => (match L[k]? with | some o => o.after.all fun e => !Region.binds .any e || decide (e.on < k) | none => true) && (match L[k]? with | some o => o.guard.isNone | none => true)
theorem depB_spec {L : List Oper} (h : depB L = true) {k : Nat} {o : Oper} (ho : L[k]? = some o) : (∀ e ∈ o.after, Region.binds .any e = true → e.on < k) ∧ o.guard = none := by
  unfold depB at h
  rw [List.all_eq_true] at h
  have hk : k < L.length := (List.getElem?_eq_some_iff.1 ho).1
  have h1 := h k (List.mem_range.2 hk)
  rw [Bool.and_eq_true] at h1
  simp only [ho] at h1
  refine ⟨fun e he hb => ?_, by simpa using h1.2⟩
  have := Array.all_eq_true'.1 h1.1 e he
  simpa [hb] using this

section
variable {P : Program} {L : List Oper}
theorem none_ready {listed : Array Bool} (hs : listed.size = L.length) (hb : depB L = true) (h : Region.ready .any L.toArray listed = []) : ∀ k, k < L.length → listed.getD k false = true := by
  intro k
  induction k using Nat.strongRecOn with
  | ind k ih =>
    intro hk
    cases hc : listed.getD k false with
    | true => rfl
    | false =>
      exfalso
      have hm : k ∈ Region.ready .any L.toArray listed := by
        rw [mem_ready]
        refine ⟨?_, L[k], by simp [hk], fun e he hbe => ?_⟩
        · simpa [Array.getD, show k < listed.size by omega] using hc
        · have := (depB_spec hb (k := k) (o := L[k]) (by simp [hk])).1 e he hbe
          exact ih _ this (by omega)
      rw [h] at hm
      cases hm
theorem wanted_none {o : Oper} (h : o.guard = none) (f : Nat → Option Bool) : Region.wanted o f = true := by
  unfold Region.wanted; rw [h]

theorem count_less {listed : Array Bool} {i : Nat} (h : listed.getD i true = false) : (listed.setIfInBounds i true).toList.count false + 1 = listed.toList.count false := by
  have hi : i < listed.size := by
    apply Classical.byContradiction
    intro hn
    simp [Array.getD, hn] at h
  have hv : listed.toList[i]'(by simpa using hi) = false := by simpa [Array.getD, hi] using h
  rw [Array.toList_setIfInBounds, List.count_set (by simpa using hi), hv]
  have hp : 0 < listed.toList.count false := List.count_pos_iff.2 (by rw [← hv]; exact List.getElem_mem _)
  have e1 : (if (false == false) = true then 1 else 0) = 1 := rfl
  have e2 : (if (true == false) = true then 1 else 0) = 0 := rfl
  rw [e1, e2]
  omega

theorem any_inv {Q : Exit → Act → World → Prop} (I : Array Bool → Act → World → Prop) (hb : depB L = true)
    (hstep : ∀ i o, L[i]? = some o → ∀ l a w, l.size = L.length → (∀ e ∈ o.after, Region.binds .any e = true → l.getD e.on false = true) → l.getD i true = false → I l a w → o.wp P a w (I (l.setIfInBounds i true)) Q)
    (hend : ∀ l a w, (∀ k, k < L.length → l.getD k false = true) → I l a w → Q .normal a w) :
    ∀ (fuel : Nat) (l : Array Bool) (a : Act) (w : World), l.size = L.length → l.toList.count false ≤ fuel → I l a w → wpAny P .any L.toArray Q fuel l a w := by
  intro fuel
  induction fuel with
  | zero =>
    intro l a w hs hc hI
    have hr : Region.ready .any L.toArray l = [] := by
      rw [List.eq_nil_iff_forall_not_mem]
      intro i hi
      have := count_less (mem_ready.1 hi).1
      omega
    exact ⟨hr, hend l a w (none_ready hs hb hr) hI⟩
  | succ fuel ih =>
    intro l a w hs hc hI
    refine ⟨fun hr => hend l a w (none_ready hs hb hr) hI, fun i hi => ?_⟩
    obtain ⟨hun, o, ho, hall⟩ := mem_ready.1 hi
    have ho' : L[i]? = some o := by simpa using ho
    unfold wpOp
    simp only [ho, wanted_none (depB_spec hb ho').2, if_true]
    have hcl := count_less hun
    exact .inl (Oper.wp_mono (fun a' w' h => ih _ a' w' (by simpa using hs) (by omega) h) (hstep i o ho' l a w hs hall hun hI))

theorem wp_region_inv {id : Nat} {Q : Exit → Act → World → Prop} {a : Act} {w : World} (hm : P.follows .mixedOrders = true) (hb : depB L = true) (I : Array Bool → Act → World → Prop)
    (h0 : I (Array.replicate L.length false) a { w with drawn := w.drawn + 1 })
    (hstep : ∀ i o, L[i]? = some o → ∀ l a w, l.size = L.length → (∀ e ∈ o.after, Region.binds .any e = true → l.getD e.on false = true) → l.getD i true = false → I l a w → o.wp P a w (I (l.setIfInBounds i true)) Q)
    (hend : ∀ l a w, (∀ k, k < L.length → l.getD k false = true) → I l a w → Q .normal a w) : (Code.region id L.toArray true).wp P Q a w := by
  refine wp_region_any hm ?_
  have h := any_inv I hb hstep hend L.length (Array.replicate L.length false) a { w with drawn := w.drawn + 1 } (by simp) (by simp) h0
  simpa using h

theorem op_val {o : Oper} {a : Act} {w w' : World} {v : Value} {K : Act → World → Prop} {Q : Exit → Act → World → Prop} (h : (execOp a.eval o).run P w = .ok (.value v) w') (hk : K (a.put o.dst v) w') : o.wp P a w K Q := by
  unfold Oper.wp; rw [h]; exact hk
theorem op_skip {o : Oper} {a : Act} {w w' : World} {K : Act → World → Prop} {Q : Exit → Act → World → Prop} (h : (execOp a.eval o).run P w = .ok .skip w') (hk : K (a.put o.dst undef) w') : o.wp P a w K Q := by
  unfold Oper.wp; rw [h]; exact hk
theorem op_call {o : Oper} {a : Act} {w w' : World} {f : Nat} {args : Array Value} {v : Value} {R : World → Prop} {K : Act → World → Prop} {Q : Exit → Act → World → Prop} (h : (execOp a.eval o).run P w = .ok (.enter f args) w')
    (hc : Calls P f args w' fun e w'' => e = .returned v ∧ R w'') (hk : ∀ w'', R w'' → K (a.put o.dst v) w'') : o.wp P a w K Q := by
  unfold Oper.wp; rw [h]
  refine hc.mono ?_
  rintro e w'' ⟨rfl, hr⟩
  exact hk w'' hr
end

/-- what a frame holds while a region is under way -/
structure Fr (a0 : Act) (ds : List Nat) (vs : List Value) (l : Array Bool) (a : Act) : Prop where
  defs : a.defers = a0.defers
  size : a.tmps.size = a0.tmps.size
  out : ∀ k, k ∉ ds → a.tmps[k]? = a0.tmps[k]?
  at' : ∀ j d, ds[j]? = some d → l.getD j false = true → a.tmps[d]? = some (vs.getD j undef)
theorem getD_rep (n k : Nat) : (Array.replicate n false).getD k false = false := by
  simp [Array.getD]
theorem Fr.start (a0 : Act) (ds : List Nat) (vs : List Value) (n : Nat) : Fr a0 ds vs (Array.replicate n false) a0 :=
  ⟨rfl, rfl, fun _ _ => rfl, fun j d _ h => by rw [getD_rep] at h; cases h⟩
theorem getD_upd {l : Array Bool} {i k : Nat} (h : i ≠ k) : (l.setIfInBounds i true).getD k false = l.getD k false := by
  simp only [Array.getD_eq_getD_getElem?, Array.getElem?_setIfInBounds, if_neg h]
theorem Fr.step {a0 a : Act} {ds : List Nat} {vs : List Value} {l : Array Bool} (k : Fr a0 ds vs l a) (hn : ds.Nodup) (hs : ∀ d ∈ ds, d < a0.tmps.size) {j d : Nat} (h : ds[j]? = some d) {v : Value} (hv : v = vs.getD j undef) : Fr a0 ds vs (l.setIfInBounds j true) (a.put (some d) v) := by
  refine ⟨k.defs, by simpa [Act.put] using k.size, fun k' hk' => ?_, fun j' d' h' hl => ?_⟩
  · have : d ≠ k' := fun e => hk' (e ▸ List.mem_of_getElem? h)
    simp only [Act.put, Array.getElem?_setIfInBounds, if_neg this]
    exact k.out k' hk'
  · simp only [Act.put, Array.getElem?_setIfInBounds]
    by_cases e : d = d'
    · subst e
      have hj : j = j' := (List.getElem?_inj (List.getElem?_eq_some_iff.1 h).1 hn).1 (h.trans h'.symm)
      subst hj
      rw [if_pos rfl, if_pos (by rw [k.size]; exact hs d (List.mem_of_getElem? h)), hv]
    · rw [if_neg e]
      have hj : j ≠ j' := fun x => by subst x; rw [h] at h'; exact e (Option.some.inj h')
      rw [getD_upd hj] at hl
      exact k.at' j' d' h' hl
theorem Fr.pass {a0 a : Act} {ds : List Nat} {vs : List Value} {l : Array Bool} (k : Fr a0 ds vs l a) {j : Nat} (h : ds.length ≤ j) : Fr a0 ds vs (l.setIfInBounds j true) a :=
  ⟨k.defs, k.size, k.out, fun j' d' h' hl => k.at' j' d' h' (by
    have : j' < ds.length := (List.getElem?_eq_some_iff.1 h').1
    rwa [getD_upd (by omega)] at hl)⟩
theorem Fr.eval {a0 a : Act} {ds : List Nat} {vs : List Value} {l : Array Bool} (k : Fr a0 ds vs l a) (j : Nat) {d : Nat} {v : Value} (h : ds[j]? = some d) (hl : l.getD j false = true) (hv : vs.getD j undef = v) : a.eval (.tmp d) = v := by
  show a.tmps.getD d undef = v
  rw [Array.getD_eq_getD_getElem?, k.at' j d h hl, hv]
  rfl
theorem Fr.evalOut {a0 a : Act} {ds : List Nat} {vs : List Value} {l : Array Bool} (k : Fr a0 ds vs l a) (d : Nat) {v : Value} (h : d ∉ ds) (hv : a0.tmps.getD d undef = v) : a.eval (.tmp d) = v := by
  show a.tmps.getD d undef = v
  rw [Array.getD_eq_getD_getElem?, k.out d h, ← Array.getD_eq_getD_getElem?, hv]
/-- other values for what is not listed yet -/
theorem Fr.as {a0 a : Act} {ds : List Nat} {vs vs' : List Value} {l : Array Bool} (k : Fr a0 ds vs l a) (h : ∀ j, l.getD j false = true → vs.getD j undef = vs'.getD j undef) : Fr a0 ds vs' l a :=
  ⟨k.defs, k.size, k.out, fun j d hd hl => by rw [k.at' j d hd hl, h j hl]⟩
def fill : List Nat → List Value → Array Value → Array Value
  | d :: ds, v :: vs, t => fill ds vs (t.setIfInBounds d v)
  | _, _, t => t
theorem fill_size : ∀ (ds : List Nat) (vs : List Value) (t : Array Value), (fill ds vs t).size = t.size
  | [], _, _ => rfl
  | _ :: _, [], _ => rfl
  | d :: ds, v :: vs, t => by rw [fill, fill_size ds vs]; simp
theorem fill_out : ∀ (ds : List Nat) (vs : List Value) (t : Array Value) (k : Nat), k ∉ ds → (fill ds vs t)[k]? = t[k]?
  | [], _, _, _, _ => rfl
  | _ :: _, [], _, _, _ => rfl
  | d :: ds, v :: vs, t, k, h => by
    rw [fill, fill_out ds vs _ k (fun x => h (by simp [x])), Array.getElem?_setIfInBounds, if_neg (fun x => h (by simp [x]))]
theorem fill_in : ∀ (ds : List Nat) (vs : List Value) (t : Array Value), ds.Nodup → ds.length = vs.length → (∀ d ∈ ds, d < t.size) → ∀ j d, ds[j]? = some d → (fill ds vs t)[d]? = some (vs.getD j undef)
  | [], _, _, _, _, _, _, _, h => by simp at h
  | _ :: _, [], _, _, hl, _, _, _, _ => by simp at hl
  | d :: ds, v :: vs, t, hn, hl, hs, 0, d', h => by
    obtain rfl : d = d' := by simpa using h
    rw [fill, fill_out ds vs _ d (List.nodup_cons.1 hn).1, Array.getElem?_setIfInBounds, if_pos rfl, if_pos (hs d (by simp))]
    rfl
  | d :: ds, v :: vs, t, hn, hl, hs, j + 1, d', h => by
    rw [fill, fill_in ds vs _ (List.nodup_cons.1 hn).2 (by simpa using hl) (fun x hx => by simpa using hs x (by simp [hx])) j d' (by simpa using h)]
    rfl
theorem Fr.done {a0 a : Act} {ds : List Nat} {vs : List Value} {l : Array Bool} (k : Fr a0 ds vs l a) (hn : ds.Nodup) (hl : ds.length = vs.length) (hs : ∀ d ∈ ds, d < a0.tmps.size) (h : ∀ j, j < ds.length → l.getD j false = true) : a = { tmps := fill ds vs a0.tmps, defers := a0.defers } := by
  have e : a.tmps = fill ds vs a0.tmps := by
    apply Array.ext_getElem?
    intro i
    by_cases hi : i ∈ ds
    · obtain ⟨j, hj, rfl⟩ := List.getElem_of_mem hi
      have h2 : ds[j]? = some ds[j] := List.getElem?_eq_getElem hj
      rw [fill_in ds vs _ hn hl hs j _ h2]
      exact k.at' j _ h2 (h j hj)
    · rw [fill_out ds vs _ i hi]
      exact k.out i hi
  cases a
  simp only at e
  have d := k.defs
  simp only at d
  rw [e, d]

/-- each operation in its place -/
def AllSteps (G : Nat → Oper → Prop) : Nat → List Oper → Prop
  | _, [] => True
  | i, o :: r => G i o ∧ AllSteps G (i + 1) r
theorem AllSteps.get {G : Nat → Oper → Prop} : ∀ {L : List Oper} {n i : Nat} {o : Oper}, AllSteps G n L → L[i]? = some o → G (n + i) o
  | [], _, _, _, _, h => by simp at h
  | x :: r, n, 0, o, k, h => by
    obtain rfl : x = o := by simpa using h
    exact k.1
  | x :: r, n, i + 1, o, k, h => by
    have := AllSteps.get (n := n + 1) (i := i) k.2 (by simpa using h)
    rwa [show n + (i + 1) = n + 1 + i by omega]
def StepOk {α : Type} (P : Program) (Q : Exit → Act → World → Prop) (a0 : Act) (ds : List Nat) (vs : α → List Value) (W : α → Array Bool → World → Prop) (i : Nat) (o : Oper) : Prop :=
  ∀ l a w p, (∀ e ∈ o.after, Region.binds .any e = true → l.getD e.on false = true) → l.getD i true = false → Fr a0 ds (vs p) l a → W p l w → o.wp P a w (fun a' w' => ∃ p', Fr a0 ds (vs p') (l.setIfInBounds i true) a' ∧ W p' (l.setIfInBounds i true) w') Q
theorem wp_region_fr {α : Type} {P : Program} {L : List Oper} {id : Nat} {Q : Exit → Act → World → Prop} {a0 : Act} {w : World} (ds : List Nat) (vs : α → List Value) (W : α → Array Bool → World → Prop) (hm : P.follows .mixedOrders = true) (hb : depB L = true)
    (hn : ds.Nodup) (hl : ∀ p, ds.length = (vs p).length) (hs : ∀ d ∈ ds, d < a0.tmps.size) (hL : ds.length ≤ L.length)
    (h0 : ∃ p, W p (Array.replicate L.length false) { w with drawn := w.drawn + 1 }) (hstep : AllSteps (StepOk P Q a0 ds vs W) 0 L)
    (hend : ∀ p l w', (∀ k, k < L.length → l.getD k false = true) → W p l w' → Q .normal { tmps := fill ds (vs p) a0.tmps, defers := a0.defers } w') : (Code.region id L.toArray true).wp P Q a0 w := by
  refine wp_region_inv hm hb (fun l a w' => ∃ p, Fr a0 ds (vs p) l a ∧ W p l w') ?_ ?_ ?_
  · obtain ⟨p, hp⟩ := h0
    exact ⟨p, Fr.start _ _ _ _, hp⟩
  · rintro i o ho l a w' _ hd hu ⟨p, k, hw⟩
    have := hstep.get ho
    rw [Nat.zero_add] at this
    exact this l a w' p hd hu k hw
  · rintro l a w' h ⟨p, k, hw⟩
    rw [k.done hn (hl p) hs (fun j hj => h j (by omega))]
    exact hend p l w' h hw
theorem step_val {α : Type} {P : Program} {Q : Exit → Act → World → Prop} {a0 : Act} {ds : List Nat} {vs : α → List Value} {W : α → Array Bool → World → Prop} {i d : Nat} {o : Oper} (v : Value) (hn : ds.Nodup) (hs : ∀ d ∈ ds, d < a0.tmps.size) (ho : o.dst = some d) (hd : ds[i]? = some d) (hv : ∀ p, v = (vs p).getD i undef)
    (hW : ∀ p l w, W p l w → W p (l.setIfInBounds i true) w)
    (hrun : ∀ l a w p, (∀ e ∈ o.after, Region.binds .any e = true → l.getD e.on false = true) → Fr a0 ds (vs p) l a → W p l w → (execOp a.eval o).run P w = .ok (.value v) w) : StepOk P Q a0 ds vs W i o := by
  intro l a w p hdep hu k hw
  refine op_val (hrun l a w p hdep k hw) ⟨p, ?_, hW _ _ _ hw⟩
  rw [ho]
  exact k.step hn hs hd (hv p)
theorem step_call {α : Type} {P : Program} {Q : Exit → Act → World → Prop} {a0 : Act} {ds : List Nat} {vs : α → List Value} {W : α → Array Bool → World → Prop} {i d f : Nat} {o : Oper} (v : Value) (args : Array Value) (hn : ds.Nodup) (hs : ∀ d ∈ ds, d < a0.tmps.size) (ho : o.dst = some d) (hd : ds[i]? = some d) (hv : ∀ p, v = (vs p).getD i undef)
    (hW : ∀ p l w w', W p l w → Below w.heap.size w w' → W p (l.setIfInBounds i true) w')
    (hrun : ∀ l a w p, (∀ e ∈ o.after, Region.binds .any e = true → l.getD e.on false = true) → Fr a0 ds (vs p) l a → W p l w → (execOp a.eval o).run P w = .ok (.enter f args) w)
    (hc : ∀ w, Calls P f args w fun e w' => e = .returned v ∧ Below w.heap.size w w') : StepOk P Q a0 ds vs W i o := by
  intro l a w p hdep hu k hw
  refine op_call (R := fun w' => Below w.heap.size w w') (hrun l a w p hdep k hw) (hc w) (fun w' hb => ⟨p, ?_, hW _ _ _ _ hw hb⟩)
  rw [ho]
  exact k.step hn hs hd (hv p)

end Go.Proofs.Ytekljiakofmhnaa
