/- Regions that draw their order. A region whose last operation writes, and waits for all the others, which only read or call what makes new memory: one walk serves every order. And a region that was walked plainly, within a round of a loop over a function. -/
import Derived.Lib.QuietBelow
import Derived.BigQuiet
import Derived.OrdersIn
namespace Go.Proofs.Ytekljiakofmhnaa
open Go Go.RowKit Go.Sort

inductive Split : List Oper → List Oper → Oper → Prop
  | one (z : Oper) : Split [z] [] z
  | cons (x : Oper) {L l : List Oper} {z : Oper} (h : Split L l z) : Split (x :: L) (x :: l) z
theorem Split.eq {L l : List Oper} {z : Oper} (h : Split L l z) : L = l ++ [z] := by
  induction h with
  | one z => rfl
  | cons x _ ih => rw [ih]; rfl

/-- every operation but the last is waited for by a later one; each waits for earlier ones alone; guards lie among the first -/
def waitsB (l : List Oper) (z : Oper) : Bool :=
  (List.range l.length).all fun k => (List.range (l.length + 1)).any fun m => decide (k < m) && (match (l ++ [z])[m]? with | some o => o.after.any fun e => Region.binds .any e && e.on == k | none => false)
def backzB (l : List Oper) (z : Oper) : Bool :=
  (List.range (l.length + 1)).all fun k => (match (l ++ [z])[k]? with | some o => o.after.all fun e => !Region.binds .any e || decide (e.on < k) | none => true)
def guardB (l : List Oper) : Bool := l.all fun o => match o.guard with | some (j, _) => decide (j < l.length) | none => true

theorem waitsB_spec {l : List Oper} {z : Oper} (h : waitsB l z = true) {k : Nat} (hk : k < l.length) : ∃ m o, k < m ∧ m ≤ l.length ∧ (l ++ [z])[m]? = some o ∧ ∃ e ∈ o.after, Region.binds .any e = true ∧ e.on = k := by
  unfold waitsB at h
  rw [List.all_eq_true] at h
  have h1 := h k (List.mem_range.2 hk)
  obtain ⟨m, hm, h2⟩ := List.any_eq_true.1 h1
  rw [Bool.and_eq_true] at h2
  obtain ⟨h3, h4⟩ := h2
  cases ho : (l ++ [z])[m]? with
  | none => simp only [ho] at h4; cases h4
  | some o =>
    simp only [ho] at h4
    obtain ⟨e, he, h5⟩ := Array.any_eq_true'.1 h4
    rw [Bool.and_eq_true] at h5
    exact ⟨m, o, by simpa using h3, by have := List.mem_range.1 hm; omega, ho, e, he, h5.1, by simpa using h5.2⟩
theorem backzB_spec {l : List Oper} {z : Oper} (h : backzB l z = true) {k : Nat} {o : Oper} (ho : (l ++ [z])[k]? = some o) : ∀ e ∈ o.after, Region.binds .any e = true → e.on < k := by
  unfold backzB at h
  rw [List.all_eq_true] at h
  have hk : k < l.length + 1 := by have := (List.getElem?_eq_some_iff.1 ho).1; simpa using this
  have h1 := h k (List.mem_range.2 hk)
  simp only [ho] at h1
  intro e he hb
  have := Array.all_eq_true'.1 h1 e he
  simpa [hb] using this
theorem guardB_spec {l : List Oper} (h : guardB l = true) {o : Oper} (ho : o ∈ l) {j : Nat} {b : Bool} (hg : o.guard = some (j, b)) : j < l.length := by
  unfold guardB at h
  rw [List.all_eq_true] at h
  have := h o ho
  simp only [hg] at this
  simpa using this

section
variable {P : Program} {l : List Oper} {z : Oper}
/-- whoever is listed, those that it waits for are -/
def Down (l : List Oper) (listed : Array Bool) : Prop := ∀ k o, l[k]? = some o → listed.getD k false = true → ∀ e ∈ o.after, Region.binds .any e = true → listed.getD e.on false = true

theorem getD_push (listed : Array Bool) (k : Nat) : (listed.push false).getD k false = listed.getD k false := by
  rcases Nat.lt_trichotomy k listed.size with h | h | h
  · simp [Array.getD, h, Nat.lt_succ_of_lt h, Array.getElem_push_lt h]
  · subst h; simp [Array.getD]
  · simp [Array.getD, Nat.not_lt.2 (Nat.le_of_lt h), show ¬ k < listed.size + 1 by omega]
theorem getD_push_t {listed : Array Bool} {k : Nat} (h : k < listed.size) : (listed.push false).getD k true = listed.getD k true := by
  simp [Array.getD, h, Nat.lt_succ_of_lt h, Array.getElem_push_lt h]

theorem ready_push {listed : Array Bool} (hs : listed.size = l.length) {i : Nat} (hi : i < l.length) : i ∈ Region.ready .any (l ++ [z]).toArray (listed.push false) ↔ i ∈ Region.ready .any l.toArray listed := by
  rw [mem_ready, mem_ready, getD_push_t (by omega)]
  have : (l ++ [z]).toArray[i]? = l.toArray[i]? := by simp [List.getElem?_append_left hi]
  rw [this]
  simp only [getD_push]

theorem all_listed {listed : Array Bool} (hs : listed.size = l.length) (hb : backzB l z = true) (h : Region.ready .any l.toArray listed = []) : ∀ k, k < l.length → listed.getD k false = true := by
  intro k
  induction k using Nat.strongRecOn with
  | ind k ih =>
    intro hk
    cases hc : listed.getD k false with
    | true => rfl
    | false =>
      exfalso
      have hm : k ∈ Region.ready .any l.toArray listed := by
        rw [mem_ready]
        refine ⟨?_, l[k], by simp [hk], fun e he hbe => ?_⟩
        · simpa [Array.getD, show k < listed.size by omega] using hc
        · have := backzB_spec hb (k := k) (o := l[k]) (by rw [List.getElem?_append_left hk]; simp [hk]) e he hbe
          exact ih _ this (by omega)
      rw [h] at hm
      cases hm

/-- the last is ready only behind all -/
theorem last_ready {listed : Array Bool} (hd : Down l listed) (hw : waitsB l z = true) (h : l.length ∈ Region.ready .any (l ++ [z]).toArray (listed.push false)) : ∀ k, k < l.length → listed.getD k false = true := by
  obtain ⟨_, o, ho, hall⟩ := mem_ready.1 h
  have hz : o = z := by simpa using ho.symm
  subst hz
  have key : ∀ d k, k + d + 1 = l.length → listed.getD k false = true := by
    intro d
    induction d using Nat.strongRecOn with
    | ind d ih =>
      intro k hk
      obtain ⟨m, om, hkm, hml, hom, e, he, hb, hon⟩ := waitsB_spec hw (k := k) (by omega)
      subst hon
      by_cases hm : m = l.length
      · subst hm
        have : om = o := by simpa using hom.symm
        subst this
        have := hall e he hb
        rwa [getD_push] at this
      · have h1 := ih (l.length - m - 1) (by omega) m (by omega)
        exact hd m om (by rw [List.getElem?_append_left (by omega)] at hom; exact hom) h1 e he hb
  intro k hk
  exact key (l.length - k - 1) k (by omega)

theorem ready_none {listed : Array Bool} (hs : listed.size = l.length) (h : ∀ k, k < l.length → listed.getD k false = true) : Region.ready .any l.toArray listed = [] := by
  rw [List.eq_nil_iff_forall_not_mem]
  intro i hi
  obtain ⟨h0, o, ho, _⟩ := mem_ready.1 hi
  have hlt : i < l.length := by have := (Array.getElem?_eq_some_iff.1 ho).1; simpa using this
  have := h i hlt
  simp [Array.getD, show i < listed.size by omega] at h0 this
  rw [h0] at this
  cases this

theorem Oper.wp_post {o : Oper} {a : Act} {w : World} {K K' : Act → World → Prop} {Q Q' : Exit → Act → World → Prop} (h : ∀ a w, K a w → K' a w) (hq : ∀ c a w, Q (.panic c) a w → Q' (.panic c) a w) (hl : LetsOut Q → LetsOut Q')
    (hh : o.wp P a w K Q) : o.wp P a w K' Q' := by
  unfold Oper.wp at *
  generalize (execOp a.eval o).run P w = r at *
  cases r with
  | ok n w' =>
    cases n <;> simp only [Oper.upon] at hh ⊢ <;>
      first
        | exact h _ _ hh
        | exact Calls.mono hh (fun e w'' he => by cases e <;> first | exact h _ _ he | exact hq _ _ _ he | exact hl he)
        | exact Rows.mono hh (fun _ _ he => h _ _ he)
  | halt x w' => cases x <;> simp only [Oper.upon] at hh ⊢ <;> first | exact hq _ _ _ hh | exact hh

/-- what is asked of the last one -/
def LastQ (P : Program) (z : Oper) (Q : Exit → Act → World → Prop) : Exit → Act → World → Prop
  | .normal, a, w => z.wp P a w (fun a w => Q .normal a w) Q
  | e, a, w => Q e a w

theorem yielded_app {j : Nat} (hj : j < l.length) (t : Array Value) : yielded (l ++ [z]).toArray t j = yielded l.toArray t j := by
  unfold yielded
  have : (l ++ [z]).toArray[j]? = l.toArray[j]? := by simp [List.getElem?_append_left hj]
  rw [this]
theorem wanted_app {o : Oper} (hg : guardB l = true) (ho : o ∈ l) (t : Array Value) : Region.wanted o (yielded (l ++ [z]).toArray t) = Region.wanted o (yielded l.toArray t) := by
  unfold Region.wanted
  cases h : o.guard with
  | none => rfl
  | some g =>
    obtain ⟨j, b⟩ := g
    simp only
    rw [yielded_app (guardB_spec hg ho h)]

theorem wanted_free {o : Oper} (h : o.guard = none) (f : Nat → Option Bool) : Region.wanted o f = true := by
  unfold Region.wanted; rw [h]

theorem any_last {Q : Exit → Act → World → Prop} (hw : waitsB l z = true) (hb : backzB l z = true) (hg : guardB l = true) (hz : z.guard = none) :
    ∀ (fuel : Nat) (listed : Array Bool) (a : Act) (w : World), listed.size = l.length → Down l listed → wpAny P .any l.toArray (LastQ P z Q) fuel listed a w → wpAny P .any (l ++ [z]).toArray Q (fuel + 1) (listed.push false) a w := by
  have hzo : (l ++ [z]).toArray[l.length]? = some z := by simp
  have never : ∀ listed : Array Bool, listed.size = l.length → Region.ready .any (l ++ [z]).toArray (listed.push false) ≠ [] := by
    intro listed hs h0
    by_cases h1 : Region.ready .any l.toArray listed = []
    · have hal := all_listed hs hb h1
      have : l.length ∈ Region.ready .any (l ++ [z]).toArray (listed.push false) := by
        rw [mem_ready]
        refine ⟨by rw [← hs]; simp [Array.getD], z, hzo, fun e he hbe => ?_⟩
        have := backzB_spec hb (k := l.length) (o := z) (by simp) e he hbe
        rw [getD_push]
        exact hal _ this
      rw [h0] at this
      cases this
    · obtain ⟨i, hi⟩ := List.exists_mem_of_ne_nil _ h1
      have hlt : i < l.length := by obtain ⟨_, o, ho, _⟩ := mem_ready.1 hi; have := (Array.getElem?_eq_some_iff.1 ho).1; simpa using this
      have := (ready_push (z := z) hs hlt).2 hi
      rw [h0] at this
      cases this
  have setl : ∀ (listed : Array Bool) (i : Nat), i < listed.size → (listed.push false).setIfInBounds i true = (listed.setIfInBounds i true).push false := by
    intro listed i hi
    apply Array.ext_getElem?
    intro k
    rw [Array.getElem?_setIfInBounds, Array.getElem?_push, Array.getElem?_push, Array.getElem?_setIfInBounds]
    simp only [Array.size_push, Array.size_setIfInBounds]
    by_cases e : i = k
    · subst e; simp [hi, Nat.lt_succ_of_lt hi, Nat.ne_of_lt hi]
    · simp [e]
  have last : ∀ (fuel : Nat) (listed : Array Bool) (a : Act) (w : World), listed.size = l.length → (∀ k, k < l.length → listed.getD k false = true) → LastQ P z Q .normal a w → wpOp P (l ++ [z]).toArray Q l.length (wpAny P .any (l ++ [z]).toArray Q fuel ((listed.push false).setIfInBounds l.length true)) a w := by
    intro fuel listed a w hs hal hq
    unfold wpOp
    simp only [hzo, wanted_free hz, if_true]
    refine .inl (Oper.wp_post (fun a' w' h => wpAny_done ?_ h fuel) (fun _ _ _ h => h) id hq)
    rw [List.eq_nil_iff_forall_not_mem]
    intro i hi
    obtain ⟨h0, o, ho, _⟩ := mem_ready.1 hi
    have hlt : i < l.length + 1 := by have := (Array.getElem?_eq_some_iff.1 ho).1; simpa using this
    by_cases e : i = l.length
    · subst e
      simp [Array.getD, hs] at h0
    · have hlt' : i < l.length := by omega
      have h1 := hal i hlt'
      rw [getD_set_ne true (Ne.symm e), getD_push_t (by omega)] at h0
      simp [Array.getD, show i < listed.size by omega] at h0 h1
      rw [h0] at h1
      cases h1
  intro fuel
  induction fuel with
  | zero =>
    intro listed a w hs hd h
    refine ⟨fun h0 => (never listed hs h0).elim, fun i hi => ?_⟩
    have hlt : i < l.length + 1 := by obtain ⟨_, o, ho, _⟩ := mem_ready.1 hi; have := (Array.getElem?_eq_some_iff.1 ho).1; simpa using this
    by_cases e : i = l.length
    · subst e
      exact last 0 listed a w hs (all_listed hs hb h.1) h.2
    · have := (ready_push (z := z) hs (by omega)).1 hi
      rw [h.1] at this
      cases this
  | succ fuel ih =>
    intro listed a w hs hd h
    refine ⟨fun h0 => (never listed hs h0).elim, fun i hi => ?_⟩
    have hlt : i < l.length + 1 := by obtain ⟨_, o, ho, _⟩ := mem_ready.1 hi; have := (Array.getElem?_eq_some_iff.1 ho).1; simpa using this
    by_cases e : i = l.length
    · subst e
      have hal := last_ready hd hw hi
      exact last (fuel + 1) listed a w hs hal (h.1 (ready_none hs hal))
    · have hil : i < l.length := by omega
      have hr := (ready_push (z := z) hs hil).1 hi
      have h1 := h.2 i hr
      obtain ⟨hun, o, ho, hall⟩ := mem_ready.1 hr
      have hdn : Down l (listed.setIfInBounds i true) := by
        intro k ok hk hlk e' he' hb'
        by_cases ek : k = i
        · subst ek
          have : ok = o := by have := ho; simp at this; rw [hk] at this; simpa using this
          subst this
          exact getD_set_true (hall e' he' hb')
        · have : listed.getD k false = true := by
            have h2 := hlk
            simp only [Array.getD_eq_getD_getElem?, Array.getElem?_setIfInBounds, if_neg (Ne.symm ek)] at h2 ⊢
            exact h2
          exact getD_set_true (hd k ok hk this e' he' hb')
      have hom : o ∈ l := List.mem_of_getElem? (by simpa using ho)
      have ho2 : (l ++ [z]).toArray[i]? = some o := by simpa [List.getElem?_append_left hil] using ho
      unfold wpOp at h1 ⊢
      simp only [ho] at h1
      simp only [ho2, wanted_app hg hom]
      rw [setl listed i (by omega)]
      split
      · rename_i hwn
        simp only [hwn, if_true] at h1
        exact h1.imp (Oper.wp_post (fun a' w' hx => ih _ a' w' (by simpa using hs) hdn hx) (fun _ _ _ hx => hx) (fun hx => hx)) (fun ⟨x, y⟩ => ⟨x, y⟩)
      · rename_i hwn
        simp only [hwn] at h1
        exact ih _ _ _ (by simpa using hs) hdn h1

theorem any_last0 {Q : Exit → Act → World → Prop} {C : World → Prop} {a : Act} {w : World} (hB : Region.lexB .any l.toArray = true) (hw : waitsB l z = true) (hb : backzB l z = true) (hg : guardB l = true) (hz : z.guard = none)
    (hC : C { w with drawn := w.drawn + 1 }) (h : wpQuiet P l.toArray C (fun a' => ∀ w', C w' → z.wp P a' w' (fun a w => Q .normal a w) Q) l a) :
    wpAny P .any (l ++ [z]).toArray Q (l ++ [z]).toArray.size (Array.replicate (l ++ [z]).toArray.size false) a { w with drawn := w.drawn + 1 } := by
  simp only [Region.lexB, Bool.and_eq_true] at hB
  have h1 := wpAnyQ_lex (C := C) (md := .any) hB.1 l 0 (Array.replicate l.length false) a (by simp) (by simpa using hB.2) h
  have h2 := wpAny_of_quiet (md := .any) (Q := fun a' => ∀ w', C w' → z.wp P a' w' (fun a w => Q .normal a w) Q) (Q' := LastQ P z Q) (fun _ w' hw' h => h w' hw') _ _ _ { w with drawn := w.drawn + 1 } hC h1
  have h3 := any_last hw hb hg hz l.length (Array.replicate l.length false) a _ (by simp) (fun k o _ hk => by simp [Array.getD] at hk) h2
  have e : (Array.replicate l.length false).push false = Array.replicate (l ++ [z]).toArray.size false := by simp [Array.replicate_succ]
  rw [e] at h3
  simpa using h3

/-- a region that reads, calls what makes memory, and writes at its end -/
theorem wp_region_last {id : Nat} {Q : Exit → Act → World → Prop} {a : Act} {w : World} {L : List Oper} (hS : Split L l z) (hm : P.follows .mixedOrders = true) (hB : (Region.lexB .any l.toArray && waitsB l z && backzB l z && guardB l) = true) (hz : z.guard = none)
    (h : wpQuiet P l.toArray (fun w' => ∃ p : Regrown, w' = grow (redrawn w p.d) p.os) (fun a' => ∀ w', (∃ p : Regrown, w' = grow (redrawn w p.d) p.os) → z.wp P a' w' (fun a w => Q .normal a w) Q) l a) : (Code.region id L.toArray true).wp P Q a w := by
  rw [hS.eq]
  simp only [Bool.and_eq_true] at hB
  exact wp_region_any hm (any_last0 (C := fun w' => ∃ p : Regrown, w' = grow (redrawn w p.d) p.os) hB.1.1.1 hB.1.1.2 hB.1.2 hB.2 hz ⟨⟨w.drawn + 1, #[]⟩, by rw [grow_empty]; rfl⟩ h)

/-! ### within a round -/
def noDeferB (L : List Oper) : Bool := L.all fun o => match o.op with | .defer _ => false | _ => true
theorem noDefer_spec {L : List Oper} (h : noDeferB L = true) {o : Oper} (ho : o ∈ L) : ∀ c, o.op ≠ .defer c := by
  intro c hc
  have := List.all_eq_true.1 h o ho
  simp [hc] at this

theorem rows_in {k n : Nat} {row : String} {args : Array Value} {w : World} {R : Value → World → Prop} (h : Rows P row args w R) : RowsIn (Fence.wide.inRound k) n P row args w R :=
  fun c cs _ => let ⟨v, w', r, s⟩ := h c cs; ⟨v, w', r, stepsIn_wide.2 s⟩
theorem oper_in {k n : Nat} {o : Oper} {a : Act} {w : World} {K : Act → World → Prop} {Q : Exit → Act → World → Prop} (hd : ∀ c, o.op ≠ .defer c) (h : o.wp P a w K Q) : o.wpIn (Fence.wide.inRound k) n P a w K Q := by
  refine ⟨fun _ _ => trivial, ?_⟩
  rw [Oper.semAt_eq _ _ _ hd]
  unfold Oper.wp at h
  generalize (execOp a.eval o).run P w = r at *
  cases r with
  | ok x w' =>
    cases x <;> simp only [Oper.upon] at h <;> simp only [Oper.uponIn] <;>
      first
        | exact h
        | exact ⟨fun q => by simp [Fence.inRound, Fence.wide] at q, callsIn_wide.2 h⟩
        | exact ⟨fun q => by simp [Fence.inRound, Fence.wide] at q, rows_in h⟩
  | halt x w' => cases x <;> simp only [Oper.upon] at h <;> simp only [Oper.uponIn] <;> exact h
theorem any_in {k n : Nat} {L : List Oper} (hd : noDeferB L = true) {Q : Exit → Act → World → Prop} (hQ : ¬ LetsOut Q) : ∀ (fuel : Nat) (listed : Array Bool) (a : Act) (w : World), wpAny P .any L.toArray Q fuel listed a w → wpAnyIn (Fence.wide.inRound k) n P .any L.toArray Q fuel listed a w := by
  intro fuel
  induction fuel with
  | zero => exact fun _ _ _ h => h
  | succ fuel ih =>
    intro listed a w h
    refine ⟨h.1, fun i hi => ?_⟩
    have h1 := h.2 i hi
    unfold wpOp at h1
    unfold wpOpIn
    cases ho : L.toArray[i]? with
    | none => simp only [ho] at h1 ⊢; exact ih _ _ _ h1
    | some o =>
      simp only [ho] at h1 ⊢
      have hom : o ∈ L := List.mem_of_getElem? (by simpa using ho)
      split
      · rename_i hwn
        simp only [hwn, if_true] at h1
        rcases h1 with h1 | ⟨_, h1⟩
        · exact Oper.wpIn_mono (fun a' w' => ih _ a' w') (oper_in (noDefer_spec hd hom) h1)
        · exact (hQ h1).elim
      · rename_i hwn
        simp only [hwn] at h1
        exact ⟨fun _ _ => trivial, ih _ _ _ h1⟩

theorem then_out {K : Act → World → Prop} : ¬ LetsOut (Exit.then K (fun _ _ _ => False)) := fun ⟨_, _, h⟩ => h
theorem round_mono {k n : Nat} {C : Code} {R : Exit → Act → World → Prop} {a : Act} {w : World} (h : C.wpIn (Fence.wide.inRound k) n P (Exit.then (fun a w => R .normal a w) (fun _ _ _ => False)) a w) : C.wpIn (Fence.wide.inRound k) n P R a w :=
  wpIn_mono h (fun e _ _ hq => by cases e <;> first | exact hq | exact hq.elim)

theorem wpQuiet_mono' {ops : Array Oper} {C : World → Prop} {R R' : Act → Prop} : ∀ {l : List Oper} {a : Act}, wpQuiet P ops C R l a → (∀ a, R a → R' a) → wpQuiet P ops C R' l a
  | [], _, h, k => k _ h
  | o :: r, a, h, k => by
    unfold wpQuiet at h ⊢
    split
    · rename_i hw
      simp only [hw, if_true] at h
      exact Oper.quiet_mono (fun a' h' => wpQuiet_mono' h' k) h
    · rename_i hw
      simp only [hw] at h
      exact wpQuiet_mono' h k

/-- within a round: all but the last only read, or call what makes memory -/
theorem round_last {k n id : Nat} {R : Exit → Act → World → Prop} {a : Act} {w : World} {L : List Oper} (hS : Split L l z) (hm : P.follows .mixedOrders = true) (hB : (Region.lexB .any l.toArray && waitsB l z && backzB l z && guardB l && noDeferB L) = true) (hz : z.guard = none)
    (h : wpQuiet P l.toArray (fun w' => ∃ p : Regrown, w' = grow (redrawn w p.d) p.os) (fun a' => ∀ w', (∃ p : Regrown, w' = grow (redrawn w p.d) p.os) → z.wp P a' w' (fun a w => R .normal a w) (fun _ _ _ => False)) l a) : (Code.region id L.toArray true).wpIn (Fence.wide.inRound k) n P R a w := by
  refine round_mono ?_
  simp only [Bool.and_eq_true] at hB
  obtain ⟨⟨⟨⟨b1, b2⟩, b3⟩, b4⟩, b5⟩ := hB
  refine wpIn_region_any hm ?_
  refine any_in b5 then_out _ _ _ _ ?_
  rw [hS.eq]
  refine any_last0 (C := fun w' => ∃ p : Regrown, w' = grow (redrawn w p.d) p.os) b1 b2 b3 b4 hz ⟨⟨w.drawn + 1, #[]⟩, by rw [grow_empty]; rfl⟩ ?_
  refine wpQuiet_mono' h (fun a' h' w' hw' => ?_)
  exact Oper.wp_post (fun _ _ hx => hx) (fun _ _ _ hx => hx.elim) (fun hx => by obtain ⟨_, _, hx⟩ := hx; exact hx.elim) (h' w' hw')

/-- within a round: all only read, or call what makes memory -/
theorem round_quiet {k n id : Nat} {R : Exit → Act → World → Prop} {a : Act} {w : World} {L : List Oper} (hm : P.follows .mixedOrders = true) (hB : (Region.lexB .any L.toArray && noDeferB L) = true)
    (h : wpQuiet P L.toArray (fun w' => ∃ p : Regrown, w' = grow (redrawn w p.d) p.os) (fun a' => ∀ w', (∃ p : Regrown, w' = grow (redrawn w p.d) p.os) → R .normal a' w') L a) : (Code.region id L.toArray true).wpIn (Fence.wide.inRound k) n P R a w := by
  refine round_mono ?_
  simp only [Bool.and_eq_true] at hB
  obtain ⟨b1, b5⟩ := hB
  refine wpIn_region_any hm ?_
  refine any_in b5 then_out _ _ _ { w with drawn := w.drawn + 1 } ?_
  simp only [Region.lexB, Bool.and_eq_true] at b1
  have h1 := wpAnyQ_lex (md := .any) b1.1 L 0 (Array.replicate L.length false) a (by simp) (by simpa using b1.2) h
  exact wpAny_of_quiet (md := .any) (C := fun w' => ∃ p : Regrown, w' = grow (redrawn w p.d) p.os) (Q := fun a' => ∀ w', (∃ p : Regrown, w' = grow (redrawn w p.d) p.os) → R .normal a' w') (Q' := Exit.then (fun a w => R .normal a w) (fun _ _ _ => False)) (fun _ w' hw' h => h w' hw') _ _ _ { w with drawn := w.drawn + 1 } ⟨⟨w.drawn + 1, #[]⟩, by rw [grow_empty]; rfl⟩ (by simpa using h1)
end
end Go.Proofs.Ytekljiakofmhnaa
