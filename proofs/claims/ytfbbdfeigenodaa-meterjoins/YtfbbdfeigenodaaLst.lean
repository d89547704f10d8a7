/- Counters as a list by rising names: laid in, looked up; how a map of counters reads. -/
import Derived.Test.YtfbbdfeigenodaaFlt
import Derived.Sort.KeysCollected
import Derived.Maps.RangeWalk
namespace Go.Proofs.Ytfbbdfeigenodaa
open Go.RowKit

abbrev Ent := List UInt8 × Nat × Nat
def Srt (L : List Ent) : Prop := L.Pairwise (fun x y => x.1 < y.1)
def insE (x : Ent) : List Ent → List Ent
  | [] => [x]
  | y :: r => if x.1 < y.1 then x :: y :: r else if x.1 = y.1 then x :: r else y :: insE x r
def lookE (s : List UInt8) : List Ent → Option (Nat × Nat)
  | [] => none
  | y :: r => if y.1 = s then some y.2 else lookE s r

theorem lt_irr (a : List UInt8) : ¬ a < a := List.lt_irrefl a
theorem lt_ne {a b : List UInt8} (h : a < b) : a ≠ b := fun e => lt_irr b (e ▸ h)
theorem lt_tri {a b : List UInt8} (h1 : ¬ a < b) (h2 : a ≠ b) : b < a := by
  have h : b ≤ a := List.not_lt.1 h1
  rcases Classical.em (b < a) with g | g
  · exact g
  · exact absurd (List.le_antisymm (List.not_lt.1 g) h) h2
theorem lt_asy {a b : List UInt8} (h1 : a < b) : ¬ b < a := fun h2 => lt_irr a (List.lt_trans h1 h2)

theorem lookE_cons (s : List UInt8) (y : Ent) (r : List Ent) : lookE s (y :: r) = if y.1 = s then some y.2 else lookE s r := rfl
theorem lookE_none {s : List UInt8} : ∀ {L : List Ent}, lookE s L = none ↔ ∀ y ∈ L, y.1 ≠ s
  | [] => by simp [lookE]
  | y :: r => by
    unfold lookE
    by_cases h : y.1 = s
    · simp [h]
    · rw [if_neg h, lookE_none]
      simp [h]
theorem lookE_some {s : List UInt8} {p : Nat × Nat} : ∀ {L : List Ent}, lookE s L = some p → (s, p) ∈ L
  | [], h => by simp [lookE] at h
  | y :: r, h => by
    unfold lookE at h
    by_cases g : y.1 = s
    · rw [if_pos g] at h
      simp at h
      subst h
      subst g
      simp
    · rw [if_neg g] at h
      exact List.mem_cons_of_mem _ (lookE_some h)

theorem lookE_insE (x : Ent) (s : List UInt8) : ∀ L : List Ent, lookE s (insE x L) = if x.1 = s then some x.2 else lookE s L
  | [] => by simp [insE, lookE]
  | y :: r => by
    unfold insE
    by_cases h : x.1 < y.1
    · rw [if_pos h]; rfl
    · rw [if_neg h]
      by_cases h2 : x.1 = y.1
      · rw [if_pos h2]
        show (if x.1 = s then some x.2 else lookE s r) = if x.1 = s then some x.2 else (if y.1 = s then some y.2 else lookE s r)
        by_cases h3 : x.1 = s
        · rw [if_pos h3, if_pos h3]
        · rw [if_neg h3, if_neg h3, if_neg (h2 ▸ h3)]
      · rw [if_neg h2]
        show (if y.1 = s then some y.2 else lookE s (insE x r)) = if x.1 = s then some x.2 else (if y.1 = s then some y.2 else lookE s r)
        rw [lookE_insE x s r]
        by_cases h3 : y.1 = s
        · rw [if_pos h3, if_pos h3, if_neg (fun e => h2 (e.trans h3.symm))]
        · rw [if_neg h3, if_neg h3]

theorem mem_insE {x z : Ent} : ∀ {L : List Ent}, z ∈ insE x L → z = x ∨ z ∈ L
  | [], h => by simpa [insE] using h
  | y :: r, h => by
    unfold insE at h
    split at h
    · simpa using h
    · split at h
      · rcases List.mem_cons.1 h with h | h
        · exact .inl h
        · exact .inr (List.mem_cons_of_mem _ h)
      · rcases List.mem_cons.1 h with h | h
        · exact .inr (by simp [h])
        · rcases mem_insE h with h | h
          · exact .inl h
          · exact .inr (List.mem_cons_of_mem _ h)

theorem srt_insE (x : Ent) : ∀ {L : List Ent}, Srt L → Srt (insE x L)
  | [], _ => by simp [insE, Srt]
  | y :: r, h => by
    obtain ⟨h1, h2⟩ := List.pairwise_cons.1 h
    unfold insE
    by_cases g : x.1 < y.1
    · rw [if_pos g]
      refine List.pairwise_cons.2 ⟨fun z hz => ?_, h⟩
      rcases List.mem_cons.1 hz with rfl | hz
      · exact g
      · exact List.lt_trans g (h1 z hz)
    · rw [if_neg g]
      by_cases g2 : x.1 = y.1
      · rw [if_pos g2]
        exact List.pairwise_cons.2 ⟨fun z hz => g2 ▸ h1 z hz, h2⟩
      · rw [if_neg g2]
        refine List.pairwise_cons.2 ⟨fun z hz => ?_, srt_insE x h2⟩
        rcases mem_insE hz with rfl | hz
        · exact lt_tri g g2
        · exact h1 z hz

theorem lookE_head {x : Ent} {r : List Ent} (h : ∀ z ∈ r, x.1 < z.1) {s : List UInt8} (hs : s < x.1 ∨ s = x.1) : lookE s r = none :=
  lookE_none.2 fun z hz e => by
    have h1 := h z hz
    rw [e] at h1
    rcases hs with hs | hs
    · exact lt_asy h1 hs
    · exact lt_ne h1 hs.symm

theorem len_insE {x : Ent} : ∀ {L : List Ent}, Srt L → (insE x L).length = if (lookE x.1 L).isSome then L.length else L.length + 1
  | [], _ => by simp [insE, lookE]
  | y :: r, h => by
    obtain ⟨h1, h2⟩ := List.pairwise_cons.1 h
    unfold insE
    by_cases g : x.1 < y.1
    · rw [if_pos g]
      have : lookE x.1 (y :: r) = none := by
        unfold lookE
        rw [if_neg (fun e => lt_ne g e.symm), lookE_head h1 (.inl g)]
      rw [this]; simp
    · rw [if_neg g]
      by_cases g2 : x.1 = y.1
      · rw [if_pos g2]
        have : lookE x.1 (y :: r) = some y.2 := by unfold lookE; rw [if_pos g2.symm]
        rw [this]; simp
      · rw [if_neg g2]
        have : lookE x.1 (y :: r) = lookE x.1 r := by
          show (if y.1 = x.1 then some y.2 else lookE x.1 r) = _
          rw [if_neg (fun e => g2 e.symm)]
        rw [this]
        simp only [List.length_cons, len_insE h2]
        split <;> rfl

theorem srt_ext : ∀ {L L' : List Ent}, Srt L → Srt L' → (∀ s, lookE s L = lookE s L') → L = L'
  | [], [], _, _, _ => rfl
  | [], y :: r, _, _, h => by
    have := h y.1
    simp [lookE] at this
  | x :: r, [], _, _, h => by
    have := h x.1
    simp [lookE] at this
  | x :: r, y :: q, hx, hy, h => by
    obtain ⟨a1, a2⟩ := List.pairwise_cons.1 hx
    obtain ⟨b1, b2⟩ := List.pairwise_cons.1 hy
    have e1 : x.1 = y.1 := by
      rcases Classical.em (x.1 < y.1) with g | g
      · have := h x.1
        have e : lookE x.1 (y :: q) = none := by
          unfold lookE
          rw [if_neg (fun e => lt_ne g e.symm), lookE_head b1 (.inl g)]
        rw [e] at this
        simp [lookE] at this
      · rcases Classical.em (x.1 = y.1) with g2 | g2
        · exact g2
        · have g3 := lt_tri g g2
          have := h y.1
          have e : lookE y.1 (x :: r) = none := by
            unfold lookE
            rw [if_neg g2, lookE_head a1 (.inl g3)]
          rw [e] at this
          simp [lookE] at this
    have e2 : x = y := by
      have := h x.1
      simp [lookE, e1] at this
      exact Prod.ext e1 this
    subst e2
    rw [srt_ext a2 b2 (fun s => ?_)]
    by_cases g : x.1 = s
    · rw [lookE_head a1 (.inr g.symm), lookE_head b1 (.inr g.symm)]
    · have := h s
      simpa [lookE, g] using this

/-! ### the place -/
theorem srt_get {L : List Ent} (h : Srt L) {i : Nat} {x : Ent} (hi : L[i]? = some x) : lookE x.1 L = some x.2 := by
  induction L generalizing i with
  | nil => simp at hi
  | cons y r ih =>
    obtain ⟨h1, h2⟩ := List.pairwise_cons.1 h
    cases i with
    | zero => simp at hi; subst hi; simp [lookE]
    | succ j =>
      simp at hi
      have hx : x ∈ r := List.mem_of_getElem? hi
      unfold lookE
      rw [if_neg (lt_ne (h1 x hx))]
      exact ih h2 hi
theorem set_insE {L : List Ent} (h : Srt L) {i : Nat} {x y : Ent} (hi : L[i]? = some y) (hxy : x.1 = y.1) : L.set i x = insE x L := by
  induction L generalizing i with
  | nil => simp at hi
  | cons z r ih =>
    obtain ⟨h1, h2⟩ := List.pairwise_cons.1 h
    cases i with
    | zero =>
      simp at hi; subst hi
      unfold insE
      rw [if_neg (hxy ▸ lt_irr _), if_pos hxy]
      rfl
    | succ j =>
      simp at hi
      have hx : y ∈ r := List.mem_of_getElem? hi
      have g := h1 y hx
      unfold insE
      rw [hxy, if_neg (lt_asy g), if_neg (fun e => lt_ne g e.symm), List.set_cons_succ, ih h2 hi]
theorem cut_insE {L : List Ent} (h : Srt L) {x : Ent} (hn : lookE x.1 L = none) {k : Nat} (hk : k ≤ L.length) (hb : ∀ y ∈ L.take k, y.1 < x.1) (ha : ∀ y, L[k]? = some y → ¬ y.1 < x.1) : L.take k ++ x :: L.drop k = insE x L := by
  induction L generalizing k with
  | nil => simp [insE]
  | cons z r ih =>
    obtain ⟨h1, h2⟩ := List.pairwise_cons.1 h
    have hz : z.1 ≠ x.1 := lookE_none.1 hn z (by simp)
    cases k with
    | zero =>
      have g := ha z (by simp)
      unfold insE
      rw [if_pos (lt_tri g hz)]
      simp
    | succ j =>
      have g := hb z (by simp)
      unfold insE
      rw [if_neg (lt_asy g), if_neg (fun e => hz e.symm)]
      rw [← ih h2 (lookE_none.2 fun y hy => lookE_none.1 hn y (by simp [hy])) (k := j) (by simpa using hk) (fun y hy => hb y (by simp [hy])) (fun y hy => ha y (by simpa using hy))]
      simp

/-! ### the map -/
def cd (a b : Nat) : DataW Unit := .agg [.lit (.float .f64 a), .lit (.float .f64 b)]
def cElem : Value → Option (DataW Unit × List MemPlace)
  | .complex .f64 a b => some (cd a b, [])
  | _ => none
theorem cElem_inv {v : Value} {z : DataW Unit × List MemPlace} (h : cElem v = some z) : ∃ a b, v = .complex .f64 a b ∧ z = (cd a b, []) := by
  unfold cElem at h
  split at h
  · cases h; exact ⟨_, _, rfl, rfl⟩
  · cases h

theorem before_lt : ∀ a b : List UInt8, bytesBefore a b = decide (a < b)
  | [], [] => by simp [bytesBefore]
  | [], _ :: _ => by simp [bytesBefore]
  | _ :: _, [] => by simp [bytesBefore]
  | a :: r, b :: s => by
    unfold bytesBefore
    rw [before_lt r s]
    by_cases h : a < b
    · simp [h, List.cons_lt_cons_iff]
    · by_cases h2 : a = b
      · subst h2
        simp
      · simp [h, h2, List.cons_lt_cons_iff]

def rowE (x : Ent) : Lit × DataW Unit := (.string x.1, cd (F x.2.1) (F x.2.2))
def dm (L : List Ent) : DataW Unit := .map (L.map rowE)

theorem dm_size (L : List Ent) : Maps.size (dm L) = L.length := by simp [dm, Maps.size]
theorem dm_has (s : List UInt8) : ∀ L : List Ent, Maps.has (dm L) (.string s) = (lookE s L).isSome
  | [] => rfl
  | y :: r => by
    have ih := dm_has s r
    have e : ∀ l : List Ent, Maps.has (dm l) (.string s) = (l.map rowE).any (fun p => p.1.sameKey (.string s)) := fun _ => rfl
    rw [e] at ih ⊢
    rw [List.map_cons, List.any_cons, ih, lookE_cons]
    have e2 : (rowE y).1.sameKey (.string s) = (y.1 == s) := rfl
    rw [e2]
    by_cases h : y.1 = s
    · rw [if_pos h, beq_iff_eq.2 h]; rfl
    · rw [if_neg h, beq_eq_false_iff_ne.2 h]; rfl
theorem dm_at (s : List UInt8) (z : DataW Unit) : ∀ L : List Ent, (dm L).atKey (.string s) z = match lookE s L with | some p => cd (F p.1) (F p.2) | none => z
  | [] => rfl
  | y :: r => by
    have ih := dm_at s z r
    have e : ∀ l : List Ent, (dm l).atKey (.string s) z = ((l.map rowE).find? (fun p => p.1.sameKey (.string s))).elim z (·.2) := fun l => by
      unfold dm DataW.atKey
      dsimp only
      cases (l.map rowE).find? (fun p => p.1.sameKey (.string s)) <;> rfl
    rw [e] at ih ⊢
    rw [List.map_cons, List.find?_cons, lookE_cons]
    have e2 : (rowE y).1.sameKey (.string s) = (y.1 == s) := rfl
    by_cases h : y.1 = s
    · rw [if_pos h, e2, beq_iff_eq.2 h]; rfl
    · rw [if_neg h, e2, beq_eq_false_iff_ne.2 h]
      exact ih
theorem dm_keys (L : List Ent) : strKeys (dm L) = L.map (·.1) := by
  unfold dm strKeys
  simp only [List.map_map]
  rfl

theorem filt_none {s : List UInt8} : ∀ {L : List Ent}, lookE s L = none → (L.map rowE).filter (ChangeMaps.notKey (.string s)) = L.map rowE := fun {L} h => by
  rw [List.filter_eq_self]
  intro p hp
  obtain ⟨y, hy, rfl⟩ := List.mem_map.1 hp
  have := lookE_none.1 h y hy
  simp [ChangeMaps.notKey, rowE, Lit.sameKey, this]

theorem ins_lt {x : Ent} : ∀ {L : List Ent}, (∀ y ∈ L, x.1 < y.1) → DataW.insert (rowE x) (L.map rowE) = (x :: L).map rowE
  | [], _ => rfl
  | y :: r, h => by
    have e : (rowE x).1.before (rowE y).1 = true := by
      show bytesBefore x.1 y.1 = true
      rw [before_lt]
      exact decide_eq_true (h y (by simp))
    rw [List.map_cons]
    unfold DataW.insert
    rw [if_pos e]
    rfl

theorem dm_put (x : Ent) : ∀ {L : List Ent}, Srt L → (dm L).put (.string x.1) (cd (F x.2.1) (F x.2.2)) = dm (insE x L) := by
  suffices H : ∀ {L : List Ent}, Srt L → DataW.insert (rowE x) ((L.map rowE).filter (ChangeMaps.notKey (.string x.1))) = (insE x L).map rowE by
    intro L h
    unfold dm
    rw [DataW.put_eq]
    unfold ChangeMaps.putKey
    exact congrArg DataW.map (H h)
  intro L
  induction L with
  | nil => intro _; rfl
  | cons y r ih =>
    intro h
    obtain ⟨h1, h2⟩ := List.pairwise_cons.1 h
    unfold insE
    by_cases g : x.1 < y.1
    · rw [if_pos g, filt_none (lookE_none.2 ?_)]
      · refine ins_lt fun z hz => ?_
        rcases List.mem_cons.1 hz with rfl | hz
        · exact g
        · exact List.lt_trans g (h1 z hz)
      · intro z hz e
        rcases List.mem_cons.1 hz with rfl | hz
        · exact lt_ne g e.symm
        · exact lt_ne (List.lt_trans g (h1 z hz)) e.symm
    · rw [if_neg g]
      by_cases g2 : x.1 = y.1
      · rw [if_pos g2, List.map_cons]
        have e : ChangeMaps.notKey (.string x.1) (rowE y) = false := by simp [ChangeMaps.notKey, rowE, Lit.sameKey, g2]
        rw [List.filter_cons, e]
        simp only [Bool.false_eq_true, if_false]
        rw [filt_none (lookE_head h1 (.inr g2))]
        exact ins_lt fun z hz => g2 ▸ h1 z hz
      · rw [if_neg g2, List.map_cons]
        have e : ChangeMaps.notKey (.string x.1) (rowE y) = true := by
          have : ¬ y.1 = x.1 := fun e => g2 e.symm
          simp [ChangeMaps.notKey, rowE, Lit.sameKey, this]
        rw [List.filter_cons, e, if_pos rfl]
        have e2 : (rowE x).1.before (rowE y).1 = false := by
          show bytesBefore x.1 y.1 = false
          rw [before_lt]
          exact decide_eq_false g
        unfold DataW.insert
        rw [e2]
        simp only [Bool.false_eq_true, if_false, List.map_cons]
        rw [ih h2]

theorem keys_sorted {L : List Ent} (h : Srt L) {ss : List (List UInt8)} (hp : ss.Perm (L.map (·.1))) : ss.mergeSort (fun x y => decide (x ≤ y)) = L.map (·.1) := by
  rw [mergeSort_of_perm hp]
  refine List.mergeSort_of_pairwise ?_
  rw [List.pairwise_map]
  refine List.Pairwise.imp ?_ h
  intro a b g
  exact decide_eq_true (List.le_of_lt g)

end Go.Proofs.Ytfbbdfeigenodaa
