/- Entries by rising numbers, as a list: laid in, taken out, looked up; how a map by integers whose elements are of any kind reads. -/
import Derived.Test.YtjcigoojlmalnaaKit
import Derived.Maps.OwnSet
import Derived.Maps.RangeWalk
namespace Go.Proofs.Ytjcigoojlmalnaa
open Go.RowKit

section
variable {β : Type}
def SrtN (L : List (Nat × β)) : Prop := L.Pairwise (fun x y => x.1 < y.1)
def insN (x : Nat × β) : List (Nat × β) → List (Nat × β)
  | [] => [x]
  | y :: r => if x.1 < y.1 then x :: y :: r else if x.1 = y.1 then x :: r else y :: insN x r
def lookN (k : Nat) : List (Nat × β) → Option β
  | [] => none
  | y :: r => if y.1 = k then some y.2 else lookN k r
def delN (k : Nat) (L : List (Nat × β)) : List (Nat × β) := L.filter (fun y => !(y.1 == k))

theorem lookN_cons (s : Nat) (y : Nat × β) (r : List (Nat × β)) : lookN s (y :: r) = if y.1 = s then some y.2 else lookN s r := rfl
theorem lookN_ne {s : Nat} {y : Nat × β} {r : List (Nat × β)} (h : y.1 ≠ s) : lookN s (y :: r) = lookN s r := by rw [lookN_cons, if_neg h]
theorem lookN_eq {s : Nat} {y : Nat × β} {r : List (Nat × β)} (h : y.1 = s) : lookN s (y :: r) = some y.2 := by rw [lookN_cons, if_pos h]
theorem lookN_none {s : Nat} : ∀ {L : List (Nat × β)}, lookN s L = none ↔ ∀ y ∈ L, y.1 ≠ s
  | [] => by simp [lookN]
  | y :: r => by
    rw [lookN_cons]
    by_cases h : y.1 = s
    · simp [h]
    · rw [if_neg h, lookN_none]
      simp [h]
theorem lookN_some {s : Nat} {p : β} : ∀ {L : List (Nat × β)}, lookN s L = some p → (s, p) ∈ L
  | [], h => by simp [lookN] at h
  | y :: r, h => by
    rw [lookN_cons] at h
    by_cases g : y.1 = s
    · rw [if_pos g] at h
      simp at h
      subst h
      subst g
      simp
    · rw [if_neg g] at h
      exact List.mem_cons_of_mem _ (lookN_some h)
theorem lookN_mem {L : List (Nat × β)} (h : SrtN L) {x : Nat × β} (hx : x ∈ L) : lookN x.1 L = some x.2 := by
  induction L with
  | nil => simp at hx
  | cons y r ih =>
    obtain ⟨h1, h2⟩ := List.pairwise_cons.1 h
    rw [lookN_cons]
    rcases List.mem_cons.1 hx with rfl | hx
    · rw [if_pos rfl]
    · rw [if_neg (by have := h1 x hx; omega)]
      exact ih h2 hx
theorem lookN_insN (x : Nat × β) (s : Nat) : ∀ L : List (Nat × β), lookN s (insN x L) = if x.1 = s then some x.2 else lookN s L
  | [] => by simp [insN, lookN]
  | y :: r => by
    unfold insN
    by_cases h : x.1 < y.1
    · rw [if_pos h]; rfl
    · rw [if_neg h]
      by_cases h2 : x.1 = y.1
      · rw [if_pos h2, lookN_cons, lookN_cons]
        by_cases h3 : x.1 = s
        · rw [if_pos h3, if_pos h3]
        · rw [if_neg h3, if_neg h3, if_neg (h2 ▸ h3)]
      · rw [if_neg h2, lookN_cons, lookN_cons, lookN_insN x s r]
        by_cases h3 : y.1 = s
        · rw [if_pos h3, if_pos h3, if_neg (fun e => h2 (e.trans h3.symm))]
        · rw [if_neg h3, if_neg h3]
theorem mem_insN {x z : Nat × β} : ∀ {L : List (Nat × β)}, z ∈ insN x L → z = x ∨ z ∈ L
  | [], h => by simpa [insN] using h
  | y :: r, h => by
    unfold insN at h
    split at h
    · simpa using h
    · split at h
      · rcases List.mem_cons.1 h with h | h
        · exact .inl h
        · exact .inr (List.mem_cons_of_mem _ h)
      · rcases List.mem_cons.1 h with h | h
        · exact .inr (by simp [h])
        · rcases mem_insN h with h | h
          · exact .inl h
          · exact .inr (List.mem_cons_of_mem _ h)
theorem srt_insN (x : Nat × β) : ∀ {L : List (Nat × β)}, SrtN L → SrtN (insN x L)
  | [], _ => by simp [insN, SrtN]
  | y :: r, h => by
    obtain ⟨h1, h2⟩ := List.pairwise_cons.1 h
    unfold insN
    by_cases g : x.1 < y.1
    · rw [if_pos g]
      refine List.pairwise_cons.2 ⟨fun z hz => ?_, h⟩
      rcases List.mem_cons.1 hz with rfl | hz
      · exact g
      · exact Nat.lt_trans g (h1 z hz)
    · rw [if_neg g]
      by_cases g2 : x.1 = y.1
      · rw [if_pos g2]
        exact List.pairwise_cons.2 ⟨fun z hz => g2 ▸ h1 z hz, h2⟩
      · rw [if_neg g2]
        refine List.pairwise_cons.2 ⟨fun z hz => ?_, srt_insN x h2⟩
        rcases mem_insN hz with rfl | hz
        · omega
        · exact h1 z hz
/-- what else was there is there -/
theorem mem_insN_other {x z : Nat × β} {L : List (Nat × β)} (hz : z ∈ insN x L) (hne : z.1 ≠ x.1) : z ∈ L := by
  rcases mem_insN hz with rfl | hz
  · exact absurd rfl hne
  · exact hz
theorem insN_only {x z : Nat × β} {L : List (Nat × β)} (h : SrtN L) (hz : z ∈ insN x L) (he : z.1 = x.1) : z = x := by
  have h1 := lookN_mem (srt_insN x h) hz
  rw [lookN_insN, if_pos he.symm] at h1
  exact Prod.ext he (by simpa using h1.symm)
theorem self_insN (x : Nat × β) : ∀ L : List (Nat × β), x ∈ insN x L
  | [] => by simp [insN]
  | y :: r => by
    unfold insN
    split
    · simp
    · split
      · simp
      · exact List.mem_cons_of_mem _ (self_insN x r)
theorem insN_keep {x z : Nat × β} : ∀ {L : List (Nat × β)}, z ∈ L → z.1 ≠ x.1 → z ∈ insN x L
  | [], h, _ => by simp at h
  | y :: r, h, hne => by
    unfold insN
    split
    · exact List.mem_cons_of_mem _ h
    · split
      · rename_i e
        rcases List.mem_cons.1 h with rfl | h
        · exact absurd e.symm hne
        · exact List.mem_cons_of_mem _ h
      · rcases List.mem_cons.1 h with rfl | h
        · simp
        · exact List.mem_cons_of_mem _ (insN_keep h hne)
theorem mem_delN {k : Nat} {z : Nat × β} {L : List (Nat × β)} : z ∈ delN k L ↔ z ∈ L ∧ z.1 ≠ k := by
  unfold delN
  rw [List.mem_filter]
  simp
theorem srt_delN (k : Nat) {L : List (Nat × β)} (h : SrtN L) : SrtN (delN k L) := List.Pairwise.filter _ h
theorem lookN_delN (k s : Nat) : ∀ L : List (Nat × β), lookN s (delN k L) = if s = k then none else lookN s L
  | [] => by simp [delN, lookN]
  | y :: r => by
    have ih := lookN_delN k s r
    unfold delN at ih ⊢
    rw [List.filter_cons, lookN_cons]
    by_cases h : y.1 = k
    · rw [if_neg (by simp [h]), ih]
      by_cases g : s = k
      · rw [if_pos g, if_pos g]
      · rw [if_neg g, if_neg g, if_neg (fun e => g (e.symm.trans h))]
    · rw [if_pos (by simp [h]), lookN_cons, ih]
      by_cases g : s = k
      · subst g
        rw [if_neg h, if_pos rfl, if_pos rfl]
      · rw [if_neg g, if_neg g]
theorem delN_none {k : Nat} {L : List (Nat × β)} (h : lookN k L = none) : delN k L = L := by
  unfold delN
  rw [List.filter_eq_self]
  intro y hy
  have := lookN_none.1 h y hy
  simp [this]
theorem lookN_head {x : Nat × β} {r : List (Nat × β)} (h : ∀ z ∈ r, x.1 < z.1) {s : Nat} (hs : s ≤ x.1) : lookN s r = none :=
  lookN_none.2 fun z hz e => by have := h z hz; omega
theorem len_insN {x : Nat × β} : ∀ {L : List (Nat × β)}, SrtN L → (insN x L).length = if (lookN x.1 L).isSome then L.length else L.length + 1
  | [], _ => by simp [insN, lookN]
  | y :: r, h => by
    obtain ⟨h1, h2⟩ := List.pairwise_cons.1 h
    unfold insN
    by_cases g : x.1 < y.1
    · rw [if_pos g, lookN_ne (s := x.1) (y := y) (by omega), lookN_head h1 (s := x.1) (by omega)]; simp
    · rw [if_neg g]
      by_cases g2 : x.1 = y.1
      · rw [if_pos g2, lookN_eq (s := x.1) (y := y) g2.symm]; simp
      · rw [if_neg g2, lookN_ne (s := x.1) (y := y) (fun e => g2 e.symm)]
        simp only [List.length_cons, len_insN h2]
        split <;> rfl
theorem len_delN {k : Nat} : ∀ {L : List (Nat × β)}, SrtN L → (lookN k L).isSome = true → (delN k L).length + 1 = L.length
  | [], _, h => by simp [lookN] at h
  | y :: r, hS, h => by
    obtain ⟨h1, h2⟩ := List.pairwise_cons.1 hS
    rw [lookN_cons] at h
    have e : delN k (y :: r) = if y.1 = k then delN k r else y :: delN k r := by
      unfold delN
      rw [List.filter_cons]
      by_cases g : y.1 = k
      · rw [if_neg (by simp [g]), if_pos g]
      · rw [if_pos (by simp [g]), if_neg g]
    rw [e]
    by_cases g : y.1 = k
    · rw [if_pos g, delN_none (lookN_head h1 (by omega))]; rfl
    · rw [if_neg g] at h ⊢
      rw [List.length_cons, len_delN h2 h]; rfl
theorem lookN_get {L : List (Nat × β)} (h : SrtN L) {i : Nat} {x : Nat × β} (hi : L[i]? = some x) : lookN x.1 L = some x.2 := lookN_mem h (List.mem_of_getElem? hi)

theorem srt_ext : ∀ {L L' : List (Nat × β)}, SrtN L → SrtN L' → (∀ s, lookN s L = lookN s L') → L = L'
  | [], [], _, _, _ => rfl
  | [], y :: r, _, _, h => by
    have := h y.1
    simp [lookN] at this
  | x :: r, [], _, _, h => by
    have := h x.1
    simp [lookN] at this
  | x :: r, y :: q, hx, hy, h => by
    obtain ⟨a1, a2⟩ := List.pairwise_cons.1 hx
    obtain ⟨b1, b2⟩ := List.pairwise_cons.1 hy
    have e1 : x.1 = y.1 := by
      rcases Nat.lt_trichotomy x.1 y.1 with g | g | g
      · have := h x.1
        rw [lookN_cons, if_pos rfl, lookN_cons, if_neg (by omega), lookN_head b1 (by omega)] at this
        cases this
      · exact g
      · have := h y.1
        rw [lookN_cons, if_neg (by omega), lookN_head a1 (by omega), lookN_cons, if_pos rfl] at this
        cases this
    have e2 : x = y := by
      have := h x.1
      rw [lookN_cons, if_pos rfl, lookN_cons, if_pos e1.symm] at this
      exact Prod.ext e1 (by simpa using this)
    subst e2
    rw [srt_ext a2 b2 (fun s => ?_)]
    by_cases g : x.1 = s
    · rw [lookN_head a1 (by omega), lookN_head b1 (by omega)]
    · have := h s
      rwa [lookN_cons, lookN_cons, if_neg g, if_neg g] at this
end

/-! ### the map -/
/-- elements of any kind, each read as it is -/
def vE : Value → Option (DataW Value × List MemPlace) := fun v => some (.held v, [])

section
variable {β : Type} (q : IntKind)
def rowN (enc : Nat × β → Value) (x : Nat × β) : Lit × DataW Value := (.int q (x.1 : Int), .held (enc x))
def dmN (enc : Nat × β → Value) (L : List (Nat × β)) : DataW Value := .map (L.map (rowN q enc))

theorem dmN_size (enc : Nat × β → Value) (L : List (Nat × β)) : Maps.size (dmN q enc L) = L.length := by simp [dmN, Maps.size]
theorem same_int (a b : Nat) : (Lit.int q (a : Int)).sameKey (.int q (b : Int)) = (a == b) := by
  show decide (q = q ∧ (a : Int) = (b : Int)) = (a == b)
  by_cases h : a = b
  · subst h; simp
  · rw [beq_eq_false_iff_ne.2 h, decide_eq_false]
    rintro ⟨_, e⟩
    exact h (by omega)
theorem dmN_has (enc : Nat × β → Value) (s : Nat) : ∀ L : List (Nat × β), Maps.has (dmN q enc L) (.int q (s : Int)) = (lookN s L).isSome
  | [] => rfl
  | y :: r => by
    have ih := dmN_has enc s r
    have e : ∀ l : List (Nat × β), Maps.has (dmN q enc l) (.int q (s : Int)) = (l.map (rowN q enc)).any (fun p => p.1.sameKey (.int q (s : Int))) := fun _ => rfl
    rw [e] at ih ⊢
    rw [List.map_cons, List.any_cons, ih, lookN_cons]
    have e2 : (rowN q enc y).1.sameKey (.int q (s : Int)) = (y.1 == s) := same_int q _ _
    rw [e2]
    by_cases h : y.1 = s
    · rw [if_pos h, beq_iff_eq.2 h]; rfl
    · rw [if_neg h, beq_eq_false_iff_ne.2 h]; rfl
theorem dmN_at (enc : Nat × β → Value) (s : Nat) (z : DataW Value) : ∀ L : List (Nat × β), (dmN q enc L).atKey (.int q (s : Int)) z = match lookN s L with | some p => .held (enc (s, p)) | none => z
  | [] => rfl
  | y :: r => by
    have ih := dmN_at enc s z r
    have e : ∀ l : List (Nat × β), (dmN q enc l).atKey (.int q (s : Int)) z = ((l.map (rowN q enc)).find? (fun p => p.1.sameKey (.int q (s : Int)))).elim z (·.2) := fun l => by
      unfold dmN DataW.atKey
      dsimp only
      cases (l.map (rowN q enc)).find? (fun p => p.1.sameKey (.int q (s : Int))) <;> rfl
    rw [e] at ih ⊢
    rw [List.map_cons, List.find?_cons, lookN_cons]
    have e2 : (rowN q enc y).1.sameKey (.int q (s : Int)) = (y.1 == s) := same_int q _ _
    by_cases h : y.1 = s
    · rw [if_pos h, e2, beq_iff_eq.2 h]
      subst h
      rfl
    · rw [if_neg h, e2, beq_eq_false_iff_ne.2 h]
      exact ih
theorem notKeyN (enc : Nat × β → Value) (k : Nat) (y : Nat × β) : ChangeMaps.notKey (.int q (k : Int)) (rowN q enc y) = !(y.1 == k) := by
  show (!(Lit.int q (y.1 : Int)).sameKey (.int q (k : Int))) = _
  rw [same_int]
theorem dmN_del (enc : Nat × β → Value) (k : Nat) (L : List (Nat × β)) : (dmN q enc L).del (.int q (k : Int)) = dmN q enc (delN k L) := by
  unfold dmN
  rw [DataW.del_eq]
  refine congrArg DataW.map ?_
  unfold ChangeMaps.delKey delN
  induction L with
  | nil => rfl
  | cons y r ih =>
    rw [List.map_cons, List.filter_cons, List.filter_cons, notKeyN, ih]
    by_cases h : (!(y.1 == k)) = true
    · rw [if_pos h, if_pos h]; rfl
    · rw [if_neg h, if_neg h]
theorem ins_ltN (enc : Nat × β → Value) {x : Nat × β} : ∀ {L : List (Nat × β)}, (∀ y ∈ L, x.1 < y.1) → DataW.insert (rowN q enc x) (L.map (rowN q enc)) = (x :: L).map (rowN q enc)
  | [], _ => rfl
  | y :: r, h => by
    have e : (rowN q enc x).1.before (rowN q enc y).1 = true := by
      show decide ((x.1 : Int) < (y.1 : Int)) = true
      have := h y (by simp)
      exact decide_eq_true (by omega)
    rw [List.map_cons]
    unfold DataW.insert
    rw [if_pos e]
    rfl
theorem dmN_put (enc : Nat × β → Value) (x : Nat × β) : ∀ {L : List (Nat × β)}, SrtN L → (dmN q enc L).put (.int q (x.1 : Int)) (.held (enc x)) = dmN q enc (insN x L) := by
  suffices H : ∀ {L : List (Nat × β)}, SrtN L → DataW.insert (rowN q enc x) ((L.map (rowN q enc)).filter (ChangeMaps.notKey (.int q (x.1 : Int)))) = (insN x L).map (rowN q enc) by
    intro L h
    unfold dmN
    rw [DataW.put_eq]
    exact congrArg DataW.map (H h)
  have fil : ∀ {L : List (Nat × β)}, lookN x.1 L = none → (L.map (rowN q enc)).filter (ChangeMaps.notKey (.int q (x.1 : Int))) = L.map (rowN q enc) := by
    intro L h
    rw [List.filter_eq_self]
    intro p hp
    obtain ⟨y, hy, rfl⟩ := List.mem_map.1 hp
    have := lookN_none.1 h y hy
    rw [notKeyN]
    simp [this]
  intro L
  induction L with
  | nil => intro _; rfl
  | cons y r ih =>
    intro h
    obtain ⟨h1, h2⟩ := List.pairwise_cons.1 h
    unfold insN
    by_cases g : x.1 < y.1
    · rw [if_pos g, fil (lookN_none.2 ?_)]
      · refine ins_ltN q enc fun z hz => ?_
        rcases List.mem_cons.1 hz with rfl | hz
        · exact g
        · exact Nat.lt_trans g (h1 z hz)
      · intro z hz e
        rcases List.mem_cons.1 hz with rfl | hz
        · omega
        · have := h1 z hz; omega
    · rw [if_neg g]
      by_cases g2 : x.1 = y.1
      · rw [if_pos g2, List.map_cons, List.filter_cons, notKeyN, if_neg (by simp [g2]), fil (lookN_head h1 (by omega))]
        exact ins_ltN q enc fun z hz => g2 ▸ h1 z hz
      · rw [if_neg g2, List.map_cons, List.filter_cons, notKeyN, if_pos (by simp; omega)]
        have e2 : (rowN q enc x).1.before (rowN q enc y).1 = false := by
          show decide ((x.1 : Int) < (y.1 : Int)) = false
          exact decide_eq_false (by omega)
        unfold DataW.insert
        rw [e2]
        simp only [Bool.false_eq_true, if_false, List.map_cons]
        rw [ih h2]
theorem dmN_eq {enc enc' : Nat × β → Value} {L : List (Nat × β)} (h : ∀ x ∈ L, enc x = enc' x) : dmN q enc L = dmN q enc' L := by
  unfold dmN
  refine congrArg DataW.map (List.map_congr_left fun x hx => ?_)
  unfold rowN
  rw [h x hx]
end

end Go.Proofs.Ytjcigoojlmalnaa
