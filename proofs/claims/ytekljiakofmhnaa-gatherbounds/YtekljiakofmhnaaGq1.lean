/- Package gather's map of gatherings: what it holds, read and written, over the loaded program. Conditions: keys in their kinds' bounds. -/
import Derived.Test.YtekljiakofmhnaaGp3
import Derived.Test.YtekljiakofmhnaaGn8
import Derived.Maps.OwnSet
import Derived.Maps.Views
namespace Go.Proofs.Ytekljiakofmhnaa
open Go.RowKit Go.Maps

def vE : Value → Option (DataW Value × List MemPlace) := fun v => some (.held v, [])
/-- a gathering, whose, and its parts in memory -/
structure En where
  k : Pk
  a : Ga
  v : Value
def lookE (k : Pk) (L : List En) : Option En := L.find? (fun e => decide (e.k = k))
theorem lookE_some {k : Pk} {L : List En} {e : En} (h : lookE k L = some e) : e ∈ L ∧ e.k = k := by
  unfold lookE at h
  exact ⟨List.mem_of_find?_eq_some h, by simpa using List.find?_some h⟩
theorem lookE_none {k : Pk} {L : List En} (h : lookE k L = none) : ∀ e ∈ L, e.k ≠ k := by
  intro e he
  have := List.find?_eq_none.1 h e he
  simpa using this
abbrev ga0V : Value := .agg ga0C
/-- it holds those -/
def MapIs (w : World) (b : Nat) (L : List En) : Prop :=
  ∃ D : DataW Value, w.ownsMap Try.prog 56 vE b L.length D ∧ Maps.size D = L.length ∧
    ∀ k : Pk, k.In → ∀ l, keyOf Try.prog 56 (pkV k) = some l → Maps.has D l = (lookE k L).isSome ∧ ∀ e, lookE k L = some e → ∀ z, D.atKey l z = .held (gaV e.a e.v)
theorem owns_at {w w' : World} {b n k : Nat} {D : DataW Value} (h : w.ownsMap Try.prog k vE b n D) (e : w'.heap[b]? = w.heap[b]?) : w'.ownsMap Try.prog k vE b n D := by
  obtain ⟨es, clock, hb, r⟩ := h
  exact ⟨es, clock, e.trans hb, r⟩
theorem MapIs.at {w w' : World} {b : Nat} {L : List En} (h : MapIs w b L) (e : w'.heap[b]? = w.heap[b]?) : MapIs w' b L := by
  obtain ⟨D, h1, h2⟩ := h
  exact ⟨D, owns_at h1 e, h2⟩
theorem MapIs.lt {w : World} {b : Nat} {L : List En} (h : MapIs w b L) : b < w.heap.size := by
  obtain ⟨D, h1, h2⟩ := h
  exact h1.lt
theorem owns_tight {w : World} {b n k : Nat} {D : DataW Value} (h : w.ownsMap Try.prog k vE b n D) {m : Nat} (hm : Maps.size D = m) : w.ownsMap Try.prog k vE b m D := by
  obtain ⟨es, clock, hb, F, _, hD⟩ := h
  refine ⟨es, clock, hb, F, ?_, hD⟩
  rw [hD] at hm
  simp [Maps.size, length_sorted] at hm
  omega
theorem zeroG (w : World) : (zeroValue 59).run Try.prog w = .ok ga0V w := by kernel_rfl
theorem MapIs.look_some {w : World} {b : Nat} {L : List En} (h : MapIs w b L) {k : Pk} (hk : k.In) {e : En} (he : lookE k L = some e) (t : Bool) :
    (Instr.lookup 49 (.map (some b)) (pkV k) t).run Try.prog w = .ok (if t then .tuple #[gaV e.a e.v, .bool true] else gaV e.a e.v) w := by
  obtain ⟨D, h1, h2, h3⟩ := h
  obtain ⟨l, hl⟩ := pk_key k hk
  obtain ⟨q1, q2⟩ := h3 k hk l hl
  rw [he] at q1
  have q2 := q2 e he
  cases t with
  | false =>
    obtain ⟨v, ps, hrun, hv⟩ := h1.lookup pkt_law Try.underlying49 (zeroG w) (zd := .held ga0V) (zp := []) rfl hl
    rw [q2] at hv
    simp [vE] at hv
    rw [hrun, hv.1]
    rfl
  | true =>
    obtain ⟨v, ps, hrun, hv⟩ := h1.look_ok pkt_law Try.underlying49 (zeroG w) (zd := .held ga0V) (zp := []) rfl hl
    rw [q2] at hv
    simp [vE] at hv
    rw [hrun, hv.1, q1]
    rfl
theorem MapIs.look_none {w : World} {b : Nat} {L : List En} (h : MapIs w b L) {k : Pk} (hk : k.In) (he : lookE k L = none) (t : Bool) :
    (Instr.lookup 49 (.map (some b)) (pkV k) t).run Try.prog w = .ok (if t then .tuple #[ga0V, .bool false] else ga0V) w := by
  obtain ⟨D, h1, h2, h3⟩ := h
  obtain ⟨l, hl⟩ := pk_key k hk
  obtain ⟨q1, _⟩ := h3 k hk l hl
  rw [he] at q1
  have q2 := Maps.atKey_of_not_has q1 (.held ga0V)
  cases t with
  | false =>
    obtain ⟨v, ps, hrun, hv⟩ := h1.lookup pkt_law Try.underlying49 (zeroG w) (zd := .held ga0V) (zp := []) rfl hl
    rw [q2] at hv
    simp [vE] at hv
    rw [hrun, hv.1]
    rfl
  | true =>
    obtain ⟨v, ps, hrun, hv⟩ := h1.look_ok pkt_law Try.underlying49 (zeroG w) (zd := .held ga0V) (zp := []) rfl hl
    rw [q2] at hv
    simp [vE] at hv
    rw [hrun, hv.1, q1]
    rfl
theorem MapIs.len {w : World} {b : Nat} {L : List En} (h : MapIs w b L) : (Builtin.len_ #[49] 3 #[.map (some b)]).run Try.prog w = .ok (.int .i64 (L.length : Int)) w := by
  obtain ⟨D, h1, h2, h3⟩ := h
  have := h1.len Try.underlying49 3
  rwa [h2] at this
/-- put there: in its place, or at the end -/
def setE (k : Pk) (x : Ga) (v : Value) (L : List En) : List En := if (lookE k L).isSome then L.map (fun e => if e.k = k then ⟨k, x, v⟩ else e) else L ++ [⟨k, x, v⟩]
theorem lookE_setE_same (k : Pk) (x : Ga) (v : Value) (L : List En) : lookE k (setE k x v L) = some ⟨k, x, v⟩ := by
  unfold setE
  split
  · rename_i h
    obtain ⟨e, he⟩ := Option.isSome_iff_exists.1 h
    induction L with
    | nil => simp [lookE] at he
    | cons y r ih =>
      simp only [List.map_cons]
      by_cases hy : y.k = k
      · simp [lookE, hy]
      · have e1 : lookE k r = some e := by simpa [lookE, hy] using he
        have := ih (by rw [e1]; rfl) e1
        simpa [lookE, hy] using this
  · rename_i h
    have hn : lookE k L = none := by simpa using h
    unfold lookE at hn ⊢
    rw [List.find?_append, hn]
    simp
theorem lookE_setE_other {k k' : Pk} (hne : k' ≠ k) (x : Ga) (v : Value) (L : List En) : lookE k' (setE k x v L) = lookE k' L := by
  unfold setE
  split
  · rename_i h
    clear h
    induction L with
    | nil => rfl
    | cons y r ih =>
      simp only [List.map_cons]
      by_cases hy : y.k = k
      · rw [if_pos hy]
        have h1 : ¬ (k = k') := fun e => hne e.symm
        have h2 : ¬ (y.k = k') := fun e => hne (e.symm.trans hy)
        simpa [lookE, h1, h2] using ih
      · rw [if_neg hy]
        by_cases hy' : y.k = k'
        · simp [lookE, hy']
        · simpa [lookE, hy'] using ih
  · unfold lookE
    rw [List.find?_append]
    have : ¬ (k = k') := fun e => hne e.symm
    simp [this]
theorem setE_length (k : Pk) (x : Ga) (v : Value) (L : List En) : (setE k x v L).length = if (lookE k L).isSome then L.length else L.length + 1 := by
  unfold setE
  split <;> simp
def dropE (k : Pk) (L : List En) : List En := L.filter (fun e => decide (e.k ≠ k))
theorem lookE_dropE_same (k : Pk) (L : List En) : lookE k (dropE k L) = none := by
  unfold lookE dropE
  rw [List.find?_eq_none]
  intro e he
  have := (List.mem_filter.1 he).2
  simpa using this
theorem lookE_dropE_other {k k' : Pk} (hne : k' ≠ k) (L : List En) : lookE k' (dropE k L) = lookE k' L := by
  induction L with
  | nil => rfl
  | cons y r ih =>
    by_cases hy : y.k = k
    · have h2 : ¬ (y.k = k') := fun e => hne (e.symm.trans hy)
      have e1 : dropE k (y :: r) = dropE k r := by simp [dropE, hy]
      have e2 : lookE k' (y :: r) = lookE k' r := by simp [lookE, h2]
      rw [e1, e2, ih]
    · have e1 : dropE k (y :: r) = y :: dropE k r := by simp [dropE, hy]
      rw [e1]
      by_cases hy' : y.k = k'
      · simp [lookE, hy']
      · have e2 : ∀ s, lookE k' (y :: s) = lookE k' s := fun s => by simp [lookE, hy']
        rw [e2, e2, ih]
theorem MapIs.store {w : World} {b : Nat} {L : List En} (h : MapIs w b L) {k : Pk} (hk : k.In) (hL : L.length ≤ 65536) (x : Ga) (v : Value) :
    ∃ w2, (Instr.mapUpdate 49 (.map (some b)) (pkV k) (gaV x v)).run Try.prog w = .ok () w2 ∧ MapIs w2 b (setE k x v L) ∧ w.grownBy w2 (some b) := by
  obtain ⟨D, h1, h2, h3⟩ := h
  obtain ⟨l, hl⟩ := pk_key k hk
  obtain ⟨w2, hrun, hown, hturn⟩ := h1.store (val := gaV x v) pkt_law Try.underlying49 (by unfold maxLen; omega) hl rfl
  have hkl := pkt_law.key hl
  have hs : Maps.size (D.put l (.held (gaV x v))) = (setE k x v L).length := by
    rw [Maps.size_put (h1.tidy pkt_law), setE_length, (h3 k hk l hl).1, h2]
  refine ⟨w2, hrun, ⟨_, owns_tight hown hs, hs, fun k' hk' l' hl' => ?_⟩, hturn.grown⟩
  by_cases hkk : k' = k
  · subst hkk
    obtain rfl : l' = l := Option.some.inj (hl'.symm.trans hl)
    rw [lookE_setE_same]
    refine ⟨Maps.has_put_same h1.isMap hkl _, fun e he z => ?_⟩
    obtain rfl := Option.some.inj he
    exact Maps.atKey_put_same h1.isMap hkl _ z
  · have hll : l' ≠ l := fun e => hkk (by
      subst e
      have := pkt_law.inj hl' hl
      simp only [Value.agg.injEq, Array.mk.injEq, List.cons.injEq, Value.int.injEq, true_and, and_true, Int.natCast_inj] at this
      obtain ⟨a, b, c, d⟩ := k
      obtain ⟨a', b', c', d'⟩ := k'
      simp only at this
      obtain ⟨rfl, rfl, rfl, rfl⟩ := this
      rfl)
    rw [lookE_setE_other hkk, Maps.has_put_other hll]
    refine ⟨(h3 k' hk' l' hl').1, fun e he z => ?_⟩
    rw [Maps.atKey_put_other hll]
    exact (h3 k' hk' l' hl').2 e he z
theorem nodup_drop {k : Pk} {L : List En} (hn : (L.map (·.k)).Nodup) (h : (lookE k L).isSome) : (dropE k L).length + 1 = L.length := by
  induction L with
  | nil => simp [lookE] at h
  | cons y r ih =>
    simp only [List.map_cons, List.nodup_cons] at hn
    by_cases hy : y.k = k
    · have e : dropE k r = r := by
        unfold dropE
        rw [List.filter_eq_self]
        intro e he
        have : e.k ≠ k := fun x => hn.1 (by rw [hy, ← x]; exact List.mem_map_of_mem he)
        simpa using this
      have : dropE k (y :: r) = dropE k r := by simp [dropE, hy]
      rw [this, e]
      rfl
    · have h' : (lookE k r).isSome := by simpa [lookE, hy] using h
      have := ih hn.2 h'
      have e : dropE k (y :: r) = y :: dropE k r := by simp [dropE, hy]
      rw [e]
      simp only [List.length_cons]
      omega
theorem drop_none {k : Pk} {L : List En} (h : lookE k L = none) : dropE k L = L := by
  unfold dropE
  rw [List.filter_eq_self]
  intro e he
  simpa using lookE_none h e he
theorem MapIs.drop {w : World} {b : Nat} {L : List En} (h : MapIs w b L) {k : Pk} (hk : k.In) (hn : (L.map (·.k)).Nodup) (ty : TypeId) :
    ∃ w2, (Builtin.delete_ #[49, 56] ty #[.map (some b), pkV k]).run Try.prog w = .ok (.tuple #[]) w2 ∧ MapIs w2 b (dropE k L) ∧ w.grownBy w2 (some b) := by
  obtain ⟨D, h1, h2, h3⟩ := h
  obtain ⟨l, hl⟩ := pk_key k hk
  obtain ⟨w2, hrun, hown, hturn⟩ := h1.drop pkt_law Try.underlying49 hl ty
  have hs : Maps.size (D.del l) = (dropE k L).length := by
    have := Maps.size_del (k := l) (h1.tidy pkt_law)
    rw [(h3 k hk l hl).1, h2] at this
    cases hc : lookE k L with
    | none => rw [hc] at this; rw [drop_none hc]; simpa using this
    | some e =>
      have hd := nodup_drop hn (k := k) (by rw [hc]; rfl)
      rw [hc] at this
      simp at this
      omega
  refine ⟨w2, hrun, ⟨_, owns_tight hown hs, hs, fun k' hk' l' hl' => ?_⟩, hturn.grown⟩
  by_cases hkk : k' = k
  · subst hkk
    obtain rfl : l' = l := Option.some.inj (hl'.symm.trans hl)
    rw [lookE_dropE_same]
    exact ⟨Maps.has_del_same, fun e he => by cases he⟩
  · have hll : l' ≠ l := fun e => hkk (by
      subst e
      have := pkt_law.inj hl' hl
      simp only [Value.agg.injEq, Array.mk.injEq, List.cons.injEq, Value.int.injEq, true_and, and_true, Int.natCast_inj] at this
      obtain ⟨a, b, c, d⟩ := k
      obtain ⟨a', b', c', d'⟩ := k'
      simp only at this
      obtain ⟨rfl, rfl, rfl, rfl⟩ := this
      rfl)
    rw [lookE_dropE_other hkk, Maps.has_del_other hll]
    refine ⟨(h3 k' hk' l' hl').1, fun e he z => ?_⟩
    rw [Maps.atKey_del_other hll]
    exact (h3 k' hk' l' hl').2 e he z
theorem MapIs.made (w : World) : MapIs (w.alloc (.map #[] 0)) w.heap.size [] :=
  ⟨.map [], World.ownsMap_made w _ _ _, rfl, fun k hk l hl => ⟨rfl, fun e he => by cases he⟩⟩

end Go.Proofs.Ytekljiakofmhnaa
