/- Package near without the program: each number that waits goes, or is lost, just once. -/
import Derived.Test.YtjcigoojlmalnaaNl2
namespace Go.Proofs.Ytjcigoojlmalnaa
open Go.RowKit

abbrev Nums := List (Nat × Nat)
/-- the numbers that wait, with their addresses -/
structure Inv (L : Ens) (M : Nums) (i : Nat) : Prop where
  srt : SrtN M
  mem : ∀ n ip, lookN n M = some ip ↔ ∃ e, lookN ip L = some e ∧ n ∈ e.ws
  len : M.length = tot L
  lt : ∀ x ∈ M, x.1 < i
  inc : ∀ x ∈ L, x.2.ws.Pairwise (· < ·)

def delL (out : List Nat) (M : Nums) : Nums := out.foldl (fun M n => delN n M) M
theorem delL_take {out : List Nat} {k n : Nat} (h : out[k]? = some n) (M : Nums) : delL (out.take (k + 1)) M = delN n (delL (out.take k) M) := by
  unfold delL
  rw [List.take_add_one, h]
  simp [List.foldl_append]
theorem srt_delL : ∀ (out : List Nat) {M : Nums}, SrtN M → SrtN (delL out M)
  | [], _, h => h
  | n :: r, _, h => srt_delL r (srt_delN n h)
theorem lookN_delL : ∀ (out : List Nat) (M : Nums) (s : Nat), lookN s (delL out M) = if s ∈ out then none else lookN s M
  | [], _, _ => by simp [delL]
  | n :: r, M, s => by
    show lookN s (delL r (delN n M)) = _
    rw [lookN_delL r (delN n M) s, lookN_delN]
    by_cases h1 : s = n <;> by_cases h2 : s ∈ r <;> simp [h1, h2]
theorem len_delL : ∀ (out : List Nat) {M : Nums}, SrtN M → out.Nodup → (∀ n ∈ out, lookN n M ≠ none) → (delL out M).length + out.length = M.length
  | [], _, _, _, _ => by simp [delL]
  | n :: r, M, h, hn, hm => by
    obtain ⟨h1, h2⟩ := List.nodup_cons.1 hn
    have h3 := len_delL r (srt_delN n h) h2 (fun x hx => by
      have e : ¬ x = n := fun e => h1 (by rw [← e]; exact hx)
      rw [lookN_delN, if_neg e]
      exact hm x (by simp [hx]))
    have h4 := len_delN h (k := n) (by
      have := hm n (by simp)
      cases hl : lookN n M with
      | none => exact absurd hl this
      | some x => rfl)
    show (delL r (delN n M)).length + (r.length + 1) = _
    omega
/-- the k-th of what goes is still there -/
theorem still {out : List Nat} {M : Nums} (hn : out.Nodup) (hm : ∀ n ∈ out, lookN n M ≠ none) {k n : Nat} (h : out[k]? = some n) : lookN n (delL (out.take k) M) = lookN n M ∧ lookN n M ≠ none := by
  have hk := (List.getElem?_eq_some_iff.1 h)
  refine ⟨?_, hm n (List.mem_of_getElem? h)⟩
  rw [lookN_delL, if_neg]
  intro hmem
  obtain ⟨j, hj, hjn⟩ := List.mem_take_iff_getElem.1 hmem
  obtain ⟨hk1, hk2⟩ := hk
  exact List.pairwise_iff_getElem.1 hn j k (by omega) hk1 (by omega) (hjn.trans hk2.symm)
theorem inc_nodup {l : List Nat} (h : l.Pairwise (· < ·)) : l.Nodup := h.imp (fun h => Nat.ne_of_lt h)

section
variable {c : Cf} {last : Nat} {L : Ens} {M : Nums} {i : Nat}
theorem Inv.new : Inv [] [] 0 := ⟨List.Pairwise.nil, fun n ip => by simp [lookN], rfl, fun x hx => by simp at hx, fun x hx => by simp at hx⟩
theorem Inv.more (h : Inv L M i) {j : Nat} (hj : i ≤ j) : Inv L M j := ⟨h.srt, h.mem, h.len, fun x hx => Nat.lt_of_lt_of_le (h.lt x hx) hj, h.inc⟩
/-- an entry whose numbers stay -/
theorem Inv.turn (h : Inv L M i) (hS : SrtN L) {ip : Nat} {e e' : En} (he : lookN ip L = some e) (hw : e'.ws = e.ws) : Inv (insN (ip, e') L) M i := by
  refine ⟨h.srt, fun n k => ?_, ?_, h.lt, fun x hx => ?_⟩
  · rw [h.mem]
    rw [lookN_insN]
    by_cases g : ip = k
    · subst g
      rw [if_pos rfl, he]
      simp [hw]
    · rw [if_neg g]
  · rw [h.len]
    have := tot_some e' hS he
    rw [hw] at this
    omega
  · rcases mem_insN hx with rfl | hx
    · rw [hw]; exact h.inc _ (lookN_some he)
    · exact h.inc x hx
/-- a number comes to wait -/
theorem Inv.put (h : Inv L M i) (hS : SrtN L) {ip : Nat} {e' : En} {ws : List Nat} (he : (∃ e, lookN ip L = some e ∧ e.ws = ws) ∨ lookN ip L = none ∧ ws = []) (hw : e'.ws = ws ++ [i]) : Inv (insN (ip, e') L) (insN (i, ip) M) (i + 1) := by
  have hni : lookN i M = none := lookN_none.2 fun y hy e => by have := h.lt y hy; omega
  have hws : ∀ n, (∃ e, lookN ip L = some e ∧ n ∈ e.ws) ↔ n ∈ ws := by
    intro n
    rcases he with ⟨e, h1, h2⟩ | ⟨h1, h2⟩
    · rw [h1]; simp [h2]
    · rw [h1]; simp [h2]
  have hwl : ∀ n ∈ ws, n < i := fun n hn => by
    obtain ⟨e, h1, h2⟩ := (hws n).2 hn
    exact h.lt _ (lookN_some ((h.mem n ip).2 ⟨e, h1, h2⟩))
  refine ⟨srt_insN _ h.srt, fun n k => ?_, ?_, fun x hx => ?_, fun x hx => ?_⟩
  · rw [lookN_insN, lookN_insN]
    simp only
    by_cases g : ip = k
    · subst g
      by_cases g2 : i = n
      · subst g2
        simp [hw]
      · rw [if_neg g2, if_pos rfl, h.mem, hws n]
        simp [hw]
        intro e; exact absurd e.symm g2
    · rw [if_neg g]
      by_cases g2 : i = n
      · subst g2
        rw [if_pos rfl]
        constructor
        · intro e; simp at e; exact absurd e g
        · rintro ⟨e, h1, h2⟩
          have := (h.mem i k).2 ⟨e, h1, h2⟩
          rw [hni] at this
          cases this
      · rw [if_neg g2, h.mem]
  · rw [len_insN h.srt]
    simp only [hni, Option.isSome_none, Bool.false_eq_true, if_false]
    rw [h.len]
    rcases he with ⟨e, h1, h2⟩ | ⟨h1, h2⟩
    · have := tot_some e' hS h1
      rw [hw, h2, List.length_append] at this
      simp at this
      omega
    · rw [tot_none e' h1, hw, h2]
      simp
  · rcases mem_insN hx with rfl | hx
    · exact Nat.lt_succ_self _
    · have := h.lt x hx; omega
  · rcases mem_insN hx with rfl | hx
    · simp only
      rw [hw, List.pairwise_append]
      refine ⟨?_, by simp, fun a ha b hb => ?_⟩
      · rcases he with ⟨e, h1, h2⟩ | ⟨h1, h2⟩
        · rw [← h2]; exact h.inc _ (lookN_some h1)
        · rw [h2]; exact List.Pairwise.nil
      · simp at hb
        subst hb
        exact hwl a ha
    · exact h.inc x hx
theorem inv_find (h : Inv L M i) (hS : SrtN L) (ip now : Nat) : let r := findN c last L ip i now
    (r.err = 0 ∧ r.known = false ∧ Inv r.L (insN (i, ip) M) (i + 1)) ∨ (r.err = 0 ∧ r.known = true ∧ Inv r.L M (i + 1)) ∨ (r.err = 6 ∧ r.known = false ∧ r.asks = false ∧ Inv r.L M (i + 1)) := by
  simp only
  unfold findN
  cases he : lookN ip L with
  | none =>
    simp only
    split
    · exact .inl ⟨rfl, rfl, h.put hS (ws := []) (.inr ⟨he, rfl⟩) rfl⟩
    · exact .inr (.inr ⟨rfl, rfl, rfl, h.more (by omega)⟩)
  | some e =>
    simp only
    split
    · split
      · exact .inl ⟨rfl, rfl, h.put hS (.inl ⟨e, he, rfl⟩) rfl⟩
      · exact .inr (.inr ⟨rfl, rfl, rfl, h.more (by omega)⟩)
    · split
      · exact .inr (.inl ⟨rfl, rfl, Inv.more (h.turn (e' := { e with asked := 1, tm := max last now + c.pause }) hS he rfl) (Nat.le_succ i)⟩)
      · exact .inr (.inl ⟨rfl, rfl, h.more (by omega)⟩)
/-- what is heard of lets its numbers go -/
theorem inv_hear (h : Inv L M i) (hS : SrtN L) (ip mac now : Nat) (asked : Bool) : let r := hearN c last L ip mac asked now
    r.1.Pairwise (· < ·) ∧ (∀ n ∈ r.1, lookN n M = some ip) ∧ Inv r.2.1 (delL r.1 M) (i + 1) := by
  simp only
  unfold hearN
  cases he : lookN ip L with
  | none =>
    simp only
    split
    · refine ⟨List.Pairwise.nil, fun n hn => by simp at hn, ?_⟩
      refine ⟨h.srt, fun n k => ?_, ?_, fun x hx => by have := h.lt x hx; omega, fun x hx => ?_⟩
      · show lookN n M = some k ↔ _
        rw [h.mem, lookN_insN]
        by_cases g : ip = k
        · subst g; simp [he]
        · rw [if_neg g]
      · show M.length = _
        rw [tot_none _ he, h.len]; rfl
      · rcases mem_insN hx with rfl | hx
        · exact List.Pairwise.nil
        · exact h.inc x hx
    · exact ⟨List.Pairwise.nil, fun n hn => by simp at hn, h.more (by omega)⟩
  | some e =>
    simp only
    have hin := h.inc _ (lookN_some he)
    have hall : ∀ n ∈ e.ws, lookN n M = some ip := fun n hn => (h.mem n ip).2 ⟨e, he, hn⟩
    refine ⟨hin, hall, ?_⟩
    refine ⟨srt_delL _ h.srt, fun n k => ?_, ?_, fun x hx => ?_, fun x hx => ?_⟩
    · rw [lookN_delL, lookN_insN]
      by_cases g : ip = k
      · subst g
        rw [if_pos rfl]
        by_cases g2 : n ∈ e.ws
        · simp [g2]
        · rw [if_neg g2, h.mem, he]; simp [g2]
      · rw [if_neg g]
        by_cases g2 : n ∈ e.ws
        · rw [if_pos g2]
          constructor
          · intro q; cases q
          · rintro ⟨e2, h1, h2⟩
            have h3 := (h.mem n k).2 ⟨e2, h1, h2⟩
            rw [hall n g2] at h3
            simp at h3
            exact absurd h3 g
        · rw [if_neg g2, h.mem]
    · have h1 := len_delL e.ws h.srt (inc_nodup hin) (fun n hn => by rw [hall n hn]; simp)
      have h2 := tot_some (⟨2, mac, max last now + c.known, 0, []⟩ : En) hS he
      rw [h.len] at h1
      simp only [List.length_nil] at h2
      omega
    · have hx' : lookN x.1 (delL e.ws M) = some x.2 := lookN_mem (srt_delL _ h.srt) hx
      rw [lookN_delL] at hx'
      by_cases g2 : x.1 ∈ e.ws
      · rw [if_pos g2] at hx'; cases hx'
      · rw [if_neg g2] at hx'
        have := h.lt _ (lookN_some hx')
        simp only at this
        omega
    · rcases mem_insN hx with rfl | hx
      · exact List.Pairwise.nil
      · exact h.inc x hx
/-- what is lost at a tick, in all -/
theorem tot_tick (t : Nat) (hno : ∀ x ∈ L, x.2.st ≠ 1 → x.2.ws = []) : tot (tickN c t L) + (lostN c (dueN t L)).length = tot L := by
  induction L with
  | nil => rfl
  | cons y r ih =>
    have ih := ih (fun x hx => hno x (by simp [hx]))
    have hy := hno y (by simp)
    unfold lostN dueN at ih ⊢
    rw [List.filter_cons]
    by_cases d : y.2.tm ≤ t
    · rw [if_pos (decide_eq_true d), List.filter_cons]
      by_cases h2 : y.2.st = 2
      · have hw := hy (by omega)
        have e1 : tickE c t y.2 = some ⟨3, y.2.mac, t + c.known, 0, []⟩ := by simp [tickE, stepE, d, h2]
        have e2 : goesE c y.2 = false := by simp [goesE, h2]
        rw [tick_some e1, if_neg (by simp [e2])]
        simp only [tot, hw, List.length_nil]
        omega
      · by_cases g : y.2.asked = 0 ∨ y.2.asked = c.asks
        · have e1 : tickE c t y.2 = none := by simp [tickE, stepE, d, h2, g]
          have e2 : goesE c y.2 = true := by simp [goesE, h2, g]
          rw [tick_none e1, if_pos (by simp [e2]), List.flatMap_cons, List.length_append]
          simp only [tot]
          omega
        · have e1 : tickE c t y.2 = some { y.2 with asked := y.2.asked + 1, tm := t + c.pause } := by simp [tickE, stepE, d, h2, g]
          have e2 : goesE c y.2 = false := by simp [goesE, h2]; omega
          rw [tick_some e1, if_neg (by simp [e2])]
          simp only [tot]
          omega
    · have e1 : tickE c t y.2 = some y.2 := by simp [tickE, d]
      rw [if_neg (by simp; omega), tick_some e1]
      simp only [tot]
      omega
theorem mem_lost {t n : Nat} : n ∈ lostN c (dueN t L) ↔ ∃ x ∈ L, x.2.tm ≤ t ∧ goesE c x.2 = true ∧ n ∈ x.2.ws := by
  unfold lostN dueN
  simp only [List.mem_flatMap, List.mem_filter, decide_eq_true_eq]
  constructor
  · rintro ⟨x, ⟨⟨h1, h2⟩, h3⟩, h4⟩
    exact ⟨x, h1, h2, h3, h4⟩
  · rintro ⟨x, h1, h2, h3, h4⟩
    exact ⟨x, ⟨⟨h1, h2⟩, h3⟩, h4⟩
theorem goes_tick {t : Nat} {e : En} (hd : e.tm ≤ t) : tickE c t e = none ↔ goesE c e = true := by
  unfold tickE stepE goesE
  rw [if_pos hd]
  by_cases h2 : e.st = 2
  · simp [h2]
  · by_cases g : e.asked = 0 ∨ e.asked = c.asks
    · simp [h2, g]
    · simp [h2, g]
theorem tick_ws {t : Nat} {e e' : En} (h : tickE c t e = some e') (hno : e.st ≠ 1 → e.ws = []) : e'.ws = e.ws := by
  unfold tickE stepE at h
  split at h
  · split at h
    · rename_i h2
      simp at h
      subst h
      rw [hno (by omega)]
    · split at h
      · cases h
      · simp at h
        subst h
        rfl
  · simp at h
    rw [h]
theorem inv_tick (h : Inv L M i) (hS : SrtN L) (hno : ∀ x ∈ L, x.2.st ≠ 1 → x.2.ws = []) (t : Nat) :
    (lostN c (dueN t L)).Nodup ∧ (∀ n ∈ lostN c (dueN t L), lookN n M ≠ none) ∧ Inv (tickN c t L) (delL (lostN c (dueN t L)) M) (i + 1) := by
  have hall : ∀ n ∈ lostN c (dueN t L), ∃ x ∈ L, x.2.tm ≤ t ∧ goesE c x.2 = true ∧ lookN n M = some x.1 := fun n hn => by
    obtain ⟨x, h1, h2, h3, h4⟩ := mem_lost.1 hn
    exact ⟨x, h1, h2, h3, (h.mem n x.1).2 ⟨x.2, lookN_mem hS h1, h4⟩⟩
  have hnd : (lostN c (dueN t L)).Nodup := by
    unfold lostN
    have key : ∀ D : Ens, SrtN D → (∀ x ∈ D, x ∈ L) → (D.flatMap (·.2.ws)).Nodup := by
      intro D
      induction D with
      | nil => intro _ _; exact List.Pairwise.nil
      | cons y r ih =>
        intro hs hm
        obtain ⟨h1, h2⟩ := List.pairwise_cons.1 hs
        rw [List.flatMap_cons]
        refine List.nodup_append.2 ⟨inc_nodup (h.inc y (hm y (by simp))), ih h2 (fun x hx => hm x (by simp [hx])), fun a ha b hb e => ?_⟩
        subst e
        obtain ⟨z, hz, haz⟩ := List.mem_flatMap.1 hb
        have e1 := (h.mem a y.1).2 ⟨y.2, lookN_mem hS (hm y (by simp)), ha⟩
        have e2 := (h.mem a z.1).2 ⟨z.2, lookN_mem hS (hm z (by simp [hz])), haz⟩
        rw [e1] at e2
        have := h1 z hz
        simp at e2
        omega
    refine key _ (List.Pairwise.filter _ (srt_due t hS)) (fun x hx => ?_)
    exact (List.mem_filter.1 (List.mem_filter.1 hx).1).1
  have hm : ∀ n ∈ lostN c (dueN t L), lookN n M ≠ none := fun n hn => by
    obtain ⟨x, _, _, _, h4⟩ := hall n hn
    rw [h4]; simp
  refine ⟨hnd, hm, srt_delL _ h.srt, fun n k => ?_, ?_, fun x hx => ?_, fun x hx => ?_⟩
  · rw [lookN_delL, lookN_tick c t k hS]
    by_cases g : n ∈ lostN c (dueN t L)
    · rw [if_pos g]
      obtain ⟨x, h1, h2, h3, h4⟩ := hall n g
      constructor
      · intro q; cases q
      · rintro ⟨e', h5, h6⟩
        cases he : lookN k L with
        | none => rw [he] at h5; cases h5
        | some e =>
          rw [he] at h5
          have h5 : tickE c t e = some e' := h5
          have hw := tick_ws h5 (hno _ (lookN_some he))
          have h7 := (h.mem n k).2 ⟨e, he, hw ▸ h6⟩
          rw [h4] at h7
          simp at h7
          subst h7
          have := lookN_mem hS h1
          rw [he] at this
          simp at this
          subst this
          have := (goes_tick (c := c) h2).2 h3
          rw [this] at h5
          cases h5
    · rw [if_neg g, h.mem]
      constructor
      · rintro ⟨e, he, hn⟩
        cases ht : tickE c t e with
        | none =>
          exfalso
          have hd : e.tm ≤ t := by
            apply Classical.byContradiction
            intro hd
            simp [tickE, hd] at ht
          exact g (mem_lost.2 ⟨(k, e), lookN_some he, hd, (goes_tick hd).1 ht, hn⟩)
        | some e' => exact ⟨e', by rw [he]; exact ht, by rw [tick_ws ht (hno _ (lookN_some he))]; exact hn⟩
      · rintro ⟨e', h5, h6⟩
        cases he : lookN k L with
        | none => rw [he] at h5; cases h5
        | some e =>
          rw [he] at h5
          have h5 : tickE c t e = some e' := h5
          exact ⟨e, rfl, by rw [← tick_ws h5 (hno _ (lookN_some he))]; exact h6⟩
  · have h1 := len_delL _ h.srt hnd hm
    have h2 := tot_tick (c := c) t hno
    rw [h.len] at h1
    omega
  · have hx' : lookN x.1 (delL (lostN c (dueN t L)) M) = some x.2 := lookN_mem (srt_delL _ h.srt) hx
    rw [lookN_delL] at hx'
    by_cases g2 : x.1 ∈ lostN c (dueN t L)
    · rw [if_pos g2] at hx'; cases hx'
    · rw [if_neg g2] at hx'
      have := h.lt _ (lookN_some hx')
      simp only at this
      omega
  · obtain ⟨y, hy, _, h2⟩ := mem_tick c t hx
    rw [tick_ws h2 (hno y hy)]
    exact h.inc y hy

/-- behind j ticks, one pause each -/
def Tail (j : Nat) (L : Ens) : Prop := ∀ x ∈ L, x.2.st = 1 → j + 1 ≤ x.2.asked
theorem tail_tick {j t : Nat} (h : Tail j L) (hd : ∀ x ∈ L, x.2.st = 1 → x.2.tm ≤ t) : Tail (j + 1) (tickN c t L) := by
  intro x hx h1
  obtain ⟨y, hy, _, h2⟩ := mem_tick c t hx
  unfold tickE stepE at h2
  split at h2
  · split at h2
    · simp at h2
      rw [← h2] at h1
      simp at h1
    · split at h2
      · cases h2
      · simp at h2
        rw [← h2] at h1 ⊢
        have := h y hy h1
        simp only
        omega
  · rename_i hn
    simp at h2
    rw [← h2] at h1
    exact absurd (hd y hy h1) hn
theorem tail_none {j : Nat} (h : Tail j L) (ha : ∀ x ∈ L, x.2.asked ≤ c.asks) (hno : ∀ x ∈ L, x.2.st ≠ 1 → x.2.ws = []) (hj : c.asks ≤ j) : tot L = 0 := by
  have key : ∀ D : Ens, (∀ x ∈ D, x ∈ L) → tot D = 0 := by
    intro D
    induction D with
    | nil => intro _; rfl
    | cons y r ih =>
      intro hm
      have hy := hm y (by simp)
      have hst : y.2.st ≠ 1 := fun e => by have h1 := h y hy e; have h2 := ha y hy; omega
      simp only [tot, hno y hy hst, List.length_nil, ih (fun x hx => hm x (by simp [hx]))]
  exact key L (fun x hx => hx)
theorem tail_start (hso : ∀ x ∈ L, x.2.st = 1 → 1 ≤ x.2.asked) : Tail 0 L := fun x hx h => by have := hso x hx h; omega
end
end Go.Proofs.Ytjcigoojlmalnaa
