/- It makes no difference in what order counts are added, or joined: on the counters as a list. -/
import Derived.Test.YtfbbdfeigenodaaLw1
import Derived.Test.YtfbbdfeigenodaaJn0
namespace Go.Proofs.Ytfbbdfeigenodaa
open Go.RowKit Go.Maps

/-- a step whose numbers may be -/
def good (x : Stp) : Bool := decide (0 ≤ x.2.1) && decide (0 ≤ x.2.2)
def sumG (f : Stp → Nat) (s : List UInt8) : List Stp → Nat
  | [] => 0
  | x :: r => (if good x = true ∧ x.1.data.toList = s then f x else 0) + sumG f s r
def one (_ : Stp) : Nat := 1
def ca (x : Stp) : Nat := x.2.1.toNat
def da (x : Stp) : Nat := x.2.2.toNat
def val (l : List Stp) (s : List UInt8) : Option (Nat × Nat) := if sumG one s l = 0 then none else some (sumG ca s l, sumG da s l)

theorem sumG_append (f : Stp → Nat) (s : List UInt8) : ∀ A B : List Stp, sumG f s (A ++ B) = sumG f s A + sumG f s B
  | [], B => by simp [sumG]
  | x :: r, B => by simp only [List.cons_append, sumG, sumG_append f s r B]; omega
theorem sumG_reverse (f : Stp → Nat) (s : List UInt8) : ∀ A : List Stp, sumG f s A.reverse = sumG f s A
  | [] => rfl
  | x :: r => by rw [List.reverse_cons, sumG_append, sumG_reverse f s r]; simp only [sumG]; omega
theorem val_reverse (l : List Stp) (s : List UInt8) : val l.reverse s = val l s := by
  unfold val
  rw [sumG_reverse, sumG_reverse, sumG_reverse]
theorem sumG_le (f : Stp → Nat) (s : List UInt8) (m : Nat) : ∀ A : List Stp, (∀ x ∈ A, f x ≤ m) → sumG f s A ≤ A.length * m
  | [], _ => by simp [sumG]
  | x :: r, h => by
    have h1 := h x (by simp)
    have h2 := sumG_le f s m r (fun y hy => h y (by simp [hy]))
    simp only [sumG, List.length_cons, Nat.succ_mul]
    split <;> omega
/-- where nothing of that name came, there is nothing of it -/
theorem sumG_none (f : Stp → Nat) (s : List UInt8) : ∀ A : List Stp, sumG one s A = 0 → sumG f s A = 0
  | [], _ => rfl
  | x :: r, h => by
    simp only [sumG] at h ⊢
    by_cases g : good x = true ∧ x.1.data.toList = s
    · rw [if_pos g] at h
      simp [one] at h
    · rw [if_neg g] at h ⊢
      rw [sumG_none f s r (by omega)]

theorem sumG_hit (f : Stp → Nat) {x : Stp} (hg : good x = true) : sumG f x.1.data.toList [x] = f x := by
  show (if good x = true ∧ x.1.data.toList = x.1.data.toList then f x else 0) + 0 = f x
  rw [if_pos ⟨hg, rfl⟩]
  rfl
theorem sumG_miss (f : Stp → Nat) {x : Stp} {s : List UInt8} (h : ¬ (good x = true ∧ x.1.data.toList = s)) : sumG f s [x] = 0 := by
  simp only [sumG]
  rw [if_neg h]

/-- steps as MeterOrder plays them -/
structure Ok (x : Stp) : Prop where
  may : mayL x.1.data.toList = true
  n : x.2.1 ≤ 1099511627776
  m : x.2.2 ≤ 1099511627776

structure Inv (l : List Stp) (L : List Ent) : Prop where
  cnt : Cnt L
  len : L.length ≤ l.length
  at' : ∀ s, lookE s L = val l s
  may : ∀ x ∈ L, mayL x.1 = true

theorem inv_nil : Inv [] [] := ⟨cnt_nil, by simp, fun _ => rfl, by simp⟩
theorem cap_of {l : List Stp} (hl : l.length ≤ 50) (ho : ∀ x ∈ l, Ok x) (s : List UInt8) : sumG ca s l ≤ 54975581388800 ∧ sumG da s l ≤ 54975581388800 := by
  have h1 := sumG_le ca s 1099511627776 l (fun x hx => by have := (ho x hx).n; unfold ca; omega)
  have h2 := sumG_le da s 1099511627776 l (fun x hx => by have := (ho x hx).m; unfold da; omega)
  have h3 : l.length * 1099511627776 ≤ 50 * 1099511627776 := Nat.mul_le_mul_right _ hl
  omega

theorem inv_step {l : List Stp} {L : List Ent} (h : Inv l L) {x : Stp} (hx : Ok x) (hl : l.length < 50) (ho : ∀ y ∈ l, Ok y) : Inv (l ++ [x]) (addL L x.1.data.toList x.2.1 x.2.2).2 := by
  have hc := cnt_addL h.cnt x.1.data.toList x.2.1 x.2.2
  have hn := hx.n
  have hm := hx.m
  by_cases hg : good x = true
  · have hg' : 0 ≤ x.2.1 ∧ 0 ≤ x.2.2 := by simpa [good] using hg
    have hcap := cap_of (Nat.le_of_lt hl) ho x.1.data.toList
    have hlk := h.at' x.1.data.toList
    have hlen := h.len
    have e : ∃ q : Nat × Nat, (lookE x.1.data.toList L).getD (0, 0) = q ∧ q = (sumG ca x.1.data.toList l, sumG da x.1.data.toList l) ∧ (addL L x.1.data.toList x.2.1 x.2.2).2 = insE (x.1.data.toList, q.1 + x.2.1.toNat, q.2 + x.2.2.toNat) L := by
      refine ⟨_, rfl, ?_, ?_⟩
      · rw [hlk]
        unfold val
        split
        · rename_i h0
          rw [sumG_none ca _ l h0, sumG_none da _ l h0]
          rfl
        · rfl
      · unfold addL
        rw [if_neg (not_not_intro ⟨hx.may, by omega, by omega⟩)]
        cases hq : lookE x.1.data.toList L with
        | none =>
          simp only
          rw [if_neg (by omega)]
          simp
        | some q =>
          have hq2 : q = (sumG ca x.1.data.toList l, sumG da x.1.data.toList l) := by
            rw [hq] at hlk
            unfold val at hlk
            split at hlk
            · cases hlk
            · simpa using hlk
          simp only
          rw [if_neg (by rw [hq2]; simp only; omega)]
          rfl
    obtain ⟨q, hq1, hq2, he⟩ := e
    rw [he] at hc ⊢
    refine ⟨hc, ?_, fun s => ?_, fun z hz => ?_⟩
    · rw [len_insE h.cnt.srt, List.length_append]
      simp only [List.length_cons, List.length_nil]
      split <;> omega
    · rw [lookE_insE]
      unfold val
      rw [sumG_append, sumG_append, sumG_append]
      by_cases hs : x.1.data.toList = s
      · subst hs
        rw [sumG_hit _ hg, sumG_hit _ hg, sumG_hit _ hg, if_pos rfl, if_neg (by simp [one]), hq2]
        rfl
      · have hne : ¬ (good x = true ∧ x.1.data.toList = s) := fun k => hs k.2
        rw [sumG_miss _ hne, sumG_miss _ hne, sumG_miss _ hne, if_neg hs]
        simp only [Nat.add_zero]
        exact h.at' s
    · rcases mem_insE hz with rfl | hz
      · exact hx.may
      · exact h.may z hz
  · have he : addL L x.1.data.toList x.2.1 x.2.2 = (2, L) := by
      unfold addL
      rw [if_pos (fun k => hg (by simp only [good, Bool.and_eq_true, decide_eq_true_eq]; exact ⟨k.2.1.1, k.2.2.1⟩))]
    rw [he]
    refine ⟨h.cnt, ?_, fun s => ?_, h.may⟩
    · have := h.len
      simp only [List.length_append, List.length_cons, List.length_nil]
      omega
    · rw [h.at' s]
      unfold val
      rw [sumG_append, sumG_append, sumG_append]
      have hne : ¬ (good x = true ∧ x.1.data.toList = s) := fun k => hg k.1
      rw [sumG_miss _ hne, sumG_miss _ hne, sumG_miss _ hne]
      simp only [Nat.add_zero]

theorem inv_run (l : List Stp) (hl : l.length ≤ 50) (ho : ∀ x ∈ l, Ok x) : Inv l (runL l) := by
  suffices H : ∀ k, k ≤ l.length → Inv (l.take k) (runL (l.take k)) by
    have := H l.length (Nat.le_refl _)
    rwa [List.take_length] at this
  intro k
  induction k with
  | zero => intro _; exact inv_nil
  | succ j ih =>
    intro hj
    have hx : l[j]? = some l[j] := List.getElem?_eq_getElem (by omega)
    have h1 := inv_step (ih (by omega)) (ho l[j] (List.getElem_mem _)) (by rw [List.length_take]; omega) (fun y hy => ho y (List.mem_of_mem_take hy))
    rw [runL_snoc hx, take_at hx]
    exact h1

theorem runL_rev (l : List Stp) (hl : l.length ≤ 50) (ho : ∀ x ∈ l, Ok x) : runL l.reverse = runL l := by
  have h1 := inv_run l hl ho
  have h2 := inv_run l.reverse (by simpa using hl) (fun x hx => ho x (by simpa using hx))
  refine srt_ext h2.cnt.srt h1.cnt.srt (fun s => ?_)
  rw [h2.at', h1.at', val_reverse]

/-- two counts together -/
def both2 : Option (Nat × Nat) → Option (Nat × Nat) → Option (Nat × Nat)
  | none, y => y
  | some p, none => some p
  | some p, some q => some (q.1 + p.1, q.2 + p.2)
def prt (f : Nat × Nat → Nat) : Option (Nat × Nat) → Nat
  | none => 0
  | some p => f p

theorem addAll_look : ∀ (A X : List Ent), Srt A → Cnt X → (∀ x ∈ A, mayL x.1 = true) → X.length + A.length ≤ 64 → (∀ s, prt (·.1) (lookE s A) + prt (·.1) (lookE s X) ≤ 4503599627370496 ∧ prt (·.2) (lookE s A) + prt (·.2) (lookE s X) ≤ 4503599627370496) →
    (addAll A X).1 = 0 ∧ Srt (addAll A X).2 ∧ ∀ s, lookE s (addAll A X).2 = both2 (lookE s A) (lookE s X)
  | [], X, _, hX, _, _, _ => ⟨rfl, hX.srt, fun s => rfl⟩
  | x :: r, X, hS, hX, hm, hlen, hb => by
    obtain ⟨h1, h2⟩ := List.pairwise_cons.1 hS
    have hbx := hb x.1
    rw [lookE_cons, if_pos rfl] at hbx
    simp only [prt] at hbx
    simp only [List.length_cons] at hlen
    have e : addL X x.1 (x.2.1 : Int) (x.2.2 : Int) = (0, insE (x.1, prt (·.1) (lookE x.1 X) + x.2.1, prt (·.2) (lookE x.1 X) + x.2.2) X) := by
      unfold addL
      rw [if_neg (not_not_intro ⟨hm x (by simp), by omega, by omega⟩)]
      cases hq : lookE x.1 X with
      | none =>
        simp only [prt]
        rw [if_neg (by omega)]
        simp
      | some q =>
        rw [hq] at hbx
        simp only [prt] at hbx ⊢
        rw [if_neg (by simp only [Int.toNat_natCast]; omega)]
        simp
    have hc : Cnt (insE (x.1, prt (·.1) (lookE x.1 X) + x.2.1, prt (·.2) (lookE x.1 X) + x.2.2) X) := by
      have := cnt_addL hX x.1 (x.2.1 : Int) (x.2.2 : Int)
      rw [e] at this
      exact this
    simp only [addAll, e, if_true]
    have hl2 : (insE (x.1, prt (·.1) (lookE x.1 X) + x.2.1, prt (·.2) (lookE x.1 X) + x.2.2) X).length ≤ X.length + 1 := by
      rw [len_insE hX.srt]
      split <;> omega
    have hr : lookE x.1 r = none := lookE_head h1 (.inr rfl)
    obtain ⟨g1, g2, g3⟩ := addAll_look r (insE (x.1, prt (·.1) (lookE x.1 X) + x.2.1, prt (·.2) (lookE x.1 X) + x.2.2) X) h2 hc (fun y hy => hm y (by simp [hy])) (by omega) (fun s => by
      rw [lookE_insE]
      by_cases hs : x.1 = s
      · subst hs
        rw [if_pos rfl, hr]
        simp only [prt] at hbx ⊢
        omega
      · rw [if_neg hs]
        have := hb s
        rw [lookE_cons, if_neg hs] at this
        exact this)
    refine ⟨g1, g2, fun s => ?_⟩
    rw [g3 s, lookE_insE, lookE_cons]
    by_cases hs : x.1 = s
    · subst hs
      rw [if_pos rfl, if_pos rfl, hr]
      cases hq : lookE x.1 X with
      | none => simp [both2, prt]
      | some q => simp [both2, prt]
    · rw [if_neg hs, if_neg hs]

theorem join_run (l : List Stp) (t : Nat) (hl : l.length ≤ 50) (ho : ∀ x ∈ l, Ok x) : joinL [runL (l.take t)] (runL (l.drop t)) = (0, runL l) := by
  have h0 := inv_run l hl ho
  have h1 := inv_run (l.take t) (by rw [List.length_take]; omega) (fun x hx => ho x (List.mem_of_mem_take hx))
  have h2 := inv_run (l.drop t) (by rw [List.length_drop]; omega) (fun x hx => ho x (List.mem_of_mem_drop hx))
  have c1 := cap_of (l := l.take t) (by rw [List.length_take]; omega) (fun x hx => ho x (List.mem_of_mem_take hx))
  have c2 := cap_of (l := l.drop t) (by rw [List.length_drop]; omega) (fun x hx => ho x (List.mem_of_mem_drop hx))
  have hb : ∀ (m : List Stp) (s : List UInt8), prt (·.1) (val m s) ≤ sumG ca s m ∧ prt (·.2) (val m s) ≤ sumG da s m := by
    intro m s
    unfold val
    split
    · simp [prt]
    · simp [prt]
  have l1 := h1.len
  have l2 := h2.len
  rw [List.length_take] at l1
  rw [List.length_drop] at l2
  obtain ⟨g1, g2, g3⟩ := addAll_look (runL (l.take t)) (runL (l.drop t)) h1.cnt.srt h2.cnt h1.may (by omega) (fun s => by
    rw [h1.at', h2.at']
    have a1 := hb (l.take t) s
    have a2 := hb (l.drop t) s
    have b1 := c1 s
    have b2 := c2 s
    omega)
  have e : (addAll (runL (l.take t)) (runL (l.drop t))).2 = runL l := by
    refine srt_ext g2 h0.cnt.srt (fun s => ?_)
    rw [g3, h1.at', h2.at', h0.at']
    have hs : ∀ f, sumG f s l = sumG f s (l.take t) + sumG f s (l.drop t) := fun f => by rw [← sumG_append, List.take_append_drop]
    unfold val
    rw [hs one, hs ca, hs da]
    by_cases z1 : sumG one s (l.take t) = 0
    · rw [if_pos z1, z1, sumG_none ca s _ z1, sumG_none da s _ z1]
      simp only [Nat.zero_add]
      rfl
    · by_cases z2 : sumG one s (l.drop t) = 0
      · rw [if_neg z1, if_pos z2, if_neg (by omega), sumG_none ca s _ z2, sumG_none da s _ z2]
        simp [both2]
      · rw [if_neg z1, if_neg z2, if_neg (by omega)]
        simp only [both2, Option.some.injEq, Prod.mk.injEq]
        omega
  simp only [joinL, g1, if_true, e]

/-- what all come to stays below what may be -/
theorem sum_le (g : Nat × Nat → Nat) (m : Nat) : ∀ L : List Ent, (∀ x ∈ L, g x.2 ≤ m) → sumOf (fun _ => false) g L ≤ L.length * m
  | [], _ => by simp [sumOf]
  | x :: r, h => by
    have h1 := h x (by simp)
    have h2 := sum_le g m r (fun y hy => h y (by simp [hy]))
    simp only [sumOf, List.length_cons, Nat.succ_mul]
    simp
    omega
theorem sum_run {l : List Stp} (hl : l.length ≤ 50) (ho : ∀ x ∈ l, Ok x) (k : Nat) : sumA ((runL l).take k) ≤ 4503599627370496 ∧ sumB ((runL l).take k) ≤ 4503599627370496 := by
  have h0 := inv_run l hl ho
  have hx : ∀ x ∈ (runL l).take k, x.2.1 ≤ 54975581388800 ∧ x.2.2 ≤ 54975581388800 := by
    intro x hx
    obtain ⟨i, hi⟩ := List.getElem?_of_mem (List.mem_of_mem_take hx)
    have e := srt_get h0.cnt.srt hi
    rw [h0.at'] at e
    have c := cap_of hl ho x.1
    unfold val at e
    split at e
    · cases e
    · have e2 : x.2 = (sumG ca x.1 l, sumG da x.1 l) := by simpa using e.symm
      rw [e2]
      exact c
  have hlen : ((runL l).take k).length ≤ 50 := by
    have := h0.len
    rw [List.length_take]
    omega
  have s1 := sum_le (·.1) 54975581388800 _ (fun x h => (hx x h).1)
  have s2 := sum_le (·.2) 54975581388800 _ (fun x h => (hx x h).2)
  have h3 : ((runL l).take k).length * 54975581388800 ≤ 50 * 54975581388800 := Nat.mul_le_mul_right _ hlen
  unfold sumA sumB
  omega

end Go.Proofs.Ytfbbdfeigenodaa
