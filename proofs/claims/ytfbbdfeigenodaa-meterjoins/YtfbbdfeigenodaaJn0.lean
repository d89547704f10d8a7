/- Counters added all, or up to the first error; meters joined one after the other. -/
import Derived.Test.YtfbbdfeigenodaaMt6
namespace Go.Proofs.Ytfbbdfeigenodaa
open Go.RowKit Go.Maps

def addAll : List Ent → List Ent → Int × List Ent
  | [], X => (0, X)
  | x :: r, X => if (addL X x.1 (x.2.1 : Int) (x.2.2 : Int)).1 = 0 then addAll r (addL X x.1 (x.2.1 : Int) (x.2.2 : Int)).2 else addL X x.1 (x.2.1 : Int) (x.2.2 : Int)
def joinL : List (List Ent) → List Ent → Int × List Ent
  | [], X => (0, X)
  | A :: r, X => if (addAll A X).1 = 0 then joinL r (addAll A X).2 else addAll A X

theorem addAll_append : ∀ (A B X : List Ent), addAll (A ++ B) X = if (addAll A X).1 = 0 then addAll B (addAll A X).2 else addAll A X
  | [], B, X => by simp [addAll]
  | x :: r, B, X => by
    simp only [List.cons_append, addAll]
    by_cases h : (addL X x.1 (x.2.1 : Int) (x.2.2 : Int)).1 = 0
    · simp only [if_pos h]
      exact addAll_append r B _
    · simp only [if_neg h]
theorem joinL_append : ∀ (A B : List (List Ent)) (X : List Ent), joinL (A ++ B) X = if (joinL A X).1 = 0 then joinL B (joinL A X).2 else joinL A X
  | [], B, X => by simp [joinL]
  | x :: r, B, X => by
    simp only [List.cons_append, joinL]
    by_cases h : (addAll x X).1 = 0
    · simp only [if_pos h]
      exact joinL_append r B _
    · simp only [if_neg h]

theorem split_at {α : Type} {L : List α} {k : Nat} {x : α} (h : L[k]? = some x) : L = L.take k ++ x :: L.drop (k + 1) := by
  have hk := (List.getElem?_eq_some_iff.1 h).1
  have := List.take_append_drop k L
  rw [List.drop_eq_getElem_cons hk] at this
  have e : L[k] = x := (List.getElem?_eq_some_iff.1 h).2
  rw [e] at this
  exact this.symm
theorem take_at {α : Type} {L : List α} {k : Nat} {x : α} (h : L[k]? = some x) : L.take (k + 1) = L.take k ++ [x] := by
  rw [List.take_add_one, h]
  rfl

theorem addAll_step {A X X1 : List Ent} {k : Nat} {x : Ent} (hx : A[k]? = some x) (h : addAll (A.take k) X = (0, X1)) (h0 : (addL X1 x.1 (x.2.1 : Int) (x.2.2 : Int)).1 = 0) : addAll (A.take (k + 1)) X = (0, (addL X1 x.1 (x.2.1 : Int) (x.2.2 : Int)).2) := by
  rw [take_at hx, addAll_append, h]
  simp only [if_true, addAll, if_pos h0]
theorem addAll_stop {A X X1 : List Ent} {k : Nat} {x : Ent} (hx : A[k]? = some x) (h : addAll (A.take k) X = (0, X1)) (h0 : (addL X1 x.1 (x.2.1 : Int) (x.2.2 : Int)).1 ≠ 0) : (addAll A X).1 = (addL X1 x.1 (x.2.1 : Int) (x.2.2 : Int)).1 := by
  conv => lhs; rw [split_at hx, addAll_append, h]
  simp only [if_true, addAll, if_neg h0]
theorem joinL_step {A : List (List Ent)} {X X1 X2 B : List Ent} {k : Nat} (hx : A[k]? = some B) (h : joinL (A.take k) X = (0, X1)) (h0 : addAll B X1 = (0, X2)) : joinL (A.take (k + 1)) X = (0, X2) := by
  rw [take_at hx, joinL_append, h]
  simp only [if_true, joinL, h0]
theorem joinL_stop {A : List (List Ent)} {X X1 B : List Ent} {k : Nat} (hx : A[k]? = some B) (h : joinL (A.take k) X = (0, X1)) (h0 : (addAll B X1).1 ≠ 0) : (joinL A X).1 = (addAll B X1).1 := by
  conv => lhs; rw [split_at hx, joinL_append, h]
  simp only [if_true, joinL, if_neg h0]

theorem cnt_addAll : ∀ (A : List Ent) {X : List Ent}, Cnt X → Cnt (addAll A X).2
  | [], _, h => h
  | x :: r, X, h => by
    unfold addAll
    split
    · exact cnt_addAll r (cnt_addL h _ _ _)
    · exact cnt_addL h _ _ _
theorem cnt_joinL : ∀ (A : List (List Ent)) {X : List Ent}, Cnt X → Cnt (joinL A X).2
  | [], _, h => h
  | x :: r, X, h => by
    unfold joinL
    split
    · exact cnt_joinL r (cnt_addAll x h)
    · exact cnt_addAll x h

end Go.Proofs.Ytfbbdfeigenodaa
