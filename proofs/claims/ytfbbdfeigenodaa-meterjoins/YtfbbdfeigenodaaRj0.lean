/- The document's Copy and Join. -/
import Derived.Test.YtfbbdfeigenodaaRf4
import Derived.Test.YtfbbdfeigenodaaJn0
namespace Go.Proofs.Ytfbbdfeigenodaa
open Go.RowKit Go.Maps
attribute [local go_sem ↓] Go.wp_at_zero Go.wp_at_succ

def CopyPost (L : List Ent) (w : World) (e : Ending) (w' : World) : Prop :=
  ∃ r v, e = .returned (.pointer (some ⟨r, 0, none⟩)) ∧ RM w' r v L ∧ w.heap.size ≤ r ∧ (∀ i, v.ownBlock = some i → w.heap.size ≤ i) ∧ Below w.heap.size w w'

set_option maxRecDepth 100000 in
set_option maxHeartbeats 1000000 in
theorem copy_any (r : Nat) (v : Value) (L : List Ent) (w : World) (h : RM w r v L) (hL : L.length ≤ 64) :
    Calls Try.prog 29 #[.pointer (some ⟨r, 0, none⟩)] w (CopyPost L w) := by
  have hc := h.cell
  have HR := hide h
  have fin : ∀ (v' : Value) (w' : World), w'.ownsRow w.heap.size 49 3 v' (0 + L.length) ([] ++ cellsL L) → w.grownBy w' none → CopyPost L w (.returned (.pointer (some ⟨w'.heap.size, 0, none⟩))) (w'.alloc (.cells #[v'] 58)) := by
    intro v' w' ho hg
    rw [Nat.zero_add, List.nil_append] at ho
    exact ⟨_, v', rfl, ⟨heap_alloc_new _ _, row_base (ho.alloc _) (Nat.zero_le _)⟩, hg.size, fun i hi => (ho.lt i hi).1, ((Below.refl _ w).grown hg (Nat.le_refl _) (by simp)).alloc hg.size _⟩
  have HF := hide fin
  clear fin
  rcases h.form with ⟨rfl, rfl⟩ | ⟨g, c, rfl, _⟩
  · clear h
    go_enter Try.func29, Try.ntmps29
    go_wp2_with (first
      | (at_builtin; refine wpList_append_x rfl _ _ rfl w.heap.size (.slice none 0 0) 0 [] rfl (World.ownsRow_nil _ _ _ _) none 0 0 [] rfl (.inl ⟨rfl, rfl, rfl, rfl⟩) (by simp) (by omega) (Nat.le_refl _) ?_; intro v1 w2 hown1 hgrow1 hloc1; obtain ⟨p3, c3, rfl⟩ := row_slice hown1)
      | go_in)
    go_ret
    have hfin := unhide HF _ w2 hown1 hgrow1
    simp only [Nat.zero_add] at hfin
    exact hfin
  · clear h
    have HN1 : Hid (((some ⟨g, 0, none⟩ : Option Addr) = none ∧ L.length = 0 ∧ c = 0 ∧ cellsL L = []) ∨ (∃ ad, (some ⟨g, 0, none⟩ : Option Addr) = some ad ∧ (cellsL L).length = L.length * 3 ∧ ∀ j u, (cellsL L)[j]? = some u → w.cell? (ad.add j) = some u)) := .inr ⟨_, rfl, cellsL_len L, fun j u hu => by rw [add_zero_at]; exact row_all (unhide HR) j u hu⟩
    go_enter Try.func29, Try.ntmps29
    go_wp2_with (first
      | (at_builtin; refine wpList_append_x rfl _ _ rfl w.heap.size (.slice none 0 0) 0 [] rfl (World.ownsRow_nil _ _ _ _) (some ⟨g, 0, none⟩) L.length c (cellsL L) rfl (unhide HN1) cellsL_one (by omega) (Nat.le_refl _) ?_; intro v1 w2 hown1 hgrow1 hloc1; obtain ⟨p3, c3, rfl⟩ := row_slice hown1)
      | go_in)
    go_ret
    have hfin := unhide HF _ w2 hown1 hgrow1
    simp only [Nat.zero_add] at hfin
    exact hfin

end Go.Proofs.Ytfbbdfeigenodaa
