/- A key of two bytes again and again, built byte by byte; a pair's hash by it. -/
import Derived.Test.YtkhkobdbbffkbaaLm0
import Derived.Deep.AppendLies
namespace Go.Proofs.Ytkhkobdbbffkbaa
open Go.RowKit

/-- the key's bytes -/
def kb2 (s t j : Nat) : Nat := if j % 2 = 0 then s else t
theorem kb2_lt {s t : Nat} (hs : s < 256) (ht : t < 256) (j : Nat) : kb2 s t j < 256 := by unfold kb2; split <;> omega
def kcells (s t n : Nat) : List Value := (List.range (2 * n)).map fun j => .int .u8 (kb2 s t j : Nat)
theorem kcells_snoc (s t n : Nat) : kcells s t (n + 1) = kcells s t n ++ [.int .u8 (s : Nat), .int .u8 (t : Nat)] := by
  unfold kcells
  rw [show 2 * (n + 1) = 2 * n + 1 + 1 by omega, List.range_succ, List.range_succ, List.map_append, List.map_append, List.append_assoc]
  have e0 : kb2 s t (2 * n) = s := by unfold kb2; rw [if_pos (by omega)]
  have e1 : kb2 s t (2 * n + 1) = t := by unfold kb2; rw [if_neg (by omega)]
  simp only [List.map_cons, List.map_nil, e0, e1, List.cons_append, List.nil_append]
theorem kcells_get (s t n j : Nat) (hj : j < 2 * n) : (kcells s t n)[j]? = some (.int .u8 (kb2 s t j : Nat)) := by
  unfold kcells
  rw [List.getElem?_map, List.getElem?_range hj]
  rfl
theorem rowB_of {w : World} {base N : Nat} {t : TypeId} {v : Value} {xs : List Value} {f : Nat → Nat} (h : w.ownsRow base t 1 v N xs) (hN : 0 < N) (hx : ∀ j, j < N → xs[j]? = some (.int .u8 (f j : Nat))) :
    ∃ g c, v = .slice (some ⟨g, 0, none⟩) N c ∧ base ≤ g ∧ RowB w g N f := by
  rcases h.2 with ⟨_, h0⟩ | ⟨g, cap, cur, rfl, hg, hh, _⟩
  · omega
  · refine ⟨g, cap, rfl, hg, fun j hj => ?_, fun j _ => ?_, (Array.getElem?_eq_some_iff.1 hh).1⟩
    · have := h.cells (g := g) rfl j _ (hx j hj)
      rw [Go.WideShapes.add_plain, Nat.zero_add] at this
      exact this
    · unfold World.frozen?
      rw [hh]
      simp
/-- a key of two bytes again and again -/
def k2 (s t : Nat) : ByteArray := strOf (kb2 s t) 40
theorem k2_size (s t : Nat) : (k2 s t).size = 40 := strOf_size _ _
theorem k2_period {s t : Nat} (hs : s < 256) (ht : t < 256) (i : Nat) (hi : i < 304) : gb (k2 s t) (i + 16) = gb (k2 s t) i := by
  unfold gb k2
  rw [show (i + 16) / 8 = i / 8 + 2 by omega, show (i + 16) % 8 = i % 8 by omega]
  rw [strOf_bt _ _ _ (by omega) (kb2_lt hs ht _), strOf_bt _ _ _ (by omega) (kb2_lt hs ht _)]
  unfold kb2
  rw [show (i / 8 + 2) % 2 = i / 8 % 2 by omega]
/-- a pair has the hash of the same pair turned about -/
theorem hsh_turned {s t : Nat} (hs : s < 256) (ht : t < 256) (a p b q : Nat) : hsh (k2 s t) (ptx a p b q) = hsh (k2 s t) (ptx b q a p) := by
  have g0 : ∀ k, k < 8 * 4 → gb (ptx b q a p) (8 * 0 + k) = gb (ptx a p b q) (8 * 4 + k) := gb_shift (n := 4) (fun j hj => match j, hj with
    | 0, _ => rfl
    | 1, _ => rfl
    | 2, _ => rfl
    | 3, _ => rfl)
  have g1 : ∀ k, k < 8 * 4 → gb (ptx b q a p) (8 * 4 + k) = gb (ptx a p b q) (8 * 0 + k) := gb_shift (n := 4) (fun j hj => match j, hj with
    | 0, _ => rfl
    | 1, _ => rfl
    | 2, _ => rfl
    | 3, _ => rfl)
  have g2 : ∀ k, k < 8 * 2 → gb (ptx b q a p) (8 * 8 + k) = gb (ptx a p b q) (8 * 10 + k) := gb_shift (n := 2) (fun j hj => match j, hj with
    | 0, _ => rfl
    | 1, _ => rfl)
  have g3 : ∀ k, k < 8 * 2 → gb (ptx b q a p) (8 * 10 + k) = gb (ptx a p b q) (8 * 8 + k) := gb_shift (n := 2) (fun j hj => match j, hj with
    | 0, _ => rfl
    | 1, _ => rfl)
  exact th_turned (k2_period hs ht) g0 g1 g2 g3

end Go.Proofs.Ytkhkobdbbffkbaa
