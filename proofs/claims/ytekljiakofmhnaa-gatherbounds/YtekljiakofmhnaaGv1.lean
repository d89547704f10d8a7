/- What Tick lets go, without the program. -/
import Derived.Test.YtekljiakofmhnaaGu4
namespace Go.Proofs.Ytekljiakofmhnaa
open Go.RowKit Go.Shelf

/-- how many of the first ones are over -/
def tickN (t : Int) : List En → Nat
  | [] => 0
  | e :: r => if e.a.ov ≤ t then tickN t r + 1 else 0
def hdOf (e : En) : List Rh := if head0 e.a.ps = true then [e.a.hd] else []
/-- the heads of those whose beginning came -/
def headsE (l : List En) : List Rh := (l.map hdOf).flatten
theorem headsE_snoc (L : List En) (n : Nat) (e : En) (h : L[n]? = some e) : headsE (L.take (n + 1)) = headsE (L.take n) ++ hdOf e := by
  obtain ⟨hlt, he⟩ := List.getElem?_eq_some_iff.1 h
  rw [take_snoc' L n hlt, he]
  simp [headsE]
theorem headsE_len (l : List En) : (headsE l).length ≤ l.length := by
  induction l with
  | nil => simp [headsE]
  | cons e r ih =>
    have : headsE (e :: r) = hdOf e ++ headsE r := by simp [headsE]
    rw [this, List.length_append, List.length_cons]
    have : (hdOf e).length ≤ 1 := by unfold hdOf; split <;> simp
    omega
theorem tickN_le (t : Int) (L : List En) : tickN t L ≤ L.length := by
  induction L with
  | nil => exact Nat.le_refl _
  | cons e r ih => simp only [tickN, List.length_cons]; split <;> omega
theorem tickN_stop {t : Int} {L : List En} {n : Nat} {e : En} (hn : ∀ (j : Nat) (x : En), j < n → L[j]? = some x → x.a.ov ≤ t) (he : L[n]? = some e) (ho : t < e.a.ov) : tickN t L = n := by
  induction L generalizing n with
  | nil => simp at he
  | cons y r ih =>
    cases n with
    | zero =>
      obtain rfl : y = e := by simpa using he
      simp only [tickN]
      rw [if_neg (by omega)]
    | succ n =>
      simp only [tickN]
      have h0 : y.a.ov ≤ t := hn 0 y (Nat.zero_lt_succ n) rfl
      have h1 : tickN t r = n := ih (n := n) (fun j x hj hx => hn (j + 1) x (Nat.succ_lt_succ hj) (by simpa using hx)) (by simpa using he)
      rw [if_pos h0, h1]
theorem tickN_all {t : Int} {L : List En} (hn : ∀ (j : Nat) (x : En), L[j]? = some x → x.a.ov ≤ t) : tickN t L = L.length := by
  induction L with
  | nil => rfl
  | cons y r ih =>
    simp only [tickN]
    have h0 : y.a.ov ≤ t := hn 0 y rfl
    have h1 : tickN t r = r.length := ih (fun j x hx => hn (j + 1) x (by simpa using hx))
    rw [if_pos h0, h1]
    rfl
theorem drop_first {e : En} {r : List En} (h : ((e :: r).map (·.k)).Nodup) : dropE e.k (e :: r) = r := by
  simp only [List.map_cons, List.nodup_cons] at h
  unfold dropE
  rw [List.filter_cons_of_neg (by simp)]
  apply List.filter_eq_self.2
  intro x hx
  have : x.k ≠ e.k := fun q => h.1 (List.mem_map.2 ⟨x, hx, q⟩)
  simpa using this
theorem look_first (e : En) (r : List En) : lookE e.k (e :: r) = some e := by simp [lookE]
theorem drop_cons {L : List En} {n : Nat} {e : En} (h : L[n]? = some e) : L.drop n = e :: L.drop (n + 1) := by
  obtain ⟨hlt, rfl⟩ := List.getElem?_eq_some_iff.1 h
  exact List.drop_eq_getElem_cons hlt
theorem WF.first {c : Cf} {e : En} {r : List En} {last : Int} (h : WF c (e :: r) last) : WF c r last := by
  have := h.drop (look_first e r)
  rwa [drop_first h.nd] at this

end Go.Proofs.Ytekljiakofmhnaa
