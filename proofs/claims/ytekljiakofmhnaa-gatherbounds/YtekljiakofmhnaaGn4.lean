/- The contracts of slices.Clone and slices.Insert over parts, over the loaded program: what comes back is memory of the calls' own; no memory that was there has turned. -/
import Derived.Test.YtekljiakofmhnaaGn2
import Derived.Lib.SliceRun
import Derived.Lib.Overlaps
import Derived.Lib.AppendZerosOnto
import Derived.Laws.CopyRow
import Derived.Shelf.Spec.SlicesInsert
import Derived.Maps.AppendAt
namespace Go.Proofs.Ytekljiakofmhnaa
open Go.RowKit

theorem flatP_length (l : List Pt) : (flatP l).length = l.length * 3 := by
  induction l with
  | nil => rfl
  | cons x r ih =>
    simp only [flatP, List.map_cons, List.flatten_cons, List.length_append, List.length_cons] at *
    rw [ih]
    simp
    omega
theorem flatP_app (l r : List Pt) : flatP (l ++ r) = flatP l ++ flatP r := by simp [flatP]
theorem flatP_cons (p : Pt) (r : List Pt) : flatP (p :: r) = ptL p ++ flatP r := by simp [flatP]
theorem flatP_take (l : List Pt) (i : Nat) : flatP (l.take i) = (flatP l).take (i * 3) := by
  induction l generalizing i with
  | nil => simp [flatP]
  | cons x r ih =>
    cases i with
    | zero => simp [flatP]
    | succ i =>
      rw [List.take_succ_cons, flatP_cons, flatP_cons, ih, show (i + 1) * 3 = 3 + i * 3 by omega, List.take_append, show (ptL x).length = 3 from rfl, show 3 + i * 3 - 3 = i * 3 by omega, List.take_of_length_le (l := ptL x) (by show 3 ≤ _; omega)]
theorem flatP_drop (l : List Pt) (i : Nat) : flatP (l.drop i) = (flatP l).drop (i * 3) := by
  induction l generalizing i with
  | nil => simp [flatP]
  | cons x r ih =>
    cases i with
    | zero => simp
    | succ i =>
      rw [List.drop_succ_cons, flatP_cons, ih, show (i + 1) * 3 = 3 + i * 3 by omega, List.drop_append, show (ptL x).length = 3 from rfl, show 3 + i * 3 - 3 = i * 3 by omega, show (ptL x).drop (3 + i * 3) = [] from List.drop_eq_nil_of_le (by show 3 ≤ _; omega), List.nil_append]
theorem flatP_one (l : List Pt) : ∀ v ∈ flatP l, v.oneCell' = true := by
  intro v hv
  simp only [flatP, List.mem_flatten, List.mem_map] at hv
  obtain ⟨_, ⟨p, _, rfl⟩, h⟩ := hv
  simp only [ptL, List.mem_cons, List.not_mem_nil, or_false] at h
  rcases h with rfl | rfl | rfl <;> rfl
theorem flatP_get (l : List Pt) (j : Nat) (p : Pt) (h : l[j]? = some p) : (flatP l)[j * 3]? = some (.int .i64 p.pa) ∧ (flatP l)[j * 3 + 1]? = some (.string p.pd) ∧ (flatP l)[j * 3 + 2]? = some (.bool p.pm) := by
  induction l generalizing j with
  | nil => simp at h
  | cons x r ih =>
    cases j with
    | zero =>
      simp at h
      subst h
      rw [flatP_cons]
      exact ⟨rfl, rfl, rfl⟩
    | succ j =>
      obtain ⟨a, b, c⟩ := ih j (by simpa using h)
      rw [flatP_cons]
      refine ⟨?_, ?_, ?_⟩
      · rw [List.getElem?_append_right (by show 3 ≤ _; omega), show (j + 1) * 3 - (ptL x).length = j * 3 by show (j + 1) * 3 - 3 = _; omega]; exact a
      · rw [List.getElem?_append_right (by show 3 ≤ _; omega), show (j + 1) * 3 + 1 - (ptL x).length = j * 3 + 1 by show (j + 1) * 3 + 1 - 3 = _; omega]; exact b
      · rw [List.getElem?_append_right (by show 3 ≤ _; omega), show (j + 1) * 3 + 2 - (ptL x).length = j * 3 + 2 by show (j + 1) * 3 + 2 - 3 = _; omega]; exact c
/-- the other way -/
theorem flatP_cells {w : World} {g : Nat} : ∀ (l : List Pt) (o : Nat), (∀ j p, l[j]? = some p → w.cell? ⟨g, o + j * 3, none⟩ = some (.int .i64 p.pa) ∧ w.cell? ⟨g, o + j * 3 + 1, none⟩ = some (.string p.pd) ∧ w.cell? ⟨g, o + j * 3 + 2, none⟩ = some (.bool p.pm)) →
    ∀ j u, (flatP l)[j]? = some u → w.cell? ⟨g, o + j, none⟩ = some u
  | [], _, _ => fun j u h => by simp [flatP] at h
  | x :: r, o, H => fun j u h => by
    obtain ⟨a, b, c⟩ := H 0 x rfl
    rw [flatP_cons] at h
    match j, h with
    | 0, h => simp at h; subst h; simpa using a
    | 1, h => simp at h; subst h; simpa using b
    | 2, h => simp at h; subst h; simpa using c
    | j + 3, h =>
      rw [List.getElem?_append_right (by show 3 ≤ _; omega), show j + 3 - (ptL x).length = j by show j + 3 - 3 = _; omega] at h
      have := flatP_cells r (o + 3) (fun i p hi => by
        have := H (i + 1) p (by simpa using hi)
        rw [show o + (i + 1) * 3 = o + 3 + i * 3 by omega] at this
        exact this) j u h
      rw [show o + (j + 3) = o + 3 + j by omega]
      exact this
theorem own_pv {w : World} {base : Nat} {v : Value} {l : List Pt} (h : w.ownsRow base 70 3 v l.length (flatP l)) : PV w v l := by
  rcases h.2 with ⟨rfl, h2⟩ | ⟨g, cap, cur, rfl, h1, h3, h4, h5, h6, h7⟩
  · exact .inl ⟨rfl, List.eq_nil_of_length_eq_zero h2⟩
  · refine .inr ⟨g, cap, rfl, h4, h5, (Array.getElem?_eq_some_iff.1 h3).1, fun j p hj => ?_⟩
    have hc : ∀ k u, (flatP l)[k]? = some u → w.cell? ⟨g, k, none⟩ = some u := fun k u hk => by
      rw [← h7, List.getElem?_take] at hk
      split at hk
      · simp only [World.cell?, h3]
        simpa using hk
      · cases hk
    obtain ⟨a, b, c⟩ := flatP_get l j p hj
    exact ⟨hc _ _ a, hc _ _ b, hc _ _ c⟩

set_option maxHeartbeats 1000000 in
theorem clonep_any (v : Value) (l : List Pt) (w : World) (hv : PV w v l) (hl : l.length ≤ 65536) :
    Calls Try.prog 57 #[v] w fun e w' => ∃ v', e = .returned v' ∧ w'.ownsRow w.heap.size 70 3 v' l.length (flatP l) ∧ Below w.heap.size w w' := by
  obtain ⟨i0, hi, hz0, hz1, hz2⟩ := info_parts (P := Try.prog) (e := 70) (z := .agg #[.int .i64 0, .string ⟨#[]⟩, .bool false]) (size := 3) (bytes := 32) (by kernel_rfl)
  have q22 : ∀ (w : World) (a : Option Addr) (n c n' c' : Nat), (binOp .eql 57 (.slice a n c) (.slice none n' c')).run Try.prog w = .ok (.bool a.isNone) w := fun w a n c n' c' => Lib.run_eql_slice_nil w _ _ a n c n' c' Try.underlying57
  rcases hv with ⟨rfl, rfl⟩ | ⟨g, c, rfl, h1, h2, h3, h4⟩
  · go_enter Try.func57, Try.ntmps57
    go_wp2
    go_ret
    exact ⟨_, rfl, World.ownsRow_nil _ _ _ _, Below.refl _ _⟩
  · have hc := flatP_cells l 0 (fun j p hj => by simpa using h4 j p hj)
    have A := hide hc
    clear hc h4
    go_enter Try.func57, Try.ntmps57
    go_wp2_with (at_builtin; refine wpList_append_own_at _ rfl _ _ 57 rfl w.heap.size 70 i0 _ 3 32 Try.underlying57 hi hz0 hz1 hz2 rfl (by decide) _ 0 [] rfl (World.ownsRow_made w #[] 0 (Nat.le_refl _) (Nat.zero_le _) (by simp)) ⟨g, 0, none⟩ l.length c (flatP l) rfl (flatP_length l) ?qc2 (flatP_one l) (by unfold maxLen; omega) (by omega) (by simp) ?_)
    case qc2 =>
      intro j u hj
      rw [Addr.add_lit]
      exact Lib.cell?_alloc_some _ (unhide A j u hj)
    intro v' w1 hown hgrow hnil hblk
    go_wp2
    go_ret
    refine ⟨v', rfl, by simpa using hown, ?_⟩
    exact ((Below.refl _ w).alloc (Nat.le_refl _) _).grown hgrow (by simp) (by intro k hk; simp [Value.ownBlock] at hk; omega)

end Go.Proofs.Ytekljiakofmhnaa
