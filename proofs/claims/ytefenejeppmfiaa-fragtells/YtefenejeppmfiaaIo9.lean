/- What Options tells, in the shape in which the laws want it: options that were written are read, and what is read may be written. -/
import Derived.Test.YtefenejeppmfiaaIo8
namespace Go.Proofs.Ytefenejeppmfiaa
open Go.RowKit

theorem cellsO_at : ∀ (L : List Po) (k : Nat) (x : Po), L[k]? = some x → (cellsO L)[k * 2]? = some (.int .u8 (x.1 : Int)) ∧ (cellsO L)[k * 2 + 1]? = some (.string x.2)
  | y :: L, 0, x, h => by
    obtain rfl : y = x := by simpa using h
    exact ⟨rfl, rfl⟩
  | y :: L, k + 1, x, h => by
    have := cellsO_at L k x (by simpa using h)
    have e : cellsO (y :: L) = .int .u8 (y.1 : Int) :: .string y.2 :: cellsO L := rfl
    rw [e, show (k + 1) * 2 = k * 2 + 1 + 1 by omega]
    exact this
theorem own_opts {w : World} {base : Nat} {v : Value} {L : List Po} (h : w.ownsRow base 44 2 v L.length (cellsO L)) : OptsAt w.heap.size w v L := by
  rcases h.2 with ⟨rfl, h2⟩ | ⟨g, cap, cur, rfl, _, h3, h4, _, h6, h7⟩
  · exact .inl ⟨⟨_, _, rfl⟩, List.eq_nil_of_length_eq_zero h2⟩
  · refine .inr ⟨g, 0, cap, rfl, (Array.getElem?_eq_some_iff.1 h3).1, fun k x hk => ?_⟩
    obtain ⟨c1, c2⟩ := cellsO_at L k x hk
    have hl : k < L.length := (List.getElem?_eq_some_iff.1 hk).1
    have at' : ∀ j u, j < L.length * 2 → (cellsO L)[j]? = some u → w.cell? ⟨g, j, none⟩ = some u := fun j u hj hu => by
      rw [← h7, List.getElem?_take, if_pos hj] at hu
      refine box_cell h3 ?_
      rwa [← Array.getElem?_toList]
    rw [Nat.zero_add]
    exact ⟨at' _ _ (by omega) c1, at' _ _ (by omega) c2⟩
theorem op_inj {a b : Po} (h : a.op = b.op) : a = b := by
  obtain ⟨a1, a2⟩ := a
  obtain ⟨b1, b2⟩ := b
  unfold Po.op at h
  simp only [Prod.mk.injEq] at h
  obtain ⟨rfl, h⟩ := h
  rw [list_ba h]
theorem map_op_inj : ∀ {L M : List Po}, L.map Po.op = M.map Po.op → L = M
  | [], [], _ => rfl
  | x :: L, y :: M, h => by
    simp only [List.map_cons, List.cons.injEq] at h
    rw [op_inj h.1, map_op_inj h.2]
/-- a text whose options are known -/
theorem options_of {s : ByteArray} {L : List Po} (hs : s.size ≤ 40) (h : optsR s = some (L.map Po.op)) (w : World) :
    Calls Try.prog 15 #[.string s] w fun e w' => ∃ sp sc, e = .returned (.tuple #[.slice sp L.length sc, .int .i64 0]) ∧ OptsAt w'.heap.size w' (.slice sp L.length sc) L ∧ Below w.heap.size w w' := by
  refine (options_short s w hs).mono ?_
  rintro e w' (⟨hn, _⟩ | ⟨M, sp, sc, hM, _, he, ho, hb⟩)
  · rw [hn] at h; cases h
  · have hML : M = L := map_op_inj (Option.some.inj (hM.symm.trans h))
    rw [hML] at he ho
    exact ⟨sp, sc, he, own_opts ho, hb⟩
theorem options_none {s : ByteArray} (hs : s.size ≤ 40) (h : optsR s = none) (w : World) :
    Calls Try.prog 15 #[.string s] w fun e w' => e = .returned (.tuple #[.slice none 0 0, .int .i64 102]) ∧ Below w.heap.size w w' := by
  refine (options_short s w hs).mono ?_
  rintro e w' (⟨_, he, hb⟩ | ⟨M, sp, sc, hM, _⟩)
  · exact ⟨he, hb⟩
  · rw [h] at hM; cases hM
theorem not_notB {x : Po} (h : optMay x.op) : ¬ notB x := by
  unfold optMay Po.op at h
  simp only at h
  unfold notB
  rintro (h0 | ⟨h1, h2⟩)
  · omega
  · rcases h with ⟨_, h3⟩ | h3
    · apply h2
      rw [Lib.size_eq, h3]
      rfl
    · omega
theorem lists_map : ∀ (m : List Opt), ∃ L : List Po, L.map Po.op = m
  | [] => ⟨[], rfl⟩
  | o :: m => by
    obtain ⟨L, h⟩ := lists_map m
    exact ⟨(o.1, ⟨o.2.toArray⟩) :: L, by simp [h, Po.op]⟩
/-- options that were written are read -/
theorem back_opts {L : List Po} (he : optsE L = 0) (hx : ∀ x ∈ L, x.1 < 256) : (⟨(pad4 (optsL L)).toArray⟩ : ByteArray).size ≤ 40 ∧ (⟨(pad4 (optsL L)).toArray⟩ : ByteArray).size % 4 = 0 ∧ optsR ⟨(pad4 (optsL L)).toArray⟩ = some (L.map Po.op) := by
  have hn : ¬ anyNot L := fun c => by unfold optsE at he; rw [if_pos c] at he; cases he
  have hsz : sumS L ≤ 40 := by
    unfold optsE at he
    rw [if_neg hn] at he
    by_cases c : sumS L ≤ 40
    · exact c
    · rw [if_neg c] at he; cases he
  have hlen := optsL_len L hn
  have e : (⟨(pad4 (optsL L)).toArray⟩ : ByteArray).size = (pad4 (optsL L)).length := arr_size _
  refine ⟨?_, ?_, ?_⟩
  · rw [e]
    have := pad4_le (optsL L) (n := 40) (by omega)
    omega
  · rw [e]
    exact pad4_four _
  · unfold optsR
    rw [e]
    refine opt_back (L.map Po.op) (fun o ho => ?_) (by have h1 := hlen; unfold optsL at h1; omega) _ _ ?_
    · obtain ⟨x, hx', rfl⟩ := List.mem_map.1 ho
      exact ⟨may_notB (fun c => hn ⟨x, hx', c⟩), hx x hx'⟩
    · rw [pad4_len]
      unfold optsL
      exact Nat.le_refl _
/-- what is read may be written, and is read as the same -/
theorem again_opts {s : ByteArray} {L : List Po} (hs : s.size ≤ 40) (h : optsR s = some (L.map Po.op)) :
    optsE L = 0 ∧ (∀ x ∈ L, x.1 < 256 ∧ x.2.size ≤ 1048576) ∧ (⟨(pad4 (optsL L)).toArray⟩ : ByteArray).size ≤ (s.size + 3) / 4 * 4 ∧ (⟨(pad4 (optsL L)).toArray⟩ : ByteArray).size ≤ 40 ∧ optsR ⟨(pad4 (optsL L)).toArray⟩ = some (L.map Po.op) := by
  have hl := Lib.size_eq s
  unfold optsR at h
  rw [hl] at h
  obtain ⟨a, b, _, d⟩ := opt_again (by omega) h
  have hn : ¬ anyNot L := fun ⟨x, hx, hy⟩ => not_notB (b _ (List.mem_map.2 ⟨x, hx, rfl⟩)).1 hy
  have hlen := optsL_len L hn
  have hlen2 : (optsB (L.map Po.op)).length = sumS L := hlen
  have he : optsE L = 0 := by unfold optsE; rw [if_neg hn, if_pos (by omega)]
  have hk : ∀ x ∈ L, x.1 < 256 := fun x hx => (b _ (List.mem_map.2 ⟨x, hx, rfl⟩)).2
  have hB := back_opts he hk
  have e : (⟨(pad4 (optsL L)).toArray⟩ : ByteArray).size = (pad4 (optsL L)).length := arr_size _
  refine ⟨he, fun x hx => ⟨hk x hx, ?_⟩, ?_, hB.1, hB.2.2⟩
  · have hm : ∀ (M : List Po), x ∈ M → x.2.size ≤ sumS M + 1 := by
      intro M hM
      induction M with
      | nil => cases hM
      | cons y M ih =>
        rcases List.mem_cons.1 hM with rfl | hM
        · have hmay := (b _ (List.mem_map.2 ⟨x, hx, rfl⟩)).1
          simp only [sumS]
          unfold poS
          split
          · rename_i h1
            rcases hmay with ⟨_, h2⟩ | h2
            · have : x.2.data.toList = [] := h2
              rw [Lib.size_eq, this]
              simp
            · have : 1 < x.1 := h2
              omega
          · omega
        · have := ih hM
          simp only [sumS]
          omega
    have := hm L hx
    omega
  · rw [e, hl]
    exact d

end Go.Proofs.Ytefenejeppmfiaa
