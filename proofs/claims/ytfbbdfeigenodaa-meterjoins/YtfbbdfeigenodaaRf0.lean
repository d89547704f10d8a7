/- The document's meter in memory; what its At answers. -/
import Derived.Test.YtfbbdfeigenodaaMt5
import Derived.Sort.Walk0
namespace Go.Proofs.Ytfbbdfeigenodaa
open Go.RowKit Go.Maps

/-- the document's meter: its box, its row -/
structure RM (w : World) (r : Nat) (v : Value) (L : List Ent) : Prop where
  box : w.heap[r]? = some (.cells #[v] 58)
  row : w.ownsRow 0 49 3 v L.length (cellsL L)

theorem RM.cell {w : World} {r : Nat} {v : Value} {L : List Ent} (h : RM w r v L) : w.cell? ⟨r, 0, none⟩ = some v := by simp [World.cell?, h.box]
theorem RM.frozen {w : World} {r : Nat} {v : Value} {L : List Ent} (h : RM w r v L) : w.frozen? ⟨r, 0, none⟩ = false := by simp [World.frozen?, h.box]
theorem RM.rlt {w : World} {r : Nat} {v : Value} {L : List Ent} (h : RM w r v L) : r < w.heap.size := (Array.getElem?_eq_some_iff.1 h.box).1
theorem RM.ne {w : World} {r : Nat} {v : Value} {L : List Ent} (h : RM w r v L) : v.ownBlock ≠ some r := by
  intro e
  rcases h.row.2 with ⟨rfl, _⟩ | ⟨g, cap, cur, rfl, _, hg, _⟩
  · cases e
  · have : g = r := by simpa [Value.ownBlock] using e
    subst this
    have := h.box
    rw [hg] at this
    simp at this
theorem RM.kept {w w' : World} {r : Nat} {v : Value} {L : List Ent} {T : List Nat} (h : RM w r v L) (k : Kp T w w') (h1 : r ∉ T) (h2 : ∀ i ∈ T, v.ownBlock ≠ some i) : RM w' r v L :=
  ⟨(k.block r h.rlt h1).trans h.box, row_kp h.row k h2⟩
theorem RM.form {w : World} {r : Nat} {v : Value} {L : List Ent} (h : RM w r v L) : (v = .slice none 0 0 ∧ L = []) ∨
    ∃ g c, v = .slice (some ⟨g, 0, none⟩) L.length c ∧ L.length ≤ c ∧ g < w.heap.size ∧ ∀ k x, L[k]? = some x → w.cell? ⟨g, k * 3, none⟩ = some (encStr x.1) ∧ w.cell? ⟨g, k * 3 + 1, none⟩ = some (.int .i64 (x.2.1 : Int)) ∧ w.cell? ⟨g, k * 3 + 2, none⟩ = some (.int .i64 (x.2.2 : Int)) := by
  rcases h.row.2 with ⟨hv, h0⟩ | ⟨g, cap, cur, hv, _, hg, hn, _, _, ht⟩
  · exact .inl ⟨hv, List.eq_nil_of_length_eq_zero h0⟩
  · refine .inr ⟨g, cap, hv, hn, (Array.getElem?_eq_some_iff.1 hg).1, fun k x hx => ?_⟩
    have c := cellsL_get L hx
    exact ⟨row_cell hg ht (c 0 (by omega)), row_cell hg ht (c 1 (by omega)), row_cell hg ht (c 2 (by omega))⟩

theorem str_eq (x : List UInt8) (s : ByteArray) : (x == s.toList) = decide (x = s.data.toList) := by
  rw [Lib.toList_data]
  by_cases h : x = s.data.toList
  · rw [beq_iff_eq.2 h, decide_eq_true h]
  · rw [beq_eq_false_iff_ne.2 h, decide_eq_false h]

set_option maxRecDepth 100000 in
set_option maxHeartbeats 1000000 in
theorem at_none (r : Nat) (v : Value) (L : List Ent) (s : ByteArray) (w : World) (h : RM w r v L) (hl : lookE s.data.toList L = none) (hr : L.length ≤ 64) :
    Calls Try.prog 11 #[.pointer (some ⟨r, 0, none⟩), .string s] w fun e w' => e = .returned (.int .i64 (-1)) ∧ w' = w := by
  have hc := h.cell
  rcases h.form with ⟨rfl, rfl⟩ | ⟨g, c, rfl, hnc, hg, hcell⟩
  · go_enter Try.func11, Try.ntmps11
    go_wp2
    go_loop [5] (fun i => i = .int .i64 0) (fun _ => 0)
    case atStart => exact rfl
    case round =>
      obtain rfl := hrel
      go_wp2
      go_ret
      exact ⟨rfl, rfl⟩
  · have HC := hide hcell
    have HL := hide hl
    clear hcell hl h
    go_enter Try.func11, Try.ntmps11
    go_wp2
    go_loop [5] (fun i => ∃ k : Nat, k ≤ L.length ∧ i = .int .i64 (k : Int)) (fun i => L.length - (intOf i).toNat)
    case atStart => exact ⟨0, Nat.zero_le _, rfl⟩
    case round =>
      obtain ⟨k, hk, rfl⟩ := hrel
      by_cases hlt : k < L.length
      · obtain ⟨x, hx⟩ : ∃ x, L[k]? = some x := ⟨L[k], List.getElem?_eq_getElem hlt⟩
        have hc1 := (unhide HC k x hx).1
        have hne := lookE_none.1 (unhide HL) x (List.mem_of_getElem? hx)
        have hd : (x.1 == s.toList) = false := by rw [str_eq]; exact decide_eq_false hne
        clear hx hne
        have hi1 : (0 : Int) ≤ (k : Int) := by omega
        have hi2 : (k : Int) < (L.length : Int) := by omega
        have hi3 : (L.length : Int) ≤ (c : Int) := by omega
        go_wp2
        go_round
        case rel => exact ⟨k + 1, by omega, by go_num⟩
        case measure => simp [intOf]; omega
      · obtain rfl : k = L.length := by omega
        go_wp2
        go_ret
        exact ⟨rfl, rfl⟩

set_option maxRecDepth 100000 in
set_option maxHeartbeats 1000000 in
theorem at_some (r : Nat) (v : Value) (L : List Ent) (s : ByteArray) (w : World) (h : RM w r v L) (q : Nat × Nat) (hl : lookE s.data.toList L = some q) (hr : L.length ≤ 64) (hS : Srt L) :
    Calls Try.prog 11 #[.pointer (some ⟨r, 0, none⟩), .string s] w fun e w' => ∃ k : Nat, e = .returned (.int .i64 (k : Int)) ∧ w' = w ∧ L[k]? = some (s.data.toList, q) := by
  have hc := h.cell
  rcases h.form with ⟨rfl, rfl⟩ | ⟨g, c, rfl, hnc, hg, hcell⟩
  · cases hl
  · have HC := hide hcell
    have HL := hide hl
    have HS := hide hS
    clear hcell hl h hS
    go_enter Try.func11, Try.ntmps11
    go_wp2
    go_loop [5] (fun i => ∃ k : Nat, k ≤ L.length ∧ i = .int .i64 (k : Int) ∧ Hid (∀ x ∈ L.take k, x.1 ≠ s.data.toList)) (fun i => L.length - (intOf i).toNat)
    case atStart => exact ⟨0, Nat.zero_le _, rfl, by intro x hx; simp at hx⟩
    case round =>
      obtain ⟨k, hk, rfl, HN⟩ := hrel
      by_cases hlt : k < L.length
      · obtain ⟨x, hx⟩ : ∃ x, L[k]? = some x := ⟨L[k], List.getElem?_eq_getElem hlt⟩
        have hc1 := (unhide HC k x hx).1
        have hi1 : (0 : Int) ≤ (k : Int) := by omega
        have hi2 : (k : Int) < (L.length : Int) := by omega
        have hi3 : (L.length : Int) ≤ (c : Int) := by omega
        by_cases he : x.1 = s.data.toList
        · have hd : (x.1 == s.toList) = true := by rw [str_eq]; exact decide_eq_true he
          have HX : Hid (L[k]? = some (s.data.toList, q)) := by
            have := srt_get (unhide HS) hx
            rw [he, unhide HL] at this
            rw [hx, ← he]
            have e2 : q = x.2 := by simpa using this
            rw [e2]
            exact rfl
          clear hx he
          go_wp2
          go_ret
          exact ⟨k, rfl, rfl, unhide HX⟩
        · have hd : (x.1 == s.toList) = false := by rw [str_eq]; exact decide_eq_false he
          have HN' : Hid (∀ y ∈ L.take (k + 1), y.1 ≠ s.data.toList) := by
            intro y hy
            rw [List.take_add_one, hx] at hy
            rcases List.mem_append.1 hy with hy | hy
            · exact unhide HN y hy
            · simp at hy
              subst hy
              exact he
          clear hx he
          go_wp2
          go_round
          case rel => exact ⟨k + 1, by omega, by go_num, HN'⟩
          case measure => simp [intOf]; omega
      · obtain rfl : k = L.length := by omega
        have := unhide HN
        rw [List.take_length] at this
        rw [show Hid _ = _ from rfl] at HL
        exact absurd (lookE_none.2 this) (by rw [HL]; simp)

end Go.Proofs.Ytfbbdfeigenodaa
