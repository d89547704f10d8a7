/- Which names may be, by the program and by the document's answer; strings.Clone. -/
import Derived.Test.YtfbbdfeigenodaaMt0
import Derived.Lib.BufferWrite
import Derived.Laws.IdiomStrings
import Derived.Laws.IdiomCopy
import Derived.Deep.WholeRow
namespace Go.Proofs.Ytfbbdfeigenodaa
open Go.RowKit

def okb (c : UInt8) : Bool := c.toNat == 45 || (decide (97 ≤ c.toNat) && decide (c.toNat ≤ 122))
def mayL (l : List UInt8) : Bool := decide (1 ≤ l.length) && decide (l.length ≤ 32) && l.all okb
theorem mayL_len {l : List UInt8} (h : ¬ (1 ≤ l.length ∧ l.length ≤ 32)) : mayL l = false := by
  unfold mayL
  by_cases h1 : 1 ≤ l.length
  · rw [decide_eq_false (p := l.length ≤ 32) (fun g => h ⟨h1, g⟩)]; simp
  · rw [decide_eq_false h1]; simp
theorem mayL_bad {l : List UInt8} {k : Nat} {c : UInt8} (hk : l[k]? = some c) (hc : okb c = false) : mayL l = false := by
  have : l.all okb = false := by
    rw [List.all_eq_false]
    exact ⟨c, List.mem_of_getElem? hk, by simp [hc]⟩
  unfold mayL
  rw [this]; simp
theorem mayL_good {l : List UInt8} (h1 : 1 ≤ l.length) (h2 : l.length ≤ 32) (h : l.all okb = true) : mayL l = true := by
  unfold mayL
  rw [h, decide_eq_true h1, decide_eq_true h2]; rfl
theorem okb_dash {c : UInt8} (h : c.toNat = 45) : okb c = true := by unfold okb; simp [h]
theorem okb_mid {c : UInt8} (h1 : 97 ≤ c.toNat) (h2 : c.toNat ≤ 122) : okb c = true := by unfold okb; simp [h1, h2]
theorem okb_not {c : UInt8} (h : c.toNat ≠ 45) (h1 : ¬ (97 ≤ c.toNat ∧ c.toNat ≤ 122)) : okb c = false := by
  unfold okb
  have : (c.toNat == 45) = false := by simpa using h
  rw [this]
  by_cases g : 97 ≤ c.toNat
  · rw [decide_eq_false (p := c.toNat ≤ 122) (fun k => h1 ⟨g, k⟩)]; simp
  · rw [decide_eq_false g]; simp
theorem all_snoc {s : ByteArray} {k : Nat} (hk : k < s.size) (h : (s.data.toList.take k).all okb = true) (hc : okb s[k] = true) : (s.data.toList.take (k + 1)).all okb = true := by
  have e : s.data.toList.take (k + 1) = s.data.toList.take k ++ [s[k]] := by
    have hk' : k < s.data.toList.length := by rw [← Lib.size_eq]; exact hk
    rw [List.take_add_one, List.getElem?_eq_getElem hk']
    rfl
  rw [e, List.all_append, h]
  simp [hc]
theorem at_byte {s : ByteArray} {k : Nat} (hk : k < s.size) : s.data.toList[k]? = some s[k] := by
  have hk' : k < s.data.toList.length := by rw [← Lib.size_eq]; exact hk
  rw [List.getElem?_eq_getElem hk']
  rfl

set_option maxRecDepth 100000 in
theorem mayBe_short (s : ByteArray) (w : World) (h : ¬ (1 ≤ s.size ∧ s.size ≤ 32)) :
    Calls Try.prog 30 #[.string s] w fun e w' => e = .returned (.bool false) ∧ w' = w := by
  by_cases h1 : 1 ≤ s.size
  · have h2 : (32 : Int) < (s.size : Int) := by omega
    have h3 : ¬ ((s.size : Int) < 1) := by omega
    go_enter Try.func30, Try.ntmps30
    go_wp2
    go_ret
    exact ⟨rfl, rfl⟩
  · have h3 : ((s.size : Int) < 1) := by omega
    go_enter Try.func30, Try.ntmps30
    go_wp2
    go_ret
    exact ⟨rfl, rfl⟩

set_option maxRecDepth 100000 in
set_option maxHeartbeats 1000000 in
theorem mayBe_mid (s : ByteArray) (w : World) (h1 : 1 ≤ s.size) (h2 : s.size ≤ 32) :
    Calls Try.prog 30 #[.string s] w fun e w' => e = .returned (.bool (mayL s.data.toList)) ∧ w' = w := by
  have d1 : ¬ ((s.size : Int) < 1) := by omega
  have d2 : ¬ ((32 : Int) < (s.size : Int)) := by omega
  go_enter Try.func30, Try.ntmps30
  go_wp2
  go_loop [15] (fun i => ∃ k : Nat, k ≤ s.size ∧ i = .int .i64 (k : Int) ∧ (s.data.toList.take k).all okb = true) (fun i => s.size - (intOf i).toNat)
  case atStart => exact ⟨0, Nat.zero_le _, rfl, rfl⟩
  case round =>
    obtain ⟨k, hk, rfl, hall⟩ := hrel
    have HA := hide hall
    clear hall
    by_cases hlt : k < s.size
    · have hc8 := (s[k]).toNat_lt
      by_cases hb : okb s[k] = true
      · have HN := hide (all_snoc hlt (unhide HA) hb)
        by_cases hd : (s[k]).toNat = 45
        · have hd' : ((s[k]).toNat : Int) = 45 := by omega
          go_wp2
          go_round
          case rel => exact ⟨k + 1, by omega, by go_num, unhide HN⟩
          case measure => simp [intOf]; omega
        · have hd' : ¬ ((s[k]).toNat : Int) = 45 := by omega
          have hm : 97 ≤ (s[k]).toNat ∧ (s[k]).toNat ≤ 122 := Classical.byContradiction fun g => by rw [okb_not hd g] at hb; cases hb
          have m1 : ¬ ((s[k]).toNat : Int) < 97 := by omega
          have m2 : ¬ (122 : Int) < ((s[k]).toNat : Int) := by omega
          go_wp2
          go_round
          case rel => exact ⟨k + 1, by omega, by go_num, unhide HN⟩
          case measure => simp [intOf]; omega
      · have HF := hide (mayL_bad (at_byte hlt) (Bool.eq_false_iff.2 hb))
        have hd : ¬ (s[k]).toNat = 45 := fun g => hb (okb_dash g)
        have hd' : ¬ ((s[k]).toNat : Int) = 45 := by omega
        have hm : ¬ (97 ≤ (s[k]).toNat ∧ (s[k]).toNat ≤ 122) := fun g => hb (okb_mid g.1 g.2)
        by_cases m : (s[k]).toNat < 97
        · have m1 : ((s[k]).toNat : Int) < 97 := by omega
          clear hm hb
          go_wp2
          go_ret
          exact ⟨by rw [unhide HF]; rfl, rfl⟩
        · have m1 : ¬ ((s[k]).toNat : Int) < 97 := by omega
          have m2 : (122 : Int) < ((s[k]).toNat : Int) := by omega
          clear hm hb
          go_wp2
          go_ret
          exact ⟨by rw [unhide HF]; rfl, rfl⟩
    · obtain rfl : k = s.size := by omega
      have HT : Hid (mayL s.data.toList = true) := by
        have hz := Lib.size_eq s
        have h := unhide HA
        rw [List.take_of_length_le (by omega)] at h
        exact mayL_good (by omega) (by omega) h
      go_wp2
      go_ret
      exact ⟨by rw [unhide HT]; rfl, rfl⟩

set_option maxRecDepth 100000 in
theorem may_short (s : ByteArray) (w : World) (h : ¬ (1 ≤ s.size ∧ s.size ≤ 32)) :
    Calls Try.prog 16 #[.string s] w fun e w' => e = .returned (.bool false) ∧ w' = w := by
  by_cases h1 : 1 ≤ s.size
  · have h2 : (32 : Int) < (s.size : Int) := by omega
    have h3 : ¬ ((s.size : Int) < 1) := by omega
    go_enter Try.func16, Try.ntmps16
    go_wp2
    go_ret
    exact ⟨rfl, rfl⟩
  · have h3 : ((s.size : Int) < 1) := by omega
    go_enter Try.func16, Try.ntmps16
    go_wp2
    go_ret
    exact ⟨rfl, rfl⟩

set_option maxRecDepth 100000 in
set_option maxHeartbeats 1000000 in
theorem may_mid (s : ByteArray) (w : World) (h1 : 1 ≤ s.size) (h2 : s.size ≤ 32) :
    Calls Try.prog 16 #[.string s] w fun e w' => e = .returned (.bool (mayL s.data.toList)) ∧ w' = w := by
  have d1 : ¬ ((s.size : Int) < 1) := by omega
  have d2 : ¬ ((32 : Int) < (s.size : Int)) := by omega
  go_enter Try.func16, Try.ntmps16
  go_wp2
  go_loop [3] (fun i => ∃ k : Nat, k ≤ s.size ∧ i = .int .i64 (k : Int) ∧ (s.data.toList.take k).all okb = true) (fun i => s.size - (intOf i).toNat)
  case atStart => exact ⟨0, Nat.zero_le _, rfl, rfl⟩
  case round =>
    obtain ⟨k, hk, rfl, hall⟩ := hrel
    have HA := hide hall
    clear hall
    by_cases hlt : k < s.size
    · have hc8 := (s[k]).toNat_lt
      by_cases hb : okb s[k] = true
      · have HN := hide (all_snoc hlt (unhide HA) hb)
        by_cases hd : (s[k]).toNat = 45
        · have hd' : ((s[k]).toNat : Int) = 45 := by omega
          go_wp2
          go_round
          case rel => exact ⟨k + 1, by omega, by go_num, unhide HN⟩
          case measure => simp [intOf]; omega
        · have hd' : ¬ ((s[k]).toNat : Int) = 45 := by omega
          have hm : 97 ≤ (s[k]).toNat ∧ (s[k]).toNat ≤ 122 := Classical.byContradiction fun g => by rw [okb_not hd g] at hb; cases hb
          have m1 : ¬ ((s[k]).toNat : Int) < 97 := by omega
          have m2 : ¬ (122 : Int) < ((s[k]).toNat : Int) := by omega
          go_wp2
          go_round
          case rel => exact ⟨k + 1, by omega, by go_num, unhide HN⟩
          case measure => simp [intOf]; omega
      · have HF := hide (mayL_bad (at_byte hlt) (Bool.eq_false_iff.2 hb))
        have hd : ¬ (s[k]).toNat = 45 := fun g => hb (okb_dash g)
        have hd' : ¬ ((s[k]).toNat : Int) = 45 := by omega
        have hm : ¬ (97 ≤ (s[k]).toNat ∧ (s[k]).toNat ≤ 122) := fun g => hb (okb_mid g.1 g.2)
        by_cases m : (s[k]).toNat < 97
        · have m1 : ((s[k]).toNat : Int) < 97 := by omega
          clear hm hb
          go_wp2
          go_ret
          exact ⟨by rw [unhide HF]; rfl, rfl⟩
        · have m1 : ¬ ((s[k]).toNat : Int) < 97 := by omega
          have m2 : (122 : Int) < ((s[k]).toNat : Int) := by omega
          clear hm hb
          go_wp2
          go_ret
          exact ⟨by rw [unhide HF]; rfl, rfl⟩
    · obtain rfl : k = s.size := by omega
      have HT : Hid (mayL s.data.toList = true) := by
        have hz := Lib.size_eq s
        have h := unhide HA
        rw [List.take_of_length_le (by omega)] at h
        exact mayL_good (by omega) (by omega) h
      go_wp2
      go_ret
      exact ⟨by rw [unhide HT]; rfl, rfl⟩

theorem mayBe_any (s : ByteArray) (w : World) : Calls Try.prog 30 #[.string s] w fun e w' => e = .returned (.bool (mayL s.data.toList)) ∧ w' = w := by
  by_cases h : 1 ≤ s.size ∧ s.size ≤ 32
  · exact mayBe_mid s w h.1 h.2
  · rw [mayL_len (by rw [← Lib.size_eq]; exact h)]
    exact mayBe_short s w h
theorem may_any (s : ByteArray) (w : World) : Calls Try.prog 16 #[.string s] w fun e w' => e = .returned (.bool (mayL s.data.toList)) ∧ w' = w := by
  by_cases h : 1 ≤ s.size ∧ s.size ≤ 32
  · exact may_mid s w h.1 h.2
  · rw [mayL_len (by rw [← Lib.size_eq]; exact h)]
    exact may_short s w h

set_option maxRecDepth 100000 in
set_option maxHeartbeats 400000 in
theorem sliteclone_any (s : ByteArray) (w : World) (hlim : s.size ≤ 281474976710656) :
    Calls Try.prog 39 #[.string s] w fun e w' => e = .returned (.string s) ∧ Below w.heap.size w w' := by
  by_cases h0 : s.size = 0
  · have hs : s = ⟨#[]⟩ := ByteArray.ext (Array.eq_empty_of_size_eq_zero h0)
    subst hs
    go_enter Try.func39, Try.ntmps39
    go_wp2
    go_ret
    exact ⟨rfl, Below.refl _ _⟩
  · obtain ⟨i0, hi, hz0, hz1, hz2⟩ := info_parts (P := Try.prog) (e := 5) (z := .int .u8 0) (size := 1) (bytes := 1) (by kernel_rfl)
    obtain ⟨M, hM⟩ : ∃ M, M = madeCells (Value.int .u8 0).cells (((s.size : Nat) : Int).toNat * i0.size) := ⟨_, rfl⟩
    have hMs : M.size = s.size := by rw [hM, size_madeCells, hz1]; simp
    have hmk : (Instr.makeSlice 51 (.int .i64 (s.size : Int)) (.int .i64 (s.size : Int))).run Try.prog w = .ok (.slice (some ⟨w.heap.size, 0, none⟩) s.size s.size) (w.alloc (.cells M 5)) := by
      have h := run_make (P := Try.prog) w 51 5 i0 (.int .u8 0) Try.underlying51 hi hz0 .i64 .i64 (s.size : Int) (s.size : Int) (by omega) (by omega) (by rw [hz2]; omega) (by omega)
      rw [← hM] at h
      simpa using h
    clear hM
    obtain ⟨Y, hY⟩ : ∃ Y, Y = (M.toList.take 0 ++ Lib.byteCells s.data.toList ++ M.toList.drop (0 + s.size)).toArray := ⟨_, rfl⟩
    have hcp : (Builtin.copy_ #[51, 9] 3 #[.slice (some ⟨w.heap.size, 0, none⟩) s.size s.size, .string s]).run Try.prog (w.alloc (.cells M 5)) = .ok (.int .i64 s.size) (w.alloc (.cells Y 5)) := by
      have h := Lib.run_copy_row_string (P := Try.prog) (w.alloc (.cells M 5)) 51 9 3 5 w.heap.size 0 s.size s.size s M 5 Try.underlying51 (by kernel_rfl) (heap_alloc_new w _) (Nat.le_refl _) (by omega)
      rw [← hY, World.setRow_alloc_new] at h
      exact h
    have hYl : Y.toList = Lib.byteCells s.data.toList := by
      rw [hY, List.toList_toArray, List.take_zero, List.nil_append, List.drop_of_length_le (by rw [Array.length_toList]; omega), List.append_nil]
    have hYs : Y.size = s.size := by rw [← Array.length_toList, hYl, Lib.byteCells_length, ← Lib.size_eq]
    have hgY : (w.alloc (.cells Y 5)).heap[w.heap.size]? = some (.cells Y 5 (0, 0)) := heap_alloc_new w _
    have hne : s.data.toList ≠ [] := fun e => h0 (by rw [Lib.size_eq, e]; rfl)
    have hUS := Lib.run_unsafeString_row (P := Try.prog) (w.alloc (.cells Y 5)) 83 3 9 5 Try.underlying83 (by kernel_rfl) w.heap.size Y.size (by unfold World.shape?; rw [hgY]) s.data.toList hne (by rw [← Lib.size_eq]; omega) (by rw [← Lib.size_eq]; omega)
      (fun j x hx => Lib.cells_of_row hgY Y.size j _ (by rw [List.take_of_length_le (by rw [Array.length_toList]; exact Nat.le_refl _), hYl]; simp [Lib.byteCells, hx]))
    rw [← Lib.size_eq] at hUS
    clear hY
    go_enter Try.func39, Try.ntmps39
    go_wp2
    go_ret
    exact ⟨rfl, Lib.below_freeze (below_one w _) (p := ⟨w.heap.size, 0, none⟩) (Nat.le_refl _) _⟩

set_option maxHeartbeats 400000 in
theorem clone_any (s : ByteArray) (w : World) (hlim : s.size ≤ 281474976710656) :
    Calls Try.prog 32 #[.string s] w fun e w' => e = .returned (.string s) ∧ Below w.heap.size w w' := by
  go_enter Try.func32, Try.ntmps32
  go_wp2_with fail
  refine (sliteclone_any s _ hlim).mono ?_
  rintro e w' ⟨rfl, hb⟩
  go_wp2
  go_ret
  exact ⟨rfl, hb⟩

end Go.Proofs.Ytfbbdfeigenodaa
