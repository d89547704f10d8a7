/- The contracts of package word's Byte, Two, Four, Text and Set at places that are there, and of strings.Clone, over the loaded program; no memory that was there has turned. Conditions: numbers in their kinds' bounds, places within the text. -/
import Derived.Test.YtekljiakofmhnaaWOfK
import Derived.Lib.BufferWrite
namespace Go.Proofs.Ytekljiakofmhnaa
open Go.RowKit

theorem num_zero (l : List UInt8) : num (0 :: l) = num l := by rw [num_cons]; simp

theorem B_zero : B 0 = .int .u8 0 := rfl

theorem copied (w : World) (cur : Array Value) (o : Nat) (t : TypeId) (s : ByteArray) (dCap : Nat) (hfit : o + s.size ≤ cur.size) :
    (Builtin.copy_ #[88, 9] 3 #[.slice (some ⟨w.heap.size, o, none⟩) s.size dCap, .string s]).run Try.prog (w.alloc (.cells cur t)).drew =
      .ok (.int .i64 s.size) (w.alloc (.cells (cur.toList.take o ++ Lib.byteCells s.data.toList ++ cur.toList.drop (o + s.size)).toArray t)).drew := by
  have h := Lib.run_copy_row_string (P := Try.prog) (w.alloc (.cells cur t)).drew 88 9 3 5 w.heap.size o s.size dCap s cur t Try.underlying88 (by kernel_rfl) (heap_alloc_new w _) (Nat.le_refl _) hfit
  rw [h]
  have e : ∀ Y, ((w.alloc (.cells cur t)).drew).setRow w.heap.size Y = (w.alloc (.cells Y t)).drew := fun Y => by
    show ((w.alloc (.cells cur t)).setRow w.heap.size Y).drew = _
    rw [World.setRow_alloc_new]
  rw [e]
  rfl

/-- the bytes of a field -/
def fld (s : ByteArray) (k n : Nat) : List UInt8 := (s.data.toList.drop k).take n

theorem fld_length {s : ByteArray} {k n : Nat} (h : k + n ≤ s.size) : (fld s k n).length = n := by
  have := Lib.size_eq s
  unfold fld
  rw [List.length_take, List.length_drop]
  omega

theorem extract_fld (s : ByteArray) (k n : Nat) : s.extract k (k + n) = ⟨(fld s k n).toArray⟩ := by
  rw [Lib.extract_eq, show k + n - k = n from by omega]
  rfl

theorem fld_lt (s : ByteArray) (k n : Nat) : num (fld s k n) < 256 ^ n := by
  have h := num_lt (fld s k n)
  have hl : (fld s k n).length ≤ n := by unfold fld; rw [List.length_take]; omega
  exact Nat.lt_of_lt_of_le h (Nat.pow_le_pow_right (by omega) hl)

theorem list2 (l : List UInt8) (h : l.length = 2) : ∃ a b, l = [a, b] := match l, h with
  | [a, b], _ => ⟨a, b, rfl⟩

theorem list4b (l : List UInt8) (h : l.length = 4) : ∃ a b c d, l = [a, b, c, d] := match l, h with
  | [a, b, c, d], _ => ⟨a, b, c, d, rfl⟩

theorem list1 (l : List UInt8) (h : l.length = 1) : ∃ a, l = [a] := match l, h with
  | [a], _ => ⟨a, rfl⟩

set_option maxRecDepth 100000 in
set_option maxHeartbeats 1000000 in
theorem sliteclone_any (s : ByteArray) (w : World) (hlim : s.size ≤ 281474976710656) :
    Calls Try.prog 41 #[.string s] w fun e w' => e = .returned (.string s) ∧ Below w.heap.size w w' := by
  by_cases h0 : s.size = 0
  · have hs : s = ⟨#[]⟩ := ByteArray.ext (Array.eq_empty_of_size_eq_zero h0)
    subst hs
    go_enter Try.func41, Try.ntmps41
    go_wp2
    go_ret
    exact ⟨rfl, Below.refl _ _⟩
  · obtain ⟨i0, hi, hz0, hz1, hz2⟩ := info_parts (P := Try.prog) (e := 5) (z := .int .u8 0) (size := 1) (bytes := 1) (by kernel_rfl)
    obtain ⟨M, hM⟩ : ∃ M, M = madeCells (Value.int .u8 0).cells (((s.size : Nat) : Int).toNat * i0.size) := ⟨_, rfl⟩
    have hMs : M.size = s.size := by rw [hM, size_madeCells, hz1]; simp
    have hmk : (Instr.makeSlice 88 (.int .i64 (s.size : Int)) (.int .i64 (s.size : Int))).run Try.prog w = .ok (.slice (some ⟨w.heap.size, 0, none⟩) s.size s.size) (w.alloc (.cells M 5)) := by
      have h := run_make (P := Try.prog) w 88 5 i0 (.int .u8 0) Try.underlying88 hi hz0 .i64 .i64 (s.size : Int) (s.size : Int) (by omega) (by omega) (by rw [hz2]; omega) (by omega)
      rw [← hM] at h
      simpa using h
    clear hM
    obtain ⟨Y, hY⟩ : ∃ Y, Y = (M.toList.take 0 ++ Lib.byteCells s.data.toList ++ M.toList.drop (0 + s.size)).toArray := ⟨_, rfl⟩
    have hcp : (Builtin.copy_ #[88, 9] 3 #[.slice (some ⟨w.heap.size, 0, none⟩) s.size s.size, .string s]).run Try.prog (w.alloc (.cells M 5)) = .ok (.int .i64 s.size) (w.alloc (.cells Y 5)) := by
      have h := Lib.run_copy_row_string (P := Try.prog) (w.alloc (.cells M 5)) 88 9 3 5 w.heap.size 0 s.size s.size s M 5 Try.underlying88 (by kernel_rfl) (heap_alloc_new w _) (Nat.le_refl _) (by omega)
      rw [← hY, World.setRow_alloc_new] at h
      exact h
    have hYl : Y.toList = Lib.byteCells s.data.toList := by
      rw [hY, List.toList_toArray, List.take_zero, List.nil_append, List.drop_of_length_le (by rw [Array.length_toList]; omega), List.append_nil]
    have hYs : Y.size = s.size := by rw [← Array.length_toList, hYl, Lib.byteCells_length, ← Lib.size_eq]
    have hgY : (w.alloc (.cells Y 5)).heap[w.heap.size]? = some (.cells Y 5 (0, 0)) := heap_alloc_new w _
    have hne : s.data.toList ≠ [] := fun e => h0 (by rw [Lib.size_eq, e]; rfl)
    have hUS := Lib.run_unsafeString_row (P := Try.prog) (w.alloc (.cells Y 5)) 101 3 9 5 Try.underlying101 (by kernel_rfl) w.heap.size Y.size (by unfold World.shape?; rw [hgY]) s.data.toList hne (by rw [← Lib.size_eq]; omega) (by rw [← Lib.size_eq]; omega)
      (fun j x hx => Lib.cells_of_row hgY Y.size j _ (by rw [List.take_of_length_le (by rw [Array.length_toList]; exact Nat.le_refl _), hYl]; simp [Lib.byteCells, hx]))
    rw [← Lib.size_eq] at hUS
    clear hY
    go_enter Try.func41, Try.ntmps41
    go_wp2
    go_ret
    exact ⟨rfl, Lib.below_freeze (below_one w _) (p := ⟨w.heap.size, 0, none⟩) (Nat.le_refl _) _⟩

set_option maxHeartbeats 400000 in
theorem clone_any (s : ByteArray) (w : World) (hlim : s.size ≤ 281474976710656) :
    Calls Try.prog 22 #[.string s] w fun e w' => e = .returned (.string s) ∧ Below w.heap.size w w' := by
  go_enter Try.func22, Try.ntmps22
  go_wp2_with fail
  refine (sliteclone_any s _ hlim).mono ?_
  rintro e w' ⟨rfl, hb⟩
  go_wp2
  go_ret
  exact ⟨rfl, hb⟩

def setL (l : List UInt8) (k : Nat) (t : List UInt8) : List UInt8 := l.take k ++ t ++ l.drop (k + t.length)

theorem setL_length (l : List UInt8) (k : Nat) (t : List UInt8) (h : k + t.length ≤ l.length) : (setL l k t).length = l.length := by
  unfold setL
  simp only [List.length_append, List.length_take, List.length_drop]
  omega

theorem setL_at (l : List UInt8) (k : Nat) (t : List UInt8) (h : k + t.length ≤ l.length) (j : Nat) :
    (setL l k t)[j]? = if j < k then l[j]? else if j < k + t.length then t[j - k]? else l[j]? := by
  unfold setL
  have hk : (l.take k).length = k := by rw [List.length_take]; omega
  by_cases h1 : j < k
  · rw [if_pos h1, List.append_assoc, List.getElem?_append_left (by omega), List.getElem?_take_of_lt h1]
  · rw [if_neg h1]
    by_cases h2 : j < k + t.length
    · rw [if_pos h2, List.append_assoc, List.getElem?_append_right (by omega), hk, List.getElem?_append_left (by omega)]
    · rw [if_neg h2, List.getElem?_append_right (by rw [List.length_append]; omega), List.getElem?_drop, List.length_append, hk]
      congr 1
      omega

theorem addr_add0 (g j : Nat) : (⟨g, 0, none⟩ : Addr).add j = ⟨g, j, none⟩ := by unfold Addr.add; split <;> simp_all

theorem copy_str (W : World) (g o dLen dCap : Nat) (t : ByteArray) (hle : t.size ≤ dLen)
    (hc : ∀ j, j < t.size → (W.cell? ⟨g, o + j, none⟩).isSome = true) (hf : ∀ j, j < t.size → W.frozen? ⟨g, o + j, none⟩ = false) :
    (Builtin.copy_ #[88, 9] 3 #[.slice (some ⟨g, o, none⟩) dLen dCap, .string t]).run Try.prog W = .ok (.int .i64 t.size) (W.setCells g o (Lib.byteCells t.data.toList)) := by
  have hlen : (Lib.byteCells t.data.toList).length = t.size := by rw [Lib.byteCells_length, ← Lib.size_eq]
  have hst := run_storeCells_cells (P := Try.prog) g o (Lib.byteCells t.data.toList) 0 W (by rw [hlen]; simpa using hc) (by rw [hlen]; simpa using hf) (Lib.byteCells_one _)
  have hmin : Nat.min t.size dLen = t.size := Nat.min_eq_left hle
  have htk : List.take t.size (List.map (fun b : UInt8 => Value.int IntKind.u8 (b.toNat : Int)) t.data.toList) = Lib.byteCells t.data.toList := by
    rw [List.take_of_length_le (by rw [List.length_map, ← Lib.size_eq]; exact Nat.le_refl _)]
    rfl
  obtain ⟨i0, hi, _, _, _⟩ := info_parts (P := Try.prog) (e := 5) (z := .int .u8 0) (size := 1) (bytes := 1) (by kernel_rfl)
  simp [Builtin.copy_, run_underlying Try.underlying88, Builtin.lenOf, Builtin.firstCells, sizeOf, typeInfo, hi, hmin]
  rw [htk, hst]
  simp [Result.andThen]
  rfl

theorem below_setCells {B : Nat} {a : World} (g : Nat) (hg : B ≤ g) : ∀ (vs : List Value) (o : Nat) (w : World), Below B a w → Below B a (w.setCells g o vs)
  | [], _, _, h => h
  | v :: r, o, _, h => below_setCells g hg r (o + 1) _ (h.setCell (p := ⟨g, o, none⟩) hg v)

end Go.Proofs.Ytekljiakofmhnaa
