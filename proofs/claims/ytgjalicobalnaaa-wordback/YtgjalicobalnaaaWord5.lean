/- The contract of word.Set, over the loaded program: s with text in place of what stood there, or the error; no memory that was there has turned. Conditions: the place in its kind's bounds, texts of at most 2 to the power of 48 bytes. -/
import Derived.Test.YtgjalicobalnaaaWord4
namespace Go.Proofs.Ytgjalicobalnaaa
open Go.RowKit

def setL (l : List UInt8) (k : Nat) (t : List UInt8) : List UInt8 := l.take k ++ t ++ l.drop (k + t.length)
theorem setL_length (l : List UInt8) (k : Nat) (t : List UInt8) (h : k + t.length ≤ l.length) : (setL l k t).length = l.length := by
  unfold setL
  simp only [List.length_append, List.length_take, List.length_drop]
  omega
theorem setL_at (l : List UInt8) (k : Nat) (t : List UInt8) (h : k + t.length ≤ l.length) (j : Nat) :
    (setL l k t)[j]? = if j < k then l[j]? else if j < k + t.length then t[j - k]? else l[j]? := by
  unfold setL
  have hk : (l.take k).length = k := by rw [List.length_take]; omega
  by_cases h1 : j < k
  · rw [if_pos h1, List.append_assoc, List.getElem?_append_left (by omega), List.getElem?_take_of_lt h1]
  · rw [if_neg h1]
    by_cases h2 : j < k + t.length
    · rw [if_pos h2, List.append_assoc, List.getElem?_append_right (by omega), hk, List.getElem?_append_left (by omega)]
    · rw [if_neg h2, List.getElem?_append_right (by rw [List.length_append]; omega), List.getElem?_drop, List.length_append, hk]
      congr 1
      omega

theorem addr_add0 (g j : Nat) : (⟨g, 0, none⟩ : Addr).add j = ⟨g, j, none⟩ := by unfold Addr.add; split <;> simp_all

theorem copy_str (W : World) (g o dLen dCap : Nat) (t : ByteArray) (hle : t.size ≤ dLen)
    (hc : ∀ j, j < t.size → (W.cell? ⟨g, o + j, none⟩).isSome = true) (hf : ∀ j, j < t.size → W.frozen? ⟨g, o + j, none⟩ = false) :
    (Builtin.copy_ #[58, 9] 3 #[.slice (some ⟨g, o, none⟩) dLen dCap, .string t]).run Try.prog W = .ok (.int .i64 t.size) (W.setCells g o (Lib.byteCells t.data.toList)) := by
  have hlen : (Lib.byteCells t.data.toList).length = t.size := by rw [Lib.byteCells_length, ← Lib.size_eq]
  have hst := run_storeCells_cells (P := Try.prog) g o (Lib.byteCells t.data.toList) 0 W (by rw [hlen]; simpa using hc) (by rw [hlen]; simpa using hf) (Lib.byteCells_one _)
  have hmin : Nat.min t.size dLen = t.size := Nat.min_eq_left hle
  have htk : List.take t.size (List.map (fun b : UInt8 => Value.int IntKind.u8 (b.toNat : Int)) t.data.toList) = Lib.byteCells t.data.toList := by
    rw [List.take_of_length_le (by rw [List.length_map, ← Lib.size_eq]; exact Nat.le_refl _)]
    rfl
  obtain ⟨i0, hi, _, _, _⟩ := info_parts (P := Try.prog) (e := 5) (z := .int .u8 0) (size := 1) (bytes := 1) (by kernel_rfl)
  simp [Builtin.copy_, run_underlying Try.underlying58, Builtin.lenOf, Builtin.firstCells, sizeOf, typeInfo, hi, hmin]
  rw [htk, hst]
  simp [Result.andThen]
  rfl

theorem below_setCells {B : Nat} {a : World} (g : Nat) (hg : B ≤ g) : ∀ (vs : List Value) (o : Nat) (w : World), Below B a w → Below B a (w.setCells g o vs)
  | [], _, _, h => h
  | v :: r, o, _, h => below_setCells g hg r (o + 1) _ (h.setCell (p := ⟨g, o, none⟩) hg v)

set_option maxHeartbeats 400000 in
theorem set_ok (s : ByteArray) (k : Nat) (t : ByteArray) (w : World) (hs : s.size ≤ 281474976710656) (h : k + t.size ≤ s.size) :
    Calls Try.prog 17 #[.string s, .int .i64 (k : Int), .string t] w fun e w' => e = .returned (.tuple #[.string ⟨(setL s.data.toList k t.data.toList).toArray⟩, .int .i64 0]) ∧ Below w.heap.size w w' := by
  have hm : s.size ≤ maxLen := by unfold maxLen; omega
  have hsl := Lib.size_eq s
  have htl := Lib.size_eq t
  obtain ⟨C, hC⟩ : ∃ C, C = grownCap w s.size 0 5 := ⟨_, rfl⟩
  have hCge : s.size ≤ C := by rw [hC]; exact grownCap_ge _ _ _ _
  have hcv := run_bytes_of_string (P := Try.prog) w 9 58 5 s Try.underlying9 Try.underlying58 Try.underlying5
  rw [← hC] at hcv
  obtain ⟨R, hR⟩ : ∃ R, R = bytesRow s C := ⟨_, rfl⟩
  rw [← hR] at hcv
  have hRs : R.size = C := by rw [hR]; simp [bytesRow]; omega
  have hRat : ∀ j (hj : j < s.data.size), R[j]? = some (.int .u8 (s.data[j].toNat : Int)) := fun j hj => by rw [hR]; exact bytesRow_at s C j hj
  obtain ⟨W1, hW1⟩ : ∃ W1, W1 = w.drew.alloc (.cells R 5 (R.size, R.size + 1)) := ⟨_, rfl⟩
  rw [← hW1] at hcv
  have hblk : W1.heap[w.heap.size]? = some (.cells R 5 (R.size, R.size + 1)) := by rw [hW1]; exact heap_alloc_new w.drew _
  have hcell : ∀ j, W1.cell? ⟨w.heap.size, j, none⟩ = R[j]? := fun j => by
    simp only [World.cell?]
    rw [hblk]
    rfl
  have hfz : ∀ j, j < C → W1.frozen? ⟨w.heap.size, j, none⟩ = false := fun j hj => by
    simp only [World.frozen?]
    rw [hblk]
    show (decide (R.size ≤ j) && decide (j < R.size + 1)) = false
    rw [decide_eq_false (by omega), Bool.false_and]
  have hb1 : Below w.heap.size w W1 := by rw [hW1]; exact ((Below.refl _ w).drew).alloc (Nat.le_refl _) _
  have hcp := copy_str W1 w.heap.size k (s.size - k) (C - k) t (by omega) (fun j hj => by rw [hcell, Array.getElem?_eq_getElem (by omega)]; rfl) (fun j hj => hfz _ (by omega))
  obtain ⟨W2, hW2⟩ : ∃ W2, W2 = W1.setCells w.heap.size k (Lib.byteCells t.data.toList) := ⟨_, rfl⟩
  rw [← hW2] at hcp
  have hb2 : Below w.heap.size w W2 := by rw [hW2]; exact below_setCells _ (Nat.le_refl _) _ _ _ hb1
  have hbk := run_convert_bytes_back (P := Try.prog) W2 58 9 5 ⟨w.heap.size, 0, none⟩ C (setL s.data.toList k t.data.toList) Try.underlying58 Try.underlying5 Try.underlying9 (fun j hj => by
    have ha : (⟨w.heap.size, 0, none⟩ : Addr).add j = ⟨w.heap.size, j, none⟩ := addr_add0 _ j
    have hjl : j < s.data.toList.length := by rw [setL_length _ _ _ (by omega)] at hj; exact hj
    have hat := setL_at s.data.toList k t.data.toList (by omega) j
    rw [List.getElem?_eq_getElem hj] at hat
    have hbl : (Lib.byteCells t.data.toList).length = t.size := by rw [Lib.byteCells_length, ← Lib.size_eq]
    rw [ha, hW2]
    by_cases h1 : k ≤ j ∧ j < k + t.size
    · have hin := World.cell?_setCells_in w.heap.size (Lib.byteCells t.data.toList) k W1 (fun i hi => by rw [hcell, Array.getElem?_eq_getElem (by omega)]; rfl) (j - k) (by omega)
      rw [show k + (j - k) = j from by omega] at hin
      rw [hin]
      rw [if_neg (by omega), if_pos (by omega), List.getElem?_eq_getElem (by omega)] at hat
      simp only [Option.some.injEq] at hat
      rw [hat]
      simp [Lib.byteCells]
    · rw [World.cell?_setCells_out _ _ _ _ _ (fun _ _ => by rw [hbl]; show j < k ∨ _ ≤ j; omega), hcell, hRat j (by simpa using hjl)]
      have : s.data.toList[j]? = some (setL s.data.toList k t.data.toList)[j] := by
        by_cases h2 : j < k
        · rw [if_pos h2] at hat; exact hat.symm
        · rw [if_neg h2, if_neg (by omega)] at hat; exact hat.symm
      rw [List.getElem?_eq_getElem hjl] at this
      simp only [Option.some.injEq] at this
      rw [← this]
      simp)
  rw [setL_length _ _ _ (by omega), ← hsl] at hbk
  by_cases hCk : C = k
  · have ht0 : t.size = 0 := by omega
    have hcp0 : (Builtin.copy_ #[58, 9] 3 #[.slice (some ⟨w.heap.size, 0, none⟩) (s.size - k) 0, .string t]).run Try.prog W1 = .ok (.int .i64 0) W1 :=
      Lib.run_copy_empty_string (P := Try.prog) W1 58 9 3 5 _ _ _ t Try.underlying58 (by kernel_rfl) ht0
    have hW : W2 = W1 := by
      rw [hW2, show t.data.toList = [] from List.eq_nil_of_length_eq_zero (by omega)]
      rfl
    rw [hW] at hbk
    rw [hCk] at hcv hbk
    have h0k : 0 ≤ k := Nat.zero_le _
    clear hC hR hRs hRat hW1 hW2 hW hcell hfz hblk hsl htl hcp hb2 ht0 hCge hCk
    go_enter Try.func17, Try.ntmps17
    go_wp2_with fail
    refine (check_ok s k t.size _ hm (by omega) (by omega) (by omega)).mono ?_
    rintro e w' ⟨rfl, rfl⟩
    go_wp2
    go_ret2
    exact ⟨rfl, hb1⟩
  · clear hC hR hRs hRat hW1 hW2 hcell hfz hblk hsl htl
    go_enter Try.func17, Try.ntmps17
    go_wp2_with fail
    refine (check_ok s k t.size _ hm (by omega) (by omega) (by omega)).mono ?_
    rintro e w' ⟨rfl, rfl⟩
    go_wp2
    go_ret2
    exact ⟨rfl, hb2⟩

def setAt (s : ByteArray) (a : Int) (t : ByteArray) : ByteArray := if errAt s.size a t.size = 0 then ⟨(setL s.data.toList a.toNat t.data.toList).toArray⟩ else ⟨#[]⟩
theorem setAt_ok {s : ByteArray} {a : Int} {t : ByteArray} (h : errAt s.size a t.size = 0) : setAt s a t = ⟨(setL s.data.toList a.toNat t.data.toList).toArray⟩ := by unfold setAt; rw [if_pos h]
theorem setAt_no {s : ByteArray} {a : Int} {t : ByteArray} (h : errAt s.size a t.size ≠ 0) : setAt s a t = ⟨#[]⟩ := by unfold setAt; rw [if_neg h]

set_option maxHeartbeats 400000 in
theorem set_any (s : ByteArray) (a : Int) (t : ByteArray) (w : World) (hs : s.size ≤ 281474976710656) (ha : a ≤ 9223372036854775807) :
    Calls Try.prog 17 #[.string s, .int .i64 a, .string t] w fun e w' => e = .returned (.tuple #[.string (setAt s a t), .int .i64 (errAt s.size a t.size)]) ∧ Below w.heap.size w w' := by
  have hm : s.size ≤ maxLen := by unfold maxLen; omega
  rcases errAt_cases s.size a t.size with ⟨h, he⟩ | ⟨h1, h2, h3, he⟩ | ⟨h1, h2, h3, he⟩
  · rw [setAt_no (by omega), he]
    clear he
    go_enter Try.func17, Try.ntmps17
    go_wp2_with fail
    refine (check_arg s a t.size _ h).mono ?_
    rintro e w' ⟨rfl, rfl⟩
    go_wp2
    go_ret2
    exact ⟨rfl, Below.refl _ _⟩
  · rw [setAt_no (by omega), he]
    clear he
    go_enter Try.func17, Try.ntmps17
    go_wp2_with fail
    refine (check_short s a t.size _ hm h1 h2 ha h3).mono ?_
    rintro e w' ⟨rfl, rfl⟩
    go_wp2
    go_ret2
    exact ⟨rfl, Below.refl _ _⟩
  · rw [setAt_ok he, he]
    have h := set_ok s a.toNat t w hs (by omega)
    rw [show ((a.toNat : Nat) : Int) = a from by omega] at h
    exact h

end Go.Proofs.Ytgjalicobalnaaa
