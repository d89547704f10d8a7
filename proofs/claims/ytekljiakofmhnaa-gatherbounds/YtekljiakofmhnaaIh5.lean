/- The contract of package ip4's Decode, over the loaded program; no memory that was there has turned. Conditions: texts of bounded length. -/
import Derived.Test.YtekljiakofmhnaaIh4
namespace Go.Proofs.Ytekljiakofmhnaa
open Go.RowKit

theorem Tab.put10 {w0 w : World} {n : Nat} {f : Nat → Nat → Option Value} (k : Tab w0 n f w) (b : Nat) {u0 u1 u2 u3 u4 u5 u6 u7 u8 u9 : Value} (h0 : f b 0 = some u0) (h1 : f b 1 = some u1) (h2 : f b 2 = some u2) (h3 : f b 3 = some u3) (h4 : f b 4 = some u4) (h5 : f b 5 = some u5) (h6 : f b 6 = some u6) (h7 : f b 7 = some u7) (h8 : f b 8 = some u8) (h9 : f b 9 = some u9) (v0 v1 v2 v3 v4 v5 v6 v7 v8 v9 : Value) :
    Tab w0 n (fun b' j' => if b' = b then [v0, v1, v2, v3, v4, v5, v6, v7, v8, v9][j']? else f b' j') ((((((((((w.setCell ⟨w0.heap.size + b, 0, none⟩ v0).setCell ⟨w0.heap.size + b, 1, none⟩ v1).setCell ⟨w0.heap.size + b, 2, none⟩ v2).setCell ⟨w0.heap.size + b, 3, none⟩ v3).setCell ⟨w0.heap.size + b, 4, none⟩ v4).setCell ⟨w0.heap.size + b, 5, none⟩ v5).setCell ⟨w0.heap.size + b, 6, none⟩ v6).setCell ⟨w0.heap.size + b, 7, none⟩ v7).setCell ⟨w0.heap.size + b, 8, none⟩ v8).setCell ⟨w0.heap.size + b, 9, none⟩ v9) := by
  have up : ∀ (f : Nat → Nat → Option Value) (j i : Nat) (v u : Value), f b i = some u → ∃ u', upd f b j v b i = some u' := fun f j i v u h => by
    unfold upd
    by_cases e : b = b ∧ i = j
    · rw [if_pos e]; exact ⟨_, rfl⟩
    · rw [if_neg e]; exact ⟨_, h⟩
  have k0 := k.set b 0 _ v0 h0
  obtain ⟨x1, e1⟩ := up f 0 1 v0 _ h1
  have k1 := k0.set b 1 _ v1 e1
  obtain ⟨x2, e2⟩ := up f 0 2 v0 _ h2
  obtain ⟨y2, e2⟩ := up _ 1 2 v1 _ e2
  have k2 := k1.set b 2 _ v2 e2
  obtain ⟨x3, e3⟩ := up f 0 3 v0 _ h3
  obtain ⟨x3, e3⟩ := up _ 1 3 v1 _ e3
  obtain ⟨x3, e3⟩ := up _ 2 3 v2 _ e3
  have k3 := k2.set b 3 _ v3 e3
  obtain ⟨x4, e4⟩ := up f 0 4 v0 _ h4
  obtain ⟨x4, e4⟩ := up _ 1 4 v1 _ e4
  obtain ⟨x4, e4⟩ := up _ 2 4 v2 _ e4
  obtain ⟨x4, e4⟩ := up _ 3 4 v3 _ e4
  have k4 := k3.set b 4 _ v4 e4
  obtain ⟨x5, e5⟩ := up f 0 5 v0 _ h5
  obtain ⟨x5, e5⟩ := up _ 1 5 v1 _ e5
  obtain ⟨x5, e5⟩ := up _ 2 5 v2 _ e5
  obtain ⟨x5, e5⟩ := up _ 3 5 v3 _ e5
  obtain ⟨x5, e5⟩ := up _ 4 5 v4 _ e5
  have k5 := k4.set b 5 _ v5 e5
  obtain ⟨x6, e6⟩ := up f 0 6 v0 _ h6
  obtain ⟨x6, e6⟩ := up _ 1 6 v1 _ e6
  obtain ⟨x6, e6⟩ := up _ 2 6 v2 _ e6
  obtain ⟨x6, e6⟩ := up _ 3 6 v3 _ e6
  obtain ⟨x6, e6⟩ := up _ 4 6 v4 _ e6
  obtain ⟨x6, e6⟩ := up _ 5 6 v5 _ e6
  have k6 := k5.set b 6 _ v6 e6
  obtain ⟨x7, e7⟩ := up f 0 7 v0 _ h7
  obtain ⟨x7, e7⟩ := up _ 1 7 v1 _ e7
  obtain ⟨x7, e7⟩ := up _ 2 7 v2 _ e7
  obtain ⟨x7, e7⟩ := up _ 3 7 v3 _ e7
  obtain ⟨x7, e7⟩ := up _ 4 7 v4 _ e7
  obtain ⟨x7, e7⟩ := up _ 5 7 v5 _ e7
  obtain ⟨x7, e7⟩ := up _ 6 7 v6 _ e7
  have k7 := k6.set b 7 _ v7 e7
  obtain ⟨x8, e8⟩ := up f 0 8 v0 _ h8
  obtain ⟨x8, e8⟩ := up _ 1 8 v1 _ e8
  obtain ⟨x8, e8⟩ := up _ 2 8 v2 _ e8
  obtain ⟨x8, e8⟩ := up _ 3 8 v3 _ e8
  obtain ⟨x8, e8⟩ := up _ 4 8 v4 _ e8
  obtain ⟨x8, e8⟩ := up _ 5 8 v5 _ e8
  obtain ⟨x8, e8⟩ := up _ 6 8 v6 _ e8
  obtain ⟨x8, e8⟩ := up _ 7 8 v7 _ e8
  have k8 := k7.set b 8 _ v8 e8
  obtain ⟨x9, e9⟩ := up f 0 9 v0 _ h9
  obtain ⟨x9, e9⟩ := up _ 1 9 v1 _ e9
  obtain ⟨x9, e9⟩ := up _ 2 9 v2 _ e9
  obtain ⟨x9, e9⟩ := up _ 3 9 v3 _ e9
  obtain ⟨x9, e9⟩ := up _ 4 9 v4 _ e9
  obtain ⟨x9, e9⟩ := up _ 5 9 v5 _ e9
  obtain ⟨x9, e9⟩ := up _ 6 9 v6 _ e9
  obtain ⟨x9, e9⟩ := up _ 7 9 v7 _ e9
  obtain ⟨x9, e9⟩ := up _ 8 9 v8 _ e9
  have k9 := k8.set b 9 _ v9 e9
  refine k9.as fun b' j' v e => ?_
  by_cases hb : b' = b
  · subst hb
    rw [if_pos rfl] at e
    unfold upd
    match j', e with
    | 0, e => simpa using e
    | 1, e => simpa using e
    | 2, e => simpa using e
    | 3, e => simpa using e
    | 4, e => simpa using e
    | 5, e => simpa using e
    | 6, e => simpa using e
    | 7, e => simpa using e
    | 8, e => simpa using e
    | 9, e => simpa using e
    | j + 10, e => simp at e
  · rw [if_neg hb] at e
    unfold upd
    simp only [hb, false_and, if_false]
    exact e

theorem readR_may (s : ByteArray) (n : Nat) (h1 : 20 ≤ n) (h2 : n ≤ 60) (h3 : n ≤ s.size) (h4 : n % 4 = 0) : (readR s n).MayB := by
  unfold Rh.MayB readR
  simp only
  rw [ByteArray.size_extract]
  have : twoAt s.data.toList 6 % 8192 < 8192 := Nat.mod_lt _ (by omega)
  refine ⟨by omega, by omega, by omega, by omega, by omega⟩
theorem readR_in (s : ByteArray) (n : Nat) (h2 : n ≤ 60) : (readR s n).In := by
  have : twoAt s.data.toList 6 % 8192 < 8192 := Nat.mod_lt _ (by omega)
  refine ⟨byteAt_lt _ _, twoAt_lt _ _, ?_, ?_, byteAt_lt _ _, byteAt_lt _ _, fourAt_lt _ _, fourAt_lt _ _, ?_⟩
  · unfold readR; simp only; omega
  · unfold readR; simp only; omega
  · unfold readR; simp only; rw [ByteArray.size_extract]; omega

/-- what Decode tells -/
def decE (s : ByteArray) : Int :=
  if meaR s = 0 then
    if red (S (s.data.toList.take (hN s))) = 65535 then if twoAt s.data.toList 6 < 32768 then if roomB (readR s (hN s)) (pN s - hN s) ∧ wholeB (readR s (hN s)).more (pN s - hN s) then 0 else 8 else 8 else 101
  else meaR s
def decV (s : ByteArray) : Value := if decE s = 0 then .tuple #[hdV (readR s (hN s)), .string (s.extract (hN s) (pN s)), .int .i64 0] else .tuple #[hd0V, .string ⟨#[]⟩, .int .i64 (decE s)]
/-- sizes that are told -/
structure MeaOk (s : ByteArray) : Prop where
  a : 20 ≤ s.size
  v : byteAt s.data.toList 0 / 16 = 4
  b : 20 ≤ hN s
  c : hN s ≤ s.size
  d : hN s ≤ pN s
  e : pN s ≤ s.size
theorem meaR_ok {s : ByteArray} (h : meaR s = 0) : MeaOk s := by
  unfold meaR at h
  split at h
  · rename_i h1
    split at h
    · rename_i h2
      obtain ⟨a1, a2, a3⟩ := meaE_zero h1
      obtain ⟨b1, _, b3⟩ := meaE_zero h2
      obtain ⟨c1, _, _⟩ := meaE_zero h
      exact ⟨a1, a2, a3, b1, b3, c1⟩
    · rename_i h2; exact absurd h h2
  · rename_i h1; exact absurd h h1

theorem dec_start (s : ByteArray) (w : World) : Tab w 2 (add (add (fun _ _ => none) 0 [.string s]) 1 z10) ((w.alloc (.cells #[.string s] 9)).alloc (.cells z10.toArray 34)) :=
  ((Tab.zero w).alloc rfl [.string s] 9).alloc (by simp) z10 34
theorem bel_two (w : World) (o o' : Obj) : Below w.heap.size w ((w.alloc o).alloc o') := tr2 (below_one w o) (below_one _ _)

/-- in the plain words of Ip0 -/
theorem hd_n (s : ByteArray) : 4 * (byteAt s.data.toList 0 % 16) = hN s := rfl
theorem room_fits {s : ByteArray} {n : Nat} (h2 : 20 ≤ n) (h3 : n ≤ s.size) (k : Nat) : roomB (readR s n) k ↔ (readHd s.data.toList n).fits k := by
  rw [← readR_hd]
  unfold roomB Hd.fits Hd.n Rh.hd readR
  simp only
  rw [← Lib.size_eq, ByteArray.size_extract]
  omega
theorem whole_whole (s : ByteArray) (n k : Nat) : wholeB (readR s n).more k ↔ (readHd s.data.toList n).whole k := by
  rw [← readR_hd]
  exact Iff.rfl
theorem dec_ok_of {s : ByteArray} (h : decE s = 0) : DecOk s.data.toList (readHd s.data.toList (hN s)) (s.extract (hN s) (pN s)).data.toList := by
  have hl := Lib.size_eq s
  unfold decE at h
  split at h
  · rename_i hz
    obtain ⟨a1, a2, a3, a4, a5, a6⟩ := meaR_ok hz
    split at h
    · rename_i h1
      split at h
      · rename_i h2
        split at h
        · rename_i h3
          refine ⟨by omega, a2, a3, by rw [hd_n]; omega, a5, by rw [← hl]; exact a6, h1, h2, (whole_whole s (hN s) _).1 h3.2, (room_fits a3 a4 _).1 h3.1, rfl, ?_⟩
          rw [Lib.extract_eq]
          rfl
        · cases h
      · cases h
    · cases h
  · rename_i hz; exact absurd h hz
theorem dec_no_of {s : ByteArray} (h : decE s ≠ 0) : ∃ e : Nat, decE s = (e : Int) ∧ DecR s.data.toList e := by
  have hl := Lib.size_eq s
  by_cases hz : meaR s = 0
  · obtain ⟨a1, a2, a3, a4, a5, a6⟩ := meaR_ok hz
    unfold decE at h ⊢
    rw [if_pos hz] at h ⊢
    by_cases h1 : red (S (s.data.toList.take (hN s))) = 65535
    · rw [if_pos h1] at h ⊢
      by_cases h2 : twoAt s.data.toList 6 < 32768
      · rw [if_pos h2] at h ⊢
        by_cases h3 : roomB (readR s (hN s)) (pN s - hN s) ∧ wholeB (readR s (hN s)).more (pN s - hN s)
        · rw [if_pos h3] at h; exact absurd rfl h
        · rw [if_neg h3]
          exact ⟨8, rfl, .form3 (by omega) a2 a3 (by rw [hd_n]; omega) a5 (by rw [← hl]; exact a6) h1 (fun x => h3 ⟨(room_fits a3 a4 _).2 x.2.2, (whole_whole s (hN s) _).2 x.2.1⟩)⟩
      · rw [if_neg h2]
        exact ⟨8, rfl, .form3 (by omega) a2 a3 (by rw [hd_n]; omega) a5 (by rw [← hl]; exact a6) h1 (fun x => h2 x.1)⟩
    · rw [if_neg h1]
      exact ⟨101, rfl, .sum (by omega) a2 a3 (by rw [hd_n]; omega) a5 (by rw [← hl]; exact a6) h1⟩
  · unfold decE
    rw [if_neg hz]
    clear h
    unfold meaR at hz ⊢
    by_cases h1 : meaE s (hN s) 20 = 0
    · rw [if_pos h1] at hz ⊢
      obtain ⟨a1, a2, a3⟩ := meaE_zero h1
      by_cases h2 : meaE s (pN s) (hN s) = 0
      · rw [if_pos h2] at hz ⊢
        obtain ⟨b1, _, b3⟩ := meaE_zero h2
        unfold meaE at hz ⊢
        by_cases c1 : pN s ≤ s.size
        · rw [if_pos c1, if_pos a2, if_pos (Nat.le_refl _)] at hz; exact absurd rfl hz
        · rw [if_neg c1]
          exact ⟨10, rfl, .short3 (by omega) a2 a3 (by rw [hd_n]; omega) b3 (by rw [← hl]; exact Nat.lt_of_not_le c1)⟩
      · rw [if_neg h2]
        unfold meaE at h2 ⊢
        by_cases c1 : hN s ≤ s.size
        · rw [if_pos c1, if_pos a2] at h2 ⊢
          by_cases c2 : hN s ≤ pN s
          · rw [if_pos c2] at h2; exact absurd rfl h2
          · rw [if_neg c2]
            exact ⟨8, rfl, .form2 (by omega) a2 a3 (by rw [hd_n]; omega) (Nat.lt_of_not_le c2)⟩
        · rw [if_neg c1]
          exact ⟨10, rfl, .short2 (by omega) a2 a3 (by rw [hd_n]; omega)⟩
    · rw [if_neg h1]
      unfold meaE at h1 ⊢
      by_cases c1 : 20 ≤ s.size
      · rw [if_pos c1] at h1 ⊢
        by_cases c2 : byteAt s.data.toList 0 / 16 = 4
        · rw [if_pos c2] at h1 ⊢
          by_cases c3 : 20 ≤ hN s
          · rw [if_pos c3] at h1; exact absurd rfl h1
          · rw [if_neg c3]
            exact ⟨8, rfl, .form (by omega) c2 (Nat.lt_of_not_le c3)⟩
        · rw [if_neg c2]
          exact ⟨100, rfl, .version (by omega) c2⟩
      · rw [if_neg c1]
        exact ⟨10, rfl, .short (by omega)⟩

end Go.Proofs.Ytekljiakofmhnaa
