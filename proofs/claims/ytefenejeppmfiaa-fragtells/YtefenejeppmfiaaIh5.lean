/- The contract of package ip4's Decode, over the loaded program; no memory that was there has turned. Conditions: texts of bounded length. -/
import Derived.Test.YtefenejeppmfiaaIh4
namespace Go.Proofs.Ytefenejeppmfiaa
open Go.RowKit

theorem Tab.put10 {w0 w : World} {n : Nat} {f : Nat → Nat → Option Value} (k : Tab w0 n f w) (b : Nat) {u0 u1 u2 u3 u4 u5 u6 u7 u8 u9 : Value} (h0 : f b 0 = some u0) (h1 : f b 1 = some u1) (h2 : f b 2 = some u2) (h3 : f b 3 = some u3) (h4 : f b 4 = some u4) (h5 : f b 5 = some u5) (h6 : f b 6 = some u6) (h7 : f b 7 = some u7) (h8 : f b 8 = some u8) (h9 : f b 9 = some u9) (v0 v1 v2 v3 v4 v5 v6 v7 v8 v9 : Value) :
    Tab w0 n (fun b' j' => if b' = b then [v0, v1, v2, v3, v4, v5, v6, v7, v8, v9][j']? else f b' j') ((((((((((w.setCell ⟨w0.heap.size + b, 0, none⟩ v0).setCell ⟨w0.heap.size + b, 1, none⟩ v1).setCell ⟨w0.heap.size + b, 2, none⟩ v2).setCell ⟨w0.heap.size + b, 3, none⟩ v3).setCell ⟨w0.heap.size + b, 4, none⟩ v4).setCell ⟨w0.heap.size + b, 5, none⟩ v5).setCell ⟨w0.heap.size + b, 6, none⟩ v6).setCell ⟨w0.heap.size + b, 7, none⟩ v7).setCell ⟨w0.heap.size + b, 8, none⟩ v8).setCell ⟨w0.heap.size + b, 9, none⟩ v9) := by
  have up : ∀ (f : Nat → Nat → Option Value) (j i : Nat) (v u : Value), f b i = some u → ∃ u', upd f b j v b i = some u' := fun f j i v u h => by
    unfold upd
    by_cases e : b = b ∧ i = j
    · rw [if_pos e]; exact ⟨_, rfl⟩
    · rw [if_neg e]; exact ⟨_, h⟩
  have k0 := k.set b 0 _ v0 h0
  obtain ⟨x1, e1⟩ := up f 0 1 v0 _ h1
  have k1 := k0.set b 1 _ v1 e1
  obtain ⟨x2, e2⟩ := up f 0 2 v0 _ h2
  obtain ⟨y2, e2⟩ := up _ 1 2 v1 _ e2
  have k2 := k1.set b 2 _ v2 e2
  obtain ⟨x3, e3⟩ := up f 0 3 v0 _ h3
  obtain ⟨x3, e3⟩ := up _ 1 3 v1 _ e3
  obtain ⟨x3, e3⟩ := up _ 2 3 v2 _ e3
  have k3 := k2.set b 3 _ v3 e3
  obtain ⟨x4, e4⟩ := up f 0 4 v0 _ h4
  obtain ⟨x4, e4⟩ := up _ 1 4 v1 _ e4
  obtain ⟨x4, e4⟩ := up _ 2 4 v2 _ e4
  obtain ⟨x4, e4⟩ := up _ 3 4 v3 _ e4
  have k4 := k3.set b 4 _ v4 e4
  obtain ⟨x5, e5⟩ := up f 0 5 v0 _ h5
  obtain ⟨x5, e5⟩ := up _ 1 5 v1 _ e5
  obtain ⟨x5, e5⟩ := up _ 2 5 v2 _ e5
  obtain ⟨x5, e5⟩ := up _ 3 5 v3 _ e5
  obtain ⟨x5, e5⟩ := up _ 4 5 v4 _ e5
  have k5 := k4.set b 5 _ v5 e5
  obtain ⟨x6, e6⟩ := up f 0 6 v0 _ h6
  obtain ⟨x6, e6⟩ := up _ 1 6 v1 _ e6
  obtain ⟨x6, e6⟩ := up _ 2 6 v2 _ e6
  obtain ⟨x6, e6⟩ := up _ 3 6 v3 _ e6
  obtain ⟨x6, e6⟩ := up _ 4 6 v4 _ e6
  obtain ⟨x6, e6⟩ := up _ 5 6 v5 _ e6
  have k6 := k5.set b 6 _ v6 e6
  obtain ⟨x7, e7⟩ := up f 0 7 v0 _ h7
  obtain ⟨x7, e7⟩ := up _ 1 7 v1 _ e7
  obtain ⟨x7, e7⟩ := up _ 2 7 v2 _ e7
  obtain ⟨x7, e7⟩ := up _ 3 7 v3 _ e7
  obtain ⟨x7, e7⟩ := up _ 4 7 v4 _ e7
  obtain ⟨x7, e7⟩ := up _ 5 7 v5 _ e7
  obtain ⟨x7, e7⟩ := up _ 6 7 v6 _ e7
  have k7 := k6.set b 7 _ v7 e7
  obtain ⟨x8, e8⟩ := up f 0 8 v0 _ h8
  obtain ⟨x8, e8⟩ := up _ 1 8 v1 _ e8
  obtain ⟨x8, e8⟩ := up _ 2 8 v2 _ e8
  obtain ⟨x8, e8⟩ := up _ 3 8 v3 _ e8
  obtain ⟨x8, e8⟩ := up _ 4 8 v4 _ e8
  obtain ⟨x8, e8⟩ := up _ 5 8 v5 _ e8
  obtain ⟨x8, e8⟩ := up _ 6 8 v6 _ e8
  obtain ⟨x8, e8⟩ := up _ 7 8 v7 _ e8
  have k8 := k7.set b 8 _ v8 e8
  obtain ⟨x9, e9⟩ := up f 0 9 v0 _ h9
  obtain ⟨x9, e9⟩ := up _ 1 9 v1 _ e9
  obtain ⟨x9, e9⟩ := up _ 2 9 v2 _ e9
  obtain ⟨x9, e9⟩ := up _ 3 9 v3 _ e9
  obtain ⟨x9, e9⟩ := up _ 4 9 v4 _ e9
  obtain ⟨x9, e9⟩ := up _ 5 9 v5 _ e9
  obtain ⟨x9, e9⟩ := up _ 6 9 v6 _ e9
  obtain ⟨x9, e9⟩ := up _ 7 9 v7 _ e9
  obtain ⟨x9, e9⟩ := up _ 8 9 v8 _ e9
  have k9 := k8.set b 9 _ v9 e9
  refine k9.as fun b' j' v e => ?_
  by_cases hb : b' = b
  · subst hb
    rw [if_pos rfl] at e
    unfold upd
    match j', e with
    | 0, e => simpa using e
    | 1, e => simpa using e
    | 2, e => simpa using e
    | 3, e => simpa using e
    | 4, e => simpa using e
    | 5, e => simpa using e
    | 6, e => simpa using e
    | 7, e => simpa using e
    | 8, e => simpa using e
    | 9, e => simpa using e
    | j + 10, e => simp at e
  · rw [if_neg hb] at e
    unfold upd
    simp only [hb, false_and, if_false]
    exact e

theorem dec1_any (s : ByteArray) (p q n : Nat) (w : World) (hm : s.size ≤ 1073741824) (hn : n ≤ s.size) (cs : w.cell? ⟨p, 0, none⟩ = some (.string s)) (cq : w.cell? ⟨q, 0, none⟩ = some (.int .i64 (n : Int))) :
    Calls Try.prog 29 #[.pointer (some ⟨p, 0, none⟩), .pointer (some ⟨q, 0, none⟩)] w fun e w' => e = .returned (.int .i64 (if red (S (s.data.toList.take n)) = 65535 then 0 else 101)) ∧ Below w.heap.size w w' := by
  have hx : (s.extract 0 n).size ≤ 1073741824 := by rw [ByteArray.size_extract]; omega
  have ea : sAdd [s.extract 0 n] = red (S (s.data.toList.take n)) := by
    unfold sAdd
    rw [cat_one, Lib.extract_eq, Nat.sub_zero]
    rfl
  have H1 : ∀ w : World, Calls Try.prog 31 #[.slice (some ⟨w.heap.size, 0, none⟩) 1 1] (w.alloc (.cells #[.string (s.extract 0 n)] 9)) fun e w' => e = .returned (.bool (decide (sAdd [s.extract 0 n] = 65535))) ∧ Below w.heap.size w w' := fun w =>
    (right_any [s.extract 0 n] _ _ (by rw [cat_one, ← Lib.size_eq]; omega) (by simp) (strs1 w (s.extract 0 n))).mono fun e w' x => ⟨x.1, skip1 x.2⟩
  rw [ea] at H1
  clear ea
  obtain ⟨g, hg, hge⟩ := hidec (red (S (s.data.toList.take n)) = 65535)
  rw [← hge] at H1
  have H1 := hide H1
  have H2 := fun w => unless_any g 101 w
  have hE : Hid ((if g = true then (0 : Int) else 101) = if red (S (s.data.toList.take n)) = 65535 then 0 else 101) := by
    rw [hge]
    by_cases x : red (S (s.data.toList.take n)) = 65535
    · rw [decide_eq_true x, if_pos rfl, if_pos x]; exact rfl
    · rw [decide_eq_false x, if_neg (by decide), if_neg x]; exact rfl
  rw [← unhide hE]
  clear hE hg hge
  generalize (if g = true then (0 : Int) else 101) = X at *
  have H2 := hide H2
  go_enter Try.func29, Try.ntmps29
  go_wp2_with fail
  refine (unhide H1 _).mono ?_
  rintro e w1 ⟨rfl, b1⟩
  go_wp2_with fail
  refine (unhide H2 _).mono ?_
  rintro e w2 ⟨rfl, rfl⟩
  go_wp2_with fail
  go_ret
  exact ⟨rfl, b1⟩

theorem dec2_any (s : ByteArray) (p : Nat) (w : World) (hm : s.size ≤ 1073741824) (hs : 20 ≤ s.size) (cs : w.cell? ⟨p, 0, none⟩ = some (.string s)) :
    Calls Try.prog 32 #[.pointer (some ⟨p, 0, none⟩)] w fun e w' => e = .returned (.int .i64 (if twoAt s.data.toList 6 < 32768 then 0 else 8)) ∧ Below w.heap.size w w' := by
  have H1 := fun w => haskept_any s w hs hm
  by_cases x : twoAt s.data.toList 6 < 32768
  · rw [if_pos x]
    rw [decide_eq_false (by omega)] at H1
    have H1 := hide H1
    have H2 := hide (fun w => unless_any true 8 w)
    clear x
    go_enter Try.func32, Try.ntmps32
    go_wp2_with fail
    refine (unhide H1 _).mono ?_
    rintro e w1 ⟨rfl, b1⟩
    go_wp2_with fail
    refine (unhide H2 _).mono ?_
    rintro e w2 ⟨rfl, rfl⟩
    go_wp2_with fail
    go_ret
    exact ⟨rfl, b1⟩
  · rw [if_neg x]
    rw [decide_eq_true (by omega)] at H1
    have H1 := hide H1
    have H2 := hide (fun w => unless_any false 8 w)
    clear x
    go_enter Try.func32, Try.ntmps32
    go_wp2_with fail
    refine (unhide H1 _).mono ?_
    rintro e w1 ⟨rfl, b1⟩
    go_wp2_with fail
    refine (unhide H2 _).mono ?_
    rintro e w2 ⟨rfl, rfl⟩
    go_wp2_with fail
    go_ret
    exact ⟨rfl, b1⟩

abbrev decFs (B p : Nat) : List Value := [.func (.func 29) #[] #[.pointer (some ⟨p, 0, none⟩), .pointer (some ⟨B, 0, none⟩)], .func (.func 32) #[] #[.pointer (some ⟨p, 0, none⟩)],
  .func (.func 34) #[] #[.pointer (some ⟨p, 0, none⟩), .pointer (some ⟨B, 0, none⟩), .pointer (some ⟨B + 2, 0, none⟩), .pointer (some ⟨B + 1, 0, none⟩)]]
/-- what stands in Decode's own blocks behind measure: both sizes, the head, the closures -/
abbrev dt (B p H P : Nat) (hc : List Value) : Nat → Nat → Option Value := add (add (add (add (fun _ _ => none) 0 [.int .i64 (H : Int)]) 1 [.int .i64 (P : Int)]) 2 hc) 3 (decFs B p)
theorem dt_put {W w : World} {p H P : Nat} {hc : List Value} (h : Rh) (k : Tab W 4 (fun b' j' => if b' = 2 then (hdL h)[j']? else dt W.heap.size p H P hc b' j') w) : Tab W 4 (dt W.heap.size p H P (hdL h)) w := by
  refine k.as fun b j v e => ?_
  unfold dt add at e ⊢
  by_cases h2 : b = 2
  · subst h2; simpa using e
  · rw [if_neg h2]
    by_cases h3 : b = 3
    · subst h3; simpa using e
    · simp only [h2, h3, if_false] at e ⊢
      exact e

theorem readR_may (s : ByteArray) (n : Nat) (h1 : 20 ≤ n) (h2 : n ≤ 60) (h3 : n ≤ s.size) (h4 : n % 4 = 0) : (readR s n).MayB := by
  unfold Rh.MayB readR
  simp only
  rw [ByteArray.size_extract]
  have : twoAt s.data.toList 6 % 8192 < 8192 := Nat.mod_lt _ (by omega)
  refine ⟨by omega, by omega, by omega, by omega, by omega⟩
theorem readR_in (s : ByteArray) (n : Nat) (h2 : n ≤ 60) : (readR s n).In := by
  have : twoAt s.data.toList 6 % 8192 < 8192 := Nat.mod_lt _ (by omega)
  refine ⟨byteAt_lt _ _, twoAt_lt _ _, ?_, ?_, byteAt_lt _ _, byteAt_lt _ _, fourAt_lt _ _, fourAt_lt _ _, ?_⟩
  · unfold readR; simp only; omega
  · unfold readR; simp only; omega
  · unfold readR; simp only; rw [ByteArray.size_extract]; omega

set_option maxRecDepth 20000 in
set_option maxHeartbeats 2000000 in
theorem dec3_tab {s : ByteArray} {p H P : Nat} {W w : World} (k : Tab W 4 (dt W.heap.size p H P z10) w) (cs : ∀ w', Below W.heap.size W w' → w'.cell? ⟨p, 0, none⟩ = some (.string s)) (hm : s.size ≤ 1073741824) (h1 : 20 ≤ H) (h2 : H ≤ 60) (h3 : H ≤ s.size) (h4 : H % 4 = 0) (h5 : H ≤ P) (h6 : P < 65536) :
    Calls Try.prog 34 #[.pointer (some ⟨p, 0, none⟩), .pointer (some ⟨W.heap.size, 0, none⟩), .pointer (some ⟨W.heap.size + 2, 0, none⟩), .pointer (some ⟨W.heap.size + 1, 0, none⟩)] w fun e w' => e = .returned (.int .i64 (if roomB (readR s H) (P - H) ∧ wholeB (readR s H).more (P - H) then 0 else 8)) ∧ Tab W 4 (dt W.heap.size p H P (hdL (readR s H))) w' := by
  have R1 := hide (fun w => read_any s H w h1 h2 h3 hm)
  have R2 := fun w => maywith_any (readR s H) (P - H) w (readR_in s H h2) (readR_may s H h1 h2 h3 h4) (by omega)
  obtain ⟨g, hg, hge⟩ := hidec (roomB (readR s H) (P - H) ∧ wholeB (readR s H).more (P - H))
  rw [← hge] at R2
  rw [show ((P - H : Nat) : Int) = (P : Int) - (H : Int) by omega] at R2
  have R2 := hide R2
  have R3 := fun w => unless_any g 8 w
  have hE : Hid ((if g = true then (0 : Int) else 8) = if roomB (readR s H) (P - H) ∧ wholeB (readR s H).more (P - H) then 0 else 8) := by
    rw [hge]
    by_cases x : roomB (readR s H) (P - H) ∧ wholeB (readR s H).more (P - H)
    · rw [decide_eq_true x, if_pos rfl, if_pos x]; exact rfl
    · rw [decide_eq_false x, if_neg (by decide), if_neg x]; exact rfl
  rw [← unhide hE]
  clear hE hg hge
  generalize (if g = true then (0 : Int) else 8) = X at *
  have R3 := hide R3
  generalize readR s H = h at *
  have x1 : wrap64 ((P : Int) - (H : Int)) = (P : Int) - (H : Int) := by unfold wrap64; omega
  have c1 := cs w k.bel
  have c2 : w.cell? ⟨W.heap.size, 0, none⟩ = some (.int .i64 (H : Int)) := k.cells 0 0 _ rfl
  have K := hide k
  have CS := hide cs
  clear k cs h1 h2 h3 h4 h5 h6
  go_enter Try.func34, Try.ntmps34
  go_wp2_with fail
  refine (unhide R1 _).mono ?_
  rintro e w1 ⟨rfl, b1⟩
  have k := (unhide K).on b1
  clear c1 c2 K b1 R1
  have c0 := k.cells 2 0 _ rfl
  have c1 := k.cells 2 1 _ rfl
  have c2 := k.cells 2 2 _ rfl
  have c3 := k.cells 2 3 _ rfl
  have c4 := k.cells 2 4 _ rfl
  have c5 := k.cells 2 5 _ rfl
  have c6 := k.cells 2 6 _ rfl
  have c7 := k.cells 2 7 _ rfl
  have c8 := k.cells 2 8 _ rfl
  have c9 := k.cells 2 9 _ rfl
  have f0 := k.free 2 0 _ rfl
  have f1 := k.free 2 1 _ rfl
  have f2 := k.free 2 2 _ rfl
  have f3 := k.free 2 3 _ rfl
  have f4 := k.free 2 4 _ rfl
  have f5 := k.free 2 5 _ rfl
  have f6 := k.free 2 6 _ rfl
  have f7 := k.free 2 7 _ rfl
  have f8 := k.free 2 8 _ rfl
  have f9 := k.free 2 9 _ rfl
  have k2 := dt_put h (k.put10 2 rfl rfl rfl rfl rfl rfl rfl rfl rfl rfl _ _ _ _ _ _ _ _ _ _)
  have d1 : w1.cell? ⟨W.heap.size, 0, none⟩ = some (.int .i64 (H : Int)) := k.cells 0 0 _ rfl
  have d2 := k.cells 1 0 _ rfl
  have K2 := hide k2
  clear k k2
  go_wp2_with fail
  refine (unhide R2 _).mono ?_
  rintro e w2 ⟨rfl, b2⟩
  have K3 := hide ((unhide K2).on b2)
  clear K2 b2 R2 c0 c1 c2 c3 c4 c5 c6 c7 c8 c9 f0 f1 f2 f3 f4 f5 f6 f7 f8 f9 d1 d2
  go_wp2_with fail
  refine (unhide R3 _).mono ?_
  rintro e w3 ⟨rfl, rfl⟩
  go_wp2_with fail
  go_ret
  exact ⟨rfl, unhide K3⟩

/-- what Decode tells -/
def decE (s : ByteArray) : Int :=
  if meaR s = 0 then
    if red (S (s.data.toList.take (hN s))) = 65535 then if twoAt s.data.toList 6 < 32768 then if roomB (readR s (hN s)) (pN s - hN s) ∧ wholeB (readR s (hN s)).more (pN s - hN s) then 0 else 8 else 8 else 101
  else meaR s
def decV (s : ByteArray) : Value := if decE s = 0 then .tuple #[hdV (readR s (hN s)), .string (s.extract (hN s) (pN s)), .int .i64 0] else .tuple #[hd0V, .string ⟨#[]⟩, .int .i64 (decE s)]
/-- sizes that are told -/
structure MeaOk (s : ByteArray) : Prop where
  a : 20 ≤ s.size
  v : byteAt s.data.toList 0 / 16 = 4
  b : 20 ≤ hN s
  c : hN s ≤ s.size
  d : hN s ≤ pN s
  e : pN s ≤ s.size
theorem meaR_ok {s : ByteArray} (h : meaR s = 0) : MeaOk s := by
  unfold meaR at h
  split at h
  · rename_i h1
    split at h
    · rename_i h2
      obtain ⟨a1, a2, a3⟩ := meaE_zero h1
      obtain ⟨b1, _, b3⟩ := meaE_zero h2
      obtain ⟨c1, _, _⟩ := meaE_zero h
      exact ⟨a1, a2, a3, b1, b3, c1⟩
    · rename_i h2; exact absurd h h2
  · rename_i h1; exact absurd h h1

theorem fwdec_tab {s : ByteArray} {p : Nat} {W w : World} (k : Tab W 4 (dt W.heap.size p (hN s) (pN s) z10) w) (cs : ∀ w', Below W.heap.size W w' → w'.cell? ⟨p, 0, none⟩ = some (.string s)) (hm : s.size ≤ 1073741824) (hz : meaR s = 0) :
    Calls Try.prog 28 #[.slice (some ⟨W.heap.size + 3, 0, none⟩) 3 3] w fun e w' => e = .returned (.int .i64 (decE s)) ∧ Below W.heap.size W w' ∧ (decE s = 0 → Tab W 4 (dt W.heap.size p (hN s) (pN s) (hdL (readR s (hN s)))) w') := by
  obtain ⟨a1, a2, a3, a4, a5, a6⟩ := meaR_ok hz
  have l1 := hN_le s
  have l2 := pN_lt s
  have l4 : hN s % 4 = 0 := by unfold hN; omega
  have D1 : ∀ w', Tab W 4 (dt W.heap.size p (hN s) (pN s) z10) w' → Calls Try.prog 29 #[.pointer (some ⟨p, 0, none⟩), .pointer (some ⟨W.heap.size, 0, none⟩)] w' fun e w'' => e = .returned (.int .i64 (if red (S (s.data.toList.take (hN s))) = 65535 then 0 else 101)) ∧ Tab W 4 (dt W.heap.size p (hN s) (pN s) z10) w'' := fun w' k' =>
    (dec1_any s p W.heap.size (hN s) w' hm a4 (cs w' k'.bel) (k'.cells 0 0 _ rfl)).mono fun _ _ x => ⟨x.1, k'.on x.2⟩
  have D2 : ∀ w', Tab W 4 (dt W.heap.size p (hN s) (pN s) z10) w' → Calls Try.prog 32 #[.pointer (some ⟨p, 0, none⟩)] w' fun e w'' => e = .returned (.int .i64 (if twoAt s.data.toList 6 < 32768 then 0 else 8)) ∧ Tab W 4 (dt W.heap.size p (hN s) (pN s) z10) w'' := fun w' k' =>
    (dec2_any s p w' hm a1 (cs w' k'.bel)).mono fun _ _ x => ⟨x.1, k'.on x.2⟩
  have D3 : ∀ w', Tab W 4 (dt W.heap.size p (hN s) (pN s) z10) w' → Calls Try.prog 34 #[.pointer (some ⟨p, 0, none⟩), .pointer (some ⟨W.heap.size, 0, none⟩), .pointer (some ⟨W.heap.size + 2, 0, none⟩), .pointer (some ⟨W.heap.size + 1, 0, none⟩)] w' fun e w'' => e = .returned (.int .i64 (if roomB (readR s (hN s)) (pN s - hN s) ∧ wholeB (readR s (hN s)).more (pN s - hN s) then 0 else 8)) ∧ Tab W 4 (dt W.heap.size p (hN s) (pN s) (hdL (readR s (hN s)))) w'' := fun w' k' =>
    dec3_tab k' cs hm a3 l1 a4 l4 a5 l2
  by_cases h1 : red (S (s.data.toList.take (hN s))) = 65535
  · rw [if_pos h1] at D1
    by_cases h2 : twoAt s.data.toList 6 < 32768
    · rw [if_pos h2] at D2
      by_cases h3 : roomB (readR s (hN s)) (pN s - hN s) ∧ wholeB (readR s (hN s)).more (pN s - hN s)
      · rw [if_pos h3] at D3
        have e : decE s = 0 := by unfold decE; rw [if_pos hz, if_pos h1, if_pos h2, if_pos h3]
        rw [e]
        exact (fwDec_ok (W.heap.size + 3) p W.heap.size p p W.heap.size (W.heap.size + 2) (W.heap.size + 1) _ _ _ _ (fun w' k' => k'.cells 3 0 _ rfl) D1 (fun w' k' => k'.cells 3 1 _ rfl) D2 (fun w' k' => k'.cells 3 2 _ rfl) D3 w k).mono fun _ _ x => ⟨x.1, x.2.bel, fun _ => x.2⟩
      · rw [if_neg h3] at D3
        have e : decE s = 8 := by unfold decE; rw [if_pos hz, if_pos h1, if_pos h2, if_neg h3]
        rw [e]
        exact (fwDec_2 (W.heap.size + 3) p W.heap.size p p W.heap.size (W.heap.size + 2) (W.heap.size + 1) _ _ _ _ 8 (fun w' k' => k'.cells 3 0 _ rfl) D1 (fun w' k' => k'.cells 3 1 _ rfl) D2 (fun w' k' => k'.cells 3 2 _ rfl) D3 rfl w k).mono fun _ _ x => ⟨x.1, x.2.bel, fun y => by cases y⟩
    · rw [if_neg h2] at D2
      have e : decE s = 8 := by unfold decE; rw [if_pos hz, if_pos h1, if_neg h2]
      rw [e]
      exact (fwDec_1 (W.heap.size + 3) p W.heap.size p _ _ _ 8 (fun w' k' => k'.cells 3 0 _ rfl) D1 (fun w' k' => k'.cells 3 1 _ rfl) D2 rfl w k).mono fun _ _ x => ⟨x.1, x.2.bel, fun y => by cases y⟩
  · rw [if_neg h1] at D1
    have e : decE s = 101 := by unfold decE; rw [if_pos hz, if_neg h1]
    rw [e]
    exact (fwDec_0 (W.heap.size + 3) p W.heap.size _ _ 101 (fun w' k' => k'.cells 3 0 _ rfl) D1 rfl w k).mono fun _ _ x => ⟨x.1, x.2.bel, fun y => by cases y⟩

theorem dec_start (s : ByteArray) (w : World) : Tab w 2 (add (add (fun _ _ => none) 0 [.string s]) 1 z10) ((w.alloc (.cells #[.string s] 9)).alloc (.cells z10.toArray 25)) :=
  ((Tab.zero w).alloc rfl [.string s] 9).alloc (by simp) z10 25
theorem dt_start (W : World) (p H P : Nat) : Tab W 4 (dt W.heap.size p H P z10) ((((W.alloc (.cells #[.int .i64 (H : Int)] 3)).alloc (.cells #[.int .i64 (P : Int)] 3)).alloc (.cells z10.toArray 25)).alloc (.cells (decFs W.heap.size p).toArray 68)) :=
  ((((Tab.zero W).alloc rfl [.int .i64 (H : Int)] 3).alloc (by simp) [.int .i64 (P : Int)] 3).alloc (by simp) z10 25).alloc (by simp) (decFs W.heap.size p) 68
theorem bel_two (w : World) (o o' : Obj) : Below w.heap.size w ((w.alloc o).alloc o') := tr2 (below_one w o) (below_one _ _)

set_option maxRecDepth 20000 in
set_option maxHeartbeats 2000000 in
theorem decode_mea (s : ByteArray) (w : World) (e0 : Int) (hne : (e0 != 0) = true)
    (H1 : Hid (∀ w, Calls Try.prog 27 #[.string s] w fun e w' => e = .returned (.tuple #[.int .i64 0, .int .i64 0, .int .i64 e0]) ∧ Below w.heap.size w w')) :
    Calls Try.prog 14 #[.string s] w fun e w' => e = .returned (.tuple #[hd0V, .string ⟨#[]⟩, .int .i64 e0]) ∧ Below w.heap.size w w' := by
  have K := hide (dec_start s w)
  have BT := hide bel_two
  go_enter Try.func14, Try.ntmps14
  go_wp2_with fail
  refine (unhide H1 _).mono ?_
  rintro e w1 ⟨rfl, b1⟩
  obtain ⟨w2, hw2⟩ : ∃ w2, w2 = (w1.alloc (.cells #[.int .i64 0] 3)).alloc (.cells #[.int .i64 0] 3) := ⟨_, rfl⟩
  have k := (unhide K).on (tr2 b1 (hw2 ▸ unhide BT w1 (.cells #[.int .i64 0] 3) (.cells #[.int .i64 0] 3)))
  have r0 : w2.cell? ⟨w.heap.size + 1, 0, none⟩ = some (.int .u8 0) := (k).cells 1 0 _ rfl
  have f0 : w2.frozen? ⟨w.heap.size + 1, 0, none⟩ = false := (k).free 1 0 _ rfl
  have r1 : w2.cell? ⟨w.heap.size + 1, 1, none⟩ = some (.int .u16 0) := (k).cells 1 1 _ rfl
  have f1 : w2.frozen? ⟨w.heap.size + 1, 1, none⟩ = false := (k).free 1 1 _ rfl
  have r2 : w2.cell? ⟨w.heap.size + 1, 2, none⟩ = some (.bool false) := (k).cells 1 2 _ rfl
  have f2 : w2.frozen? ⟨w.heap.size + 1, 2, none⟩ = false := (k).free 1 2 _ rfl
  have r3 : w2.cell? ⟨w.heap.size + 1, 3, none⟩ = some (.bool false) := (k).cells 1 3 _ rfl
  have f3 : w2.frozen? ⟨w.heap.size + 1, 3, none⟩ = false := (k).free 1 3 _ rfl
  have r4 : w2.cell? ⟨w.heap.size + 1, 4, none⟩ = some (.int .i64 0) := (k).cells 1 4 _ rfl
  have f4 : w2.frozen? ⟨w.heap.size + 1, 4, none⟩ = false := (k).free 1 4 _ rfl
  have r5 : w2.cell? ⟨w.heap.size + 1, 5, none⟩ = some (.int .u8 0) := (k).cells 1 5 _ rfl
  have f5 : w2.frozen? ⟨w.heap.size + 1, 5, none⟩ = false := (k).free 1 5 _ rfl
  have r6 : w2.cell? ⟨w.heap.size + 1, 6, none⟩ = some (.int .u8 0) := (k).cells 1 6 _ rfl
  have f6 : w2.frozen? ⟨w.heap.size + 1, 6, none⟩ = false := (k).free 1 6 _ rfl
  have r7 : w2.cell? ⟨w.heap.size + 1, 7, none⟩ = some (.int .u32 0) := (k).cells 1 7 _ rfl
  have f7 : w2.frozen? ⟨w.heap.size + 1, 7, none⟩ = false := (k).free 1 7 _ rfl
  have r8 : w2.cell? ⟨w.heap.size + 1, 8, none⟩ = some (.int .u32 0) := (k).cells 1 8 _ rfl
  have f8 : w2.frozen? ⟨w.heap.size + 1, 8, none⟩ = false := (k).free 1 8 _ rfl
  have r9 : w2.cell? ⟨w.heap.size + 1, 9, none⟩ = some (.string ⟨#[]⟩) := (k).cells 1 9 _ rfl
  have f9 : w2.frozen? ⟨w.heap.size + 1, 9, none⟩ = false := (k).free 1 9 _ rfl
  have B := hide k.bel
  rw [hw2] at r0 f0 r1 f1 r2 f2 r3 f3 r4 f4 r5 f5 r6 f6 r7 f7 r8 f8 r9 f9 B
  clear K k b1 hw2
  go_wp2_with fail
  refine bodyPost_ret (v := .tuple #[hd0V, .string ⟨#[]⟩, .int .i64 e0]) (by simp [results, Try.results14, go_sem, r0, r1, r2, r3, r4, r5, r6, r7, r8, r9]) rfl ⟨rfl, ?_⟩
  exact below_set10 (unhide B) (Nat.le_succ _) _ _ _ _ _ _ _ _ _ _

set_option maxRecDepth 20000 in
set_option maxHeartbeats 2000000 in
theorem decode_bad (s : ByteArray) (w : World) (e0 : Int) (hm : s.size ≤ 1073741824) (hz : meaR s = 0) (he : decE s = e0) (hne : (e0 != 0) = true)
    (H1 : Hid (∀ w, Calls Try.prog 27 #[.string s] w fun e w' => e = .returned (.tuple #[.int .i64 (hN s : Nat), .int .i64 (pN s : Nat), .int .i64 0]) ∧ Below w.heap.size w w')) :
    Calls Try.prog 14 #[.string s] w fun e w' => e = .returned (.tuple #[hd0V, .string ⟨#[]⟩, .int .i64 e0]) ∧ Below w.heap.size w w' := by
  have K := hide (dec_start s w)
  go_enter Try.func14, Try.ntmps14
  go_wp2_with fail
  refine (unhide H1 _).mono ?_
  rintro e w1 ⟨rfl, b1⟩
  have k1 := (unhide K).on b1
  have HF := fwdec_tab (dt_start w1 w.heap.size (hN s) (pN s)) (fun w' hb => (k1.on hb).cells 0 0 _ rfl) hm hz
  have K1 := hide k1
  clear K k1 b1 H1
  rw [he] at HF
  have HF := hide HF
  clear he hz
  go_wp2_with fail
  simp only [Nat.add_assoc, Nat.reduceAdd]
  refine (unhide HF).mono ?_
  rintro e w2 ⟨rfl, b2, _⟩
  have k := (unhide K1).on b2
  have r0 : w2.cell? ⟨w.heap.size + 1, 0, none⟩ = some (.int .u8 0) := (k).cells 1 0 _ rfl
  have f0 : w2.frozen? ⟨w.heap.size + 1, 0, none⟩ = false := (k).free 1 0 _ rfl
  have r1 : w2.cell? ⟨w.heap.size + 1, 1, none⟩ = some (.int .u16 0) := (k).cells 1 1 _ rfl
  have f1 : w2.frozen? ⟨w.heap.size + 1, 1, none⟩ = false := (k).free 1 1 _ rfl
  have r2 : w2.cell? ⟨w.heap.size + 1, 2, none⟩ = some (.bool false) := (k).cells 1 2 _ rfl
  have f2 : w2.frozen? ⟨w.heap.size + 1, 2, none⟩ = false := (k).free 1 2 _ rfl
  have r3 : w2.cell? ⟨w.heap.size + 1, 3, none⟩ = some (.bool false) := (k).cells 1 3 _ rfl
  have f3 : w2.frozen? ⟨w.heap.size + 1, 3, none⟩ = false := (k).free 1 3 _ rfl
  have r4 : w2.cell? ⟨w.heap.size + 1, 4, none⟩ = some (.int .i64 0) := (k).cells 1 4 _ rfl
  have f4 : w2.frozen? ⟨w.heap.size + 1, 4, none⟩ = false := (k).free 1 4 _ rfl
  have r5 : w2.cell? ⟨w.heap.size + 1, 5, none⟩ = some (.int .u8 0) := (k).cells 1 5 _ rfl
  have f5 : w2.frozen? ⟨w.heap.size + 1, 5, none⟩ = false := (k).free 1 5 _ rfl
  have r6 : w2.cell? ⟨w.heap.size + 1, 6, none⟩ = some (.int .u8 0) := (k).cells 1 6 _ rfl
  have f6 : w2.frozen? ⟨w.heap.size + 1, 6, none⟩ = false := (k).free 1 6 _ rfl
  have r7 : w2.cell? ⟨w.heap.size + 1, 7, none⟩ = some (.int .u32 0) := (k).cells 1 7 _ rfl
  have f7 : w2.frozen? ⟨w.heap.size + 1, 7, none⟩ = false := (k).free 1 7 _ rfl
  have r8 : w2.cell? ⟨w.heap.size + 1, 8, none⟩ = some (.int .u32 0) := (k).cells 1 8 _ rfl
  have f8 : w2.frozen? ⟨w.heap.size + 1, 8, none⟩ = false := (k).free 1 8 _ rfl
  have r9 : w2.cell? ⟨w.heap.size + 1, 9, none⟩ = some (.string ⟨#[]⟩) := (k).cells 1 9 _ rfl
  have f9 : w2.frozen? ⟨w.heap.size + 1, 9, none⟩ = false := (k).free 1 9 _ rfl
  have B := hide k.bel
  clear K1 k b2 HF
  go_wp2_with fail
  refine bodyPost_ret (v := .tuple #[hd0V, .string ⟨#[]⟩, .int .i64 e0]) (by simp [results, Try.results14, go_sem, r0, r1, r2, r3, r4, r5, r6, r7, r8, r9]) rfl ⟨rfl, ?_⟩
  exact below_set10 (unhide B) (Nat.le_succ _) _ _ _ _ _ _ _ _ _ _

set_option maxRecDepth 20000 in
set_option maxHeartbeats 2000000 in
theorem decode_good (s : ByteArray) (w : World) (hm : s.size ≤ 1073741824) (hz : meaR s = 0) (he : decE s = 0)
    (H1 : Hid (∀ w, Calls Try.prog 27 #[.string s] w fun e w' => e = .returned (.tuple #[.int .i64 (hN s : Nat), .int .i64 (pN s : Nat), .int .i64 0]) ∧ Below w.heap.size w w')) :
    Calls Try.prog 14 #[.string s] w fun e w' => e = .returned (.tuple #[hdV (readR s (hN s)), .string (s.extract (hN s) (pN s)), .int .i64 0]) ∧ Below w.heap.size w w' := by
  obtain ⟨a1, a2, a3, a4, a5, a6⟩ := meaR_ok hz
  have l2 := pN_lt s
  have x1 : wrap64 (((pN s : Nat) : Int) - ((hN s : Nat) : Int)) = ((pN s : Nat) : Int) - ((hN s : Nat) : Int) := by unfold wrap64; omega
  have HT := fun w => wtext_ok s (hN s : Nat) (((pN s : Nat) : Int) - ((hN s : Nat) : Int)) w (by omega) (by omega) (by omega) (by omega)
  rw [show (((hN s : Nat) : Int)).toNat = hN s by omega, show (((hN s : Nat) : Int) + (((pN s : Nat) : Int) - ((hN s : Nat) : Int))).toNat = pN s by omega] at HT
  have HT := hide HT
  have HF : Hid (∀ (p : Nat) (W : World), (∀ w', Below W.heap.size W w' → w'.cell? ⟨p, 0, none⟩ = some (.string s)) → Calls Try.prog 28 #[.slice (some ⟨W.heap.size + 3, 0, none⟩) 3 3] ((((W.alloc (.cells #[.int .i64 (hN s : Nat)] 3)).alloc (.cells #[.int .i64 (pN s : Nat)] 3)).alloc (.cells z10.toArray 25)).alloc (.cells (decFs W.heap.size p).toArray 68)) fun e w' => e = .returned (.int .i64 0) ∧ Below W.heap.size W w' ∧ Tab W 4 (dt W.heap.size p (hN s) (pN s) (hdL (readR s (hN s)))) w') := fun p W cs => by
    have q := fwdec_tab (dt_start W p (hN s) (pN s)) cs hm hz
    rw [he] at q
    exact q.mono fun _ _ x => ⟨x.1, x.2.1, x.2.2 rfl⟩
  clear he hz a1 a2 a3 a4 a5 a6 l2
  have K := hide (dec_start s w)
  generalize readR s (hN s) = h at *
  generalize s.extract (hN s) (pN s) = D at *
  generalize hN s = H at *
  generalize pN s = P at *
  go_enter Try.func14, Try.ntmps14
  go_wp2_with fail
  refine (unhide H1 _).mono ?_
  rintro e w1 ⟨rfl, b1⟩
  have k1 := (unhide K).on b1
  have K1 := hide k1
  have HF := hide (unhide HF w.heap.size w1 (fun w' hb => (unhide K1 |>.on hb).cells 0 0 _ rfl))
  clear K k1 b1 H1
  go_wp2_with fail
  simp only [Nat.add_assoc, Nat.reduceAdd]
  refine (unhide HF).mono ?_
  rintro e w2 ⟨rfl, b2, k2⟩
  have k := (unhide K1).on b2
  have c0 : w2.cell? ⟨w.heap.size, 0, none⟩ = some (.string s) := k.cells 0 0 _ rfl
  have c1 : w2.cell? ⟨w1.heap.size, 0, none⟩ = some (.int .i64 (H : Int)) := k2.cells 0 0 _ rfl
  have c2 := k2.cells 1 0 _ rfl
  have K2 := hide k2
  have K := hide k
  clear K1 k k2 b2 HF
  go_wp2_with fail
  refine (unhide HT _).mono ?_
  rintro e w3 ⟨rfl, b3⟩
  have k2 := (unhide K2).on b3
  have k := (unhide K).on b3
  have d0 := k2.cells 2 0 _ rfl
  have d1 := k2.cells 2 1 _ rfl
  have d2 := k2.cells 2 2 _ rfl
  have d3 := k2.cells 2 3 _ rfl
  have d4 := k2.cells 2 4 _ rfl
  have d5 := k2.cells 2 5 _ rfl
  have d6 := k2.cells 2 6 _ rfl
  have d7 := k2.cells 2 7 _ rfl
  have d8 := k2.cells 2 8 _ rfl
  have d9 := k2.cells 2 9 _ rfl
  have r0 : w3.cell? ⟨w.heap.size + 1, 0, none⟩ = some (.int .u8 0) := (k).cells 1 0 _ rfl
  have f0 : w3.frozen? ⟨w.heap.size + 1, 0, none⟩ = false := (k).free 1 0 _ rfl
  have r1 : w3.cell? ⟨w.heap.size + 1, 1, none⟩ = some (.int .u16 0) := (k).cells 1 1 _ rfl
  have f1 : w3.frozen? ⟨w.heap.size + 1, 1, none⟩ = false := (k).free 1 1 _ rfl
  have r2 : w3.cell? ⟨w.heap.size + 1, 2, none⟩ = some (.bool false) := (k).cells 1 2 _ rfl
  have f2 : w3.frozen? ⟨w.heap.size + 1, 2, none⟩ = false := (k).free 1 2 _ rfl
  have r3 : w3.cell? ⟨w.heap.size + 1, 3, none⟩ = some (.bool false) := (k).cells 1 3 _ rfl
  have f3 : w3.frozen? ⟨w.heap.size + 1, 3, none⟩ = false := (k).free 1 3 _ rfl
  have r4 : w3.cell? ⟨w.heap.size + 1, 4, none⟩ = some (.int .i64 0) := (k).cells 1 4 _ rfl
  have f4 : w3.frozen? ⟨w.heap.size + 1, 4, none⟩ = false := (k).free 1 4 _ rfl
  have r5 : w3.cell? ⟨w.heap.size + 1, 5, none⟩ = some (.int .u8 0) := (k).cells 1 5 _ rfl
  have f5 : w3.frozen? ⟨w.heap.size + 1, 5, none⟩ = false := (k).free 1 5 _ rfl
  have r6 : w3.cell? ⟨w.heap.size + 1, 6, none⟩ = some (.int .u8 0) := (k).cells 1 6 _ rfl
  have f6 : w3.frozen? ⟨w.heap.size + 1, 6, none⟩ = false := (k).free 1 6 _ rfl
  have r7 : w3.cell? ⟨w.heap.size + 1, 7, none⟩ = some (.int .u32 0) := (k).cells 1 7 _ rfl
  have f7 : w3.frozen? ⟨w.heap.size + 1, 7, none⟩ = false := (k).free 1 7 _ rfl
  have r8 : w3.cell? ⟨w.heap.size + 1, 8, none⟩ = some (.int .u32 0) := (k).cells 1 8 _ rfl
  have f8 : w3.frozen? ⟨w.heap.size + 1, 8, none⟩ = false := (k).free 1 8 _ rfl
  have r9 : w3.cell? ⟨w.heap.size + 1, 9, none⟩ = some (.string ⟨#[]⟩) := (k).cells 1 9 _ rfl
  have f9 : w3.frozen? ⟨w.heap.size + 1, 9, none⟩ = false := (k).free 1 9 _ rfl
  have B := hide k.bel
  clear K2 K k k2 b3 HT c0 c1 c2
  go_wp2_with fail
  refine bodyPost_ret (v := .tuple #[hdV h, .string D, .int .i64 0]) (by simp [results, Try.results14, go_sem, r0, r1, r2, r3, r4, r5, r6, r7, r8, r9]) rfl ⟨rfl, ?_⟩
  exact below_set10 (unhide B) (Nat.le_succ _) _ _ _ _ _ _ _ _ _ _

theorem decode_any (s : ByteArray) (w : World) (hm : s.size ≤ 1073741824) :
    Calls Try.prog 14 #[.string s] w fun e w' => e = .returned (decV s) ∧ Below w.heap.size w w' := by
  have M := fun w => measure_any s w hm
  by_cases hz : meaR s = 0
  · have e : meaV s = .tuple #[.int .i64 (hN s : Nat), .int .i64 (pN s : Nat), .int .i64 0] := by unfold meaV; rw [if_pos hz]
    rw [e] at M
    by_cases hd : decE s = 0
    · have e2 : decV s = .tuple #[hdV (readR s (hN s)), .string (s.extract (hN s) (pN s)), .int .i64 0] := by unfold decV; rw [if_pos hd]
      rw [e2]
      exact decode_good s w hm hz hd M
    · have e2 : decV s = .tuple #[hd0V, .string ⟨#[]⟩, .int .i64 (decE s)] := by unfold decV; rw [if_neg hd]
      rw [e2]
      exact decode_bad s w _ hm hz rfl (by simpa using hd) M
  · have e : meaV s = .tuple #[.int .i64 0, .int .i64 0, .int .i64 (meaR s)] := by unfold meaV; rw [if_neg hz]
    rw [e] at M
    have ed : decE s = meaR s := by unfold decE; rw [if_neg hz]
    have e2 : decV s = .tuple #[hd0V, .string ⟨#[]⟩, .int .i64 (meaR s)] := by unfold decV; rw [ed, if_neg hz]
    rw [e2]
    exact decode_mea s w _ (by simpa using hz) M

/-- in the plain words of Ip0 -/
theorem hd_n (s : ByteArray) : 4 * (byteAt s.data.toList 0 % 16) = hN s := rfl
theorem room_fits {s : ByteArray} {n : Nat} (h2 : 20 ≤ n) (h3 : n ≤ s.size) (k : Nat) : roomB (readR s n) k ↔ (readHd s.data.toList n).fits k := by
  rw [← readR_hd]
  unfold roomB Hd.fits Hd.n Rh.hd readR
  simp only
  rw [← Lib.size_eq, ByteArray.size_extract]
  omega
theorem whole_whole (s : ByteArray) (n k : Nat) : wholeB (readR s n).more k ↔ (readHd s.data.toList n).whole k := by
  rw [← readR_hd]
  exact Iff.rfl
theorem dec_ok_of {s : ByteArray} (h : decE s = 0) : DecOk s.data.toList (readHd s.data.toList (hN s)) (s.extract (hN s) (pN s)).data.toList := by
  have hl := Lib.size_eq s
  unfold decE at h
  split at h
  · rename_i hz
    obtain ⟨a1, a2, a3, a4, a5, a6⟩ := meaR_ok hz
    split at h
    · rename_i h1
      split at h
      · rename_i h2
        split at h
        · rename_i h3
          refine ⟨by omega, a2, a3, by rw [hd_n]; omega, a5, by rw [← hl]; exact a6, h1, h2, (whole_whole s (hN s) _).1 h3.2, (room_fits a3 a4 _).1 h3.1, rfl, ?_⟩
          rw [Lib.extract_eq]
          rfl
        · cases h
      · cases h
    · cases h
  · rename_i hz; exact absurd h hz
theorem dec_no_of {s : ByteArray} (h : decE s ≠ 0) : ∃ e : Nat, decE s = (e : Int) ∧ DecR s.data.toList e := by
  have hl := Lib.size_eq s
  by_cases hz : meaR s = 0
  · obtain ⟨a1, a2, a3, a4, a5, a6⟩ := meaR_ok hz
    unfold decE at h ⊢
    rw [if_pos hz] at h ⊢
    by_cases h1 : red (S (s.data.toList.take (hN s))) = 65535
    · rw [if_pos h1] at h ⊢
      by_cases h2 : twoAt s.data.toList 6 < 32768
      · rw [if_pos h2] at h ⊢
        by_cases h3 : roomB (readR s (hN s)) (pN s - hN s) ∧ wholeB (readR s (hN s)).more (pN s - hN s)
        · rw [if_pos h3] at h; exact absurd rfl h
        · rw [if_neg h3]
          exact ⟨8, rfl, .form3 (by omega) a2 a3 (by rw [hd_n]; omega) a5 (by rw [← hl]; exact a6) h1 (fun x => h3 ⟨(room_fits a3 a4 _).2 x.2.2, (whole_whole s (hN s) _).2 x.2.1⟩)⟩
      · rw [if_neg h2]
        exact ⟨8, rfl, .form3 (by omega) a2 a3 (by rw [hd_n]; omega) a5 (by rw [← hl]; exact a6) h1 (fun x => h2 x.1)⟩
    · rw [if_neg h1]
      exact ⟨101, rfl, .sum (by omega) a2 a3 (by rw [hd_n]; omega) a5 (by rw [← hl]; exact a6) h1⟩
  · unfold decE
    rw [if_neg hz]
    clear h
    unfold meaR at hz ⊢
    by_cases h1 : meaE s (hN s) 20 = 0
    · rw [if_pos h1] at hz ⊢
      obtain ⟨a1, a2, a3⟩ := meaE_zero h1
      by_cases h2 : meaE s (pN s) (hN s) = 0
      · rw [if_pos h2] at hz ⊢
        obtain ⟨b1, _, b3⟩ := meaE_zero h2
        unfold meaE at hz ⊢
        by_cases c1 : pN s ≤ s.size
        · rw [if_pos c1, if_pos a2, if_pos (Nat.le_refl _)] at hz; exact absurd rfl hz
        · rw [if_neg c1]
          exact ⟨10, rfl, .short3 (by omega) a2 a3 (by rw [hd_n]; omega) b3 (by rw [← hl]; exact Nat.lt_of_not_le c1)⟩
      · rw [if_neg h2]
        unfold meaE at h2 ⊢
        by_cases c1 : hN s ≤ s.size
        · rw [if_pos c1, if_pos a2] at h2 ⊢
          by_cases c2 : hN s ≤ pN s
          · rw [if_pos c2] at h2; exact absurd rfl h2
          · rw [if_neg c2]
            exact ⟨8, rfl, .form2 (by omega) a2 a3 (by rw [hd_n]; omega) (Nat.lt_of_not_le c2)⟩
        · rw [if_neg c1]
          exact ⟨10, rfl, .short2 (by omega) a2 a3 (by rw [hd_n]; omega)⟩
    · rw [if_neg h1]
      unfold meaE at h1 ⊢
      by_cases c1 : 20 ≤ s.size
      · rw [if_pos c1] at h1 ⊢
        by_cases c2 : byteAt s.data.toList 0 / 16 = 4
        · rw [if_pos c2] at h1 ⊢
          by_cases c3 : 20 ≤ hN s
          · rw [if_pos c3] at h1; exact absurd rfl h1
          · rw [if_neg c3]
            exact ⟨8, rfl, .form (by omega) c2 (Nat.lt_of_not_le c3)⟩
        · rw [if_neg c2]
          exact ⟨100, rfl, .version (by omega) c2⟩
      · rw [if_neg c1]
        exact ⟨10, rfl, .short (by omega)⟩

end Go.Proofs.Ytefenejeppmfiaa
