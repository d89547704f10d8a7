/- The contract of slices.Insert of one part, where there is no room, and of all three roads together. -/
import Derived.Test.YtekljiakofmhnaaGn5
namespace Go.Proofs.Ytekljiakofmhnaa
open Go.RowKit Go.Lib

theorem ins_list2 {C F P : List Value} {n i : Nat} (hFl : F.length = n * 3) (hi : i ≤ n) (hP : P.length = 3) (hC : (n + 1) * 3 ≤ C.length) (h0 : C.take (i * 3) = F.take (i * 3)) {C1 C2 : List Value}
    (h1 : C1 = C.take (i * 3) ++ P ++ C.drop (i * 3 + P.length)) (h2 : C2 = C1.take ((i + 1) * 3) ++ F.drop (i * 3) ++ C1.drop ((i + 1) * 3 + (F.drop (i * 3)).length)) :
    C2.take ((n + 1) * 3) = F.take (i * 3) ++ P ++ F.drop (i * 3) ∧ C1.length = C.length ∧ C2.length = C.length := by
  have hd : (F.drop (i * 3)).length = (n - i) * 3 := by rw [List.length_drop, hFl]; omega
  have ht : (C.take (i * 3)).length = i * 3 := by rw [List.length_take]; omega
  have l1 : C1.length = C.length := by
    rw [h1, List.length_append, List.length_append, ht, hP, List.length_drop]; omega
  have l2 : C2.length = C.length := by
    rw [h2, List.length_append, List.length_append, hd, List.length_take, List.length_drop, l1]; omega
  have e1 : C1.take ((i + 1) * 3) = F.take (i * 3) ++ P := by
    rw [h1, List.take_append_of_le_length (by rw [List.length_append, ht, hP]; omega), List.take_of_length_le (by rw [List.length_append, ht, hP]; omega), h0]
  refine ⟨?_, l1, l2⟩
  have l3 : (F.take (i * 3)).length = i * 3 := by rw [List.length_take, hFl]; omega
  rw [h2, e1, List.take_append_of_le_length (by rw [List.length_append, List.length_append, l3, hP, hd]; omega), List.take_of_length_le (by rw [List.length_append, List.length_append, l3, hP, hd]; omega)]

set_option maxHeartbeats 4000000 in
set_option maxRecDepth 100000 in
/-- where there is no room -/
theorem insert_new (g : Nat) (cur : Array Value) (l : List Pt) (n : Nat) (hn : l.length = n) (i : Nat) (p : Pt) (vb : Nat) (w : World) (hg : w.heap[g]? = some (.cells cur 70 (0, 0))) (hF : cur.toList.take (n * 3) = flatP l)
    (hl : n ≤ 65536) (hi : i < n) (hvb : w.heap[vb]? = some (.cells (ptL p).toArray 70 (0, 0))) :
    Calls Try.prog 56 #[.slice (some ⟨g, 0, none⟩) n n, .int .i64 (i : Int), .slice (some ⟨vb, 0, none⟩) 1 1] w fun e w' =>
      ∃ cap cur2, e = .returned (.slice (some ⟨w.heap.size, 0, none⟩) (n + 1) cap) ∧ n + 1 ≤ cap ∧ cap ≤ maxLen ∧ w'.heap[w.heap.size]? = some (.cells cur2 70 (0, 0)) ∧ cur2.size = cap * 3 ∧ cur2.toList.take ((n + 1) * 3) = flatP (l.take i ++ p :: l.drop i) ∧ Below w.heap.size w w' := by
  obtain ⟨i0, hi0, hz0, hzs, hzb⟩ := info_parts (P := Try.prog) (e := 70) (z := .agg #[.int .i64 0, .string ⟨#[]⟩, .bool false]) (size := 3) (bytes := 32) (by kernel_rfl)
  have hFl := flatP_length l
  rw [hn] at hFl
  have hgl : g < w.heap.size := (Array.getElem?_eq_some_iff.1 hg).1
  have hvl : vb < w.heap.size := (Array.getElem?_eq_some_iff.1 hvb).1
  have hFi : (l.take i).length = i := by rw [List.length_take]; omega
  have hold : (Builtin.firstCells i0.size i (.slice (some ⟨g, 0, none⟩) i n)).run Try.prog w.drew = .ok (flatP (l.take i)).toArray w.drew := by
    rw [hzs]
    refine run_firstCells_some w.drew 3 i ⟨g, 0, none⟩ i n (flatP (l.take i)) (by rw [flatP_length, hFi]) (fun j v hj => ?_)
    rw [Addr.add_lit, Nat.zero_add]
    rw [flatP_take, ← hF, List.take_take, List.getElem?_take] at hj
    split at hj
    · have hd : w.drew.heap[g]? = some (.cells cur 70 (0, 0)) := hg
      simp only [World.cell?, hd]
      simpa using hj
    · cases hj
  have hrz : ∀ ty, (Builtin.append_ #[57, 3] ty #[.slice (some ⟨g, 0, none⟩) i n, .int .i64 ((n : Int) + 1 - (i : Int))]).run Try.prog w =
      .ok (.slice (some ⟨w.heap.size, 0, none⟩) (n + 1) (grownCap w (n + 1) n 70)) (w.drew.alloc (.cells ((flatP (l.take i)).toArray ++ Builtin.zeroCells (Value.agg #[.int .i64 0, .string ⟨#[]⟩, .bool false]).cells (n + 1 - i) ++ Builtin.zeroCells (Value.agg #[.int .i64 0, .string ⟨#[]⟩, .bool false]).cells (grownCap w (n + 1) n 70 - (n + 1))) 70)) := fun ty => by
    have h := Lib.run_append_grow_zeros w 57 3 ty 70 i0 _ .i64 .i64 Try.underlying57 Try.underlying3 hi0 hz0 (some ⟨g, 0, none⟩) i n (flatP (l.take i)) hold (n + 1 - i) (by omega) (by rw [hzs]; omega) (by omega) (by omega) (by rw [hzb]; omega) (by rw [hzb, show i + (n + 1 - i) = n + 1 by omega]; exact growslice_fits (by omega) (by omega))
    rw [show i + (n + 1 - i) = n + 1 by omega] at h
    rw [show (n : Int) + 1 - (i : Int) = ((n + 1 - i : Nat) : Int) by omega]
    exact h
  obtain ⟨G, hG⟩ : ∃ G, G = grownCap w (n + 1) n 70 := ⟨_, rfl⟩
  obtain ⟨ROW, hROW⟩ : ∃ ROW : Array Value, ROW = (flatP (l.take i)).toArray ++ Builtin.zeroCells (Value.agg #[.int .i64 0, .string ⟨#[]⟩, .bool false]).cells (n + 1 - i) ++ Builtin.zeroCells (Value.agg #[.int .i64 0, .string ⟨#[]⟩, .bool false]).cells (G - (n + 1)) := ⟨_, rfl⟩
  rw [← hG] at hrz
  rw [← hROW] at hrz
  have hGn : n + 1 ≤ G := by rw [hG]; exact grownCap_ge w _ _ _
  have hGm : G ≤ maxLen := by
    rw [hG]; exact grownCap_le_maxLen w (n + 1) n _ (by unfold maxLen; omega)
  have hRs : ROW.size = G * 3 := by
    rw [hROW]
    simp [Builtin.zeroCells, Value.cells, flatP_length, hFi]
    omega
  have hRt : ROW.toList.take (i * 3) = (flatP l).take (i * 3) := by
    rw [hROW, ← flatP_take]
    simp only [Array.toList_append, List.append_assoc]
    rw [List.take_append_of_le_length (by simp [flatP_length, hFi]), List.take_of_length_le (by simp [flatP_length, hFi])]
  have hROWl : ROW.toList.length = G * 3 := by simpa using hRs
  obtain ⟨C1, hC1⟩ : ∃ C1, C1 = ROW.toList.take (i * 3) ++ ptL p ++ ROW.toList.drop (i * 3 + (ptL p).length) := ⟨_, rfl⟩
  obtain ⟨C2, hC2⟩ : ∃ C2, C2 = C1.take ((i + 1) * 3) ++ (flatP l).drop (i * 3) ++ C1.drop ((i + 1) * 3 + ((flatP l).drop (i * 3)).length) := ⟨_, rfl⟩
  obtain ⟨k1, k2, k3⟩ := ins_list2 (C := ROW.toList) (F := flatP l) (P := ptL p) (n := n) (i := i) hFl (by omega) rfl (by rw [hROWl]; omega) hRt hC1 hC2
  have hdl : ((flatP l).drop (i * 3)).length = (n - i) * 3 := by rw [List.length_drop, hFl]; omega
  obtain ⟨N, hN⟩ : ∃ N, w.heap.size = N := ⟨_, rfl⟩
  rw [hN] at hgl hvl
  have hcpA : ∀ (W : World), W.heap[N]? = some (.cells ROW 70 (0, 0)) → W.heap[vb]? = some (.cells (ptL p).toArray 70 (0, 0)) → ∀ ty dc, (Builtin.copy_ #[57, 57] ty #[.slice (some ⟨N, i * 3, none⟩) (n + 1 - i) dc, .slice (some ⟨vb, 0, none⟩) 1 1]).run Try.prog W = .ok (goInt 1) (W.setRow N C1.toArray) := fun W hWg hWv ty dc => by
    have := run_copy3 W ty N (i * 3) (n + 1 - i) dc ⟨vb, 0, none⟩ 1 1 1 ROW _ (ptL p) hWg (by simp only [Nat.min_def]; split <;> omega) rfl (fun j v hj => by
      rw [Addr.add_lit, Nat.zero_add]
      simp only [World.cell?, hWv]
      simpa using hj) (by show i * 3 + 3 ≤ ROW.size; omega) (fun v hv => by simp [ptL] at hv; rcases hv with rfl | rfl | rfl <;> rfl)
    rw [this, hC1]
    rfl
  have hcpB : ∀ (W : World), W.heap[N]? = some (.cells C1.toArray 70 (0, 0)) → W.heap[g]? = some (.cells cur 70 (0, 0)) → ∀ ty dc sc, (Builtin.copy_ #[57, 57] ty #[.slice (some ⟨N, (i + 1) * 3, none⟩) (n - i) dc, .slice (some ⟨g, i * 3, none⟩) (n - i) sc]).run Try.prog W = .ok (goInt ((n - i : Nat) : Int)) (W.setRow N C2.toArray) := fun W hWg hWv ty dc sc => by
    have := run_copy3 W ty N ((i + 1) * 3) (n - i) dc ⟨g, i * 3, none⟩ (n - i) sc (n - i) C1.toArray _ ((flatP l).drop (i * 3)) hWg (by simp only [Nat.min_def]; split <;> omega) hdl (fun j v hj => by
      rw [Addr.add_lit]
      rw [List.getElem?_drop, ← hF, List.getElem?_take] at hj
      split at hj
      · simp only [World.cell?, hWv]
        simpa using hj
      · cases hj) (by rw [hdl]; simp only [List.size_toArray]; rw [k2, hROWl]; omega) (fun v hv => flatP_one l v (List.mem_of_mem_drop hv))
    rw [this, hC2]
  have hz2 : ¬ ((i : Int) = (n : Int)) := by omega
  have hz3 : (n : Int) < (n : Int) + 1 := by omega
  have hw1 : IntKind.i64.wrap ((i : Int) + 1) = (i : Int) + 1 := by rw [IntKind.wrap_i64]; omega
  have hb1 : (0 : Int) ≤ (i : Int) + 1 := by omega
  have hin : i ≤ n := by omega
  have htn : ((i : Int) + 1).toNat = i + 1 := by omega
  have hb3 : (i : Int) ≤ (n : Int) := by omega
  have hb4 : ¬ (n = i) := by omega
  have hGi : ¬ (G = i) := by omega
  have hGim : ¬ (G = i + 1) := by omega
  have hG63 : G ≤ 9223372036854775807 := by unfold maxLen at hGm; omega
  have hflat : flatP (l.take i ++ p :: l.drop i) = (flatP l).take (i * 3) ++ ptL p ++ (flatP l).drop (i * 3) := by rw [flatP_app, flatP_cons, flatP_take, flatP_drop, List.append_assoc]
  have HF := hide hflat
  have HK := hide k1
  have HKL := hide (k3.trans hROWl)
  have HG := hide hg
  have HV := hide hvb
  have HGM := hide hGm
  have HGN := hide hGn
  have hA0 : ((w.alloc (.cells ROW 70)).drew).heap[N]? = some (.cells ROW 70 (0, 0)) := by rw [← hN]; exact heap_alloc_new w _
  have hAo : ∀ k, k < N → ((w.alloc (.cells ROW 70)).drew).heap[k]? = w.heap[k]? := fun k hk => (below_one w _).block k (by rw [← hN] at hk; exact hk)
  have hA1 := hcpA ((w.alloc (.cells ROW 70)).drew) hA0 ((hAo vb hvl).trans hvb)
  have hB0 : ((w.alloc (.cells ROW 70)).drew.setRow N C1.toArray).heap[N]? = some (.cells C1.toArray 70 (0, 0)) := setRow_heap _ N ROW _ _ _ hA0
  have hBo : ∀ k, k < N → ((w.alloc (.cells ROW 70)).drew.setRow N C1.toArray).heap[k]? = w.heap[k]? := fun k hk => (setRow_other _ N k _ (by omega)).trans (hAo k hk)
  have mixed : Try.prog.follows .mixedOrders = true := by kernel_rfl
  have hB1 := hcpB (((w.alloc (.cells ROW 70)).drew.setRow N C1.toArray).drew) hB0 ((hBo g hgl).trans hg)
  clear hflat k1 k2 k3 hC2 hC1 hF hFl hdl hg hvb hn hROW hRs hRt hROWl hold hGm hG hFi hcpA hcpB
  go_enter Try.func56, Try.ntmps56
  go_wp2_with (first
    | (at_builtin; refine Lib.wpList_append_run _ rfl _ _ _ _ rfl _ _ rfl rfl _ _ (hrz _) ?_)
    | (at_builtin; refine wpList_copy_runI _ rfl _ _ 57 57 rfl _ _ rfl rfl (hA1 _ _) ?_))
  go_region_law_o (refine step_copy_runI rfl _ _ 57 57 rfl _ _ (by simp [Act.eval, Act.put]) (by simp [Act.eval, Act.put]) (hB1 _ _ _) ?_)
  go_wp2
  go_ret
  rw [hN]
  have hB2 : (((w.alloc (.cells ROW 70)).drew.setRow N C1.toArray).drew).heap[N]? = some (.cells C1.toArray 70 (0, 0)) := hB0
  refine ⟨G, C2.toArray, rfl, unhide HGN, unhide HGM, setRow_heap _ N _ _ _ _ hB2, ?_, ?_, ?_⟩
  · simpa using unhide HKL
  · rw [unhide HF]; exact unhide HK
  · refine ⟨rfl, rfl, rfl, by simp, fun k hk => ?_⟩
    exact (setRow_other _ N k _ (by omega)).trans (hBo k (by omega))

theorem insert_any (v : Value) (l : List Pt) (i : Nat) (p : Pt) (vb base : Nat) (w : World) (hb : base ≤ w.heap.size) (hown : w.ownsRow base 70 3 v l.length (flatP l)) (hl : l.length ≤ 65536) (hi : i ≤ l.length)
    (hvb : w.heap[vb]? = some (.cells (ptL p).toArray 70 (0, 0))) (hne : v.ownBlock ≠ some vb) :
    Calls Try.prog 56 #[v, .int .i64 (i : Int), .slice (some ⟨vb, 0, none⟩) 1 1] w fun e w' =>
      ∃ v', e = .returned v' ∧ w'.ownsRow base 70 3 v' (l.take i ++ p :: l.drop i).length (flatP (l.take i ++ p :: l.drop i)) ∧ Below base w w' := by
  have hlen : (l.take i ++ p :: l.drop i).length = l.length + 1 := by simp; omega
  rw [hlen]
  by_cases he : i = l.length
  · subst he
    rw [List.take_length, List.drop_length]
    exact insert_end v l p vb base w hb hown hl hvb
  · have hown' := hown
    rcases hown.2 with ⟨rfl, h2⟩ | ⟨g, cap, cur, rfl, h1, h3, h4, h5, h6, h7⟩
    · omega
    have hfl : (flatP (l.take i ++ p :: l.drop i)).length = (l.length + 1) * 3 := by rw [flatP_length, hlen]
    by_cases hr : l.length + 1 ≤ cap
    · refine (insert_in g cap cur l l.length rfl i p vb w h3 h6 h7 hl (by omega) hr h5 (by intro e; subst e; exact hne rfl) hvb).mono ?_
      rintro e w' ⟨cur2, rfl, a1, a2, a3, a4⟩
      exact ⟨_, rfl, ⟨hfl, .inr ⟨g, cap, cur2, rfl, h1, a1, hr, h5, a2, a3⟩⟩, a4.mono h1⟩
    · obtain rfl : cap = l.length := by omega
      refine (insert_new g cur l l.length rfl i p vb w h3 h7 hl (by omega) hvb).mono ?_
      rintro e w' ⟨cap, cur2, rfl, a0, a1, a2, a3, a4, a5⟩
      exact ⟨_, rfl, ⟨hfl, .inr ⟨_, cap, cur2, rfl, hb, a2, a0, a1, a3, a4⟩⟩, a5.mono hb⟩

end Go.Proofs.Ytekljiakofmhnaa
