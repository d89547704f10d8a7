/- The contract of slices.Insert of one part, over the loaded program: what comes back is memory of the calls' own; no memory that was there has turned. -/
import Derived.Test.YtekljiakofmhnaaGn4
namespace Go.Proofs.Ytekljiakofmhnaa
open Go.RowKit

theorem run_copy3 (w : World) (ty : TypeId) (g o dLen dCap : Nat) (a : Addr) (sLen sCap n : Nat) (cur : Array Value) (t : TypeId) (cs : List Value)
    (hg : w.heap[g]? = some (.cells cur t (0, 0))) (hn : Nat.min sLen dLen = n) (hl : cs.length = n * 3)
    (hsrc : ∀ j v, cs[j]? = some v → w.cell? (a.add j) = some v) (hfit : o + cs.length ≤ cur.size) (h1 : ∀ v ∈ cs, v.oneCell' = true) :
    (Builtin.copy_ #[57, 57] ty #[.slice (some ⟨g, o, none⟩) dLen dCap, .slice (some a) sLen sCap]).run Try.prog w =
      .ok (goInt n) (w.setRow g (cur.toList.take o ++ cs ++ cur.toList.drop (o + cs.length)).toArray) := by
  have hld := run_firstCells_some (P := Try.prog) w 3 n a sLen sCap cs hl hsrc
  have hst := run_storeCells_at Try.prog g o t cs 0 cur w hg (by simpa using hfit) h1
  simp only [Nat.add_zero] at hst
  have hu := Try.underlying57
  have hz := Try.sizeOf70
  simp [Builtin.copy_, run_underlying hu, Builtin.lenOf, hz, hn, hld, hst]

theorem overlaps_no (w : World) (vb g : Nat) (o lb cb : Nat) (hne : vb ≠ g) (hv : ∃ c, w.heap[vb]? = some (.cells c 70 (0, 0))) (hg : ∃ c, w.heap[g]? = some (.cells c 70 (0, 0)) ∧ c.size ≠ 0) :
    (callFunc 66 #[.slice (some ⟨vb, 0, none⟩) 1 1, .slice (some ⟨g, o, none⟩) lb cb]).run Try.prog w = .ok (.value (.bool false)) w := by
  obtain ⟨c1, hv⟩ := hv
  obtain ⟨c2, hg, hz⟩ := hg
  rw [run_callFunc_extern Try.func66 (by kernel_rfl) (by kernel_rfl) (by kernel_rfl) (e := Extern.SlicesOverlaps.overlaps #[57, 57] #[4]) (by kernel_rfl),
    Lib.run_overlaps_apart w 57 4 70 Try.underlying57 3 Try.sizeOf70 ⟨vb, 0, none⟩ ⟨g, o, none⟩ 1 1 lb cb hne 70 70 c1.size c2.size
      (by simp [World.shape?, hv]) (by simp [World.shape?, hg]) hz (by simp [World.frozen?, hv]) (by simp [World.frozen?, hv])]
  rfl

theorem rowp_shape {w : World} {base e size n : Nat} {v : Value} {xs : List Value} (h : w.ownsRow base e size v n xs) : ∃ sp sc, v = .slice sp n sc := by
  rcases h.2 with ⟨rfl, rfl⟩ | ⟨g, cap, cur, rfl, _⟩
  · exact ⟨_, _, rfl⟩
  · exact ⟨_, _, rfl⟩
set_option maxRecDepth 100000 in
set_option maxHeartbeats 1000000 in
/-- at the end -/
theorem insert_end (v : Value) (l : List Pt) (p : Pt) (vb base : Nat) (w : World) (hb : base ≤ w.heap.size) (hown : w.ownsRow base 70 3 v l.length (flatP l)) (hl : l.length ≤ 65536)
    (hvb : w.heap[vb]? = some (.cells (ptL p).toArray 70 (0, 0))) :
    Calls Try.prog 56 #[v, .int .i64 (l.length : Int), .slice (some ⟨vb, 0, none⟩) 1 1] w fun e w' =>
      ∃ v', e = .returned v' ∧ w'.ownsRow base 70 3 v' (l.length + 1) (flatP (l ++ [p])) ∧ Below base w w' := by
  obtain ⟨i0, hi, hz0, hz1, hz2⟩ := info_parts (P := Try.prog) (e := 70) (z := .agg #[.int .i64 0, .string ⟨#[]⟩, .bool false]) (size := 3) (bytes := 32) (by kernel_rfl)
  have hnews : ∀ j u, (ptL p)[j]? = some u → w.cell? ((⟨vb, 0, none⟩ : Addr).add j) = some u := fun j u hj => by
    rw [Addr.add_lit]
    simp only [World.cell?, hvb, Nat.zero_add]
    simpa using hj
  have HS := hide hown
  obtain ⟨sp, sc, rfl⟩ := rowp_shape hown
  have hn1 : (flatP l).length = l.length * 3 := flatP_length l
  clear hvb
  by_cases hsc : sc = l.length
  all_goals
    (try subst hsc)
    go_enter Try.func56, Try.ntmps56
    go_wp2_with (at_builtin; refine wpList_append_own_at _ rfl _ _ 57 rfl base 70 i0 _ 3 32 Try.underlying57 hi hz0 hz1 hz2 rfl (by decide) _ l.length (flatP l) rfl hown ⟨vb, 0, none⟩ 1 1 (ptL p) rfl rfl hnews (by intro u hu; simp [ptL] at hu; rcases hu with rfl | rfl | rfl <;> rfl) (by unfold maxLen; omega) (by omega) hb ?_)
    intro v' w1 hown1 hgrow hnil hblk
    go_wp2
    go_ret
    refine ⟨v', rfl, ?_, ?_⟩
    · rw [flatP_app, show flatP [p] = ptL p by simp [flatP]]
      exact hown1
    · exact (Below.refl _ w |>.mono hb).grown hgrow hb (by intro k hk; exact ((unhide HS).lt k hk).1)

theorem ins_list {C F P : List Value} {n i : Nat} (hF : C.take (n * 3) = F) (hFl : F.length = n * 3) (hi : i ≤ n) (hP : P.length = 3) (hC : (n + 1) * 3 ≤ C.length) {C1 C2 : List Value}
    (h1 : C1 = C.take ((i + 1) * 3) ++ F.drop (i * 3) ++ C.drop ((i + 1) * 3 + (F.drop (i * 3)).length)) (h2 : C2 = C1.take (i * 3) ++ P ++ C1.drop (i * 3 + P.length)) :
    C2.take ((n + 1) * 3) = F.take (i * 3) ++ P ++ F.drop (i * 3) ∧ C1.length = C.length ∧ C2.length = C.length := by
  have hd : (F.drop (i * 3)).length = (n - i) * 3 := by rw [List.length_drop, hFl]; omega
  have ht : (C.take ((i + 1) * 3)).length = (i + 1) * 3 := by rw [List.length_take]; omega
  have l1 : C1.length = C.length := by
    rw [h1, List.length_append, List.length_append, ht, hd, List.length_drop]; omega
  have e1 : C1.take (i * 3) = F.take (i * 3) := by
    rw [h1, List.append_assoc, List.take_append_of_le_length (by rw [ht]; omega), List.take_take, show min (i * 3) ((i + 1) * 3) = i * 3 by omega, ← hF, List.take_take, show min (i * 3) (n * 3) = i * 3 by omega]
  have e2 : C1.drop (i * 3 + P.length) = F.drop (i * 3) ++ C.drop ((i + 1) * 3 + (F.drop (i * 3)).length) := by
    rw [h1, hP, List.append_assoc, show i * 3 + 3 = (C.take ((i + 1) * 3)).length by rw [ht]; omega, List.drop_left]
  have l2 : C2.length = C.length := by
    rw [h2, List.length_append, List.length_append, List.length_take, List.length_drop, l1, hP]; omega
  refine ⟨?_, l1, l2⟩
  have l3 : (F.take (i * 3)).length = i * 3 := by rw [List.length_take, hFl]; omega
  rw [h2, e1, e2, ← List.append_assoc, List.take_append_of_le_length (by rw [List.length_append, List.length_append, l3, hP, hd]; omega), List.take_of_length_le (by rw [List.length_append, List.length_append, l3, hP, hd]; omega)]

set_option maxHeartbeats 4000000 in
set_option maxRecDepth 100000 in
/-- where there is room -/
theorem insert_in (g cap : Nat) (cur : Array Value) (l : List Pt) (n : Nat) (hn : l.length = n) (i : Nat) (p : Pt) (vb : Nat) (w : World) (hg : w.heap[g]? = some (.cells cur 70 (0, 0))) (hcs : cur.size = cap * 3) (hF : cur.toList.take (n * 3) = flatP l)
    (hl : n ≤ 65536) (hi : i < n) (hroom : n + 1 ≤ cap) (hc63 : cap ≤ maxLen) (hne : vb ≠ g)
    (hvb : w.heap[vb]? = some (.cells (ptL p).toArray 70 (0, 0))) :
    Calls Try.prog 56 #[.slice (some ⟨g, 0, none⟩) n cap, .int .i64 (i : Int), .slice (some ⟨vb, 0, none⟩) 1 1] w fun e w' =>
      ∃ cur2, e = .returned (.slice (some ⟨g, 0, none⟩) (n + 1) cap) ∧ w'.heap[g]? = some (.cells cur2 70 (0, 0)) ∧ cur2.size = cap * 3 ∧ cur2.toList.take ((n + 1) * 3) = flatP (l.take i ++ p :: l.drop i) ∧ Below g w w' := by
  have hFl := flatP_length l
  rw [hn] at hFl
  unfold maxLen at hc63
  have hov : ∀ o lb cb, (callFunc 66 #[.slice (some ⟨vb, 0, none⟩) 1 1, .slice (some ⟨g, o, none⟩) lb cb]).run Try.prog w = .ok (.value (.bool false)) w := fun o lb cb => overlaps_no w vb g o lb cb hne ⟨_, hvb⟩ ⟨cur, hg, by omega⟩
  have hlist := fun {C1 C2} h1 h2 => ins_list (C := cur.toList) (F := flatP l) (P := ptL p) (n := n) (i := i) hF hFl (by omega) rfl (by simp; omega) (C1 := C1) (C2 := C2) h1 h2
  have hdl : ((flatP l).drop (i * 3)).length = (n - i) * 3 := by rw [List.length_drop, hFl]; omega
  have hcp1 : ∀ ty dc sc, (Builtin.copy_ #[57, 57] ty #[.slice (some ⟨g, (i + 1) * 3, none⟩) (n - i) dc, .slice (some ⟨g, i * 3, none⟩) (n + 1 - i) sc]).run Try.prog w.drew = .ok (goInt ((n - i : Nat) : Int)) (w.drew.setRow g (cur.toList.take ((i + 1) * 3) ++ (flatP l).drop (i * 3) ++ cur.toList.drop ((i + 1) * 3 + ((flatP l).drop (i * 3)).length)).toArray) := fun ty dc sc =>
    run_copy3 w.drew ty g ((i + 1) * 3) (n - i) dc ⟨g, i * 3, none⟩ (n + 1 - i) sc (n - i) cur _ ((flatP l).drop (i * 3)) hg (by simp only [Nat.min_def]; split <;> omega) hdl
      (fun j v hj => by
        rw [Addr.add_lit]
        rw [List.getElem?_drop, ← hF, List.getElem?_take] at hj
        split at hj
        · have : w.drew.heap[g]? = some (.cells cur 70 (0, 0)) := hg
          simp only [World.cell?, this]
          simpa using hj
        · cases hj) (by rw [hdl]; omega) (fun v hv => flatP_one l v (List.mem_of_mem_drop hv))
  obtain ⟨C1, hC1⟩ : ∃ C1, C1 = cur.toList.take ((i + 1) * 3) ++ (flatP l).drop (i * 3) ++ cur.toList.drop ((i + 1) * 3 + ((flatP l).drop (i * 3)).length) := ⟨_, rfl⟩
  obtain ⟨C2, hC2⟩ : ∃ C2, C2 = C1.take (i * 3) ++ ptL p ++ C1.drop (i * 3 + (ptL p).length) := ⟨_, rfl⟩
  obtain ⟨k1, k2, k3⟩ := hlist hC1 hC2
  rw [← hC1] at hcp1
  have hcp2 : ∀ (W : World), W.heap[g]? = some (.cells C1.toArray 70 (0, 0)) → W.heap[vb]? = some (.cells (ptL p).toArray 70 (0, 0)) → ∀ ty dc, (Builtin.copy_ #[57, 57] ty #[.slice (some ⟨g, i * 3, none⟩) (n + 1 - i) dc, .slice (some ⟨vb, 0, none⟩) 1 1]).run Try.prog W = .ok (goInt 1) (W.setRow g C2.toArray) := fun W hWg hWv ty dc => by
    have := run_copy3 W ty g (i * 3) (n + 1 - i) dc ⟨vb, 0, none⟩ 1 1 1 C1.toArray _ (ptL p) hWg (by simp only [Nat.min_def]; split <;> omega) rfl (fun j v hj => by
      rw [Addr.add_lit, Nat.zero_add]
      simp only [World.cell?, hWv]
      simpa using hj) (by show i * 3 + 3 ≤ C1.toArray.size; simp; rw [k2]; simp; omega) (fun v hv => by simp [ptL] at hv; rcases hv with rfl | rfl | rfl <;> rfl)
    rw [this, hC2]
    rfl
  have hz2 : ¬ ((i : Int) = (n : Int)) := by omega
  have hw1 : IntKind.i64.wrap ((i : Int) + 1) = (i : Int) + 1 := by rw [IntKind.wrap_i64]; omega
  have hb1 : (0 : Int) ≤ (i : Int) + 1 := by omega
  have hin : i ≤ n := by omega
  have htn : ((i : Int) + 1).toNat = i + 1 := by omega
  have hb2 : ¬ (cap = i + 1) := by omega
  have hb3 : (i : Int) ≤ (n : Int) + 1 := by omega
  have hb4 : ¬ (cap = i) := by omega
  have hflat : flatP (l.take i ++ p :: l.drop i) = (flatP l).take (i * 3) ++ ptL p ++ (flatP l).drop (i * 3) := by rw [flatP_app, flatP_cons, flatP_take, flatP_drop, List.append_assoc]
  have HF := hide hflat
  have HK := hide k1
  have H3 := hide k3
  have HG := hide hg
  have HV := hide hvb
  clear hflat k1 k2 k3 hC2 hC1 hlist hF hFl hdl hg hvb hn
  go_enter Try.func56, Try.ntmps56
  go_wp2_with (simp only [hov])
  have mixed : Try.prog.follows .mixedOrders = true := by kernel_rfl
  go_region_law_o (refine step_copy_runI rfl _ _ 57 57 rfl _ _ (by simp [Act.eval, Act.put]) (by simp [Act.eval, Act.put]) (hcp1 _ _ _) ?_)
  have hg2 : (w.drew.setRow g C1.toArray).heap[g]? = some (.cells C1.toArray 70 (0, 0)) := setRow_heap w.drew g cur _ _ _ (unhide HG)
  have hv2 : (w.drew.setRow g C1.toArray).heap[vb]? = some (.cells (ptL p).toArray 70 (0, 0)) := (setRow_other w.drew g vb _ hne).trans (unhide HV)
  have hcp3 := hcp2 _ hg2 hv2
  clear hcp1 hcp2
  go_wp2_with (at_builtin; refine wpList_copy_runI _ rfl _ _ 57 57 rfl _ _ rfl rfl (hcp3 _ _) ?_)
  go_ret
  refine ⟨C2.toArray, rfl, setRow_heap _ g _ _ _ _ hg2, ?_, ?_, ?_⟩
  · rw [List.size_toArray, unhide H3]; simpa using hcs
  · rw [unhide HF]; exact unhide HK
  · have bs : ∀ (W : World) (c : Array Value), Below g W (W.setRow g c) := fun W c => ⟨rfl, rfl, rfl, by simp, fun k hk => setRow_other W g k c (by omega)⟩
    have b0 : Below g w w.drew := ⟨rfl, rfl, rfl, Nat.le_refl _, fun _ _ => rfl⟩
    exact (b0.trans (bs w.drew C1.toArray)).trans (bs _ C2.toArray)

end Go.Proofs.Ytekljiakofmhnaa
