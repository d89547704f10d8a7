/- The contract of slices.DeleteFunc over packets' keys, over the loaded program: the row that is handed in holds what is left, and nothing else has turned. Conditions: the row is the caller's own. -/
import Derived.Test.YtekljiakofmhnaaGp2
namespace Go.Proofs.Ytekljiakofmhnaa
open Go.RowKit

abbrev pk0 : List Value := [.int .u32 0, .int .u32 0, .int .u8 0, .int .u16 0]
theorem run_clear4 (w : World) (ty : TypeId) (b o n c : Nat) (hn : 0 < n)
    (hc : ∀ j, j < n * 4 → (w.cell? ⟨b, o + j, none⟩).isSome = true) (hf : ∀ j, w.frozen? ⟨b, j, none⟩ = false) :
    (Builtin.clear_ #[50] ty #[.slice (some ⟨b, o, none⟩) n c]).run Try.prog w = .ok (.tuple #[]) (w.setCells b o (Builtin.zeroCells pk0.toArray n).toList) := by
  have hlen : (Builtin.zeroCells pk0.toArray n).toList.length = n * 4 := by simp [Builtin.zeroCells]
  have hst := run_storeCells_cells (P := Try.prog) b o (Builtin.zeroCells pk0.toArray n).toList 0 w (by rw [hlen]; simpa using hc) (fun j _ => hf _) (by
    intro v hv
    simp only [Builtin.zeroCells, Array.toList_map, List.mem_map] at hv
    obtain ⟨i, _, rfl⟩ := hv
    show pk0.toArray[i % 4]!.oneCell' = true
    have h4 : i % 4 = 0 ∨ i % 4 = 1 ∨ i % 4 = 2 ∨ i % 4 = 3 := by omega
    rcases h4 with h2 | h2 | h2 | h2 <;> rw [h2] <;> rfl)
  simp only [Nat.add_zero] at hst
  obtain ⟨m, rfl⟩ : ∃ m, n = m + 1 := ⟨n - 1, by omega⟩
  have hu := Try.underlying50
  have hz := Try.zeroValue56
  simp [Builtin.clear_, run_underlying hu, hz, Value.cells, hst]
theorem setCells_row {b : Nat} {t : TypeId} : ∀ (vs : List Value) (o : Nat) (w : World) (cur : Array Value), w.heap[b]? = some (.cells cur t (0, 0)) → ∃ cur', (w.setCells b o vs).heap[b]? = some (.cells cur' t (0, 0)) ∧ cur'.size = cur.size ∧ ∀ k, k < o → cur'[k]? = cur[k]?
  | [], _, _, cur, h => ⟨cur, h, rfl, fun _ _ => rfl⟩
  | v :: r, o, w, cur, h => by
    obtain ⟨c, h1, h2, h3⟩ := setCells_row r (o + 1) _ _ (heap_setCell_same w b o cur t v h)
    refine ⟨c, h1, by rw [h2]; simp, fun k hk => ?_⟩
    rw [h3 k (by omega), Array.getElem?_setIfInBounds, if_neg (by omega)]
theorem PR4.clear {w : World} {b m n i : Nat} {f : Nat → Pk} {cur : Array Value} (h : PR4 w b m n f cur) (hi : i ≤ n) (vs : List Value) : ∃ cur', PR4 (w.setCells b (i * 4) vs) b m i f cur' := by
  obtain ⟨c, h1, h2, h3⟩ := setCells_row vs (i * 4) w cur h.hw
  exact ⟨c, h1, h2.trans h.sz, fun k hk => (h3 _ (by omega)).trans (h.c0 k (by omega)), fun k hk => (h3 _ (by omega)).trans (h.c1 k (by omega)), fun k hk => (h3 _ (by omega)).trans (h.c2 k (by omega)), fun k hk => (h3 _ (by omega)).trans (h.c3 k (by omega))⟩

theorem cell_kept_gb {w W : World} {b j B : Nat} (h : w.grownBy W (some b)) (hB : B < w.heap.size) (hne : B ≠ b) : W.cell? ⟨B, j, none⟩ = w.cell? ⟨B, j, none⟩ := by
  have := h.block B hB (fun e => hne (Option.some.inj e))
  simp [World.cell?, this]
set_option maxHeartbeats 4000000 in
theorem deletek_any (sv : Value) (L : List Pk) (k0 : Pk) (B base : Nat) (w : World) (hL : L.length ≤ 65536) (hB : KB w B k0) (hne : sv.ownBlock ≠ some B) (hown : w.ownsRow base 56 4 sv L.length (flatK L)) :
    Calls Try.prog 28 #[sv, .func (.func 29) #[] #[.pointer (some ⟨B, 0, none⟩)]] w fun e w' => ∃ sp n sc, e = .returned (.slice sp n sc) ∧ w'.ownsRow base 56 4 (.slice sp n sc) (L.filter (nk k0)).length (flatK (L.filter (nk k0))) ∧ w.grownBy w' sv.ownBlock ∧ (Value.slice sp n sc).ownBlock = sv.ownBlock := by
  have H := hide (indexk_any sv L k0 B base w hL hB hown)
  have HO := hide hown
  have KBX := hide hB
  rcases own_pr4 hown with ⟨rfl, rfl⟩ | ⟨b, cap, cur, rfl, hb1, hcap, hmax, hP⟩
  · clear hown hB
    go_enter Try.func28, Try.ntmps28
    go_wp2_with fail
    refine (unhide H).mono ?_
    rintro e w1 ⟨⟨r, rfl, hr⟩, b1⟩
    obtain rfl : r = -1 := by
      rcases hr with h | ⟨k, hk, _⟩
      · exact h.1
      · exact absurd hk (Nat.not_lt_zero _)
    clear hr
    go_wp2_with fail
    go_ret
    exact ⟨_, _, _, rfl, World.ownsRow_nil _ _ _ _, gb_below (gb_refl _ _) b1, rfl⟩
  · have HMX := hide hmax
    have hbB : b ≠ B := fun e => hne (by rw [e]; rfl)
    clear hown hB hne
    unfold maxLen at hmax
    go_enter Try.func28, Try.ntmps28
    go_wp2_with fail
    refine (unhide H).mono ?_
    rintro e w1 ⟨⟨r, rfl, hr⟩, b1⟩
    have hP1 := hP.on b1
    have HG1 := gb_below (gb_refl w (some b)) b1
    rcases hr with ⟨rfl, hall⟩ | ⟨k, hk, rfl, ha, hn⟩
    · have HE : Hid (L.filter (nk k0) = L) := List.filter_eq_self.2 (fun x hx => by simpa [nk] using hall x hx)
      have HO1 := hide ((unhide HO).kept (gb_below (gb_refl w none) b1) (.inr (by simp [Value.ownBlock])))
      clear hall hP hP1
      go_wp2_with fail
      go_ret
      rw [unhide HE]
      exact ⟨_, _, _, rfl, unhide HO1, HG1, rfl⟩
    · have HS := hide (DJ.start hk ha hn (f := fK L) (fun k x h => by unfold fK; rw [h]; rfl))
      have hne1 : ((k : Int) == -1) = false := beq_eq_false_iff_ne.2 (by omega)
      have hbw : b < w1.heap.size := hP1.lt
      have KB1 := (unhide KBX).on b1
      have HKW := hide (fun (W : World) (h : w1.grownBy W (some b)) => (⟨by rw [cell_kept_gb h KB1.lt (fun e => hbB e.symm)]; exact KB1.c0, by rw [cell_kept_gb h KB1.lt (fun e => hbB e.symm)]; exact KB1.c1, by rw [cell_kept_gb h KB1.lt (fun e => hbB e.symm)]; exact KB1.c2, by rw [cell_kept_gb h KB1.lt (fun e => hbB e.symm)]; exact KB1.c3⟩ : KB W B k0))
      have HZ := hide HG1
      clear ha hn hP H HO HG1 b1 KB1 KBX
      go_wp2_with fail
      go_loopw [5, 6] (fun s5 s6 wr => ∃ (i j : Nat) (f : Nat → Pk), s5 = .int .i64 (i : Int) ∧ s6 = .int .i64 (j : Int) ∧ i < j ∧ j ≤ L.length ∧ Hid (DJ k0 L i j f) ∧ (∃ cur, PR4 wr b cap L.length f cur) ∧ w1.grownBy wr (some b) ∧ b < wr.heap.size) (fun _ s _ => L.length - (intOf s).toNat)
      case atStart => exact ⟨k, k + 1, fK L, rfl, by go_num, by omega, by omega, HS, ⟨_, hP1⟩, gb_refl _ _, hbw⟩
      case round =>
        obtain ⟨i, j, f, rfl, rfl, hij, hj, HI, ⟨cur, hPr⟩, HGB, hbr⟩ := hrel
        clear hP1
        by_cases hlt : j < L.length
        · have hi' := (unhide HI).high j (Nat.le_refl _) hlt
          have cj0 := (hPr.cell (j * 4)).trans (hPr.c0 j hlt)
          have cj1 := (hPr.cell (j * 4 + 1)).trans (hPr.c1 j hlt)
          have cj2 := (hPr.cell (j * 4 + 2)).trans (hPr.c2 j hlt)
          have cj3 := (hPr.cell (j * 4 + 3)).trans (hPr.c3 j hlt)
          obtain ⟨x, hx⟩ : ∃ x, f j = x := ⟨_, rfl⟩
          have hLj : L[j] = x := by
            rw [List.getElem?_eq_getElem hlt] at hi'
            rw [← hx]; exact Option.some.inj hi'
          rw [hx] at cj0 cj1 cj2 cj3
          have HP := hide hPr
          have HX := hide hLj
          have KBx := unhide HKW wr HGB
          have HM := fun (w : World) (h : KB w B k0) => drop1_any x k0 B w h
          have hjz : (j : Int) < (L.length : Int) := by omega
          have hz : j < 9223372036854775807 := by omega
          clear hi' hPr hx hLj
          by_cases hg : x = k0
          · rw [decide_eq_true hg] at HM
            have HM := hide HM
            have HG := hide hg
            clear hg
            obtain ⟨x1, x2, x3, x4⟩ := x
            simp only at cj0 cj1 cj2 cj3
            go_wp2_with fail
            have BA := below_one wr (.cells #[.int .u32 (x1 : Int), .int .u32 (x2 : Int), .int .u8 (x3 : Int), .int .u16 (x4 : Int)] 56)
            have PA := (unhide HP).on BA
            have KA := KBx.on BA
            have EA := heap_alloc_new wr (.cells #[.int .u32 (x1 : Int), .int .u32 (x2 : Int), .int .u8 (x3 : Int), .int .u16 (x4 : Int)] 56)
            have d0 := cell_of_row _ _ 0 _ _ _ EA
            have d1 := cell_of_row _ _ 1 _ _ _ EA
            have d2 := cell_of_row _ _ 2 _ _ _ EA
            have d3 := cell_of_row _ _ 3 _ _ _ EA
            refine (unhide HM _ KA).mono ?_
            rintro e w3 ⟨rfl, b3⟩
            have P3 := hide (PA.on b3)
            have G3 := gb_below (gb_below HGB BA) b3
            have d0 := (b3.cell (p := ⟨wr.heap.size, 0, none⟩) (by simp)).trans d0
            have d1 := (b3.cell (p := ⟨wr.heap.size, 1, none⟩) (by simp)).trans d1
            have d2 := (b3.cell (p := ⟨wr.heap.size, 2, none⟩) (by simp)).trans d2
            have d3 := (b3.cell (p := ⟨wr.heap.size, 3, none⟩) (by simp)).trans d3
            have hb3 := (unhide P3).lt
            have ci0 := ((unhide P3).cell (i * 4)).trans ((unhide P3).c0 i (by omega))
            have ci1 := ((unhide P3).cell (i * 4 + 1)).trans ((unhide P3).c1 i (by omega))
            have ci2 := ((unhide P3).cell (i * 4 + 2)).trans ((unhide P3).c2 i (by omega))
            have ci3 := ((unhide P3).cell (i * 4 + 3)).trans ((unhide P3).c3 i (by omega))
            have fz := (unhide P3).fz
            clear PA KA EA b3 HM cj0 cj1 cj2 cj3 HP HGB KBx BA
            generalize wr.heap.size = q at *
            go_wp2_with fail
            go_roundw
            case rel => exact ⟨i, j + 1, f, rfl, by go_num, by omega, by omega, (unhide HI).drop hlt (by rw [unhide HX]; exact unhide HG), ⟨cur, unhide P3⟩, G3, hb3⟩
            case measure => simp [intOf]; omega
          · rw [decide_eq_false hg] at HM
            have HM := hide HM
            have HG := hide hg
            clear hg
            obtain ⟨x1, x2, x3, x4⟩ := x
            simp only at cj0 cj1 cj2 cj3
            go_wp2_with fail
            have BA := below_one wr (.cells #[.int .u32 (x1 : Int), .int .u32 (x2 : Int), .int .u8 (x3 : Int), .int .u16 (x4 : Int)] 56)
            have PA := (unhide HP).on BA
            have KA := KBx.on BA
            have EA := heap_alloc_new wr (.cells #[.int .u32 (x1 : Int), .int .u32 (x2 : Int), .int .u8 (x3 : Int), .int .u16 (x4 : Int)] 56)
            have d0 := cell_of_row _ _ 0 _ _ _ EA
            have d1 := cell_of_row _ _ 1 _ _ _ EA
            have d2 := cell_of_row _ _ 2 _ _ _ EA
            have d3 := cell_of_row _ _ 3 _ _ _ EA
            refine (unhide HM _ KA).mono ?_
            rintro e w3 ⟨rfl, b3⟩
            have P3 := hide (PA.on b3)
            have G3 := gb_below (gb_below HGB BA) b3
            have d0 := (b3.cell (p := ⟨wr.heap.size, 0, none⟩) (by simp)).trans d0
            have d1 := (b3.cell (p := ⟨wr.heap.size, 1, none⟩) (by simp)).trans d1
            have d2 := (b3.cell (p := ⟨wr.heap.size, 2, none⟩) (by simp)).trans d2
            have d3 := (b3.cell (p := ⟨wr.heap.size, 3, none⟩) (by simp)).trans d3
            have hb3 := (unhide P3).lt
            have ci0 := ((unhide P3).cell (i * 4)).trans ((unhide P3).c0 i (by omega))
            have ci1 := ((unhide P3).cell (i * 4 + 1)).trans ((unhide P3).c1 i (by omega))
            have ci2 := ((unhide P3).cell (i * 4 + 2)).trans ((unhide P3).c2 i (by omega))
            have ci3 := ((unhide P3).cell (i * 4 + 3)).trans ((unhide P3).c3 i (by omega))
            have fz := (unhide P3).fz
            clear PA KA EA b3 HM cj0 cj1 cj2 cj3 HP HGB KBx BA
            generalize wr.heap.size = q at *
            go_wp2_with fail
            go_roundw
            case rel => exact ⟨i + 1, j + 1, updK f i ⟨x1, x2, x3, x4⟩, by go_num, by go_num, by omega, by omega, by have := (unhide HI).more hlt (by rw [unhide HX]; exact unhide HG); rwa [unhide HX] at this, (unhide P3).set i (by omega) (by omega) ⟨x1, x2, x3, x4⟩, gb_set (gb_set (gb_set (gb_set G3 _ _) _ _) _ _) _ _, by simpa using hb3⟩
            case measure => simp [intOf]; omega
        · obtain rfl : j = L.length := by omega
          have hcl : ∀ ty, (Builtin.clear_ #[50] ty #[.slice (some ⟨b, i * 4, none⟩) (L.length - i) (cap - i)]).run Try.prog wr = .ok (.tuple #[]) (wr.setCells b (i * 4) (Builtin.zeroCells pk0.toArray (L.length - i)).toList) := fun ty => run_clear4 wr ty b (i * 4) _ _ (by omega) (fun t ht => by
            have hsz := hPr.sz
            rw [hPr.cell, Array.getElem?_eq_getElem (by omega)]
            rfl) hPr.fz
          have HP := hide hPr
          have hlen : i = (L.filter (nk k0)).length := by have := (unhide HI).len; rwa [List.take_length] at this
          have HL := hide hlen
          clear hPr hlen
          go_wp2_with fail
          go_ret
          have hlow := (unhide HI).low
          rw [List.take_length] at hlow
          obtain ⟨cur2, hQ⟩ := (unhide HP).clear (i := i) (by omega) (Builtin.zeroCells pk0.toArray (L.length - i)).toList
          have HL := unhide HL
          rw [HL] at hQ hlow
          refine ⟨_, i, _, rfl, ?_, ?_, rfl⟩
          · have := pr4_own hQ hb1 (by omega) (unhide HMX) (fun k hk => hlow k hk)
            rw [← HL] at this ⊢
            exact this
          · have g1 := gb_sets (Builtin.zeroCells pk0.toArray (L.length - i)).toList (i * 4) wr HGB
            have g0 := unhide HZ
            exact ⟨g1.os.trans g0.os, g1.tape.trans g0.tape, g1.output.trans g0.output, Nat.le_trans g0.size g1.size, fun t ht hn => (g1.block t (Nat.lt_of_lt_of_le ht g0.size) hn).trans (g0.block t ht hn)⟩

end Go.Proofs.Ytekljiakofmhnaa
