/- Layer 12's alive, over the loaded program: it is true; no memory that was there has turned. -/
import Derived.Test.YtefenejeppmfiaaAl12
import Derived.Lib.BufferWrite
namespace Go.Proofs.Ytefenejeppmfiaa
open Go.RowKit

theorem made_one (z : Value) (n : Nat) : madeCells #[z] n = Array.replicate n z := by
  apply Array.ext
  · rw [size_madeCells, Array.size_replicate]
  · intro i h1 h2
    have e : i % 1 = 0 := Nat.mod_one i
    simp [madeCells, e]
/-- bytes 0 -/
def zs (n : Nat) : ByteArray := ⟨(List.replicate n (0 : UInt8)).toArray⟩
def zc (n : Nat) : Obj := .cells (Array.replicate n (.int .u8 0)) 5
theorem mkz (n : Nat) (hn : n ≤ 1000000) (w : World) : (Instr.makeSlice 47 (.int .i64 (n : Int)) (.int .i64 (n : Int))).run Try.prog w = .ok (.slice (some ⟨w.heap.size, 0, none⟩) n n) (w.alloc (zc n)) := by
  obtain ⟨i0, hi, hz0, hz1, hz2⟩ := info_parts (P := Try.prog) (e := 5) (z := .int .u8 0) (size := 1) (bytes := 1) (by kernel_rfl)
  have h := run_make (P := Try.prog) w 47 5 i0 (.int .u8 0) Try.underlying47 hi hz0 .i64 .i64 (n : Int) (n : Int) (by omega) (by omega) (by rw [hz2]; omega) (by omega)
  rw [hz1, show (Value.int .u8 0).cells = #[.int .u8 0] from rfl, made_one] at h
  unfold zc
  simpa using h
theorem cvz (n : Nat) (W : World) : (convert 47 9 (.slice (some ⟨W.heap.size, 0, none⟩) n n)).run Try.prog (W.alloc (zc n)) = .ok (.string (zs n)) (W.alloc (zc n)) := by
  have h := run_convert_bytes_back (P := Try.prog) (W.alloc (zc n)) 47 9 5 ⟨W.heap.size, 0, none⟩ n (List.replicate n 0) Try.underlying47 Try.underlying5 Try.underlying9 (fun j hj => by
    have hj' : j < n := by simpa using hj
    have ha : (⟨W.heap.size, 0, none⟩ : Addr).add j = ⟨W.heap.size, j, none⟩ := by unfold Addr.add; split <;> simp_all
    rw [ha]
    unfold zc
    rw [cell_of_row _ _ j _ _ _ (heap_alloc_new W _)]
    simp [hj'])
  rw [List.length_replicate] at h
  exact h


theorem cvz1 (n : Nat) (W : World) (o : Obj) : (convert 47 9 (.slice (some ⟨W.heap.size + 1, 0, none⟩) n n)).run Try.prog ((W.alloc o).alloc (zc n)) = .ok (.string (zs n)) ((W.alloc o).alloc (zc n)) := by
  have h := cvz n (W.alloc o)
  rw [World.size_alloc] at h
  exact h
theorem zs_size (n : Nat) : (zs n).size = n := by unfold zs; rw [arr_size]; simp
def h9 : Rh := ⟨0, 0, false, false, 0, 9, 0, 0, 0, ⟨#[]⟩⟩
def hH : Rh := ⟨0, 0, true, false, 0, 0, 0, 0, 0, ⟨#[]⟩⟩
def hO : Rh := ⟨0, 0, false, false, 0, 0, 0, 0, 0, ⟨#[]⟩⟩
theorem hok_of {h : Rh} {n : Nat} (i : h.In) (m : h.MayB) (hm : h.more = false) (r : roomB h n) : HOk h n := ⟨i, m, (fun x => by rw [hm] at x; cases x), r⟩
theorem h9_ok : HOk h9 20 := hok_of ⟨by decide, by decide, by decide, by decide, by decide, by decide, by decide, by decide, by decide⟩ (by decide) rfl (by decide)
theorem hH_ok : HOk hH 20 := hok_of ⟨by decide, by decide, by decide, by decide, by decide, by decide, by decide, by decide, by decide⟩ (by decide) rfl (by decide)
theorem hO_ok (n : Nat) (h : n ≤ 20) : HOk hO n := hok_of ⟨by decide, by decide, by decide, by decide, by decide, by decide, by decide, by decide, by decide⟩ (by decide) rfl (by show (0 : Int) + (n : Int) + 20 ≤ 65535; omega)
abbrev pcA : Pc := (⟨0, 0, false, true, 0, 9, 0, 0, 0, ⟨#[]⟩⟩, (zs 20).extract 0 16)
abbrev pcE : Pc := (⟨0, 0, false, false, 16, 9, 0, 0, 0, ⟨#[]⟩⟩, (zs 20).extract 16 (zs 20).size)
theorem pcA_size : ((zs 20).extract 0 16).size = 16 := (ext_size _ 16 (by rw [zs_size]; omega)).1
theorem pcE_size : ((zs 20).extract 16 (zs 20).size).size = 4 := (ext_size _ 16 (by rw [zs_size]; omega)).2.trans (by rw [zs_size])
theorem pieces9 : pieces (keptB h9.op) 36 h9 (zs 20) = [pcA, pcE] := by
  have hm : most 36 h9 = 16 := rfl
  rw [pieces_more (by decide) (by decide) (by rw [hm, zs_size]; omega)]
  rw [hm]
  have e : nxt h9 (16 / 8 * 8) (keptB h9.op) = pcE.1 := rfl
  rw [e, pieces_last (by rw [show 16 / 8 * 8 = 16 from rfl, pcE_size]; exact by decide)]
  rfl
theorem cut9 : CutIs h9 (zs 20) 36 [pcA, pcE] 0 := by
  have h := CutIs.cut (h := h9) (d := zs 20) (room := 36) [] (by rw [zs_size]; exact h9_ok) (by rw [zs_size]; decide) rfl (by decide) rfl
  rw [show (36 : Int).toNat = 36 from rfl, pieces9] at h
  exact h
theorem cutH : CutIs hH (zs 20) 36 [] 4 := .held (by rw [zs_size]; exact hH_ok) (by rw [zs_size]; decide) rfl
theorem cutF : CutIs hO (zs 20) 27 [] 6 := .full (by rw [zs_size]; exact hO_ok 20 (by omega)) (by rw [zs_size]; decide) rfl (by decide)
theorem cutN : CutIs hO ⟨#[]⟩ 20 [(hO, ⟨#[]⟩)] 0 := .one (hO_ok 0 (by omega)) (by decide)
theorem parts_ok : HOk pcA.1 pcA.2.size ∧ HOk pcE.1 pcE.2.size := by
  have h := (cut_ok cut9 rfl).1.val
  exact ⟨h _ (by simp), h _ (by simp)⟩
theorem kept_al : keptB ⟨#[7, 3, 120, 1, 130, 3, 121, 0]⟩ = ⟨#[130, 3, 121, 0]⟩ := by decide +kernel

set_option maxRecDepth 20000 in
set_option maxHeartbeats 4000000 in
theorem alive_ok (w : World) : Calls Try.prog 8 #[] w fun e w' => e = .returned (.bool true) ∧ Below w.heap.size w w' := by
  have hmk : ∀ w, (Instr.makeSlice 47 (.int .i64 20) (.int .i64 20)).run Try.prog w = .ok (.slice (some ⟨w.heap.size, 0, none⟩) 20 20) (w.alloc (zc 20)) := fun w => mkz 20 (by decide) w
  have hcv := fun w => cvz 20 w
  have hcv1 := fun w o => cvz1 20 w o
  have HB0 := hide (fun w => below_one w (zc 20))
  have s20 : (zs 20).size ≤ 1073741824 := by rw [zs_size]; omega
  have C1 : Hid (∀ w, Calls Try.prog 9 #[.agg #[.int .u8 0, .int .u16 0, .bool false, .bool false, .int .i64 0, .int .u8 9, .int .u8 0, .int .u32 0, .int .u32 0, .string ⟨#[]⟩], .string (zs 20), .int .i64 36] w (CutPost w [pcA, pcE] 0)) := fun w => cut_any cut9 h9_ok.i s20 w
  have C2 : Hid (∀ w, Calls Try.prog 9 #[.agg #[.int .u8 0, .int .u16 0, .bool true, .bool false, .int .i64 0, .int .u8 0, .int .u8 0, .int .u32 0, .int .u32 0, .string ⟨#[]⟩], .string (zs 20), .int .i64 36] w (CutPost w [] 4)) := fun w => cut_any cutH hH_ok.i s20 w
  have C3 : Hid (∀ w, Calls Try.prog 9 #[.agg #[.int .u8 0, .int .u16 0, .bool false, .bool false, .int .i64 0, .int .u8 0, .int .u8 0, .int .u32 0, .int .u32 0, .string ⟨#[]⟩], .string (zs 20), .int .i64 27] w (CutPost w [] 6)) := fun w => cut_any cutF (hO_ok 0 (by omega)).i s20 w
  have C4 : Hid (∀ w, Calls Try.prog 9 #[.agg #[.int .u8 0, .int .u16 0, .bool false, .bool false, .int .i64 0, .int .u8 0, .int .u8 0, .int .u32 0, .int .u32 0, .string ⟨#[]⟩], .string ⟨#[]⟩, .int .i64 20] w (CutPost w [(hO, ⟨#[]⟩)] 0)) := fun w => cut_any cutN (hO_ok 0 (by omega)).i (by decide) w
  have D1 : Hid (∀ w, Calls Try.prog 14 #[.string (pcB pcA)] w fun e w' => e = .returned (.tuple #[.agg #[.int .u8 0, .int .u16 0, .bool false, .bool true, .int .i64 0, .int .u8 9, .int .u8 0, .int .u32 0, .int .u32 0, .string ⟨#[]⟩], .string ((zs 20).extract 0 16), .int .i64 0]) ∧ Below w.heap.size w w') := fun w => dec_pc_any pcA parts_ok.1 w
  have D2 : Hid (∀ w, Calls Try.prog 14 #[.string (pcB pcE)] w fun e w' => e = .returned (.tuple #[.agg #[.int .u8 0, .int .u16 0, .bool false, .bool false, .int .i64 16, .int .u8 9, .int .u8 0, .int .u32 0, .int .u32 0, .string ⟨#[]⟩], .string ((zs 20).extract 16 (zs 20).size), .int .i64 0]) ∧ Below w.heap.size w w') := fun w => dec_pc_any pcE parts_ok.2 w
  have K := fun w => kept_any ⟨#[7, 3, 120, 1, 130, 3, 121, 0]⟩ w
  rw [kept_al] at K
  have K := hide K
  obtain ⟨SA, hSA⟩ : ∃ SA, pcB pcA = SA := ⟨_, rfl⟩
  obtain ⟨SE, hSE⟩ : ∃ SE, pcB pcE = SE := ⟨_, rfl⟩
  rw [hSA] at D1
  rw [hSE] at D2
  have HST : Hid (∀ n W sv, Strs n W sv ([pcA, pcE].map pcB) → Strs n W sv [SA, SE]) := fun n W sv h => by
    rw [← hSA, ← hSE]; exact h
  clear hSA hSE
  have q1 := pcA_size
  have q2 := pcE_size
  generalize (zs 20).extract 0 16 = X at *
  generalize (zs 20).extract 16 (zs 20).size = Y at *
  generalize zs 20 = Z at *
  go_enter Try.func8, Try.ntmps8
  go_wp2_with fail
  have B1 := hide (unhide HB0 w)
  refine (unhide C1 _).mono ?_
  rintro e w1 ⟨sp1, sc1, rfl, hS, b1⟩
  have hS := unhide HST _ _ _ hS
  have B1 := hide (tr2 (unhide B1) b1)
  rcases hS with ⟨_, hx⟩ | ⟨g, off, cap, hsv, hg, hc⟩
  · cases hx
  have hsv2 : sp1 = some ⟨g, off, none⟩ ∧ sc1 = cap := by
    injection hsv with h1 h2 h3
    exact ⟨h1, h3⟩
  obtain ⟨rfl, rfl⟩ := hsv2
  have a0 := hc 0 (by simp)
  have a1 := hc 1 (by simp)
  simp only [Nat.add_zero] at a0
  have a0 : w1.cell? ⟨g, off, none⟩ = some (.string SA) := a0
  have a1 : w1.cell? ⟨g, off + 1, none⟩ = some (.string SE) := a1
  have hg2 : g < w1.heap.size := hg
  clear b1 hc hsv hg C1
  simp only [List.length_cons, List.length_nil, Nat.zero_add, Nat.reduceAdd]
  go_wp2_with fail
  refine (unhide D1 _).mono ?_
  rintro e w2 ⟨rfl, b2⟩
  have a1 := (b2.cell (p := ⟨g, off + 1, none⟩) hg2).trans a1
  have B2 := hide (tr2 (unhide B1) b2)
  have hg2 : g < w2.heap.size := Nat.lt_of_lt_of_le hg2 b2.size
  clear b2 D1 a0 B1
  have bA := below_one w2 (.cells #[.int .u8 0, .int .u16 0, .bool false, .bool true, .int .i64 0, .int .u8 9, .int .u8 0, .int .u32 0, .int .u32 0, .string ⟨#[]⟩] 25)
  have a1 := (bA.cell (p := ⟨g, off + 1, none⟩) hg2).trans a1
  have x3 := cell_of_row _ _ 3 _ _ _ (heap_alloc_new w2 (.cells #[.int .u8 0, .int .u16 0, .bool false, .bool true, .int .i64 0, .int .u8 9, .int .u8 0, .int .u32 0, .int .u32 0, .string ⟨#[]⟩] 25))
  have B2 := hide (tr2 (unhide B2) bA)
  clear bA
  go_wp2_with fail
  refine (unhide D2 _).mono ?_
  rintro e w3 ⟨rfl, b3⟩
  have x3 := below_cell x3 b3
  have B3 := hide (tr2 (unhide B2) b3)
  clear b3 D2 a1 B2 hg2
  generalize w2.heap.size = qa at *
  have bA := below_one w3 (.cells #[.int .u8 0, .int .u16 0, .bool false, .bool false, .int .i64 16, .int .u8 9, .int .u8 0, .int .u32 0, .int .u32 0, .string ⟨#[]⟩] 25)
  have x3 := below_cell x3 bA
  have hal := heap_alloc_new w3 (.cells #[.int .u8 0, .int .u16 0, .bool false, .bool false, .int .i64 16, .int .u8 9, .int .u8 0, .int .u32 0, .int .u32 0, .string ⟨#[]⟩] 25)
  have y3 := cell_of_row _ _ 3 _ _ _ hal
  have y4 := cell_of_row _ _ 4 _ _ _ hal
  have B3 := hide (tr2 (unhide B3) bA)
  have bZ := unhide HB0 (w3.alloc (.cells #[.int .u8 0, .int .u16 0, .bool false, .bool false, .int .i64 16, .int .u8 9, .int .u8 0, .int .u32 0, .int .u32 0, .string ⟨#[]⟩] 25))
  have x3 := below_cell x3 bZ
  have y3 := below_cell y3 bZ
  have y4 := below_cell y4 bZ
  have B3 := hide (tr2 (unhide B3) bZ)
  clear bA hal bZ
  go_wp2_with fail
  refine (unhide C2 _).mono ?_
  rintro e w4 ⟨sp2, sc2, rfl, _, b4⟩
  have x3 := below_cell x3 b4
  have y3 := below_cell y3 b4
  have y4 := below_cell y4 b4
  have B4 := hide (tr2 (unhide B3) b4)
  clear b4 C2 B3
  generalize w3.heap.size = qb at *
  have bZ := unhide HB0 w4
  have x3 := below_cell x3 bZ
  have y3 := below_cell y3 bZ
  have y4 := below_cell y4 bZ
  have B4 := hide (tr2 (unhide B4) bZ)
  clear bZ
  simp only [List.length_nil]
  go_wp2_with fail
  refine (unhide C3 _).mono ?_
  rintro e w5 ⟨sp3, sc3, rfl, _, b5⟩
  have x3 := below_cell x3 b5
  have y3 := below_cell y3 b5
  have y4 := below_cell y4 b5
  have B5 := hide (tr2 (unhide B4) b5)
  clear b5 C3 B4
  simp only [List.length_nil]
  go_wp2_with fail
  refine (unhide C4 _).mono ?_
  rintro e w6 ⟨sp4, sc4, rfl, _, b6⟩
  have x3 := below_cell x3 b6
  have y3 := below_cell y3 b6
  have y4 := below_cell y4 b6
  have B6 := hide (tr2 (unhide B5) b6)
  clear b6 C4 B5
  simp only [List.length_cons, List.length_nil, Nat.zero_add]
  go_wp2_with fail
  refine (unhide K _).mono ?_
  rintro e w7 ⟨rfl, b7⟩
  have B7 := hide (tr2 (unhide B6) b7)
  go_wp2_with fail
  go_ret
  exact ⟨rfl, unhide B7⟩
end Go.Proofs.Ytefenejeppmfiaa
