/- What Even, Pick and Core of package steer answer. -/
import Derived.Test.YtkhkobdbbffkbaaSt2
import Derived.Laws.MakeOwn
namespace Go.Proofs.Ytkhkobdbbffkbaa
open Go.RowKit

set_option maxHeartbeats 1000000 in
theorem even_none (n : Int) (w : World) (h : n < 1 ∨ 8 < n) :
    Calls Try.prog 14 #[.int .i64 n] w fun e w' => e = .returned (.slice none 0 0) ∧ w' = w := by
  by_cases h1 : n < 1
  · go_enter Try.func14, Try.ntmps14
    go_wp2
    go_ret
    exact ⟨rfl, rfl⟩
  · have h2 : 8 < n := by omega
    go_enter Try.func14, Try.ntmps14
    go_wp2
    go_ret
    exact ⟨rfl, rfl⟩

theorem made_one (z : Value) (n : Nat) : madeCells #[z] n = Array.replicate n z := by
  apply Array.ext
  · rw [size_madeCells, Array.size_replicate]
  · intro i h1 h2
    have e : i % 1 = 0 := Nat.mod_one i
    simp [madeCells, e]
theorem make_ints (n : Nat) (hn : n ≤ 1024) (w : World) : (Instr.makeSlice 39 (.int .i64 (n : Int)) (.int .i64 (n : Int))).run Try.prog w = .ok (.slice (some ⟨w.heap.size, 0, none⟩) n n) (w.alloc (.cells (Array.replicate n (.int .i64 0)) 3)) := by
  obtain ⟨i0, hi, hz0, hz1, hz2⟩ := info_parts (P := Try.prog) (e := 3) (z := .int .i64 0) (size := 1) (bytes := 8) (by kernel_rfl)
  have h := run_make (P := Try.prog) w 39 3 i0 (.int .i64 0) Try.underlying39 hi hz0 .i64 .i64 (n : Int) (n : Int) (by omega) (by omega) (by rw [hz2]; omega) (by omega)
  rw [hz1, show (Value.int .i64 0).cells = #[.int .i64 0] from rfl, made_one] at h
  simpa using h
/-- N integers stand in a block from its beginning on, and may be written -/
structure RowI (w : World) (b N : Nat) (f : Nat → Int) : Prop where
  cell : ∀ j, j < N → w.cell? ⟨b, j, none⟩ = some (.int .i64 (f j))
  free : ∀ j, w.frozen? ⟨b, j, none⟩ = false
  lt : b < w.heap.size
theorem RowI.made (w : World) (n : Nat) (t : TypeId) : RowI (w.alloc (.cells (Array.replicate n (.int .i64 0)) t)) w.heap.size n (fun _ => 0) := by
  have hh := heap_alloc_new w (.cells (Array.replicate n (.int .i64 0)) t)
  refine ⟨fun j hj => ?_, fun j => ?_, by simp⟩
  · rw [cell_of_row _ _ j _ _ _ hh]
    simp [hj]
  · unfold World.frozen?
    rw [hh]
    simp
theorem RowI.set {w : World} {b N : Nat} {f g : Nat → Int} (h : RowI w b N f) (k : Nat) (hk : k < N) (v : Int) (hg : ∀ j, j < N → g j = if j = k then v else f j) : RowI (w.setCell ⟨b, k, none⟩ (.int .i64 v)) b N g := by
  refine ⟨fun j hj => ?_, fun j => by rw [World.frozen?_setCell]; exact h.free j, by simpa using h.lt⟩
  rw [hg j hj]
  by_cases e : j = k
  · subst e
    rw [if_pos rfl]
    exact World.cell?_setCell_same _ _ _ (h.cell j hj)
  · have hne : (⟨b, k, none⟩ : Addr) ≠ ⟨b, j, none⟩ := fun x => e (by simpa using (congrArg Addr.off x).symm)
    rw [if_neg e]
    exact (World.cell?_setCell_other _ _ _ _ hne).trans (h.cell j hj)
theorem RowI.on {w w' : World} {b N : Nat} {f : Nat → Int} (h : RowI w b N f) (k : Below w.heap.size w w') : ∀ j, j < N → w'.cell? ⟨b, j, none⟩ = some (.int .i64 (f j)) := fun j hj => (k.cell h.lt).trans (h.cell j hj)

set_option maxRecDepth 100000 in
set_option maxHeartbeats 1000000 in
theorem even_ok (n : Nat) (w : World) (h1 : 1 ≤ n) (h8 : n ≤ 8) :
    Calls Try.prog 14 #[.int .i64 (n : Int)] w fun e w' => e = .returned (.slice (some ⟨w.heap.size, 0, none⟩) 128 128) ∧ RowI w' w.heap.size 128 (fun j => ((j % n : Nat) : Int)) ∧ Below w.heap.size w w' := by
  have hmk : (Instr.makeSlice 39 (.int .i64 128) (.int .i64 128)).run Try.prog w = .ok (.slice (some ⟨w.heap.size, 0, none⟩) 128 128) (w.alloc (.cells (Array.replicate 128 (.int .i64 0)) 3)) := make_ints 128 (by decide) w
  have HR := hide (RowI.made w 128 3)
  have hb0 := below_one w (.cells (Array.replicate 128 (.int .i64 0)) 3)
  generalize Array.replicate 128 (Value.int .i64 0) = M at *
  go_enter Try.func14, Try.ntmps14
  go_wp2
  go_loopw [14] (fun i wr => ∃ k : Nat, k ≤ 128 ∧ i = .int .i64 (k : Int) ∧ RowI wr w.heap.size 128 (fun j => if j < k then ((j % n : Nat) : Int) else 0) ∧ Below w.heap.size w wr) (fun i _ => 128 - (intOf i).toNat)
  case atStart => exact ⟨0, Nat.zero_le _, rfl, unhide HR, hb0⟩
  case round =>
    obtain ⟨k, hk, rfl, hR, hB⟩ := hrel
    by_cases hlt : k < 128
    · have hc := hR.cell k hlt
      have hf := hR.free k
      have HS := hide (hR.set (g := fun j => if j < k + 1 then ((j % n : Nat) : Int) else 0) k hlt ((k : Int) % (n : Int)) (fun j hj => by
        by_cases e : j = k
        · subst e; simp
        · simp only [e, if_false]
          by_cases e2 : j < k
          · rw [if_pos (by omega), if_pos e2]
          · rw [if_neg (by omega), if_neg e2]))
      have HB := hide hB
      clear hR hB
      go_wp2
      go_roundw
      case rel => exact ⟨k + 1, by omega, by go_num, unhide HS, (unhide HB).setCell (p := ⟨w.heap.size, k, none⟩) (Nat.le_refl _) _⟩
      case measure => simp [intOf]; omega
    · have e : k = 128 := by omega
      subst e
      clear hlt hk
      go_wp2
      go_ret
      refine ⟨rfl, ⟨fun j hj => ?_, hR.free, hR.lt⟩, hB⟩
      have := hR.cell j hj
      rw [if_pos hj] at this
      exact this

set_option maxHeartbeats 1000000 in
theorem pick_ok (b off cap : Nat) (h : Nat) (v : Int) (w : World) (hh : h < 4294967296) (hc : w.cell? ⟨b, off + h % 128, none⟩ = some (.int .i64 v)) :
    Calls Try.prog 15 #[.slice (some ⟨b, off, none⟩) 128 cap, .int .u32 (h : Int)] w fun e w' => e = .returned (.tuple #[.int .i64 v, .bool true]) ∧ w' = w := by
  go_enter Try.func15, Try.ntmps15
  go_wp2
  go_ret2
  exact ⟨rfl, rfl⟩

set_option maxHeartbeats 1000000 in
theorem pick_none (x : Option Addr) (len cap : Nat) (h : Int) (w : World) (hl : len ≠ 128) :
    Calls Try.prog 15 #[.slice x len cap, .int .u32 h] w fun e w' => e = .returned (.tuple #[.int .i64 0, .bool false]) ∧ w' = w := by
  go_enter Try.func15, Try.ntmps15
  go_wp2
  go_ret2
  exact ⟨rfl, rfl⟩

set_option maxHeartbeats 1000000 in
theorem core_none (x : Option Addr) (cap : Nat) (h : Int) (w : World) :
    Calls Try.prog 16 #[.int .u32 h, .slice x 0 cap] w fun e w' => e = .returned (.tuple #[.int .i64 0, .bool false]) ∧ w' = w := by
  go_enter Try.func16, Try.ntmps16
  go_wp2
  go_ret2
  exact ⟨rfl, rfl⟩

/-- the place of a hash's share -/
def plc (h n : Nat) : Nat := h * n / 4294967296
theorem plc_lt {h n : Nat} (hh : h < 4294967296) (hn : 0 < n) : plc h n < n := by
  unfold plc
  rw [Nat.div_lt_iff_lt_mul (by decide), Nat.mul_comm n]
  exact Nat.mul_lt_mul_of_pos_right hh hn
theorem mul_lt2 {h n : Nat} (hh : h < 4294967296) (hn : n ≤ 1024) : h * n < 4398046511104 :=
  Nat.lt_of_le_of_lt (Nat.mul_le_mul_left h hn) (by omega)

set_option maxHeartbeats 1000000 in
theorem core_ok (b off len cap : Nat) (h : Nat) (v : Int) (w : World) (hh : h < 4294967296) (hl : 0 < len) (hl2 : len ≤ 1024) (hc : w.cell? ⟨b, off + plc h len, none⟩ = some (.int .i64 v)) :
    Calls Try.prog 16 #[.int .u32 (h : Int), .slice (some ⟨b, off, none⟩) len cap] w fun e w' => e = .returned (.tuple #[.int .i64 v, .bool true]) ∧ w' = w := by
  have hp := plc_lt hh hl
  have hm := mul_lt2 hh hl2
  have e : IntKind.u64.wrap ((h : Int) * (len : Int)) = ((h * len : Nat) : Int) := by
    rw [← Int.natCast_mul, IntKind.wrap_u64, Int.emod_eq_of_lt (by omega) (by omega)]
  unfold plc at hc hp
  generalize h * len = m at *
  go_enter Try.func16, Try.ntmps16
  go_wp2
  go_ret2
  exact ⟨rfl, rfl⟩

theorem make_bytes (n : Nat) (hn : n ≤ 1024) (w : World) : (Instr.makeSlice 36 (.int .i64 (n : Int)) (.int .i64 (n : Int))).run Try.prog w = .ok (.slice (some ⟨w.heap.size, 0, none⟩) n n) (w.alloc (.cells (Array.replicate n (.int .u8 0)) 5)) := by
  obtain ⟨i0, hi, hz0, hz1, hz2⟩ := info_parts (P := Try.prog) (e := 5) (z := .int .u8 0) (size := 1) (bytes := 1) (by kernel_rfl)
  have h := run_make (P := Try.prog) w 36 5 i0 (.int .u8 0) Try.underlying36 hi hz0 .i64 .i64 (n : Int) (n : Int) (by omega) (by omega) (by rw [hz2]; omega) (by omega)
  rw [hz1, show (Value.int .u8 0).cells = #[.int .u8 0] from rfl, made_one] at h
  simpa using h
/-- a key of zeros -/
def zk : ByteArray := strOfNums (List.replicate 40 0)
theorem zk_size : zk.size = 40 := by unfold zk; rw [strOfNums_size, List.length_replicate]
theorem zk_zero (j : Nat) : bt zk j = 0 := by
  unfold bt
  split
  · rename_i h
    have e : zk.data = Array.replicate 40 (0 : UInt8) := by decide
    have h2 : j < 40 := by rw [zk_size] at h; exact h
    have : zk[j] = 0 := by
      show zk.data[j] = 0
      simp [e]
    exact congrArg UInt8.toNat this
  · rfl

set_option maxRecDepth 100000 in
set_option maxHeartbeats 1000000 in
theorem works_any (w : World) : Calls Try.prog 8 #[] w fun e w' => e = .returned (.bool true) ∧ Below w.heap.size w w' := by
  have hmk : (Instr.makeSlice 36 (.int .i64 40) (.int .i64 40)).run Try.prog w = .ok (.slice (some ⟨w.heap.size, 0, none⟩) 40 40) (w.alloc (.cells (Array.replicate 40 (.int .u8 0)) 5)) := make_bytes 40 (by decide) w
  have hcv : (convert 36 9 (.slice (some ⟨w.heap.size, 0, none⟩) 40 40)).run Try.prog (w.alloc (.cells (Array.replicate 40 (.int .u8 0)) 5)) = .ok (.string zk) (w.alloc (.cells (Array.replicate 40 (.int .u8 0)) 5)) :=
    conv_row w (List.replicate 40 0) 40 (List.length_replicate) _ (by rw [List.map_replicate]; rfl)
  have hb0 := below_one w (.cells (Array.replicate 40 (.int .u8 0)) 5)
  generalize Array.replicate 40 (Value.int .u8 0) = M at *
  have H1 : Hid (∀ w, Calls Try.prog 9 #[.string zk, .string ⟨#[97, 98, 99]⟩] w fun e w' => e = .returned (.tuple #[.int .u32 0, .int .i64 0]) ∧ ∃ n, w' = w.drewN n) := by
    intro w
    have := hash_ok zk ⟨#[97, 98, 99]⟩ w zk_size (by decide)
    rw [hsh_zero zk_zero] at this
    exact this
  have H2 := hide (fun w => even_ok 3 w (by decide) (by decide))
  have H3 : Hid (∀ (w : World) b, w.cell? ⟨b, 2, none⟩ = some (.int .i64 2) → Calls Try.prog 15 #[.slice (some ⟨b, 0, none⟩) 128 128, .int .u32 130] w fun e w' => e = .returned (.tuple #[.int .i64 2, .bool true]) ∧ w' = w) := fun w b h => pick_ok b 0 128 130 2 w (by decide) h
  have H4 : Hid (∀ (w : World) b, w.cell? ⟨b, 1, none⟩ = some (.int .i64 9) → Calls Try.prog 16 #[.int .u32 2147483648, .slice (some ⟨b, 0, none⟩) 2 2] w fun e w' => e = .returned (.tuple #[.int .i64 9, .bool true]) ∧ w' = w) := fun w b h => core_ok b 0 2 2 2147483648 9 w (by decide) (by decide) (by decide) h
  have H5 := hide (fun w => hash_key ⟨#[]⟩ ⟨#[]⟩ w (by decide))
  generalize zk = Z at *
  go_enter Try.func8, Try.ntmps8
  go_wp2_with fail
  refine (unhide H1 _).mono ?_
  rintro e w1 ⟨rfl, n1, rfl⟩
  go_wp2_with fail
  refine (unhide H2 _).mono ?_
  rintro e w2 ⟨rfl, hR, hB⟩
  have hc2 : w2.cell? ⟨w.heap.size + 1, 2, none⟩ = some (.int .i64 2) := by
    have := hR.cell 2 (by decide)
    simpa using this
  have hb2 : Below w.heap.size w w2 := (below_draw hb0 n1).trans (hB.mono (by simp))
  have HC := hide hc2
  clear hR hB hb0 hc2 hmk hcv H1 H2
  go_wp2_with fail
  refine (unhide H3 _ _ (unhide HC)).mono ?_
  rintro e w3 ⟨rfl, rfl⟩
  go_wp2_with fail
  refine (unhide H4 _ _ (cell_of_row _ _ 1 _ _ _ (heap_alloc_new _ _))).mono ?_
  rintro e w4 ⟨rfl, rfl⟩
  go_wp2_with fail
  refine (unhide H5 _).mono ?_
  rintro e w5 ⟨rfl, n5, rfl⟩
  go_wp2
  go_ret
  exact ⟨rfl, below_draw (hb2.alloc hb2.size _) n5⟩

end Go.Proofs.Ytkhkobdbbffkbaa
