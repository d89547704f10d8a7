/- The statement SteerSpreads's walk: the cores of a list, by rows of hashes that stand side by side. -/
import Derived.Test.YtkhkobdbbffkbaaLt0
namespace Go.Proofs.Ytkhkobdbbffkbaa
open Go.RowKit

def icells (n : Nat) : List Value := (List.range n).map fun (j : Nat) => .int .i64 (j : Int)
theorem icells_snoc (n : Nat) : icells (n + 1) = icells n ++ [.int .i64 (n : Int)] := by
  unfold icells
  rw [List.range_succ, List.map_append]
  rfl
theorem icells_get (n j : Nat) (hj : j < n) : (icells n)[j]? = some (.int .i64 (j : Int)) := by
  unfold icells
  rw [List.getElem?_map, List.getElem?_range hj]
  rfl
theorem rowI_of {w : World} {base N : Nat} {t : TypeId} {v : Value} {xs : List Value} {f : Nat → Int} (h : w.ownsRow base t 1 v N xs) (hN : 0 < N) (hx : ∀ j, j < N → xs[j]? = some (.int .i64 (f j))) :
    ∃ g c, v = .slice (some ⟨g, 0, none⟩) N c ∧ RowI w g N f := by
  rcases h.2 with ⟨_, h0⟩ | ⟨g, cap, cur, rfl, hg, hh, _⟩
  · omega
  · refine ⟨g, cap, rfl, fun j hj => ?_, fun j => ?_, (Array.getElem?_eq_some_iff.1 hh).1⟩
    · have := h.cells (g := g) rfl j _ (hx j hj)
      rw [Go.WideShapes.add_plain, Nat.zero_add] at this
      exact this
    · unfold World.frozen?
      rw [hh]
      simp
theorem plc_zero (n : Nat) : plc 0 n = 0 := by unfold plc; simp
theorem plc_last {n : Nat} (h0 : 0 < n) (h8 : n ≤ 8) : plc 4294967295 n = n - 1 := by unfold plc; omega
theorem plc_mono {a b n : Nat} (h : a ≤ b) : plc a n ≤ plc b n := Nat.div_le_div_right (Nat.mul_le_mul_right n h)
theorem plc_low {a n : Nat} : plc a n * 4294967296 / n ≤ a := by
  refine Nat.div_le_of_le_mul ?_
  rw [Nat.mul_comm n a]
  exact Nat.div_mul_le_self _ _
theorem plc_up {a n : Nat} (hn : 0 < n) : a < (plc a n + 1) * 4294967296 / n + 1 := by
  refine Nat.lt_succ_of_le ((Nat.le_div_iff_mul_le hn).2 ?_)
  unfold plc
  omega

theorem cast_div (x n : Nat) : (x : Int) * 4294967296 / (n : Int) = ((x * 4294967296 / n : Nat) : Int) := by rw [Int.natCast_ediv, Int.natCast_mul]; rfl
theorem plc_lowI {a n : Nat} : (plc a n : Int) * 4294967296 / (n : Int) ≤ (a : Int) := by
  rw [cast_div]
  exact Int.ofNat_le.2 plc_low
theorem plc_upI {a n : Nat} (hn : 0 < n) : (a : Int) < ((plc a n : Int) + 1) * 4294967296 / (n : Int) + 1 := by
  have e : ((plc a n : Int) + 1) = ((plc a n + 1 : Nat) : Int) := rfl
  rw [e, cast_div]
  exact Int.ofNat_lt.2 (plc_up hn)

set_option maxRecDepth 100000 in
set_option maxHeartbeats 1000000 in
theorem steerSpreads_walk (z a' b' : Int) (wz : (Lit.int .u8 z).wf = true) (wa : (Lit.int .u32 a').wf = true) (wb : (Lit.int .u32 b').wf = true) (w : World) :
    Calls Try.prog 7 #[.int .u8 z, .int .u32 a', .int .u32 b'] w fun e w' => e = .returned (.bool true) ∧ Below w.heap.size w w' := by
  obtain ⟨m, rfl, hm⟩ := nat8 wz
  obtain ⟨a, rfl, ha⟩ := nat32 wa
  obtain ⟨b, rfl, hb⟩ := nat32 wb
  clear wz wa wb
  obtain ⟨i0, hi, hz0, hz1, hz2⟩ := info_parts (P := Try.prog) (e := 3) (z := .int .i64 0) (size := 1) (bytes := 8) (by kernel_rfl)
  have HW := hide works_any
  obtain ⟨n, hn⟩ : ∃ n, n = m % 8 + 1 := ⟨_, rfl⟩
  have hn1 : (m : Int) % 8 + 1 = (n : Int) := by omega
  have hn0 : 0 < n := by omega
  have hn8 : n ≤ 8 := by omega
  clear hn
  go_enter Try.func7, Try.ntmps7
  go_wp2_with fail
  go_loopw [8, 9] (fun v i wr => ∃ k : Nat, k ≤ n ∧ i = .int .i64 (k : Int) ∧ wr.ownsRow w.heap.size 3 1 v k (icells k) ∧ Below w.heap.size w wr) (fun _ i _ => n - (intOf i).toNat)
  case atStart => exact ⟨0, Nat.zero_le _, rfl, World.ownsRow_nil _ _ _ _, Below.refl _ _⟩
  case round =>
    obtain ⟨k, hk, rfl, hown, hB⟩ := hrel
    by_cases hlt : k < n
    · have hlt4 := hown.lt
      have HB := hide hB
      have HK := hide (icells_snoc k)
      have hsz := hB.size
      clear hB
      generalize icells k = KC at *
      go_wp2_with (at_builtin; refine wpList_append_lies _ rfl _ _ 39 rfl w.heap.size 3 i0 _ 1 8 Try.underlying39 hi hz0 hz1 hz2 rfl (by decide) u8 k _ rfl (hown.alloc _) ⟨wr.heap.size, 0, none⟩ 1 1 [.int .i64 (k : Int)] rfl rfl (World.news_of_block (heap_alloc_new wr _)) (by intro u hu; simp at hu; subst hu; rfl) (by decide) (by unfold maxLen; omega) (by omega) (by simp; omega) _ rfl ?_; intro g2 cap2 w5 hown5 hgrow5 hat5 hlt5)
      go_roundw
      case rel =>
        refine ⟨k + 1, by omega, by go_num, by rw [unhide HK]; exact hown5, ((unhide HB).alloc hsz _).grown hgrow5 (by simp; omega) (fun j hj => (hlt4 j hj).1)⟩
      case measure => simp [intOf]; omega
    · have en : k = n := by omega
      subst en
      obtain ⟨g, c, rfl, hR⟩ := rowI_of (f := fun j => (j : Int)) hown (by omega) (fun j hj => icells_get k j hj)
      have C : ∀ h : Nat, h < 4294967296 → Calls Try.prog 16 #[.int .u32 (h : Int), .slice (some ⟨g, 0, none⟩) k c] wr fun e w' => e = .returned (.tuple #[.int .i64 (plc h k : Nat), .bool true]) ∧ w' = wr := fun h hh => by
        have := core_ok g 0 k c h _ wr hh hn0 (by omega) (by rw [Nat.zero_add]; exact hR.cell _ (plc_lt hh hn0))
        exact this
      have H1 := hide (C a ha)
      have H2 := hide (C b hb)
      have H3 : Hid (Calls Try.prog 16 #[.int .u32 0, .slice (some ⟨g, 0, none⟩) k c] wr fun e w' => e = .returned (.tuple #[.int .i64 0, .bool true]) ∧ w' = wr) := by
        have := C 0 (by decide)
        rw [plc_zero] at this
        exact this
      have H4 : Hid (Calls Try.prog 16 #[.int .u32 4294967295, .slice (some ⟨g, 0, none⟩) k c] wr fun e w' => e = .returned (.tuple #[.int .i64 ((k : Int) - 1), .bool true]) ∧ w' = wr) := by
        have := C 4294967295 (by decide)
        rw [plc_last hn0 hn8, Int.natCast_sub hn0] at this
        exact this
      have px := plc_lt ha hn0
      have hmono : a ≤ b → plc a k ≤ plc b k := plc_mono
      have hlow := plc_lowI (a := a) (n := k)
      have hup := plc_upI (a := a) (n := k) hn0
      have HB := hide hB
      clear C hown hR hB
      generalize plc a k = X at *
      generalize plc b k = Y at *
      have hq : ((X : Int) + 1) * 4294967296 / (k : Int) ≤ 34359738368 := by
        refine Int.le_trans (Int.ediv_le_self _ (by omega)) (by omega)
      have hq0 : 0 ≤ ((X : Int) + 1) * 4294967296 / (k : Int) := Int.ediv_nonneg (by omega) (by omega)
      by_cases hab : a ≤ b
      · have hxy := hmono hab
        clear hmono
        go_wp2_with fail
        refine (unhide H1).mono ?_
        rintro e w1 ⟨rfl, rfl⟩
        go_wp2_with fail
        refine (unhide H2).mono ?_
        rintro e w2 ⟨rfl, rfl⟩
        go_wp2_with fail
        refine (unhide H3).mono ?_
        rintro e w3 ⟨rfl, rfl⟩
        go_wp2_with fail
        refine (unhide H4).mono ?_
        rintro e w4 ⟨rfl, rfl⟩
        go_wp2_with fail
        refine (unhide HW _).mono ?_
        rintro e w5 ⟨rfl, b5⟩
        go_wp2
        go_ret
        exact ⟨rfl, tr2 (unhide HB) b5⟩
      · clear hmono
        go_wp2_with fail
        refine (unhide H1).mono ?_
        rintro e w1 ⟨rfl, rfl⟩
        go_wp2_with fail
        refine (unhide H2).mono ?_
        rintro e w2 ⟨rfl, rfl⟩
        go_wp2_with fail
        refine (unhide H3).mono ?_
        rintro e w3 ⟨rfl, rfl⟩
        go_wp2_with fail
        refine (unhide H4).mono ?_
        rintro e w4 ⟨rfl, rfl⟩
        go_wp2_with fail
        refine (unhide HW _).mono ?_
        rintro e w5 ⟨rfl, b5⟩
        go_wp2
        go_ret
        exact ⟨rfl, tr2 (unhide HB) b5⟩

end Go.Proofs.Ytkhkobdbbffkbaa
