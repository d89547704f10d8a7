/- The statement RouteFull of layer 11, as a contract over the loaded program. -/
import Derived.Test.YtmicgkoicmeflaaEq11
namespace Go.Proofs.Ytmicgkoicmeflaa
open Go.RowKit

/-- k routes of one address each -/
def hostR (i : Nat) : Rt := ⟨i, 32, 0, 0, 0⟩
def fullL (k : Nat) : List Rt := (List.range k).map hostR
theorem fullL_succ (k : Nat) : fullL (k + 1) = fullL k ++ [hostR k] := by simp [fullL, List.range_succ]
theorem fullL_len (k : Nat) : (fullL k).length = k := by simp [fullL]
theorem mem_fullL {k : Nat} {y : Rt} : y ∈ fullL k ↔ ∃ i, i < k ∧ y = hostR i := by
  unfold fullL
  rw [List.mem_map]
  constructor
  · rintro ⟨i, hi, rfl⟩; exact ⟨i, List.mem_range.1 hi, rfl⟩
  · rintro ⟨i, hi, rfl⟩; exact ⟨i, List.mem_range.2 hi, rfl⟩
theorem clip32 : clip 32 = 32 := by decide
theorem may_host (i : Nat) (hi : i < 4294967296) (v : Nat) (c : Int) (hc : 0 ≤ c) (s : Nat) : mayR ⟨i, 32, v, c, s⟩ := by
  refine ⟨⟨by show (0 : Int) ≤ 32; decide, by show (32 : Int) ≤ 32; decide⟩, hc, ?_⟩
  show i &&& mk (clip 32) = i
  rw [clip32, and_mk i 32 hi (Nat.le_refl _)]
  simp
theorem put_last (x : Rt) : ∀ (L : List Rt), (∀ y ∈ L, ¬ ahd x y) → putR x L = L ++ [x]
  | [], _ => rfl
  | y :: r, h => by
    unfold putR
    rw [if_neg (h y (by simp)), put_last x r (fun z hz => h z (by simp [hz]))]
    rfl
theorem look_full (k : Nat) : lookR k 32 (fullL k) = none := by
  rw [look_none]
  intro y hy
  obtain ⟨i, hi, rfl⟩ := mem_fullL.1 hy
  unfold keyE hostR
  simp
  omega
theorem add_full_ok (k : Nat) (hk : k < 1024) : addE (hostR k) (fullL k) = 0 ∧ addT (hostR k) (fullL k) = fullL (k + 1) := by
  have e := addE_ok (r := hostR k) (L := fullL k) (may_host k (by omega) 0 0 (by decide) 0) (.inr (by rw [fullL_len]; exact hk))
  refine ⟨e, ?_⟩
  unfold addT
  rw [if_pos e, fullL_succ]
  unfold addR
  have e2 : delR (hostR k).n (hostR k).b (fullL k) = fullL k := del_none (look_full k)
  rw [e2]
  refine put_last _ _ (fun y hy => ?_)
  obtain ⟨i, hi, rfl⟩ := mem_fullL.1 hy
  unfold ahd hostR
  simp
  omega
theorem add_full_no : addE (hostR 1024) (fullL 1024) = 6 ∧ addT (hostR 1024) (fullL 1024) = fullL 1024 := by
  have e : addE (hostR 1024) (fullL 1024) = 6 := by
    unfold addE
    rw [if_neg (Classical.not_not.2 (show mayR (hostR 1024) from may_host 1024 (by decide) 0 0 (by decide) 0)), if_pos ⟨by show (lookR 1024 32 (fullL 1024)).isSome = false; rw [look_full]; rfl, by rw [fullL_len]; exact Nat.le_refl _⟩]
  refine ⟨e, ?_⟩
  unfold addT
  rw [if_neg (by rw [e]; decide)]
abbrev R0 : Rt := ⟨0, 32, 0, 3, 0⟩
theorem look_zero {k : Nat} (hk : 0 < k) (hL : OkL (fullL k)) : lookR 0 32 (fullL k) = some (hostR 0) := by
  have := look_mem hL.srt (mem_fullL.2 ⟨0, hk, rfl⟩)
  exact this
theorem add_zero {k : Nat} (hk : 0 < k) (hL : OkL (fullL k)) : addE R0 (fullL k) = 0 ∧ (addT R0 (fullL k)).length = k ∧ findR 0 (addT R0 (fullL k)) = some R0 := by
  have hm : mayR R0 := may_host 0 (by decide) 0 3 (by decide) 0
  have hr : Rin R0 := rin_of _ _ _ _ _ (by decide +kernel)
  have hl := look_zero hk hL
  have e := addE_ok (r := R0) (L := fullL k) hm (.inl (by rw [hl]; rfl))
  have e2 : addT R0 (fullL k) = addR R0 (fullL k) := by unfold addT; rw [if_pos e]
  have hok := hL.add hr
  refine ⟨e, ?_, ?_⟩
  · rw [e2, len_add hL.srt, hl]
    exact fullL_len k
  · refine find_at hok (k := 32) (by decide) ?_ (fun j h1 h2 => by omega)
    rw [e2, look_add hL.srt]
    rw [if_pos]
    exact ⟨by rw [Nat.zero_and], rfl⟩
theorem add_host {w : World} {p b k : Nat} (h : PT w p b (fullL (min k 1024))) (hk : k ≤ 1024) :
    Calls Try.prog 10 #[.pointer (some ⟨p, 0, none⟩), .agg #[.int .u32 (k : Int), .int .i64 32, .int .u32 0, .int .i64 0, .int .u32 0]] w fun e w' => e = .returned (.int .i64 (if k < 1024 then 0 else 6)) ∧ PT w' p b (fullL (min (k + 1) 1024)) ∧ w.grownBy w' (some b) := by
  have hr : Rin (hostR k) := ⟨by show k < 4294967296; omega, by show (-9223372036854775808 : Int) ≤ 32; decide, by show (32 : Int) ≤ 9223372036854775807; decide, by show 0 < 4294967296; decide, by show (-9223372036854775808 : Int) ≤ 0; decide, by show (0 : Int) ≤ 9223372036854775807; decide, by show 0 < 4294967296; decide⟩
  have := add_any h (hostR k) hr
  by_cases hlt : k < 1024
  · have e1 : min k 1024 = k := by omega
    have e2 : min (k + 1) 1024 = k + 1 := by omega
    rw [e1, (add_full_ok k hlt).1, (add_full_ok k hlt).2] at this
    rw [e2, if_pos hlt]
    exact this
  · obtain rfl : k = 1024 := by omega
    have e1 : min 1024 1024 = 1024 := rfl
    have e2 : min (1024 + 1) 1024 = 1024 := rfl
    rw [e1, add_full_no.1, add_full_no.2] at this
    rw [e2, if_neg hlt]
    exact this

set_option maxRecDepth 100000 in
set_option maxHeartbeats 2000000 in
theorem routeFull_walk (x : Int) (_ : (Lit.int .i8 x).wf = true) (w : World) :
    Calls Try.prog 6 #[.int .i8 x] w fun e w' => e = .returned (.bool true) ∧ Below w.heap.size w w' := by
  have HN := hide (new_any w)
  have HX := hide alive_any
  have hx1 : 0 ≤ IntKind.u8.wrap x ∧ IntKind.u8.wrap x ≤ 255 := by rw [IntKind.wrap_u8]; omega
  go_enter Try.func6, Try.ntmps6
  go_wp2_with fail
  refine (unhide HN).mono ?_
  rintro e w1 ⟨p, b, rfl, P1, B1, hp, hb⟩
  have P1 := hide P1
  have B1 := hide B1
  go_wp2_with fail
  obtain ⟨n, hn⟩ : ∃ n : Nat, 1022 + x % 4 = (n : Int) := ⟨(1022 + x % 4).toNat, by omega⟩
  have hn1 : 1022 ≤ n := by omega
  have hn2 : n ≤ 1025 := by omega
  rw [hn]
  clear hn hx1
  generalize x % 256 % 4 = x1
  generalize x % 256 = x2
  generalize x % 4 = x3
  go_loopw [5, 6] (fun i _ wr => ∃ k : Nat, k ≤ n ∧ i = .int .i64 (k : Int) ∧ Hid (PT wr p b (fullL (min k 1024))) ∧ Hid (Below w.heap.size w wr)) (fun i _ _ => n - (intOf i).toNat)
  case atStart => exact ⟨0, Nat.zero_le _, rfl, P1, B1⟩
  case round =>
    obtain ⟨k, hk, rfl, hP, hB⟩ := hrel
    by_cases hlt : k < n
    · have HA := add_host (unhide hP) (show k ≤ 1024 by omega)
      have hw : IntKind.u32.wrap (k : Int) = (k : Int) := by rw [IntKind.wrap_u32]; omega
      by_cases hlt2 : k < 1024
      · rw [if_pos hlt2] at HA
        have HA := hide HA
        have d1 : decide ((k : Int) < 1024) = true := decide_eq_true (by omega)
        clear hlt2
        go_wp2_with fail
        refine (unhide HA).mono ?_
        rintro e w3 ⟨rfl, P3, g3⟩
        have P3 := hide P3
        have B3 := hide ((unhide hB).trans (grown_below g3 (unhide hB).size hb))
        clear g3 HA hP hB
        go_wp2_with fail
        go_roundw
        case rel => exact ⟨k + 1, by omega, by go_num, P3, B3⟩
        case measure => simp [intOf]; omega
      · rw [if_neg hlt2] at HA
        have HA := hide HA
        have d1 : decide ((k : Int) < 1024) = false := decide_eq_false (by omega)
        clear hlt2
        go_wp2_with fail
        refine (unhide HA).mono ?_
        rintro e w3 ⟨rfl, P3, g3⟩
        have P3 := hide P3
        have B3 := hide ((unhide hB).trans (grown_below g3 (unhide hB).size hb))
        clear g3 HA hP hB
        go_wp2_with fail
        go_roundw
        case rel => exact ⟨k + 1, by omega, by go_num, P3, B3⟩
        case measure => simp [intOf]; omega
    · obtain rfl : k = n := by omega
      obtain ⟨q, hq⟩ : ∃ q, min k 1024 = q := ⟨_, rfl⟩
      rw [hq] at hP
      have hq0 : 0 < q := by omega
      have hqm : min (k : Int) 1024 = (q : Int) := by omega
      have hz := add_zero hq0 (unhide hP).ok
      have HA := hide (add_at (unhide hP) R0 (rin_of _ _ _ _ _ (by decide +kernel)) 0 _ ⟨hz.1, rfl⟩)
      have HZ := hide hz.2
      clear hz hq hq0 hlt
      go_wp2_with fail
      refine (unhide HA).mono ?_
      rintro e w3 ⟨rfl, P3, g3⟩
      have B3 := hide ((unhide hB).trans (grown_below g3 (unhide hB).size hb))
      have HF := hide (find_at' P3 0 (by decide) R0 (unhide HZ).2)
      have P3 := hide P3
      clear g3 HA hP hB
      go_wp2_with fail
      refine (unhide HF).mono ?_
      rintro e w4 ⟨rfl, b4⟩
      have P4 := ((unhide P3).below b4).below (below_one w4 (.cells (rtCs R0) 32))
      have m4 := cell_of_row _ _ 3 _ _ _ (heap_alloc_new w4 (.cells (rtCs R0) 32))
      have B4 := hide ((unhide B3).trans ((tr2 b4 (below_one w4 (.cells (rtCs R0) 32))).mono (unhide B3).size))
      have HL := all_any P4
      rw [(unhide HZ).1] at HL
      have HL := hide HL
      clear P4 b4 HF B3 P3
      go_wp2_with fail
      refine (unhide HL).mono ?_
      rintro e w5 ⟨sp, cap, rfl, _, b5⟩
      have m5 := below_cell m4 b5
      have B5 := hide ((unhide B4).trans (b5.mono (unhide B4).size))
      clear b5 m4 B4 HL
      go_wp2_with fail
      refine (unhide HX _).mono ?_
      rintro e w6 ⟨rfl, b6⟩
      have B6 := hide ((unhide B5).trans (b6.mono (unhide B5).size))
      clear b6 m5
      go_wp2
      go_ret
      exact ⟨rfl, unhide B6⟩
end Go.Proofs.Ytmicgkoicmeflaa
