/- The contract of the laws' made (layer 11), over the loaded program. -/
import Derived.Test.YtmicgkoicmeflaaIn11
import Derived.Test.YtmicgkoicmeflaaRz11
namespace Go.Proofs.Ytmicgkoicmeflaa
open Go.RowKit

/-- routes added one after another; none where one may not be -/
def madeR : List Rt → List Rt → Option (List Rt)
  | acc, [] => some acc
  | acc, r :: l => if addE r acc = 0 then madeR (addT r acc) l else none
theorem made_yes {r : Rt} {acc l : List Rt} (h : addE r acc = 0) : madeR acc (r :: l) = madeR (addT r acc) l := by
  rw [madeR, if_pos h]
theorem made_no {r : Rt} {acc l : List Rt} (h : addE r acc ≠ 0) : madeR acc (r :: l) = none := by
  rw [madeR, if_neg h]

set_option maxRecDepth 100000 in
set_option maxHeartbeats 2000000 in
theorem made_any {w : World} {v : Value} {l : List Rt} (h : IsRts w v l) (hl : l.length ≤ 1000000) :
    Calls Try.prog 18 #[v] w fun e w' => Below w.heap.size w w' ∧ ((∃ L p b, madeR [] l = some L ∧ e = .returned (.tuple #[.pointer (some ⟨p, 0, none⟩), .bool true]) ∧ PT w' p b L ∧ w.heap.size ≤ p ∧ w.heap.size ≤ b) ∨ (madeR [] l = none ∧ e = .returned (.tuple #[.pointer none, .bool false]))) := by
  have HN := hide (new_any w)
  have HR := hide h.1
  have HF := hide h.2
  obtain ⟨a, ca, rfl⟩ := h.1.slice
  clear h
  go_enter Try.func18, Try.ntmps18
  go_wp2_with fail
  refine (unhide HN).mono ?_
  rintro e w1 ⟨p, b, rfl, P1, B1, hp, hb⟩
  have P1 := hide P1
  have B1 := hide B1
  clear HN
  go_wp2_with fail
  go_loopw [5] (fun i wr => ∃ (k : Nat) (acc : List Rt), k ≤ l.length ∧ i = .int .i64 (k : Int) ∧ Hid (madeR [] l = madeR acc (l.drop k)) ∧ Hid (PT wr p b acc) ∧ Hid (Below w.heap.size w wr)) (fun i _ => l.length - (intOf i).toNat)
  case atStart => exact ⟨0, [], Nat.zero_le _, rfl, rfl, P1, B1⟩
  case round =>
    clear P1 B1
    obtain ⟨k, acc, hk, rfl, hM, hP, hB⟩ := hrel
    by_cases hlt : k < l.length
    · have hkI : (k : Int) < (l.length : Int) := by omega
      obtain ⟨g, off, rfl, -, hg, z0, z1, z2, z3, z4⟩ := rts_cells ((unhide HR).below (unhide hB)) hlt
      have HA := hide (fun c L' (he : addE l[k] acc = c ∧ addT l[k] acc = L') => add_at (unhide hP) l[k] ((unhide HF) _ (List.getElem_mem hlt)) c L' he)
      have HD := hide (List.drop_eq_getElem_cons hlt)
      generalize l[k] = r at *
      by_cases h0 : addE r acc = 0
      · have HA := hide (unhide HA 0 _ ⟨h0, rfl⟩)
        have HM : Hid (madeR [] l = madeR (addT r acc) (l.drop (k + 1))) := by
          rw [unhide hM, unhide HD]
          exact made_yes h0
        clear h0
        generalize addT r acc = L' at *
        go_wp2_with fail
        refine (unhide HA).mono ?_
        rintro e w3 ⟨rfl, P3, g3⟩
        have P3 := hide P3
        have B3 := hide ((unhide hB).trans (grown_below g3 (unhide hB).size hb))
        clear g3 HA hP hB hM HD
        go_wp2_with fail
        go_roundw
        case rel => exact ⟨k + 1, L', by omega, by go_num, HM, P3, B3⟩
        case measure => simp [intOf]; omega
      · obtain ⟨c, hc⟩ : ∃ c, addE r acc = c := ⟨_, rfl⟩
        have HA := hide (unhide HA c _ ⟨hc, rfl⟩)
        have HM : Hid (madeR [] l = none) := by
          rw [unhide hM, unhide HD]
          exact made_no h0
        rw [hc] at h0
        have d1 : (c != 0) = true := by rw [bne_iff_ne]; exact h0
        clear h0 hc
        go_wp2_with fail
        refine (unhide HA).mono ?_
        rintro e w3 ⟨rfl, P3, g3⟩
        have B3 := hide ((unhide hB).trans (grown_below g3 (unhide hB).size hb))
        clear g3 HA hP hB hM HD P3
        go_wp2_with fail
        exact bodyPost_ret (v := .tuple #[.pointer none, .bool false]) (by simp [results, Try.results18, go_sem]) rfl ⟨unhide B3, .inr ⟨unhide HM, rfl⟩⟩
    · obtain rfl : k = l.length := by omega
      have HM : Hid (madeR [] l = some acc) := by
        rw [unhide hM, List.drop_length]
        rfl
      go_wp2_with fail
      exact bodyPost_ret (v := .tuple #[.pointer (some ⟨p, 0, none⟩), .bool true]) (by simp [results, Try.results18, go_sem]) rfl ⟨unhide hB, .inl ⟨acc, p, b, unhide HM, rfl, unhide hP, hp, hb⟩⟩
end Go.Proofs.Ytmicgkoicmeflaa
