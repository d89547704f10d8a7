/- The contract of the law's Heavy, over the loaded program; no memory that was there has turned. -/
import Derived.Test.YtekljiakofmhnaaIn13
namespace Go.Proofs.Ytekljiakofmhnaa
open Go.RowKit Go.Shelf

theorem ClsAt.at {w : World} {a : Option Addr} {n cap : Nat} {L : List Cl} (h : ClsAt w (.slice a n cap) L) {i : Nat} {x : Cl} (hi : L[i]? = some x) : ∃ g off, a = some ⟨g, off, none⟩ ∧ n = L.length ∧ n ≤ cap ∧ cap ≤ maxLen ∧ g < w.heap.size ∧ ∀ j v, (clCs x)[j]? = some v → w.cell? ⟨g, off + i * 13 + j, none⟩ = some v := by
  rcases h with ⟨_, e⟩ | ⟨g, off, cap', e, h1, h2, hg, hc⟩
  · rw [e] at hi; simp at hi
  · injection e with e1 e2 e3
    subst e3
    exact ⟨g, off, e1, e2, by omega, h2, hg, hc i x hi⟩
set_option maxRecDepth 20000 in
set_option maxHeartbeats 1000000 in
theorem heavy_any (sv : Value) (L : List Cl) (w : World) (h : ClsAt w sv L) (hL : L.length ≤ 9223372036854775807) (hsz : ∀ x ∈ L, x.s.size ≤ 140737488355328 ∧ x.h.op.size ≤ 140737488355328) :
    Calls Try.prog 6 #[sv] w fun e w' => (∃ r, e = .returned (.bool r) ∧ (r = false → L.length ≤ 100 ∧ ∀ x ∈ L, x.s.size ≤ 262144 ∧ x.h.op.size ≤ 262144)) ∧ Below w.heap.size w w' := by
  obtain ⟨a, cap, rfl⟩ := h.slice
  by_cases hlen : 100 < L.length
  · have hd : decide ((100 : Int) < (L.length : Int)) = true := by simpa using by omega
    go_enter Try.func6, Try.ntmps6
    go_wp2_with fail
    go_ret
    exact ⟨⟨true, rfl, fun e => by cases e⟩, Below.refl _ _⟩
  · have hH := hide h
    have hS := hide hsz
    clear h hsz
    go_enter Try.func6, Try.ntmps6
    go_wp2_with fail
    go_loopw [3, 4] (fun n i wr => ∃ (k m : Nat), k ≤ L.length ∧ i = .int .i64 (k : Int) ∧ n = .int .i64 (m : Int) ∧ m ≤ 262144 ∧ (∀ x ∈ L.take k, x.s.size ≤ 262144 ∧ x.h.op.size ≤ 262144) ∧ Below w.heap.size w wr) (fun _ i _ => L.length - (intOf i).toNat)
    case atStart => exact ⟨0, 0, Nat.zero_le _, rfl, rfl, by omega, by simp, Below.refl _ _⟩
    case round =>
      obtain ⟨k, m, hk, rfl, rfl, hm, hall, hB⟩ := hrel
      by_cases hlt : k < L.length
      · obtain ⟨x, hx⟩ : ∃ x, L[k]? = some x := ⟨_, List.getElem?_eq_getElem hlt⟩
        obtain ⟨g, off, rfl, -, hcap, hmx, hg, hc⟩ := (unhide hH).at hx
        have hc := fun j v hj => (hB.cell (p := ⟨g, off + k * 13 + j, none⟩) hg).trans (hc j v hj)
        have c2 : wr.cell? ⟨g, off + k * 13 + 11, none⟩ = some (.string x.s) := hc 11 _ rfl
        have c1 : wr.cell? ⟨g, off + k * 13 + 10, none⟩ = some (.string x.h.op) := hc 10 _ rfl
        have hsx := unhide hS x (List.mem_of_getElem? hx)
        have x1 : IntKind.i64.wrap ((m : Int) + (x.s.size : Nat)) = ((m + x.s.size : Nat) : Int) := by rw [IntKind.wrap_i64]; omega
        have x2 : IntKind.i64.wrap (((m + x.s.size : Nat) : Int) + (x.h.op.size : Nat)) = ((m + x.s.size + x.h.op.size : Nat) : Int) := by rw [IntKind.wrap_i64]; omega
        have c1' : wr.cell? ⟨g, off + k * 13 + 1 + 9, none⟩ = some (.string x.h.op) := c1
        have q1 := cell_regrown c1
        have q3 := cell_regrown c1'
        have q2 := cell_regrown c2
        have HX := hide hx
        have HA := hide hall
        clear hc hx hall c1 c2
        by_cases hbig : 262144 < m + x.s.size + x.h.op.size
        · have hd : decide ((262144 : Int) < ((m + x.s.size + x.h.op.size : Nat) : Int)) = true := by simpa using by omega
          go_wp2_with fail
          refine wp_region_quiet_below (by kernel_rfl) (by kernel_rfl) ?_
          repeat (go_big_quiet_step (fail))
          refine wpQuiet_nil ?_
          intro _ hw'
          obtain ⟨⟨dq, osq⟩, hw''⟩ := hw'
          subst hw''
          have BW := tr2 hB (below_regrown wr dq osq)
          go_wp2_with fail
          go_ret
          exact ⟨⟨true, rfl, fun e => by cases e⟩, BW⟩
        · have hd : decide ((262144 : Int) < ((m + x.s.size + x.h.op.size : Nat) : Int)) = false := by simpa using by omega
          go_wp2_with fail
          refine wp_region_quiet_below (by kernel_rfl) (by kernel_rfl) ?_
          repeat (go_big_quiet_step (fail))
          refine wpQuiet_nil ?_
          intro _ hw'
          obtain ⟨⟨dq, osq⟩, hw''⟩ := hw'
          subst hw''
          have BW := tr2 hB (below_regrown wr dq osq)
          go_wp2_with fail
          go_roundw
          case rel =>
            refine ⟨k + 1, m + x.s.size + x.h.op.size, by omega, by go_num, rfl, by omega, ?_, BW⟩
            intro y hy
            rw [take_snoc' L k hlt, List.mem_append] at hy
            rcases hy with hy | hy
            · exact unhide HA y hy
            · obtain ⟨hl, hxe⟩ := List.getElem?_eq_some_iff.1 (unhide HX)
              obtain rfl : y = x := by rw [← hxe]; simpa using hy
              omega
          case measure => simp [intOf]; omega
      · obtain rfl : k = L.length := by omega
        rw [List.take_length] at hall
        go_wp2_with fail
        go_ret
        exact ⟨⟨false, rfl, fun _ => ⟨by omega, hall⟩⟩, hB⟩

end Go.Proofs.Ytekljiakofmhnaa
