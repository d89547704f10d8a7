/- The contracts of the document's Find and Same over a table of routes (layer 11), over the loaded program. -/
import Derived.Test.YtmicgkoicmeflaaRw11
namespace Go.Proofs.Ytmicgkoicmeflaa
open Go.RowKit

theorem find_hit {L : List Rt} {ip k : Nat} (hk : k < L.length) (hn : ∀ y ∈ L.take k, inB ip y.n (clip y.b) = false) (h : inB ip L[k].n (clip L[k].b) = true) : findR ip L = some L[k] := by
  unfold findR
  rw [List.find?_eq_some_iff_append]
  refine ⟨h, L.take k, L.drop (k + 1), ?_, fun y hy => by simp [hn y hy]⟩
  rw [← List.drop_eq_getElem_cons hk, List.take_append_drop]
theorem find_off {L : List Rt} {ip : Nat} (hn : ∀ y ∈ L, inB ip y.n (clip y.b) = false) : findR ip L = none := by
  unfold findR
  rw [List.find?_eq_none]
  intro y hy
  simp [hn y hy]

set_option maxRecDepth 100000 in
set_option maxHeartbeats 2000000 in
theorem rfind_v {w : World} {x : Nat} {L : List Rt} (h : RD w x L) (hL : OkL L) (ip : Nat) (hip : ip < 4294967296) (V : Value) (tt : Bool) (HV : Hid (V = (findR ip L).elim rtZ rtV ∧ tt = (findR ip L).isSome)) :
    Calls Try.prog 15 #[.pointer (some ⟨x, 0, none⟩), .int .u32 (ip : Int)] w fun e w' => e = .returned (.tuple #[V, .bool tt]) ∧ Below w.heap.size w w' := by
  have hx := h.lt
  have hle := hL.len
  have HF := hide hL.fit
  obtain ⟨sv, hb, hr, _⟩ := h
  obtain ⟨a, cap, rfl⟩ := hr.slice
  have B0 := below_one w (.cells zCs 32)
  have HR := hide (hr.below B0)
  have hc0 : w.cell? ⟨x, 0, none⟩ = some (.slice a L.length cap) := by simp [World.cell?, hb]
  have hc1 := below_cell hc0 B0
  have e0 := heap_alloc_new w (.cells zCs 32)
  have E0 := hide e0
  have BB := hide B0
  have hx1 : x < (w.alloc (.cells zCs 32)).heap.size := by simp; omega
  clear hr hb hL hc0 e0 B0
  go_enter Try.func15, Try.ntmps15
  go_wp2_with fail
  generalize w.alloc (.cells zCs 32) = w1 at *
  go_loopw [6] (fun i wr => ∃ (k n : Nat), k ≤ L.length ∧ i = .int .i64 (k : Int) ∧ Hid (∀ y ∈ L.take k, inB ip y.n (clip y.b) = false) ∧ wr = w1.drewN n) (fun i _ => L.length - (intOf i).toNat)
  case atStart => exact ⟨0, 0, Nat.zero_le _, rfl, (fun y hy => by simp at hy), rfl⟩
  case round =>
    obtain ⟨k, n, hk, rfl, hN, rfl⟩ := hrel
    have hcx : (w1.drewN n).cell? ⟨x, 0, none⟩ = some (.slice a L.length cap) := hc1
    by_cases hlt : k < L.length
    · have hkI : (k : Int) < (L.length : Int) := by omega
      obtain ⟨g, off, rfl, _, hg, z0, z1, z2, z3, z4⟩ := rts_cells (unhide HR) hlt
      have y0 := below_cell z0 (below_drewN w1 n)
      have y1 := below_cell z1 (below_drewN w1 n)
      have y2 := below_cell z2 (below_drewN w1 n)
      have y3 := below_cell z3 (below_drewN w1 n)
      have y4 := below_cell z4 (below_drewN w1 n)
      have HIN := fun W => rin_any ip L[k].n L[k].b W hip ((unhide HF) L[k] (List.getElem_mem _)).n
      have HS := hide (take_snoc' L k hlt)
      have HH := hide (fun hh => find_hit hlt (unhide hN) hh)
      obtain ⟨y, hy⟩ : ∃ y, y = L[k] := ⟨_, rfl⟩
      rw [← hy] at y0 y1 y2 y3 y4 z0 z1 z2 z3 z4 HS HIN
      have HY := hide hy
      have hlt' := hlt
      clear hy
      by_cases hi : inB ip y.n (clip y.b) = true
      · have hf : findR ip L = some y := by
          rw [unhide HY]
          exact unhide HH (by rw [← unhide HY]; exact hi)
        obtain ⟨hv1, hv2⟩ := unhide HV
        rw [hf] at hv1 hv2
        obtain rfl : V = rtV y := hv1
        obtain rfl : tt = true := hv2
        rw [hi] at HIN
        replace HIN := hide HIN
        have E1 : (w1.drewN n).heap[w.heap.size]? = some (.cells zCs 32 (0, 0)) := unhide E0
        have BN := hide (tr2 (unhide BB) (below_drewN w1 n))
        clear hi hf hN HH HV HF HS E0 BB HR hc1 z0 z1 z2 z3 z4 hx1
        generalize w1.drewN n = wn at *
        go_wp2_with fail
        go_quiet ((go_at_call 19; exact Calls.quiet_of_same (unhide HIN _)))
        have E2 : (wn.drewN nq).heap[w.heap.size]? = some (.cells zCs 32 (0, 0)) := E1
        have hcx := below_cell hcx (below_drewN _ nq)
        have y0 := below_cell y0 (below_drewN _ nq)
        have y1 := below_cell y1 (below_drewN _ nq)
        have y2 := below_cell y2 (below_drewN _ nq)
        have y3 := below_cell y3 (below_drewN _ nq)
        have y4 := below_cell y4 (below_drewN _ nq)
        have BQ := hide (tr2 (unhide BN) (below_drewN _ nq))
        generalize wn.drewN nq = wq at *
        have q0 := cell_of_row _ _ 0 _ _ _ E2
        have q1 := cell_of_row _ _ 1 _ _ _ E2
        have q2 := cell_of_row _ _ 2 _ _ _ E2
        have q3 := cell_of_row _ _ 3 _ _ _ E2
        have q4 := cell_of_row _ _ 4 _ _ _ E2
        have hf : ∀ j, wq.frozen? ⟨w.heap.size, j, none⟩ = false := fun j => by simp [World.frozen?, E2]
        have f0 := hf 0
        have f1 := hf 1
        have f2 := hf 2
        have f3 := hf 3
        have f4 := hf 4
        obtain ⟨w6, e6, b6, h6⟩ := five_store wq w.heap.size _ _ _ _ _ (.int .u32 (y.n : Int)) (.int .i64 y.b) (.int .u32 (y.v : Int)) (.int .i64 y.c) (.int .u32 (y.s : Int)) _ E2 w.heap.size (Nat.le_refl _)
        have HE := hide (And.intro e6 (And.intro h6 b6))
        clear hf e6 h6 b6 E2 E1
        go_wp2_with fail
        obtain ⟨e6, h6, b6⟩ := unhide HE
        rw [← e6]
        have r0 := cell_of_row _ _ 0 _ _ _ h6
        have r1 := cell_of_row _ _ 1 _ _ _ h6
        have r2 := cell_of_row _ _ 2 _ _ _ h6
        have r3 := cell_of_row _ _ 3 _ _ _ h6
        have r4 := cell_of_row _ _ 4 _ _ _ h6
        exact bodyPost_ret (v := .tuple #[rtV y, .bool true]) (by simp [results, Try.results15, go_sem, r0, r1, r2, r3, r4]) rfl ⟨rfl, (unhide BQ).trans b6⟩
      · have hi' : inB ip y.n (clip y.b) = false := by simpa using hi
        rw [hi'] at HIN
        replace HIN := hide HIN
        have HN2 : Hid (∀ y ∈ L.take (k + 1), inB ip y.n (clip y.b) = false) := fun z hz => by
          rw [unhide HS] at hz
          rcases List.mem_append.1 hz with g | g
          · exact unhide hN z g
          · rw [List.mem_singleton.1 g]; exact hi'
        have HW : Hid (∀ m, (w1.drewN n).drewN m = w1.drewN (n + m)) := fun m => by simp
        clear hi hi' hN HH HF HS HY hc1 z0 z1 z2 z3 z4
        generalize hwn : w1.drewN n = wn at *
        have hwn := hide hwn
        go_wp2_with fail
        go_quiet ((go_at_call 19; exact Calls.quiet_of_same (unhide HIN _)))
        go_wp2_with fail
        refine ⟨⟨k + 1, n + nq, by omega, by go_num, unhide HN2, ?_⟩, ?_⟩
        · rw [← unhide HW]
        · simp [intOf]
          omega
    · obtain rfl : k = L.length := by omega
      have hN2 := unhide hN
      rw [List.take_length] at hN2
      have hf : findR ip L = none := find_off hN2
      obtain ⟨hv1, hv2⟩ := unhide HV
      rw [hf] at hv1 hv2
      obtain rfl : V = rtZ := hv1
      obtain rfl : tt = false := hv2
      have E2 : (w1.drewN n).heap[w.heap.size]? = some (.cells zCs 32 (0, 0)) := unhide E0
      have BQ := hide (tr2 (unhide BB) (below_drewN w1 n))
      clear hN2 hf hN HF HV
      generalize w1.drewN n = wq at *
      have q0 := cell_of_row _ _ 0 _ _ _ E2
      have q1 := cell_of_row _ _ 1 _ _ _ E2
      have q2 := cell_of_row _ _ 2 _ _ _ E2
      have q3 := cell_of_row _ _ 3 _ _ _ E2
      have q4 := cell_of_row _ _ 4 _ _ _ E2
      have hf : ∀ j, wq.frozen? ⟨w.heap.size, j, none⟩ = false := fun j => by simp [World.frozen?, E2]
      have f0 := hf 0
      have f1 := hf 1
      have f2 := hf 2
      have f3 := hf 3
      have f4 := hf 4
      obtain ⟨w6, e6, b6, h6⟩ := five_store wq w.heap.size _ _ _ _ _ (.int .u32 0) (.int .i64 0) (.int .u32 0) (.int .i64 0) (.int .u32 0) _ E2 w.heap.size (Nat.le_refl _)
      have HE := hide (And.intro e6 (And.intro h6 b6))
      clear hf e6 h6 b6 E2
      go_wp2_with fail
      obtain ⟨e6, h6, b6⟩ := unhide HE
      rw [← e6]
      have r0 := cell_of_row _ _ 0 _ _ _ h6
      have r1 := cell_of_row _ _ 1 _ _ _ h6
      have r2 := cell_of_row _ _ 2 _ _ _ h6
      have r3 := cell_of_row _ _ 3 _ _ _ h6
      have r4 := cell_of_row _ _ 4 _ _ _ h6
      exact bodyPost_ret (v := .tuple #[rtZ, .bool false]) (by simp [results, Try.results15, go_sem, r0, r1, r2, r3, r4]) rfl ⟨rfl, (unhide BQ).trans b6⟩
theorem rfind_any {w : World} {x : Nat} {L : List Rt} (h : RD w x L) (hL : OkL L) (ip : Nat) (hip : ip < 4294967296) :
    Calls Try.prog 15 #[.pointer (some ⟨x, 0, none⟩), .int .u32 (ip : Int)] w fun e w' => e = .returned (.tuple #[(findR ip L).elim rtZ rtV, .bool (findR ip L).isSome]) ∧ Below w.heap.size w w' :=
  rfind_v h hL ip hip _ _ ⟨rfl, rfl⟩

set_option maxRecDepth 100000 in
set_option maxHeartbeats 2000000 in
theorem same_any {w : World} {u v : Value} {A B : List Rt} (hA : RtsAt w u A) (hB : RtsAt w v B) (hl : A.length ≤ 1048576) :
    Calls Try.prog 16 #[u, v] w fun e w' => e = .returned (.bool (decide (A = B))) ∧ Below w.heap.size w w' := by
  obtain ⟨r, hr, hre⟩ := hidec (A = B)
  rw [← hre]
  clear hre
  obtain ⟨a, ca, rfl⟩ := hA.slice
  obtain ⟨b, cb, rfl⟩ := hB.slice
  by_cases hlen : A.length = B.length
  · have HA := hide hA
    have HB := hide hB
    rw [hlen] at HA hl
    have hlen' := hide hlen
    clear hA hB
    have e1 : ((B.length : Int) != (B.length : Int)) = false := by simp
    rw [hlen]
    go_enter Try.func16, Try.ntmps16
    clear hlen
    go_wp2_with fail
    go_loopw [5] (fun i wr => ∃ (k n : Nat), k ≤ B.length ∧ i = .int .i64 (k : Int) ∧ Hid (A.take k = B.take k) ∧ wr = w.drewN n) (fun i _ => B.length - (intOf i).toNat)
    case atStart => exact ⟨0, 0, Nat.zero_le _, rfl, rfl, rfl⟩
    case round =>
      obtain ⟨k, n, hk, rfl, hS, rfl⟩ := hrel
      by_cases hlt : k < B.length
      · have hkI : (k : Int) < (B.length : Int) := by omega
        have hltA : k < A.length := by rw [unhide hlen']; exact hlt
        obtain ⟨g, off, rfl, -, hg, x0, x1, x2, x3, x4⟩ := rts_cells (unhide HA) hltA
        obtain ⟨g', off', rfl, -, hg', y0, y1, y2, y3, y4⟩ := rts_cells (unhide HB) hlt
        have x0 := below_cell x0 (below_drewN w n)
        have x1 := below_cell x1 (below_drewN w n)
        have x2 := below_cell x2 (below_drewN w n)
        have x3 := below_cell x3 (below_drewN w n)
        have x4 := below_cell x4 (below_drewN w n)
        have y0 := below_cell y0 (below_drewN w n)
        have y1 := below_cell y1 (below_drewN w n)
        have y2 := below_cell y2 (below_drewN w n)
        have y3 := below_cell y3 (below_drewN w n)
        have y4 := below_cell y4 (below_drewN w n)
        have HN := fun W => neq_rt A[k] B[k] W
        have HT1 := hide (take_snoc' A k hltA)
        have HT2 := hide (take_snoc' B k hlt)
        by_cases he : A[k] = B[k]
        · have HE : Hid (A.take (k + 1) = B.take (k + 1)) := by rw [unhide HT1, unhide HT2, unhide hS, he]; exact rfl
          rw [decide_eq_true he] at HN
          clear he HT1 HT2 hS hr
          generalize A[k] = p at *
          generalize B[k] = q at *
          go_wp2_with fail
          go_quiet (fail)
          go_wp2_with fail
          refine ⟨⟨k + 1, n + nq, by omega, by go_num, unhide HE, ?_⟩, ?_⟩
          · rw [← World.drewN_drewN]
          · simp [intOf]
            omega
        · have HF : Hid (r = false) := by
            refine Bool.eq_false_iff.2 (fun e => he ?_)
            have := (unhide hr).1 e
            subst this
            rfl
          rw [decide_eq_false he] at HN
          have BD := hide (below_drewN w n)
          clear he HT1 HT2 hS hr
          generalize A[k] = p at *
          generalize B[k] = q at *
          go_wp2_with fail
          go_quiet (fail)
          go_wp2_with fail
          go_ret
          exact ⟨ret_bool (unhide HF).symm, tr2 (unhide BD) (below_drewN _ _)⟩
      · obtain rfl : k = B.length := by omega
        have HT : Hid (r = true) := by
          refine (unhide hr).2 ?_
          have := unhide hS
          rw [List.take_length, ← unhide hlen', List.take_length] at this
          exact this
        have BD := hide (below_drewN w n)
        clear hS hr hlt
        go_wp2_with fail
        go_ret
        exact ⟨ret_bool (unhide HT).symm, unhide BD⟩
  · have e1 : ((A.length : Int) != (B.length : Int)) = true := by rw [bne_iff_ne]; omega
    have HF : Hid (r = false) := by
      refine Bool.eq_false_iff.2 (fun e => hlen ?_)
      rw [(unhide hr).1 e]
    have e2 : (A.length != B.length) = true := by rw [bne_iff_ne]; exact hlen
    clear hlen hA hB hr
    go_enter Try.func16, Try.ntmps16
    go_wp2_with fail
    go_ret
    exact ⟨ret_bool (unhide HF).symm, Below.refl _ _⟩
end Go.Proofs.Ytmicgkoicmeflaa
