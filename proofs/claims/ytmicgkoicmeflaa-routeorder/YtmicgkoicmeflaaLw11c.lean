/- The statement RouteLongest of layer 11, as a contract over the loaded program. -/
import Derived.Test.YtmicgkoicmeflaaMa11
namespace Go.Proofs.Ytmicgkoicmeflaa
open Go.RowKit

theorem find_spec {L : List Rt} (h : OkL L) {ip : Nat} (hip : ip < 4294967296) {r : Rt} (hf : findR ip L = some r) :
    r ∈ L ∧ inB ip r.n (clip r.b) = true ∧ ∀ y ∈ L, inB ip y.n (clip y.b) = true → ¬ r.b < y.b ∧ (y.b = r.b → y = r) := by
  unfold findR at hf
  obtain ⟨hp, xs, bs, rfl, hn⟩ := List.find?_eq_some_iff_append.1 hf
  refine ⟨by simp, hp, fun y hy hin => ?_⟩
  rcases List.mem_append.1 hy with g | g
  · have := hn y g
    rw [hin] at this
    cases this
  · rcases List.mem_cons.1 g with rfl | g
    · exact ⟨Int.lt_irrefl _, fun _ => rfl⟩
    · have hs : ahd r y := by
        have := (List.pairwise_append.1 h.srt).2.1
        exact (List.pairwise_cons.1 this).1 y g
      have hr : r ∈ xs ++ r :: bs := by simp
      have e1 := (in_iff hip (h.may _ hr) (h.fit _ hr).n).1 hp
      have e2 := (in_iff hip (h.may _ hy) (h.fit _ hy).n).1 hin
      unfold ahd at hs
      refine ⟨by omega, fun e => ?_⟩
      rw [e] at e2
      omega
theorem find_any_in {L : List Rt} {ip : Nat} : (findR ip L).isSome = L.any fun y => inB ip y.n (clip y.b) := by
  unfold findR
  rw [List.isSome_find?]

theorem any_snoc' {α : Type} (f : α → Bool) (L : List α) (k : Nat) (hlt : k < L.length) (s : Bool) (hs : (L.take k).any f = s) : (L.take (k + 1)).any f = (s || f L[k]) := by
  rw [take_snoc' L k hlt, List.any_append, hs]
  simp
abbrev RZ : Rt := ⟨0, 0, 0, 0, 0⟩
theorem elim_rt (o : Option Rt) : o.elim rtZ rtV = rtV (o.getD RZ) := by cases o <;> rfl
theorem rin_zero : Rin RZ := rin_of _ _ _ _ _ (by decide +kernel)

set_option maxRecDepth 100000 in
set_option maxHeartbeats 4000000 in
theorem routeLongest_walk (lv : Value) (l : List Rt) (ip0 : Int) (w : World) (hl : IsRts w lv l) (hi : (Lit.int .u32 ip0).wf = true) :
    Calls Try.prog 4 #[lv, .int .u32 ip0] w fun e w' => e = .returned (.bool true) ∧ Below w.heap.size w w' := by
  obtain ⟨ip, rfl, hip⟩ := nat32 hi
  have HX := hide alive_any
  obtain ⟨a, ca, rfl⟩ := hl.1.slice
  by_cases h200 : l.length ≤ 200
  · have d0 : decide ((200 : Int) < (l.length : Int)) = false := decide_eq_false (by omega)
    have HM := hide (made_any hl (by omega))
    clear hl h200
    go_enter Try.func4, Try.ntmps4
    go_wp2_with fail
    refine (unhide HM).mono ?_
    rintro e w1 ⟨B1, ⟨L, p, b, -, rfl, P1, hp, hb⟩ | ⟨-, rfl⟩⟩
    · have hok := P1.ok
      replace B1 := hide B1
      have HF := find_any P1 ip hip
      obtain ⟨R, hR⟩ : ∃ R, (findR ip L).getD RZ = R := ⟨_, rfl⟩
      obtain ⟨F, hF⟩ : ∃ F, (findR ip L).isSome = F := ⟨_, rfl⟩
      have HRin : Hid (Rin R) := by
        rw [← hR]
        cases hf : findR ip L with
        | none => exact rin_zero
        | some r => exact hok.fit r (find_spec hok hip hf).1
      have HY : Hid (∀ y ∈ L, inB ip y.n (clip y.b) = true → ¬ R.b < y.b ∧ (y.b = R.b → y = R)) := by
        rw [← hR]
        intro y hy hin
        cases hf : findR ip L with
        | none =>
          have := find_any_in (L := L) (ip := ip)
          rw [hf] at this
          have h2 := List.any_eq_false.1 this.symm y hy
          exact absurd hin h2
        | some r => exact (find_spec hok hip hf).2.2 y hy hin
      have HS : Hid (F = L.any fun y => inB ip y.n (clip y.b)) := by rw [← hF]; exact find_any_in
      have HFR : Hid (F = true → inB ip R.n (clip R.b) = true) := by
        rw [← hF, ← hR]
        intro hs
        cases hf : findR ip L with
        | none => rw [hf] at hs; cases hs
        | some r => exact (find_spec hok hip hf).2.1
      have HFit := hide hok.fit
      rw [elim_rt, hR, hF] at HF
      replace HF := hide HF
      replace P1 := hide P1
      have hLn : L.length ≤ 1024 := hok.len
      clear hR hF hok HM
      go_wp2_with fail
      refine (unhide HF).mono ?_
      rintro e w4 ⟨rfl, b4⟩
      have B4 := hide ((unhide B1).trans ((tr2 b4 (below_one w4 (.cells (rtCs R) 32))).mono (unhide B1).size))
      have HA := hide (all_any ((unhide P1).below (tr2 b4 (below_one w4 (.cells (rtCs R) 32)))))
      have E4 := hide (heap_alloc_new w4 (.cells (rtCs R) 32))
      have H4 : w4.heap.size < (w4.alloc (.cells (rtCs R) 32)).heap.size := by simp
      clear HF b4 P1 B1
      go_wp2_with fail
      generalize w4.alloc (.cells (rtCs R) 32) = w5 at *
      refine (unhide HA).mono ?_
      rintro e w6 ⟨sp, cap, rfl, hr6, b6⟩
      have B6 := hide ((unhide B4).trans (b6.mono (unhide B4).size))
      have E6 : Hid (w6.heap[w4.heap.size]? = some (.cells (rtCs R) 32 (0, 0))) := (b6.block _ H4).trans (unhide E4)
      have HR6 := hide hr6
      have HIN := hide (fun W y (hy : y ∈ L) => rin_any ip y.n y.b W hip ((unhide HFit) y hy).n)
      have HIR := hide (fun W => rin_any ip R.n R.b W hip (unhide HRin).n)
      have h46 : w4.heap.size < w6.heap.size := Nat.lt_of_lt_of_le H4 b6.size
      clear hr6 b6 HA B4 E4 H4 HFit
      go_wp2_with fail
      go_loopw [10, 11] (fun s i wr => ∃ (k : Nat), k ≤ L.length ∧ i = .int .i64 (k : Int) ∧ Hid (s = .bool ((L.take k).any fun y => inB ip y.n (clip y.b))) ∧ Hid (Below w6.heap.size w6 wr)) (fun _ i _ => L.length - (intOf i).toNat)
      case atStart => exact ⟨0, Nat.zero_le _, rfl, rfl, Below.refl _ _⟩
      case round =>
        obtain ⟨k, hk, rfl, hS, hB⟩ := hrel
        obtain ⟨s, hs⟩ : ∃ s, ((L.take k).any fun y => inB ip y.n (clip y.b)) = s := ⟨_, rfl⟩
        have hSs := unhide hS
        rw [hs] at hSs
        subst hSs
        have hs := hide hs
        have E7 := ((unhide hB).block _ h46).trans (unhide E6)
        have q0 := cell_of_row _ _ 0 _ _ _ E7
        have q1 := cell_of_row _ _ 1 _ _ _ E7
        have q2 := cell_of_row _ _ 2 _ _ _ E7
        have q3 := cell_of_row _ _ 3 _ _ _ E7
        have q4 := cell_of_row _ _ 4 _ _ _ E7
        clear E7 hS
        by_cases hlt : k < L.length
        · have hkI : (k : Int) < (L.length : Int) := by omega
          obtain ⟨g, off, rfl, -, hg, z0, z1, z2, z3, z4⟩ := rts_cells ((unhide HR6).below (unhide hB)) hlt
          have HI := (fun W => unhide HIN W L[k] (List.getElem_mem hlt))
          have HYk := unhide HY L[k] (List.getElem_mem hlt)
          have HS2 := hide (any_snoc' (fun y : Rt => inB ip y.n (clip y.b)) L k hlt s (unhide hs))
          have HN := fun W => neq_rt L[k] R W
          generalize L[k] = y at *
          obtain ⟨t, ht⟩ : ∃ t, inB ip y.n (clip y.b) = t := ⟨_, rfl⟩
          rw [ht] at HI HYk HS2
          have HI := hide HI
          clear ht hs
          cases t with
          | false =>
            have HS3 := hide ((unhide HS2).trans (Bool.or_false s))
            clear HYk HN HS2
            go_wp2_with fail
            go_quiet ((go_at_call 19; exact Calls.quiet_of_same (unhide HI _)))
            cases s
            all_goals
              go_wp2_with fail
              go_quiet (fail)
              go_wp2_with fail
              go_roundw
              case rel => exact ⟨k + 1, by omega, by go_num, congrArg Value.bool (unhide HS3).symm, (unhide hB).trans ((below_drewN _ _).mono (unhide hB).size)⟩
              case measure => simp [intOf]; omega
          | true =>
            have HS3 := hide ((unhide HS2).trans (Bool.or_true s))
            obtain ⟨g1, g2⟩ := HYk rfl
            have d1 : decide (R.b < y.b) = false := decide_eq_false (by omega)
            clear g1 HS2
            by_cases hyR : y = R
            · subst hyR
              rw [decide_eq_true rfl] at HN
              have HNN := HN
              clear g2 hs
              go_wp2_with fail
              go_quiet ((go_at_call 19; exact Calls.quiet_of_same (unhide HI _)))
              cases s
              all_goals
                go_wp2_with fail
                go_quiet (fail)
                go_wp2_with fail
                go_roundw
                case rel => exact ⟨k + 1, by omega, by go_num, congrArg Value.bool (unhide HS3).symm, (unhide hB).trans ((below_drewN _ _).mono (unhide hB).size)⟩
                case measure => simp [intOf]; omega
            · have d2 : (y.b == R.b) = false := by rw [beq_eq_false_iff_ne]; exact fun e => hyR (g2 e)
              clear g2 HN hyR
              go_wp2_with fail
              go_quiet ((go_at_call 19; exact Calls.quiet_of_same (unhide HI _)))
              cases s
              all_goals
                go_wp2_with fail
                go_quiet (fail)
                go_wp2_with fail
                go_roundw
                case rel => exact ⟨k + 1, by omega, by go_num, congrArg Value.bool (unhide HS3).symm, (unhide hB).trans ((below_drewN _ _).mono (unhide hB).size)⟩
                case measure => simp [intOf]; omega
        · obtain rfl : k = L.length := by omega
          have hsF := unhide hs
          rw [List.take_length, ← unhide HS] at hsF
          subst hsF
          have BB := hide ((unhide B6).trans ((unhide hB).mono (unhide B6).size))
          cases F with
          | false =>
            go_wp2_with fail
            refine (unhide HX _).mono ?_
            rintro e w9 ⟨rfl, b9⟩
            have BF := hide ((unhide BB).trans (b9.mono (unhide BB).size))
            clear b9
            go_wp2_with fail
            go_ret
            exact ⟨rfl, unhide BF⟩
          | true =>
            have hin := unhide HFR rfl
            rw [hin] at HIR
            go_wp2_with fail
            refine (unhide HIR _).mono ?_
            rintro e w8 ⟨rfl, rfl⟩
            go_wp2_with fail
            refine (unhide HX _).mono ?_
            rintro e w9 ⟨rfl, b9⟩
            have BF := hide ((unhide BB).trans (b9.mono (unhide BB).size))
            clear b9
            go_wp2_with fail
            go_ret
            exact ⟨rfl, unhide BF⟩
    · replace B1 := hide B1
      clear HM
      go_wp2_with fail
      refine (unhide HX _).mono ?_
      rintro e w9 ⟨rfl, b9⟩
      have BF := hide ((unhide B1).trans (b9.mono (unhide B1).size))
      clear b9
      go_wp2_with fail
      go_ret
      exact ⟨rfl, unhide BF⟩
  · have d0 : decide ((200 : Int) < (l.length : Int)) = true := decide_eq_true (by omega)
    clear hl h200
    go_enter Try.func4, Try.ntmps4
    go_wp2_with fail
    refine (unhide HX _).mono ?_
    rintro e w9 ⟨rfl, b9⟩
    go_wp2_with fail
    go_ret
    exact ⟨rfl, b9⟩
end Go.Proofs.Ytmicgkoicmeflaa
