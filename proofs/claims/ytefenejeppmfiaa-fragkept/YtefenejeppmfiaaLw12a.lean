/- The statement FragKept of layer 12, as a contract over the loaded program. -/
import Derived.Test.YtefenejeppmfiaaAm12
import Derived.Test.YtefenejeppmfiaaLw10l
import Derived.Test.YtefenejeppmfiaaRk12
import Derived.Deep.QuietTactic
namespace Go.Proofs.Ytefenejeppmfiaa
open Go.RowKit

theorem kq_at {L : List Po} {i : Nat} (h : i < L.length) (hk : keep L[i] = true) : (L.filter keep)[(kq L i).length]? = some L[i] := by
  have e : L.filter keep = kq L i ++ (L.drop i).filter keep := by
    unfold kq
    rw [← List.filter_append, List.take_append_drop]
  rw [e, List.getElem?_append_right (Nat.le_refl _), Nat.sub_self, List.drop_eq_getElem_cons h, List.filter_cons, if_pos hk]
  rfl
theorem opts_cells {n₀ : Nat} {W : World} {sv : Value} {L : List Po} (h : OptsAt n₀ W sv L) {k : Nat} {x : Po} (hk : L[k]? = some x) :
    ∃ b off cap, sv = .slice (some ⟨b, off, none⟩) L.length cap ∧ W.cell? ⟨b, off + k * 2, none⟩ = some (.int .u8 (x.1 : Int)) ∧ W.cell? ⟨b, off + k * 2 + 1, none⟩ = some (.string x.2) := by
  rcases h with ⟨_, rfl⟩ | ⟨b, off, cap, e, _, hc⟩
  · cases hk
  · exact ⟨b, off, cap, e, hc k x hk⟩

set_option maxRecDepth 100000 in
set_option maxHeartbeats 4000000 in
theorem fragKept_walk (s : ByteArray) (_ : s.size ≤ maxLen) (w : World) :
    Calls Try.prog 6 #[.string s] w fun e w' => e = .returned (.bool true) ∧ Below w.heap.size w w' := by
  have HA := hide alive_ok
  by_cases hl : 256 < s.size
  · have d1 : decide ((256 : Int) < (s.size : Int)) = true := decide_eq_true (by omega)
    clear hl
    go_enter Try.func6, Try.ntmps6
    go_wp2_with fail
    refine (unhide HA _).mono ?_
    rintro e w1 ⟨rfl, b1⟩
    have B1 := hide b1
    go_wp2_with fail
    go_ret
    exact ⟨rfl, unhide B1⟩
  have d1 : decide ((256 : Int) < (s.size : Int)) = false := decide_eq_false (by omega)
  have HK := fun w => kept_any s w
  obtain ⟨L, e0, hro, hL⟩ := ro_ex s
  have H1 := hide (fun w => popt_any hro w)
  obtain ⟨K, hK⟩ : ∃ K, keptB s = K := ⟨_, rfl⟩
  rw [hK] at HK
  have HK := hide HK
  obtain ⟨M, f0, hro2, hM⟩ := ro_ex K
  have H2 := hide (fun w => popt_any hro2 w)
  by_cases he : e0 = 0
  · subst he
    obtain ⟨hs, hR⟩ : s.size ≤ 40 ∧ optsR s = some (L.map Po.op) := by
      rcases hro with ⟨_, _, h⟩ | ⟨_, _, _, h⟩ | ⟨h1, h2, _⟩
      · cases h
      · cases h
      · exact ⟨h1, h2⟩
    have hok := keptB_ok hs hR
    rw [hK] at hok
    obtain ⟨rfl, rfl⟩ : M = L.filter keep ∧ f0 = 0 := by
      rcases hro2 with ⟨h, _, _⟩ | ⟨_, h, _, _⟩ | ⟨_, h2, h3⟩
      · have := hok.le; omega
      · rw [hok.rd] at h; cases h
      · exact ⟨(map_op_inj (Option.some.inj (hok.rd.symm.trans h2))).symm, h3⟩
    have HKK : Hid (∀ w, Calls Try.prog 12 #[.string K] w fun e w' => e = .returned (.string K) ∧ Below w.heap.size w w') := fun w => by
      have h := kept_any K w
      rwa [show keptB K = K by rw [← hK]; exact keptB_again] at h
    have hKl := hok.le
    have hK4 : (K.size : Int) % 4 = 0 := by have := hok.four; omega
    have hKs : (K.size : Int) ≤ ((s.size : Int) + 3) / 4 * 4 := by have := hok.less; omega
    have hsx : IntKind.i64.wrap ((s.size : Int) + 3) = (s.size : Int) + 3 := by rw [IntKind.wrap_i64]; omega
    have HLL : Hid (L.length ≤ 65536) := hL
    have HML : Hid ((L.filter keep).length ≤ 65536) := hM
    clear hok hro hro2 hR hK hl hL hM
    go_enter Try.func6, Try.ntmps6
    go_wp2_with fail
    refine (unhide HK _).mono ?_
    rintro e w1 ⟨rfl, b1⟩
    have B1 := hide b1
    go_wp2_with fail
    refine (unhide H1 _).mono ?_
    rintro e w2 ⟨sp, sc, rfl, hO, b2⟩
    have B2 := hide (tr2 (unhide B1) b2)
    clear b1 b2 B1
    go_wp2_with fail
    refine (unhide H2 _).mono ?_
    rintro e w3 ⟨sp2, sc2, rfl, hO2, b3⟩
    have HO := hide (optsOn hO b3)
    have HO2 := hide hO2
    have B3 := hide (tr2 (unhide B2) b3)
    clear b3 B2 hO hO2
    go_wp2_with fail
    go_loopw [8, 9] (fun s8 s9 wr => ∃ i : Nat, s8 = .int .i64 ((kq L i).length : Int) ∧ s9 = .int .i64 (i : Int) ∧ i ≤ L.length ∧ Below w3.heap.size w3 wr) (fun _ s _ => L.length - (intOf s).toNat)
    case atStart => exact ⟨0, rfl, rfl, Nat.zero_le _, Below.refl _ _⟩
    case round =>
      obtain ⟨i, rfl, rfl, hi, hbel⟩ := hrel
      by_cases hlt : i < L.length
      · obtain ⟨g, off, cap, hsv, c0, c1⟩ := opts_cells ((unhide HO).below hbel) (List.getElem?_eq_getElem hlt)
        obtain ⟨rfl, rfl⟩ : sp = some ⟨g, off, none⟩ ∧ sc = cap := by
          injection hsv with h1 h2 h3
          exact ⟨h1, h3⟩
        obtain ⟨b, hb⟩ : ∃ b, keep L[i] = b := ⟨_, rfl⟩
        have hgd : decide ((128 : Int) ≤ (L[i].1 : Int)) = b := by
          rw [← hb]
          show _ = decide (128 ≤ L[i].1)
          rw [decide_eq_decide]; omega
        have HLL2 := unhide HLL
        cases b
        · have HS := hide (kq_same hlt hb)
          clear hb hsv
          generalize L[i] = x at *
          obtain ⟨x1, x2⟩ := x
          go_wp2_with fail
          go_roundw
          case rel => exact ⟨i + 1, by rw [unhide HS], by go_num, by omega, hbel⟩
          case measure => simp [intOf]; omega
        · have HS := hide (kq_more hlt hb)
          have hat := kq_at hlt hb
          have hal : (kq L i).length < (L.filter keep).length := (List.getElem?_eq_some_iff.1 hat).1
          obtain ⟨g2, off2, cap2, hsv2, a0, a1⟩ := opts_cells ((unhide HO2).below hbel) hat
          obtain ⟨rfl, rfl⟩ : sp2 = some ⟨g2, off2, none⟩ ∧ sc2 = cap2 := by
            injection hsv2 with h1 h2 h3
            exact ⟨h1, h3⟩
          have HML2 := unhide HML
          clear hb hsv hsv2 hat
          generalize L[i] = x at *
          obtain ⟨x1, x2⟩ := x
          generalize (L.filter keep).length = ml at *
          generalize hal2 : (kq L i).length = at' at *
          have HAL := hide hal2
          have e1 : decide ((ml : Int) ≤ (at' : Int)) = false := decide_eq_false (by omega)
          have e1n : decide (ml ≤ at') = false := decide_eq_false (by omega)
          have e2 : (at' : Int) < (ml : Int) := by omega
          have e3 : (i : Int) < (L.length : Int) := by omega
          have hne : ∀ w, (binOp .neq 44 (.agg #[.int .u8 (x1 : Int), .string x2]) (.agg #[.int .u8 (x1 : Int), .string x2])).run Try.prog w = .ok (.bool false) w := fun w => by
            have h := neq_po (x1, x2) (x1, x2) w
            rw [decide_eq_true rfl] at h
            exact h
          clear hal2 hal
          go_wp2_with fail
          go_quiet (fail)
          go_wp2_with fail
          go_roundw
          case rel => exact ⟨i + 1, by rw [unhide HS, List.length_append, unhide HAL]; simp, by go_num, by omega, below_drewN' .. |> fun q => hbel.trans (q.mono hbel.size)⟩
          case measure => simp [intOf]; omega
      · obtain rfl : i = L.length := by omega
        have hkq : kq L L.length = L.filter keep := by unfold kq; rw [List.take_length]
        rw [hkq]
        have HML2 := unhide HML
        clear hkq
        generalize (L.filter keep).length = ml at *
        have B4 := hide (tr2 (unhide B3) hbel)
        clear hbel
        go_wp2_with fail
        refine (unhide HKK _).mono ?_
        rintro e w5 ⟨rfl, b5⟩
        have B5 := hide (tr2 (unhide B4) b5)
        clear b5
        go_wp2_with fail
        refine (unhide HA _).mono ?_
        rintro e w6 ⟨rfl, b6⟩
        have B6 := hide (tr2 (unhide B5) b6)
        go_wp2_with fail
        go_ret
        exact ⟨rfl, unhide B6⟩
  · have hK0 : K = ⟨#[]⟩ := by
      rcases hro with ⟨h, _, _⟩ | ⟨_, h, _, _⟩ | ⟨_, _, h⟩
      · rw [← hK]; exact keptB_long h
      · rw [← hK]; exact keptB_no h
      · exact absurd h he
    have he' : ((e0 : Int) != 0) = true := by simpa using he
    subst hK0
    clear hro hro2 hK hl hL hM he
    go_enter Try.func6, Try.ntmps6
    go_wp2_with fail
    refine (unhide HK _).mono ?_
    rintro e w1 ⟨rfl, b1⟩
    have B1 := hide b1
    go_wp2_with fail
    refine (unhide H1 _).mono ?_
    rintro e w2 ⟨sp, sc, rfl, hO, b2⟩
    have B2 := hide (tr2 (unhide B1) b2)
    clear b1 b2 B1 hO
    go_wp2_with fail
    refine (unhide H2 _).mono ?_
    rintro e w3 ⟨sp2, sc2, rfl, hO2, b3⟩
    have B3 := hide (tr2 (unhide B2) b3)
    clear b3 B2 hO2
    go_wp2_with fail
    refine (unhide HA _).mono ?_
    rintro e w6 ⟨rfl, b6⟩
    have B6 := hide (tr2 (unhide B3) b6)
    go_wp2_with fail
    go_ret
    exact ⟨rfl, unhide B6⟩
end Go.Proofs.Ytefenejeppmfiaa
