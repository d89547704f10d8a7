/- The statement FragWhole of layer 12, as a contract over the loaded program. -/
import Derived.Test.YtefenejeppmfiaaAm12
import Derived.Deep.QuietTactic
import Derived.Deep.CutRange
import Derived.Deep.CutBlock
namespace Go.Proofs.Ytefenejeppmfiaa
open Go.RowKit

theorem strs_cells {n₀ : Nat} {W : World} {sv : Value} {T : List ByteArray} (h : Strs n₀ W sv T) {k : Nat} {t : ByteArray} (hk : T[k]? = some t) :
    ∃ b off cap, sv = .slice (some ⟨b, off, none⟩) T.length cap ∧ W.cell? ⟨b, off + k, none⟩ = some (.string t) := by
  rcases h with ⟨_, rfl⟩ | ⟨b, off, cap, e, _, hc⟩
  · cases hk
  · have hl := (List.getElem?_eq_some_iff.1 hk).1
    have := hc k hl
    rw [hk] at this
    exact ⟨b, off, cap, e, this⟩
theorem strsOn {w w' : World} {sv : Value} {L : List ByteArray} (h : Strs w.heap.size w sv L) (b : Below w.heap.size w w') : Strs w'.heap.size w' sv L := by
  rcases h.below b with q | ⟨g, off, cap, e, hb, hc⟩
  · exact .inl q
  · exact .inr ⟨g, off, cap, e, Nat.lt_of_lt_of_le hb b.size, hc⟩

set_option maxRecDepth 100000 in
set_option maxHeartbeats 8000000 in
theorem whole_main (h : Rh) (d K : ByteArray) (room : Int) (w : World) (L : List Pc) (hv : HOk h d.size) (HP : Hid (PcOk h K room L)) (HD : Hid (datL L = d)) (hlen : L.length ≤ 65536)
    (H1 : Hid (∀ w, Calls Try.prog 7 #[hdV h, .string d, .int .i64 room] w fun e w' => e = .returned (.bool false) ∧ Below w.heap.size w w'))
    (H2 : Hid (∀ w, Calls Try.prog 9 #[hdV h, .string d, .int .i64 room] w (CutPost w L 0)))
    (H3 : Hid (∀ w, Calls Try.prog 12 #[.string h.op] w fun e w' => e = .returned (.string K) ∧ Below w.heap.size w w')) :
    Calls Try.prog 4 #[hdV h, .string d, .int .i64 room] w fun e w' => e = .returned (.bool true) ∧ Below w.heap.size w w' := by
  have HA := hide alive_ok
  have BEL := hide (fun o => below_one w o)
  have k0 := HC.box w h 25
  have hds : d.size ≤ 65535 := by have := hv.r; have := hv.m.1; unfold roomB at *; omega
  have HV := hide hv
  simp only [hdL] at k0
  clear hv
  go_enter Try.func4, Try.ntmps4
  go_wp2_with fail
  refine (unhide H1 _).mono ?_
  rintro e w1 ⟨rfl, b1⟩
  have k1 := k0.on b1
  have B1 := hide (tr2 (unhide BEL (.cells (hdL h).toArray 25)) b1)
  obtain ⟨c0, c1, c2, c3, c4, c5, c6, c7, c8, c9⟩ := id k1
  clear b1 k0 BEL H1
  go_wp2_with fail
  refine (unhide H2 _).mono ?_
  rintro e w2 ⟨sp, sc, rfl, hS, b2⟩
  have k2 := k1.on b2
  have HS := hide hS
  have B2 := hide (tr2 (unhide B1) b2)
  have hq : w.heap.size < w2.heap.size := k2.lt
  clear b2 k1 B1 H2 hS c0 c1 c2 c3 c4 c5 c6 c7 c8 c9
  go_wp2_with fail
  generalize hqe : w.heap.size = q at *
  have HQE := hide hqe
  clear hqe
  have HW : Hid (∀ w', Below w2.heap.size w2 w' → Below q w w') := fun w' hb => (unhide B2).trans (hb.mono (by omega))
  clear B2
  go_loopw [9, 10] (fun s9 s10 wr => ∃ k : Nat, s9 = .string (datL (L.take k)) ∧ s10 = .int .i64 (k : Int) ∧ k ≤ L.length ∧ Below w2.heap.size w2 wr) (fun _ s _ => L.length - (intOf s).toNat)
  case atStart => exact ⟨0, rfl, rfl, Nat.zero_le _, Below.refl _ _⟩
  case round =>
    obtain ⟨k, rfl, rfl, hk, hbel⟩ := hrel
    by_cases hlt : k < L.length
    · obtain ⟨p, hp⟩ : ∃ p, L[k]? = some p := ⟨_, List.getElem?_eq_getElem hlt⟩
      have hpT : (L.map pcB)[k]? = some (pcB p) := by rw [List.getElem?_map, hp]; rfl
      obtain ⟨g, off, cap, hsv, a0⟩ := strs_cells ((unhide HS).below hbel) hpT
      rw [List.length_map] at hsv
      obtain ⟨rfl, rfl⟩ : sp = some ⟨g, off, none⟩ ∧ sc = cap := by
        injection hsv with h1 h2 h3
        exact ⟨h1, h3⟩
      have hmem : p ∈ L := List.mem_of_getElem? hp
      have hvp := (unhide HP).val p hmem
      have hD := hide (fun w => dec_pc_any p hvp w)
      have hle := (unhide HP).le p hmem
      rw [← pcB_size p] at hle
      have hst := (unhide HP).hd k p hp
      have hmid := (unhide HP).mid k p hp
      have hstep := datL_take hp
      have kr := k2.on hbel
      obtain ⟨S, hSe⟩ : ∃ S, pcB p = S := ⟨_, rfl⟩
      rw [hSe] at hD hle a0
      have hSl := pcB_le p hvp
      rw [hSe] at hSl
      obtain ⟨got, hgot⟩ : ∃ got, datL (L.take k) = got := ⟨_, rfl⟩
      rw [hgot] at hst hstep
      have hgs : got.size ≤ 65535 := by
        have e1 : datL L = got ++ datL (L.drop k) := by rw [← hgot, ← datL_app, List.take_append_drop]
        have e2 := unhide HD
        rw [e1] at e2
        have := congrArg ByteArray.size e2
        rw [ByteArray.size_append] at this
        omega
      have hgd : p.2.size ≤ 65535 := by have h1 := hvp.r; have h2 := hvp.m.1; unfold roomB at h1; omega
      have hat : IntKind.i64.wrap (h.at' + (got.size : Int)) = h.at' + (got.size : Int) := by have h1 := (unhide HV).m.1; have h2 := (unhide HV).m.2.1; rw [IntKind.wrap_i64]; omega
      have hlm : IntKind.i64.wrap ((L.length : Int) - 1) = ((L.length - 1 : Nat) : Int) := by rw [IntKind.wrap_i64]; omega
      have hdl : decide (room < (S.size : Int)) = false := decide_eq_false (by omega)
      have hHd := hide (neq_hd h h)
      obtain ⟨G, t⟩ := p
      simp only at hst hmid hstep hgd
      have HT := hide hstep
      have n1 : ¬ 9223372036854775807 < got.size + t.size := by omega
      clear hp hpT hsv hmem hvp hle hSe hSl hstep hgs
      rw [hgot]
      have HGT := hide hgot
      clear hgot
      by_cases hk0 : k = 0
      · by_cases hlast : k + 1 = L.length
        · as_aux_lemma =>
            rw [if_pos hlast, if_pos hk0] at hst
            subst hst
            have dl : ((0 : Int) == ((L.length - 1 : Nat) : Int)) = true := beq_iff_eq.2 (by omega)
            have ne := unhide hHd
            rw [decide_eq_true rfl] at ne
            have ne : ∀ w, (binOp .neq 25 (.agg #[.int .u8 (h.tos : Int), .int .u16 (h.id : Int), .bool h.hold, .bool h.more, .int .i64 h.at', .int .u8 (h.ttl : Int), .int .u8 (h.proto : Int), .int .u32 (h.frm : Int), .int .u32 (h.to : Int), .string h.op]) (.agg #[.int .u8 (h.tos : Int), .int .u16 (h.id : Int), .bool h.hold, .bool h.more, .int .i64 h.at', .int .u8 (h.ttl : Int), .int .u8 (h.proto : Int), .int .u32 (h.frm : Int), .int .u32 (h.to : Int), .string h.op])).run Try.prog w = .ok (.bool false) w := ne
            subst hk0
            simp only [Nat.add_zero] at a0
            have hlt2 : ((0 : Int) : Int) < (L.length : Int) := by omega
            clear hmid hHd hlast hlt
            obtain ⟨c0, c1, c2, c3, c4, c5, c6, c7, c8, c9⟩ := id kr
            go_wp2_with fail
            refine (unhide hD _).mono ?_
            rintro e w3 ⟨rfl, b3⟩
            have b4 := below_one w3 (.cells #[.int .u8 (h.tos : Int), .int .u16 (h.id : Int), .bool h.hold, .bool h.more, .int .i64 (h.at' + (got.size : Int)), .int .u8 (h.ttl : Int), .int .u8 (h.proto : Int), .int .u32 (h.frm : Int), .int .u32 (h.to : Int), .string h.op] 25)
            have kr4 := (kr.on b3).on b4
            have hx := HF.box w3 ⟨h.tos, h.id, h.hold, h.more, h.at' + (got.size : Int), h.ttl, h.proto, h.frm, h.to, h.op⟩
            simp only [hdL] at hx
            have a4 := (b4.cell (p := ⟨g, off, none⟩) (by have := cell_lt' a0; have := b3.size; simp at *; omega)).trans ((b3.cell (p := ⟨g, off, none⟩) (cell_lt' a0)).trans a0)
            have hB4 := hide (hbel.trans ((b3.mono hbel.size).trans (b4.mono (Nat.le_trans hbel.size b3.size))))
            have hq4 : q < w3.heap.size := Nat.lt_of_lt_of_le hq (Nat.le_trans hbel.size b3.size)
            have hqp2 : w2.heap.size ≤ w3.heap.size := Nat.le_trans hbel.size b3.size
            clear b3 b4 kr a0 hD hbel c0 c1 c2 c3 c4 c5 c6 c7 c8 c9
            obtain ⟨c0, c1, c2, c3, c4, c5, c6, c7, c8, c9⟩ := id kr4
            obtain ⟨⟨x0, x1, x2, x3, x4, x5, x6, x7, x8, x9⟩, xf⟩ := id hx
            go_upto_region 14 with fail
            generalize hqp : w3.heap.size = qp at *
            generalize w3.alloc _ = w4 at *
            have hbz := hide (fun n => below_drewN' w4 n)
            go_quiet (fail)
            generalize hz : w4.drewN _ = w5 at *
            have hb5 : Below w4.heap.size w4 w5 := by rw [← hz]; exact unhide hbz _
            clear hz hbz
            have kr5 := kr4.on hb5
            have hx5 := hx.on hb5
            have hB5 := hide ((unhide hB4).trans (hb5.mono (unhide hB4).size))
            clear kr4 hx xf a4 hB4 c0 c1 c2 c3 c4 c5 c6 c7 c8 c9 x0 x1 x2 x3 x4 x5 x6 x7 x8 x9 hb5
            obtain ⟨c0, c1, c2, c3, c4, c5, c6, c7, c8, c9⟩ := id kr5
            obtain ⟨⟨x0, x1, x2, x3, x4, x5, x6, x7, x8, x9⟩, xf⟩ := hx5
            have hne : ¬ q = qp := by omega
            have hne2 : ¬ qp = q := by omega
            clear kr5
            go_wp2_with fail
            go_roundw
            case rel =>
              refine ⟨0 + 1, by rw [unhide HT], by go_num, by omega, ?_⟩
              exact (((unhide hB5).setCell (p := ⟨qp, 4, none⟩) hqp2 _).setCell (p := ⟨qp, 3, none⟩) hqp2 _).setCell (p := ⟨qp, 9, none⟩) hqp2 _
            case measure => simp [intOf]; omega
        · as_aux_lemma =>
            rw [if_neg hlast, if_pos hk0] at hst
            subst hst
            have dl : ((0 : Int) == ((L.length - 1 : Nat) : Int)) = false := beq_eq_false_iff_ne.2 (by omega)
            obtain ⟨m8, m0, _⟩ := hmid (by omega)
            have t8 : (t.size : Int) % 8 = 0 := by omega
            have t0 : ((t.size : Int) == 0) = false := beq_eq_false_iff_ne.2 (by omega)
            have ne := unhide hHd
            rw [decide_eq_true rfl] at ne
            have ne : ∀ w, (binOp .neq 25 (.agg #[.int .u8 (h.tos : Int), .int .u16 (h.id : Int), .bool h.hold, .bool h.more, .int .i64 h.at', .int .u8 (h.ttl : Int), .int .u8 (h.proto : Int), .int .u32 (h.frm : Int), .int .u32 (h.to : Int), .string h.op]) (.agg #[.int .u8 (h.tos : Int), .int .u16 (h.id : Int), .bool h.hold, .bool h.more, .int .i64 h.at', .int .u8 (h.ttl : Int), .int .u8 (h.proto : Int), .int .u32 (h.frm : Int), .int .u32 (h.to : Int), .string h.op])).run Try.prog w = .ok (.bool false) w := ne
            subst hk0
            simp only [Nat.add_zero] at a0
            have hlt2 : ((0 : Int) : Int) < (L.length : Int) := by omega
            clear hmid hHd hlast hlt
            obtain ⟨c0, c1, c2, c3, c4, c5, c6, c7, c8, c9⟩ := id kr
            go_wp2_with fail
            refine (unhide hD _).mono ?_
            rintro e w3 ⟨rfl, b3⟩
            have b4 := below_one w3 (.cells #[.int .u8 (h.tos : Int), .int .u16 (h.id : Int), .bool h.hold, .bool true, .int .i64 (h.at' + (got.size : Int)), .int .u8 (h.ttl : Int), .int .u8 (h.proto : Int), .int .u32 (h.frm : Int), .int .u32 (h.to : Int), .string h.op] 25)
            have kr4 := (kr.on b3).on b4
            have hx := HF.box w3 ⟨h.tos, h.id, h.hold, true, h.at' + (got.size : Int), h.ttl, h.proto, h.frm, h.to, h.op⟩
            simp only [hdL] at hx
            have a4 := (b4.cell (p := ⟨g, off, none⟩) (by have := cell_lt' a0; have := b3.size; simp at *; omega)).trans ((b3.cell (p := ⟨g, off, none⟩) (cell_lt' a0)).trans a0)
            have hB4 := hide (hbel.trans ((b3.mono hbel.size).trans (b4.mono (Nat.le_trans hbel.size b3.size))))
            have hq4 : q < w3.heap.size := Nat.lt_of_lt_of_le hq (Nat.le_trans hbel.size b3.size)
            have hqp2 : w2.heap.size ≤ w3.heap.size := Nat.le_trans hbel.size b3.size
            clear b3 b4 kr a0 hD hbel c0 c1 c2 c3 c4 c5 c6 c7 c8 c9
            obtain ⟨c0, c1, c2, c3, c4, c5, c6, c7, c8, c9⟩ := id kr4
            obtain ⟨⟨x0, x1, x2, x3, x4, x5, x6, x7, x8, x9⟩, xf⟩ := id hx
            go_upto_region 14 with fail
            generalize hqp : w3.heap.size = qp at *
            generalize w3.alloc _ = w4 at *
            have hbz := hide (fun n => below_drewN' w4 n)
            go_quiet (fail)
            generalize hz : w4.drewN _ = w5 at *
            have hb5 : Below w4.heap.size w4 w5 := by rw [← hz]; exact unhide hbz _
            clear hz hbz
            have kr5 := kr4.on hb5
            have hx5 := hx.on hb5
            have hB5 := hide ((unhide hB4).trans (hb5.mono (unhide hB4).size))
            clear kr4 hx xf a4 hB4 c0 c1 c2 c3 c4 c5 c6 c7 c8 c9 x0 x1 x2 x3 x4 x5 x6 x7 x8 x9 hb5
            obtain ⟨c0, c1, c2, c3, c4, c5, c6, c7, c8, c9⟩ := id kr5
            obtain ⟨⟨x0, x1, x2, x3, x4, x5, x6, x7, x8, x9⟩, xf⟩ := hx5
            have hne : ¬ q = qp := by omega
            have hne2 : ¬ qp = q := by omega
            clear kr5
            go_wp2_with fail
            go_roundw
            case rel =>
              refine ⟨0 + 1, by rw [unhide HT], by go_num, by omega, ?_⟩
              exact (((unhide hB5).setCell (p := ⟨qp, 4, none⟩) hqp2 _).setCell (p := ⟨qp, 3, none⟩) hqp2 _).setCell (p := ⟨qp, 9, none⟩) hqp2 _
            case measure => simp [intOf]; omega
      · by_cases hlast : k + 1 = L.length
        · as_aux_lemma =>
            rw [if_pos hlast, if_neg hk0] at hst
            subst hst
            have dl : ((k : Int) == ((L.length - 1 : Nat) : Int)) = true := beq_iff_eq.2 (by omega)
            have ne := unhide hHd
            rw [decide_eq_true rfl] at ne
            have ne : ∀ w, (binOp .neq 25 (.agg #[.int .u8 (h.tos : Int), .int .u16 (h.id : Int), .bool h.hold, .bool h.more, .int .i64 h.at', .int .u8 (h.ttl : Int), .int .u8 (h.proto : Int), .int .u32 (h.frm : Int), .int .u32 (h.to : Int), .string h.op]) (.agg #[.int .u8 (h.tos : Int), .int .u16 (h.id : Int), .bool h.hold, .bool h.more, .int .i64 h.at', .int .u8 (h.ttl : Int), .int .u8 (h.proto : Int), .int .u32 (h.frm : Int), .int .u32 (h.to : Int), .string h.op])).run Try.prog w = .ok (.bool false) w := ne
            have dk : ((k : Int) == 0) = false := beq_eq_false_iff_ne.2 (by omega)
            have dk2 : decide ((0 : Int) < (k : Int)) = true := decide_eq_true (by omega)
            have dk3 : decide (0 < k) = true := decide_eq_true (by omega)
            have hlt2 : ((k : Int) : Int) < (L.length : Int) := by omega
            clear hmid hHd hlast hlt hk0
            obtain ⟨c0, c1, c2, c3, c4, c5, c6, c7, c8, c9⟩ := id kr
            go_wp2_with fail
            refine (unhide hD _).mono ?_
            rintro e w3 ⟨rfl, b3⟩
            have b4 := below_one w3 (.cells #[.int .u8 (h.tos : Int), .int .u16 (h.id : Int), .bool h.hold, .bool h.more, .int .i64 (h.at' + (got.size : Int)), .int .u8 (h.ttl : Int), .int .u8 (h.proto : Int), .int .u32 (h.frm : Int), .int .u32 (h.to : Int), .string K] 25)
            have kr4 := (kr.on b3).on b4
            have hx := HF.box w3 ⟨h.tos, h.id, h.hold, h.more, h.at' + (got.size : Int), h.ttl, h.proto, h.frm, h.to, K⟩
            simp only [hdL] at hx
            have a4 := (b4.cell (p := ⟨g, off + k, none⟩) (by have := cell_lt' a0; have := b3.size; simp at *; omega)).trans ((b3.cell (p := ⟨g, off + k, none⟩) (cell_lt' a0)).trans a0)
            have hB4 := hide (hbel.trans ((b3.mono hbel.size).trans (b4.mono (Nat.le_trans hbel.size b3.size))))
            have hq4 : q < w3.heap.size := Nat.lt_of_lt_of_le hq (Nat.le_trans hbel.size b3.size)
            have hqp2 : w2.heap.size ≤ w3.heap.size := Nat.le_trans hbel.size b3.size
            clear b3 b4 kr a0 hD hbel c0 c1 c2 c3 c4 c5 c6 c7 c8 c9
            obtain ⟨c0, c1, c2, c3, c4, c5, c6, c7, c8, c9⟩ := id kr4
            obtain ⟨⟨x0, x1, x2, x3, x4, x5, x6, x7, x8, x9⟩, xf⟩ := id hx
            go_upto_region 14 with fail
            generalize hqp : w3.heap.size = qp at *
            generalize w3.alloc _ = w4 at *
            have d9 := cell_regrown c9
            have y9 := cell_regrown x9
            have q1 := rgB (w := w4) (unhide H3)
            refine wp_region_quiet_below (by kernel_rfl) (by kernel_rfl) ?_
            repeat (go_big_quiet_step (fail))
            go_big_quiet_step (exact q1 _ _)
            repeat (go_big_quiet_step (fail))
            refine wpQuiet_nil ?_
            intro _ hw'
            obtain ⟨⟨dq, osq⟩, hw''⟩ := hw'
            subst hw''
            have hb5 := below_regrown w4 dq osq
            generalize Sort.grow (redrawn w4 dq) osq = w5 at *
            clear d9 y9 q1
            have kr5 := kr4.on hb5
            have hx5 := hx.on hb5
            have hB5 := hide ((unhide hB4).trans (hb5.mono (unhide hB4).size))
            clear kr4 hx xf a4 hB4 c0 c1 c2 c3 c4 c5 c6 c7 c8 c9 x0 x1 x2 x3 x4 x5 x6 x7 x8 x9 hb5
            obtain ⟨c0, c1, c2, c3, c4, c5, c6, c7, c8, c9⟩ := id kr5
            obtain ⟨⟨x0, x1, x2, x3, x4, x5, x6, x7, x8, x9⟩, xf⟩ := hx5
            have hne : ¬ q = qp := by omega
            have hne2 : ¬ qp = q := by omega
            clear kr5
            go_wp2_with fail
            go_roundw
            case rel =>
              refine ⟨k + 1, by rw [unhide HT], by go_num, by omega, ?_⟩
              exact (((unhide hB5).setCell (p := ⟨qp, 4, none⟩) hqp2 _).setCell (p := ⟨qp, 3, none⟩) hqp2 _).setCell (p := ⟨qp, 9, none⟩) hqp2 _
            case measure => simp [intOf]; omega
        · as_aux_lemma =>
            rw [if_neg hlast, if_neg hk0] at hst
            subst hst
            have dl : ((k : Int) == ((L.length - 1 : Nat) : Int)) = false := beq_eq_false_iff_ne.2 (by omega)
            obtain ⟨m8, m0, _⟩ := hmid (by omega)
            have t8 : (t.size : Int) % 8 = 0 := by omega
            have t0 : ((t.size : Int) == 0) = false := beq_eq_false_iff_ne.2 (by omega)
            have ne := unhide hHd
            rw [decide_eq_true rfl] at ne
            have ne : ∀ w, (binOp .neq 25 (.agg #[.int .u8 (h.tos : Int), .int .u16 (h.id : Int), .bool h.hold, .bool h.more, .int .i64 h.at', .int .u8 (h.ttl : Int), .int .u8 (h.proto : Int), .int .u32 (h.frm : Int), .int .u32 (h.to : Int), .string h.op]) (.agg #[.int .u8 (h.tos : Int), .int .u16 (h.id : Int), .bool h.hold, .bool h.more, .int .i64 h.at', .int .u8 (h.ttl : Int), .int .u8 (h.proto : Int), .int .u32 (h.frm : Int), .int .u32 (h.to : Int), .string h.op])).run Try.prog w = .ok (.bool false) w := ne
            have dk : ((k : Int) == 0) = false := beq_eq_false_iff_ne.2 (by omega)
            have dk2 : decide ((0 : Int) < (k : Int)) = true := decide_eq_true (by omega)
            have dk3 : decide (0 < k) = true := decide_eq_true (by omega)
            have hlt2 : ((k : Int) : Int) < (L.length : Int) := by omega
            clear hmid hHd hlast hlt hk0
            obtain ⟨c0, c1, c2, c3, c4, c5, c6, c7, c8, c9⟩ := id kr
            go_wp2_with fail
            refine (unhide hD _).mono ?_
            rintro e w3 ⟨rfl, b3⟩
            have b4 := below_one w3 (.cells #[.int .u8 (h.tos : Int), .int .u16 (h.id : Int), .bool h.hold, .bool true, .int .i64 (h.at' + (got.size : Int)), .int .u8 (h.ttl : Int), .int .u8 (h.proto : Int), .int .u32 (h.frm : Int), .int .u32 (h.to : Int), .string K] 25)
            have kr4 := (kr.on b3).on b4
            have hx := HF.box w3 ⟨h.tos, h.id, h.hold, true, h.at' + (got.size : Int), h.ttl, h.proto, h.frm, h.to, K⟩
            simp only [hdL] at hx
            have a4 := (b4.cell (p := ⟨g, off + k, none⟩) (by have := cell_lt' a0; have := b3.size; simp at *; omega)).trans ((b3.cell (p := ⟨g, off + k, none⟩) (cell_lt' a0)).trans a0)
            have hB4 := hide (hbel.trans ((b3.mono hbel.size).trans (b4.mono (Nat.le_trans hbel.size b3.size))))
            have hq4 : q < w3.heap.size := Nat.lt_of_lt_of_le hq (Nat.le_trans hbel.size b3.size)
            have hqp2 : w2.heap.size ≤ w3.heap.size := Nat.le_trans hbel.size b3.size
            clear b3 b4 kr a0 hD hbel c0 c1 c2 c3 c4 c5 c6 c7 c8 c9
            obtain ⟨c0, c1, c2, c3, c4, c5, c6, c7, c8, c9⟩ := id kr4
            obtain ⟨⟨x0, x1, x2, x3, x4, x5, x6, x7, x8, x9⟩, xf⟩ := id hx
            go_upto_region 14 with fail
            generalize hqp : w3.heap.size = qp at *
            generalize w3.alloc _ = w4 at *
            have d9 := cell_regrown c9
            have y9 := cell_regrown x9
            have q1 := rgB (w := w4) (unhide H3)
            refine wp_region_quiet_below (by kernel_rfl) (by kernel_rfl) ?_
            repeat (go_big_quiet_step (fail))
            go_big_quiet_step (exact q1 _ _)
            repeat (go_big_quiet_step (fail))
            refine wpQuiet_nil ?_
            intro _ hw'
            obtain ⟨⟨dq, osq⟩, hw''⟩ := hw'
            subst hw''
            have hb5 := below_regrown w4 dq osq
            generalize Sort.grow (redrawn w4 dq) osq = w5 at *
            clear d9 y9 q1
            have kr5 := kr4.on hb5
            have hx5 := hx.on hb5
            have hB5 := hide ((unhide hB4).trans (hb5.mono (unhide hB4).size))
            clear kr4 hx xf a4 hB4 c0 c1 c2 c3 c4 c5 c6 c7 c8 c9 x0 x1 x2 x3 x4 x5 x6 x7 x8 x9 hb5
            obtain ⟨c0, c1, c2, c3, c4, c5, c6, c7, c8, c9⟩ := id kr5
            obtain ⟨⟨x0, x1, x2, x3, x4, x5, x6, x7, x8, x9⟩, xf⟩ := hx5
            have hne : ¬ q = qp := by omega
            have hne2 : ¬ qp = q := by omega
            clear kr5
            go_wp2_with fail
            go_roundw
            case rel =>
              refine ⟨k + 1, by rw [unhide HT], by go_num, by omega, ?_⟩
              exact (((unhide hB5).setCell (p := ⟨qp, 4, none⟩) hqp2 _).setCell (p := ⟨qp, 3, none⟩) hqp2 _).setCell (p := ⟨qp, 9, none⟩) hqp2 _
            case measure => simp [intOf]; omega
    · obtain rfl : k = L.length := by omega
      rw [List.take_length, unhide HD]
      have hL0 : decide ((0 : Int) < (L.length : Int)) = true := decide_eq_true (by
        have h1 := (unhide HP).ne
        have h2 : L.length ≠ 0 := fun e => h1 (List.eq_nil_of_length_eq_zero e)
        omega)
      have hL1 : decide (0 < L.length) = true := decide_eq_true (by
        have h1 := (unhide HP).ne
        have h2 : L.length ≠ 0 := fun e => h1 (List.eq_nil_of_length_eq_zero e)
        omega)
      have B5 := hide (unhide HW _ hbel)
      have HQL : Hid (q ≤ wr.heap.size) := Nat.le_trans (Nat.le_of_lt hq) hbel.size
      have hne : (d.toList == d.toList) = true := by simp
      clear hbel
      go_wp2_with fail
      refine (unhide HA _).mono ?_
      rintro e w6 ⟨rfl, b6⟩
      have B6 := hide ((unhide B5).trans (b6.mono (unhide HQL)))
      go_wp2_with fail
      go_ret
      rw [unhide HQE]
      exact ⟨rfl, unhide B6⟩

theorem cut_hok {h : Rh} {d : ByteArray} {room : Int} {L : List Pc} {e : Int} (hc : CutIs h d room L e) (he : e = 0) : HOk h d.size ∧ L.length ≤ 65536 := by
  cases hc with
  | enc hz => exact absurd he hz
  | one hv _ => exact ⟨hv, by simp⟩
  | held _ _ _ => cases he
  | full _ _ _ _ => cases he
  | opts _ _ _ _ _ => cases he
  | cut M hv _ _ _ _ => exact ⟨hv, Nat.le_trans (pcs_len _ _ _ _ _) (by have := hv.r; have := hv.m.1; unfold roomB at *; omega)⟩
theorem fragWhole_walk (v : Value) (h : Rh) (d : ByteArray) (room : Int) (w : World) (hv : IsHead v h) (hd : d.size ≤ maxLen) (_ : (Lit.int .i64 room).wf = true) :
    Calls Try.prog 4 #[v, .string d, .int .i64 room] w fun e w' => e = .returned (.bool true) ∧ Below w.heap.size w w' := by
  obtain rfl := hv.eq
  have H1 := fun w => heavy_any h d room w hv.op hd
  by_cases hh : heavyB h d room
  · rw [decide_eq_true hh] at H1
    have H1 := hide H1
    have HA := hide alive_ok
    have BEL := hide (fun o => below_one w o)
    clear hh hd hv
    go_enter Try.func4, Try.ntmps4
    go_wp2_with fail
    refine (unhide H1 _).mono ?_
    rintro e w1 ⟨rfl, b1⟩
    have B1 := hide (tr2 (unhide BEL _) b1)
    go_wp2_with fail
    refine (unhide HA _).mono ?_
    rintro e w2 ⟨rfl, b2⟩
    have B2 := hide (tr2 (unhide B1) b2)
    go_wp2_with fail
    go_ret
    exact ⟨rfl, unhide B2⟩
  rw [decide_eq_false hh] at H1
  have hl : ¬ longB h d := fun x => hh (.inl x)
  unfold longB at hl
  have hi := hv.in' (by omega)
  obtain ⟨L, e, hc⟩ := cutIs_ex h d room hi
  have H2 := fun w => cut_any hc hi (by omega) w
  by_cases he : e = 0
  · subst he
    obtain ⟨hP, hD⟩ := cut_ok hc rfl
    obtain ⟨hvv, hlen⟩ := cut_hok hc rfl
    exact whole_main h d (keptB h.op) room w L hvv hP hD hlen H1 H2 (fun w => kept_any h.op w)
  · obtain rfl := cut_no hc he
    have he' : ((e : Int) != 0) = true := by simpa using he
    have H1 := hide H1
    have H2 := hide H2
    have HA := hide alive_ok
    have BEL := hide (fun o => below_one w o)
    have k0 := HC.box w h 25
    simp only [hdL] at k0
    clear hh hl hd hv hi hc he
    go_enter Try.func4, Try.ntmps4
    go_wp2_with fail
    refine (unhide H1 _).mono ?_
    rintro e w1 ⟨rfl, b1⟩
    obtain ⟨c0, c1, c2, c3, c4, c5, c6, c7, c8, c9⟩ := k0.on b1
    have B1 := hide (tr2 (unhide BEL (.cells (hdL h).toArray 25)) b1)
    clear b1 k0
    go_wp2_with fail
    refine (unhide H2 _).mono ?_
    rintro e w2 ⟨sp, sc, rfl, _, b2⟩
    have B2 := hide (tr2 (unhide B1) b2)
    simp only [List.length_nil]
    clear b2
    go_wp2_with fail
    refine (unhide HA _).mono ?_
    rintro e w3 ⟨rfl, b3⟩
    have B3 := hide (tr2 (unhide B2) b3)
    go_wp2_with fail
    go_ret
    exact ⟨rfl, unhide B3⟩
end Go.Proofs.Ytefenejeppmfiaa
