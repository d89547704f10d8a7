/- The statement FragAgain of layer 12, as a contract over the loaded program. -/
import Derived.Test.YtefenejeppmfiaaLw12b
import Derived.Deep.Cut
namespace Go.Proofs.Ytefenejeppmfiaa
open Go.RowKit

/-- a head whose part stands at a place -/
theorem at_split {L : List Pc} {k : Nat} {p : Pc} (hp : L[k]? = some p) {d : ByteArray} (hd : datL L = d) : (datL (L.take k)).size + p.2.size ≤ d.size := by
  have e := datL_take hp
  have e1 : datL L = datL (L.take (k + 1)) ++ datL (L.drop (k + 1)) := by rw [← datL_app, List.take_append_drop]
  rw [e, hd] at e1
  have := congrArg ByteArray.size e1
  rw [ByteArray.size_append, ByteArray.size_append] at this
  omega

set_option maxRecDepth 100000 in
set_option maxHeartbeats 8000000 in
theorem again_main (h : Rh) (d K : ByteArray) (room less : Int) (w : World) (L : List Pc) (hv : HOk h d.size) (HP : Hid (PcOk h K room L)) (HD : Hid (datL L = d)) (hlen : L.length ≤ 65536)
    (H1 : Hid (∀ w, Calls Try.prog 7 #[hdV h, .string d, .int .i64 room] w fun e w' => e = .returned (.bool false) ∧ Below w.heap.size w w'))
    (H1' : Hid (∀ w, Calls Try.prog 7 #[hdV h, .string d, .int .i64 less] w fun e w' => e = .returned (.bool false) ∧ Below w.heap.size w w'))
    (H2 : Hid (∀ w, Calls Try.prog 9 #[hdV h, .string d, .int .i64 room] w (CutPost w L 0))) :
    Calls Try.prog 5 #[hdV h, .string d, .int .i64 room, .int .i64 less] w fun e w' => e = .returned (.bool true) ∧ Below w.heap.size w w' := by
  have HA := hide alive_ok
  have BEL := hide (fun o => below_one w o)
  have k0 := HC.box w h 25
  have hds : d.size ≤ 65535 := by have := hv.r; have := hv.m.1; unfold roomB at *; omega
  have HV := hide hv
  simp only [hdL] at k0
  clear hv
  go_enter Try.func5, Try.ntmps5
  go_wp2_with fail
  refine (unhide H1 _).mono ?_
  rintro e w1 ⟨rfl, b1⟩
  have k1 := k0.on b1
  have B1 := hide (tr2 (unhide BEL (.cells (hdL h).toArray 25)) b1)
  obtain ⟨c0, c1, c2, c3, c4, c5, c6, c7, c8, c9⟩ := id k1
  clear b1 k0 BEL H1
  go_wp2_with fail
  refine (unhide H1' _).mono ?_
  rintro e w1a ⟨rfl, b1⟩
  have k1 := k1.on b1
  have B1 := hide (tr2 (unhide B1) b1)
  clear b1 H1' c0 c1 c2 c3 c4 c5 c6 c7 c8 c9
  obtain ⟨c0, c1, c2, c3, c4, c5, c6, c7, c8, c9⟩ := id k1
  go_wp2_with fail
  refine (unhide H2 _).mono ?_
  rintro e w2 ⟨sp, sc, rfl, hS, b2⟩
  have k2 := k1.on b2
  have HS := hide hS
  have B2 := hide (tr2 (unhide B1) b2)
  have hq : w.heap.size < w2.heap.size := k2.lt
  clear b2 k1 B1 H2 hS c0 c1 c2 c3 c4 c5 c6 c7 c8 c9
  go_wp2_with fail
  generalize hqe : w.heap.size = q at *
  have HQE := hide hqe
  have HW : Hid (∀ w', Below w2.heap.size w2 w' → Below w.heap.size w w') := fun w' hb => by
    rw [hqe]
    exact (unhide B2).trans (hb.mono (Nat.le_of_lt hq))
  clear B2 hqe
  go_loopw [11, 12] (fun s9 s10 wr => ∃ k : Nat, s9 = .string (datL (L.take k)) ∧ s10 = .int .i64 (k : Int) ∧ k ≤ L.length ∧ Below w2.heap.size w2 wr) (fun _ s _ => L.length - (intOf s).toNat)
  case atStart => exact ⟨0, rfl, rfl, Nat.zero_le _, Below.refl _ _⟩
  case round =>
    obtain ⟨k, rfl, rfl, hk, hbel⟩ := hrel
    by_cases hlt : k < L.length
    · obtain ⟨p, hp⟩ : ∃ p, L[k]? = some p := ⟨_, List.getElem?_eq_getElem hlt⟩
      have hpT : (L.map pcB)[k]? = some (pcB p) := by rw [List.getElem?_map, hp]; rfl
      obtain ⟨g, off, cap, hsv, a0⟩ := strs_cells ((unhide HS).below hbel) hpT
      rw [List.length_map] at hsv
      obtain ⟨rfl, rfl⟩ : sp = some ⟨g, off, none⟩ ∧ sc = cap := by
        injection hsv with h1 h2 h3
        exact ⟨h1, h3⟩
      have hmem : p ∈ L := List.mem_of_getElem? hp
      have hvp := (unhide HP).val p hmem
      have hD := hide (fun w => dec_pc_any p hvp w)
      have hmid := (unhide HP).mid k p hp
      have hsz := pcB_size p
      have hst := (unhide HP).hd k p hp
      have hstep := datL_take hp
      have hgs := at_split hp (unhide HD)
      have kr := k2.on hbel
      obtain ⟨L2, e2, hc2⟩ := cutIs_ex p.1 p.2 less hvp.i
      have hC := hide (fun w => cut_any hc2 hvp.i (by omega) w)
      have HC2 := hide (fun he => cut_ok hc2 he)
      have HE2 := hide (cut_err hc2 hvp)
      have HL2 := hide (fun he => cut_hok hc2 he)
      obtain ⟨S, hSe⟩ : ∃ S, pcB p = S := ⟨_, rfl⟩
      rw [hSe] at hD a0 hsz
      have hSl := pcB_le p hvp
      rw [hSe] at hSl
      obtain ⟨got, hgot⟩ : ∃ got, datL (L.take k) = got := ⟨_, rfl⟩
      rw [hgot] at hst hstep hgs
      have hkx : IntKind.i64.wrap ((k : Int) + 1) = (k : Int) + 1 := by rw [IntKind.wrap_i64]; omega
      have hs8 : IntKind.i64.wrap ((S.size : Int) + 8) = (S.size : Int) + 8 := by rw [IntKind.wrap_i64]; omega
      have hroom : k + 1 < L.length → decide ((S.size : Int) + 8 ≤ room) = false := fun hx => decide_eq_false (by have := (hmid hx).2.2; omega)
      have hroom := hide hroom
      obtain ⟨G, t⟩ := p
      simp only at hst hstep hgs hC HC2 HE2 HL2
      generalize (if k + 1 = L.length then h.more else true) = mo at hst
      generalize (if k = 0 then h.op else K) = op' at hst
      subst hst
      have HT := hide hstep
      have hbnd : got.size + t.size ≤ 65535 := by omega
      have hlt2 : (k : Int) < (L.length : Int) := by omega
      clear hp hpT hsv hmem hvp hSe hSl hstep hmid hsz hc2 hgs
      rw [hgot]
      have HGT := hide hgot
      clear hgot
      obtain ⟨c0, c1, c2, c3, c4, c5, c6, c7, c8, c9⟩ := id kr
      go_wp2_with fail
      refine (unhide hD _).mono ?_
      rintro e w3 ⟨rfl, b3⟩
      clear c0 c1 c2 c3 c4 c5 c6 c7 c8 c9
      have b4 := below_one w3 (.cells #[.int .u8 (h.tos : Int), .int .u16 (h.id : Int), .bool h.hold, .bool mo, .int .i64 (h.at' + (got.size : Int)), .int .u8 (h.ttl : Int), .int .u8 (h.proto : Int), .int .u32 (h.frm : Int), .int .u32 (h.to : Int), .string op'] 25)
      have kr4 := (kr.on b3).on b4
      have hx := HC.box w3 ⟨h.tos, h.id, h.hold, mo, h.at' + (got.size : Int), h.ttl, h.proto, h.frm, h.to, op'⟩ 25
      simp only [hdL] at hx
      have a4 := (b4.cell (p := ⟨g, off + k, none⟩) (by have := cell_lt' a0; have := b3.size; simp at *; omega)).trans ((b3.cell (p := ⟨g, off + k, none⟩) (cell_lt' a0)).trans a0)
      have hB4 := hide (hbel.trans ((b3.mono hbel.size).trans (b4.mono (Nat.le_trans hbel.size b3.size))))
      clear b3 b4 kr a0 hD hbel
      obtain ⟨x0, x1, x2, x3, x4, x5, x6, x7, x8, x9⟩ := id hx
      go_upto_region 11 with fail
      have hg0 : g < w3.heap.size + 1 := by have := cell_lt' a4; simpa using this
      go_cut [72] from 43 to 131 (fun c wx => c = .bool false ∧ wx = w3.alloc (.cells #[.int .u8 (h.tos : Int), .int .u16 (h.id : Int), .bool h.hold, .bool mo, .int .i64 (h.at' + (got.size : Int)), .int .u8 (h.ttl : Int), .int .u8 (h.proto : Int), .int .u32 (h.frm : Int), .int .u32 (h.to : Int), .string op'] 25))
      case first =>
        by_cases hlast : k + 1 < L.length
        · have e1 : decide ((k : Int) + 1 < (L.length : Int)) = true := decide_eq_true (by omega)
          have e2 := unhide hroom hlast
          clear hlast
          go_wp2_with fail
          go_meet
          exact ⟨rfl, rfl⟩
        · have e1 : decide ((k : Int) + 1 < (L.length : Int)) = false := decide_eq_false (by omega)
          clear hlast
          go_wp2_with fail
          go_meet
          exact ⟨rfl, rfl⟩
      case rest =>
        obtain ⟨rfl, rfl⟩ := hcut
        clear a4 hroom hs8 hkx hg0
        go_wp2_with fail
        refine (unhide hC _).mono ?_
        rintro e w5 ⟨sp2, sc2, rfl, hS2, b5⟩
        have kr5 := kr4.on b5
        have hB5 := hide ((unhide hB4).trans (b5.mono (unhide hB4).size))
        have HS2 := hide hS2
        clear hC kr4 hB4 hx x0 x1 x2 x3 x4 x5 x6 x7 x8 x9 hS2 b5
        by_cases he2 : e2 = 0
        · obtain ⟨hP2, hD2⟩ := unhide HC2 he2
          have hL2 := (unhide HL2 he2).2
          have HP2 := hide hP2
          have HD2 := hide hD2
          subst he2
          clear HC2 HE2 HL2 hP2 hD2
          obtain ⟨K2, hK2⟩ : ∃ K2, keptB op' = K2 := ⟨_, rfl⟩
          generalize w3.heap.size = q3 at *
          go_wp2_with fail
          go_loopw [11, 18] (fun s9 s10 wr => ∃ j : Nat, s9 = .string (got ++ datL (L2.take j)) ∧ s10 = .int .i64 (j : Int) ∧ j ≤ L2.length ∧ Below w5.heap.size w5 wr) (fun _ s _ => L2.length - (intOf s).toNat)
          case atStart => exact ⟨0, by rw [show datL (L2.take 0) = ⟨#[]⟩ from rfl, ba_app_nil], rfl, Nat.zero_le _, Below.refl _ _⟩
          case round =>
            obtain ⟨j, rfl, rfl, hj, hbel⟩ := hrel
            by_cases hlj : j < L2.length
            · obtain ⟨p2, hp2⟩ : ∃ p2, L2[j]? = some p2 := ⟨_, List.getElem?_eq_getElem hlj⟩
              have hpT : (L2.map pcB)[j]? = some (pcB p2) := by rw [List.getElem?_map, hp2]; rfl
              obtain ⟨g2, off2, cap2, hsv, a0⟩ := strs_cells ((unhide HS2).below hbel) hpT
              rw [List.length_map] at hsv
              obtain ⟨rfl, rfl⟩ : sp2 = some ⟨g2, off2, none⟩ ∧ sc2 = cap2 := by
                injection hsv with h1 h2 h3
                exact ⟨h1, h3⟩
              have hvp := (unhide HP2).val p2 (List.mem_of_getElem? hp2)
              have hD := hide (fun w => dec_pc_any p2 hvp w)
              have hst := (unhide HP2).hd j p2 hp2
              have hstep := datL_take hp2
              have hgs := at_split hp2 (unhide HD2)
              have kr := kr5.on hbel
              obtain ⟨S2, hSe⟩ : ∃ S2, pcB p2 = S2 := ⟨_, rfl⟩
              rw [hSe] at hD a0
              obtain ⟨gj, hgj⟩ : ∃ gj, datL (L2.take j) = gj := ⟨_, rfl⟩
              rw [hgj] at hst hstep hgs
              obtain ⟨gg, hgg⟩ : ∃ gg, got ++ gj = gg := ⟨_, rfl⟩
              have hggs : gg.size = got.size + gj.size := by rw [← hgg, ByteArray.size_append]
              obtain ⟨G2, y⟩ := p2
              simp only at hst hstep hgs
              have hA : G2.at' = h.at' + (gg.size : Int) := by rw [hst, hggs]; simp only; omega
              have hI : G2.id = h.id := by rw [hst]
              have hat : IntKind.i64.wrap (h.at' + (gg.size : Int)) = h.at' + (gg.size : Int) := by
                have h1 := (unhide HV).m.1; have h2 := (unhide HV).m.2.1
                rw [IntKind.wrap_i64]; omega
              have hnew : got ++ datL (L2.take (j + 1)) = gg ++ y := by rw [hstep, ← hgg, ba_assoc]
              have HN := hide hnew
              have n1 : ¬ 9223372036854775807 < gg.size + y.size := by omega
              obtain ⟨z0, z1, z2, z3, z4, z5, z6, z7, z8, z9⟩ := G2
              simp only at hA hI
              subst hA hI
              have hlj2 : (j : Int) < (L2.length : Int) := by omega
              have hat0 := hide hat
              rw [hgj, hgg]
              have HGG := hide (And.intro hgj hgg)
              clear hp2 hpT hsv hvp hSe hst hstep hgs hgj hgg hggs hnew
              obtain ⟨c0, c1, c2, c3, c4, c5, c6, c7, c8, c9⟩ := id kr
              go_wp2_with fail
              refine (unhide hD _).mono ?_
              rintro e w6 ⟨rfl, b6⟩
              have hB6 := hide (hbel.trans ((b6.mono hbel.size).trans ((below_one w6 (.cells #[.int .u8 (z0 : Int), .int .u16 (h.id : Int), .bool z2, .bool z3, .int .i64 (h.at' + (gg.size : Int)), .int .u8 (z5 : Int), .int .u8 (z6 : Int), .int .u32 (z7 : Int), .int .u32 (z8 : Int), .string z9] 25)).mono (Nat.le_trans hbel.size b6.size))))
              have kr6 := (kr.on b6).on (below_one w6 (.cells #[.int .u8 (z0 : Int), .int .u16 (h.id : Int), .bool z2, .bool z3, .int .i64 (h.at' + (gg.size : Int)), .int .u8 (z5 : Int), .int .u8 (z6 : Int), .int .u32 (z7 : Int), .int .u32 (z8 : Int), .string z9] 25))
              clear b6 kr c0 c1 c2 c3 c4 c5 c6 c7 c8 c9 a0 hbel hD
              obtain ⟨c0, c1, c2, c3, c4, c5, c6, c7, c8, c9⟩ := id kr6
              go_wp2_with fail
              go_roundw
              case rel => exact ⟨j + 1, by rw [unhide HN], by go_num, by omega, unhide hB6⟩
              case measure => simp [intOf]; omega
            · obtain rfl : j = L2.length := by omega
              have hfin : got ++ datL (L2.take L2.length) = datL (L.take (k + 1)) := by rw [List.take_length, unhide HD2, unhide HT]
              rw [hfin]
              have hB6 := hide ((unhide hB5).trans (hbel.mono (unhide hB5).size))
              clear hbel hfin
              go_wp2_with fail
              go_roundw
              case rel => exact ⟨k + 1, rfl, by go_num, by omega, unhide hB6⟩
              case measure => simp [intOf]; omega
        · have B7 := hide (unhide HW _ (unhide hB5))
          have hqw : Hid (w.heap.size ≤ w5.heap.size) := by rw [unhide HQE]; exact Nat.le_trans (Nat.le_of_lt hq) (unhide hB5).size
          have hcase := (unhide HE2).resolve_left he2
          clear HC2 HE2 HL2 he2
          rcases hcase with rfl | rfl | rfl
          all_goals
            go_wp2_with fail
            refine (unhide HA _).mono ?_
            rintro e w8 ⟨rfl, b8⟩
            have B8 := hide ((unhide B7).trans (b8.mono (unhide hqw)))
            go_wp2_with fail
            go_ret
            exact ⟨rfl, unhide B8⟩
    · obtain rfl : k = L.length := by omega
      rw [List.take_length, unhide HD]
      have B5 := hide (unhide HW _ hbel)
      have hne : (d.toList == d.toList) = true := by simp
      have hqw : Hid (w.heap.size ≤ wr.heap.size) := by rw [unhide HQE]; exact Nat.le_trans (Nat.le_of_lt hq) hbel.size
      clear hbel
      go_wp2_with fail
      refine (unhide HA _).mono ?_
      rintro e w6 ⟨rfl, b6⟩
      have B6 := hide ((unhide B5).trans (b6.mono (unhide hqw)))
      go_wp2_with fail
      go_ret
      exact ⟨rfl, unhide B6⟩

set_option maxRecDepth 100000 in
set_option maxHeartbeats 4000000 in
theorem fragAgain_walk (v : Value) (h : Rh) (d : ByteArray) (room less : Int) (w : World) (hv : IsHead v h) (hd : d.size ≤ maxLen) (_ : (Lit.int .i64 room).wf = true) (_ : (Lit.int .i64 less).wf = true) :
    Calls Try.prog 5 #[v, .string d, .int .i64 room, .int .i64 less] w fun e w' => e = .returned (.bool true) ∧ Below w.heap.size w w' := by
  obtain rfl := hv.eq
  have H1 := fun w => heavy_any h d room w hv.op hd
  have H1' := fun w => heavy_any h d less w hv.op hd
  have HA := hide alive_ok
  have BEL := hide (fun o => below_one w o)
  have k0 := HC.box w h 25
  simp only [hdL] at k0
  by_cases hh : heavyB h d room
  · rw [decide_eq_true hh] at H1
    have H1 := hide H1
    clear hh hd hv H1' k0
    go_enter Try.func5, Try.ntmps5
    go_wp2_with fail
    refine (unhide H1 _).mono ?_
    rintro e w1 ⟨rfl, b1⟩
    have B1 := hide (tr2 (unhide BEL _) b1)
    go_wp2_with fail
    refine (unhide HA _).mono ?_
    rintro e w2 ⟨rfl, b2⟩
    have B2 := hide (tr2 (unhide B1) b2)
    go_wp2_with fail
    go_ret
    exact ⟨rfl, unhide B2⟩
  rw [decide_eq_false hh] at H1
  by_cases hh' : heavyB h d less
  · rw [decide_eq_true hh'] at H1'
    have H1 := hide H1
    have H1' := hide H1'
    clear hh hh' hd hv
    go_enter Try.func5, Try.ntmps5
    go_wp2_with fail
    refine (unhide H1 _).mono ?_
    rintro e w1 ⟨rfl, b1⟩
    obtain ⟨c0, c1, c2, c3, c4, c5, c6, c7, c8, c9⟩ := k0.on b1
    have B1 := hide (tr2 (unhide BEL (.cells (hdL h).toArray 25)) b1)
    clear b1 k0
    go_wp2_with fail
    refine (unhide H1' _).mono ?_
    rintro e w2 ⟨rfl, b2⟩
    have B2 := hide (tr2 (unhide B1) b2)
    clear b2 c0 c1 c2 c3 c4 c5 c6 c7 c8 c9
    go_wp2_with fail
    refine (unhide HA _).mono ?_
    rintro e w3 ⟨rfl, b3⟩
    have B3 := hide (tr2 (unhide B2) b3)
    go_wp2_with fail
    go_ret
    exact ⟨rfl, unhide B3⟩
  rw [decide_eq_false hh'] at H1'
  have hl : ¬ longB h d := fun x => hh (.inl x)
  unfold longB at hl
  have hi := hv.in' (by omega)
  obtain ⟨L, e, hc⟩ := cutIs_ex h d room hi
  have H2 := fun w => cut_any hc hi (by omega) w
  by_cases he : e = 0
  · subst he
    obtain ⟨hP, hD⟩ := cut_ok hc rfl
    obtain ⟨hvv, hlen⟩ := cut_hok hc rfl
    exact again_main h d (keptB h.op) room less w L hvv hP hD hlen H1 H1' H2
  · obtain rfl := cut_no hc he
    have he' : ((e : Int) != 0) = true := by simpa using he
    have H1 := hide H1
    have H1' := hide H1'
    have H2 := hide H2
    clear hh hh' hl hd hv hi hc he
    go_enter Try.func5, Try.ntmps5
    go_wp2_with fail
    refine (unhide H1 _).mono ?_
    rintro e w1 ⟨rfl, b1⟩
    have k1 := k0.on b1
    obtain ⟨c0, c1, c2, c3, c4, c5, c6, c7, c8, c9⟩ := id k1
    have B1 := hide (tr2 (unhide BEL (.cells (hdL h).toArray 25)) b1)
    clear b1 k0
    go_wp2_with fail
    refine (unhide H1' _).mono ?_
    rintro e w1a ⟨rfl, b1⟩
    have k1 := k1.on b1
    have B1 := hide (tr2 (unhide B1) b1)
    clear b1 c0 c1 c2 c3 c4 c5 c6 c7 c8 c9
    obtain ⟨c0, c1, c2, c3, c4, c5, c6, c7, c8, c9⟩ := k1
    go_wp2_with fail
    refine (unhide H2 _).mono ?_
    rintro e w2 ⟨sp, sc, rfl, _, b2⟩
    have B2 := hide (tr2 (unhide B1) b2)
    simp only [List.length_nil]
    clear b2 c0 c1 c2 c3 c4 c5 c6 c7 c8 c9
    go_wp2_with fail
    refine (unhide HA _).mono ?_
    rintro e w3 ⟨rfl, b3⟩
    have B3 := hide (tr2 (unhide B2) b3)
    go_wp2_with fail
    go_ret
    exact ⟨rfl, unhide B3⟩
end Go.Proofs.Ytefenejeppmfiaa
