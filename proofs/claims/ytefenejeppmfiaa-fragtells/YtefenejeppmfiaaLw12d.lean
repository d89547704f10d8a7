/- The statement FragTells of layer 12, as a contract over the loaded program. -/
import Derived.Test.YtefenejeppmfiaaRcu12
import Derived.Test.YtefenejeppmfiaaAm12
namespace Go.Proofs.Ytefenejeppmfiaa
open Go.RowKit

theorem rcut_any {h : Rh} {d : ByteArray} {room : Int} {L : List Pc} {e : Int} (hc : CutIs h d room L e) (hi : h.In) (hd : d.size ≤ 1073741824) (w : World) :
    Calls Try.prog 10 #[hdV h, .string d, .int .i64 room] w (CutPost w L e) := by
  cases hc with
  | enc hz => exact rcut_enc h d room w hi hd _ rfl hz
  | one hv hl => exact rcut_one h d room w hv hl
  | held hv hl hh => exact rcut_held h d room w hv hl hh
  | full hv hl hh h3 => exact rcut_full h d room w hv hl hh h3
  | opts hv hl hh h3 h4 => exact rcut_opts h d room w hv hl hh h3 h4
  | cut M hv hl hh h3 h4 => exact rcut_cut h d room w hv hl hh h3 M h4
theorem cut_len {h : Rh} {d : ByteArray} {room : Int} {L : List Pc} {e : Int} (hc : CutIs h d room L e) : L.length ≤ 65536 := by
  cases hc with
  | cut M hv _ _ _ _ => exact Nat.le_trans (pcs_len _ _ _ _ _) (by have := hv.r; have := hv.m.1; unfold roomB at *; omega)
  | one _ _ => simp
  | _ => simp
theorem strsOn' {w w' : World} {sv : Value} {L : List ByteArray} (h : Strs w.heap.size w sv L) (b : Below w.heap.size w w') : Strs w'.heap.size w' sv L := by
  rcases h.below b with q | ⟨g, off, cap, e, hb, hc⟩
  · exact .inl q
  · exact .inr ⟨g, off, cap, e, Nat.lt_of_lt_of_le hb b.size, hc⟩

set_option maxRecDepth 100000 in
set_option maxHeartbeats 4000000 in
theorem fragTells_walk (v : Value) (h : Rh) (d : ByteArray) (room : Int) (s : ByteArray) (w : World) (hv : IsHead v h) (hd : d.size ≤ maxLen) (_ : (Lit.int .i64 room).wf = true) (_ : s.size ≤ maxLen) :
    Calls Try.prog 3 #[v, .string d, .int .i64 room, .string s] w fun e w' => e = .returned (.bool true) ∧ Below w.heap.size w w' := by
  obtain rfl := hv.eq
  have H1 := fun w => heavy_any h d room w hv.op hd
  have HA := hide alive_ok
  have BEL := hide (fun o => below_one w o)
  have k0 := HC.box w h 25
  simp only [hdL] at k0
  by_cases hh : heavyB h d room
  · rw [decide_eq_true hh] at H1
    have H1 := hide H1
    clear hh hd hv k0
    go_enter Try.func3, Try.ntmps3
    go_wp2_with fail
    refine (unhide H1 _).mono ?_
    rintro e w1 ⟨rfl, b1⟩
    have B1 := hide (tr2 (unhide BEL _) b1)
    go_wp2_with fail
    refine (unhide HA _).mono ?_
    rintro e w2 ⟨rfl, b2⟩
    have B2 := hide (tr2 (unhide B1) b2)
    go_wp2_with fail
    go_ret
    exact ⟨rfl, unhide B2⟩
  rw [decide_eq_false hh] at H1
  have hl : ¬ longB h d := fun x => hh (.inl x)
  unfold longB at hl
  by_cases hs : 256 < s.size
  · have d1 : decide ((256 : Int) < (s.size : Int)) = true := decide_eq_true (by omega)
    have H1 := hide H1
    clear hh hd hv k0 hl hs
    go_enter Try.func3, Try.ntmps3
    go_wp2_with fail
    refine (unhide H1 _).mono ?_
    rintro e w1 ⟨rfl, b1⟩
    have B1 := hide (tr2 (unhide BEL _) b1)
    go_wp2_with fail
    refine (unhide HA _).mono ?_
    rintro e w2 ⟨rfl, b2⟩
    have B2 := hide (tr2 (unhide B1) b2)
    go_wp2_with fail
    go_ret
    exact ⟨rfl, unhide B2⟩
  have d1 : decide ((256 : Int) < (s.size : Int)) = false := decide_eq_false (by omega)
  have hi := hv.in' (by omega)
  obtain ⟨L, e, hc⟩ := cutIs_ex h d room hi
  have H1 := hide H1
  have H2 := hide (fun w => cut_any hc hi (by omega) w)
  have H3 := hide (fun w => rcut_any hc hi (by omega) w)
  have H4 := hide (fun sv tv w hI hJ => rsame_any sv tv (L.map pcB) w (by rw [List.length_map]; exact cut_len hc) hI hJ)
  have H5 := fun w => kept_any s w
  have H6 := fun w => rkept_any s w
  obtain ⟨K, hK⟩ : ∃ K, keptB s = K := ⟨_, rfl⟩
  rw [hK] at H5 H6
  have H5 := hide H5
  have H6 := hide H6
  have hKe : (K.toList == K.toList) = true := by simp
  have hee : ((e : Int) == e) = true := by simp
  clear hh hl hs hd hv hi hc hK
  go_enter Try.func3, Try.ntmps3
  go_wp2_with fail
  refine (unhide H1 _).mono ?_
  rintro _ w1 ⟨rfl, b1⟩
  have k1 := k0.on b1
  obtain ⟨c0, c1, c2, c3, c4, c5, c6, c7, c8, c9⟩ := id k1
  have B1 := hide (tr2 (unhide BEL (.cells (hdL h).toArray 25)) b1)
  clear b1 k0 H1
  go_wp2_with fail
  refine (unhide H2 _).mono ?_
  rintro _ w2 ⟨sp, sc, rfl, hS, b2⟩
  have k2 := k1.on b2
  have B2 := hide (tr2 (unhide B1) b2)
  clear b2 H2 c0 c1 c2 c3 c4 c5 c6 c7 c8 c9 k1
  obtain ⟨c0, c1, c2, c3, c4, c5, c6, c7, c8, c9⟩ := id k2
  have HS := hide hS
  clear hS
  go_wp2_with fail
  refine (unhide H3 _).mono ?_
  rintro _ w3 ⟨sp2, sc2, rfl, hS2, b3⟩
  have HS := hide (strsOn' (unhide HS) b3)
  have HS2 := hide hS2
  have B3 := hide (tr2 (unhide B2) b3)
  clear b3 H3 hS2 c0 c1 c2 c3 c4 c5 c6 c7 c8 c9 k2
  have HSAME := hide (unhide H4 _ _ w3 (unhide HS) (unhide HS2))
  clear HS HS2 H4
  go_wp2_with fail
  refine (unhide HSAME).mono ?_
  rintro _ w4 ⟨rfl, b4⟩
  have B4 := hide (tr2 (unhide B3) b4)
  clear b4 HSAME
  go_wp2_with fail
  refine (unhide H5 _).mono ?_
  rintro _ w5 ⟨rfl, b5⟩
  have B5 := hide (tr2 (unhide B4) b5)
  clear b5 H5
  go_wp2_with fail
  refine (unhide H6 _).mono ?_
  rintro _ w6 ⟨rfl, b6⟩
  have B6 := hide (tr2 (unhide B5) b6)
  clear b6 H6
  go_wp2_with fail
  refine (unhide HA _).mono ?_
  rintro _ w7 ⟨rfl, b7⟩
  have B7 := hide (tr2 (unhide B6) b7)
  go_wp2_with fail
  go_ret
  exact ⟨rfl, unhide B7⟩
end Go.Proofs.Ytefenejeppmfiaa
