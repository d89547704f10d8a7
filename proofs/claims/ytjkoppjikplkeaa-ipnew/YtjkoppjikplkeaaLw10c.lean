/- The statement IpBack of layer 10, as a contract over the loaded program. -/
import Derived.Test.YtjkoppjikplkeaaLw10b
namespace Go.Proofs.Ytjkoppjikplkeaa
open Go.RowKit

theorem DecR.det {s : List UInt8} {e e' : Nat} (a : DecR s e) (b : DecR s e') : e = e' := by
  cases a <;> cases b <;> first | rfl | (exfalso; omega) | (exfalso; contradiction)
theorem decV_no {s : ByteArray} {e : Nat} (r : DecR s.data.toList e) : decV s = .tuple #[hd0V, .string ⟨#[]⟩, .int .i64 (e : Int)] := by
  have hn : decE s ≠ 0 := fun h0 => r.not_ok (dec_ok_of h0)
  obtain ⟨e', h1, r'⟩ := dec_no_of hn
  obtain rfl := r.det r'
  unfold decV
  rw [if_neg hn, h1]
theorem raw_size {h : Rh} {d : ByteArray} : (⟨(rawB h.hd d.data.toList).toArray⟩ : ByteArray).size = h.hd.n + d.size := by
  rw [Lib.size_eq, Lib.size_eq]
  simp [raw_len]
theorem box_hd2 (w : World) (h i : Rh) : Tab w 2 (add (add (fun _ _ => none) 0 (hdL h)) 1 (hdL i)) ((w.alloc (.cells (hdL h).toArray 25)).alloc (.cells (hdL i).toArray 25)) :=
  ((Tab.zero w).alloc rfl (hdL h) _).alloc (by simp) (hdL i) _

set_option maxRecDepth 20000 in
set_option maxHeartbeats 2000000 in
theorem back_long (h i : Rh) (d o b : ByteArray) (t : Nat) (w : World) (l1 l2 : Bool) (hl : l1 = true ∨ (l1 = false ∧ l2 = true) ∨ (l1 = false ∧ l2 = false ∧ 4096 < b.size))
    (H1 : Hid (∀ w, Calls Try.prog 9 #[hdV h, .string d] w fun e w' => e = .returned (.bool l1) ∧ Below w.heap.size w w'))
    (H2 : Hid (∀ w, Calls Try.prog 9 #[hdV i, .string o] w fun e w' => e = .returned (.bool l2) ∧ Below w.heap.size w w')) :
    Calls Try.prog 6 #[hdV h, hdV i, .string d, .string o, .string b, .int .u16 (t : Int)] w fun e w' => e = .returned (.bool true) ∧ Below w.heap.size w w' := by
  have H3 := hide alive_any
  have K0 := hide (box_hd2 w h i)
  rcases hl with rfl | ⟨rfl, rfl⟩ | ⟨rfl, rfl, hb⟩
  case inl =>
    go_enter Try.func6, Try.ntmps6
    obtain ⟨c0, c1, c2, c3, c4, c5, c6, c7, c8, c9⟩ := ten0 (unhide K0) 0 rfl rfl rfl rfl rfl rfl rfl rfl rfl rfl
    simp only [Nat.add_zero] at c0 c1 c2 c3 c4 c5 c6 c7 c8 c9
    go_wp2_with fail
    refine (unhide H1 _).mono ?_
    rintro e w1 ⟨rfl, b1⟩
    have K1 := hide ((unhide K0).on b1)
    clear b1 K0 c0 c1 c2 c3 c4 c5 c6 c7 c8 c9
    go_wp2_with fail
    refine (unhide H3 _).mono ?_
    rintro e w2 ⟨rfl, b2⟩
    go_wp2_with fail
    go_ret
    exact ⟨rfl, tr2 (unhide K1).bel b2⟩
  all_goals
    go_enter Try.func6, Try.ntmps6
    obtain ⟨c0, c1, c2, c3, c4, c5, c6, c7, c8, c9⟩ := ten0 (unhide K0) 0 rfl rfl rfl rfl rfl rfl rfl rfl rfl rfl
    simp only [Nat.add_zero] at c0 c1 c2 c3 c4 c5 c6 c7 c8 c9
    go_wp2_with fail
    refine (unhide H1 _).mono ?_
    rintro e w1 ⟨rfl, b1⟩
    have K1 := hide ((unhide K0).on b1)
    clear b1 K0 c0 c1 c2 c3 c4 c5 c6 c7 c8 c9
    obtain ⟨c0, c1, c2, c3, c4, c5, c6, c7, c8, c9⟩ := ten0 (unhide K1) 1 rfl rfl rfl rfl rfl rfl rfl rfl rfl rfl
    go_wp2_with fail
    refine (unhide H2 _).mono ?_
    rintro e w2 ⟨rfl, b2⟩
    have K2 := hide ((unhide K1).on b2)
    clear b2 K1 c0 c1 c2 c3 c4 c5 c6 c7 c8 c9
    go_wp2_with fail
    refine (unhide H3 _).mono ?_
    rintro e w3 ⟨rfl, b3⟩
    go_wp2_with fail
    go_ret
    exact ⟨rfl, tr2 (unhide K2).bel b3⟩

set_option maxRecDepth 20000 in
set_option maxHeartbeats 2000000 in
theorem back_no (h i : Rh) (d o b : ByteArray) (t : Nat) (w : World) (hb : ¬ 4096 < b.size) (S T : ByteArray) (E F : Int) (hE : (E != 0) = true)
    (H1 : Hid (∀ w, Calls Try.prog 9 #[hdV h, .string d] w fun e w' => e = .returned (.bool false) ∧ Below w.heap.size w w'))
    (H2 : Hid (∀ w, Calls Try.prog 9 #[hdV i, .string o] w fun e w' => e = .returned (.bool false) ∧ Below w.heap.size w w'))
    (H4 : Hid (∀ w, Calls Try.prog 11 #[hdV h, .string d] w fun e w' => e = .returned (.tuple #[.string S, .int .i64 E]) ∧ Below w.heap.size w w'))
    (H5 : Hid (∀ w, Calls Try.prog 11 #[hdV i, .string o] w fun e w' => e = .returned (.tuple #[.string T, .int .i64 F]) ∧ Below w.heap.size w w')) :
    Calls Try.prog 6 #[hdV h, hdV i, .string d, .string o, .string b, .int .u16 (t : Int)] w fun e w' => e = .returned (.bool true) ∧ Below w.heap.size w w' := by
  have H3 := hide alive_any
  have K0 := hide (box_hd2 w h i)
  go_enter Try.func6, Try.ntmps6
  obtain ⟨c0, c1, c2, c3, c4, c5, c6, c7, c8, c9⟩ := ten0 (unhide K0) 0 rfl rfl rfl rfl rfl rfl rfl rfl rfl rfl
  simp only [Nat.add_zero] at c0 c1 c2 c3 c4 c5 c6 c7 c8 c9
  go_wp2_with fail
  refine (unhide H1 _).mono ?_
  rintro e w1 ⟨rfl, b1⟩
  have K1 := hide ((unhide K0).on b1)
  clear b1 K0 H1 c0 c1 c2 c3 c4 c5 c6 c7 c8 c9
  obtain ⟨c0, c1, c2, c3, c4, c5, c6, c7, c8, c9⟩ := ten0 (unhide K1) 1 rfl rfl rfl rfl rfl rfl rfl rfl rfl rfl
  go_wp2_with fail
  refine (unhide H2 _).mono ?_
  rintro e w2 ⟨rfl, b2⟩
  have K2 := hide ((unhide K1).on b2)
  clear b2 K1 H2 c0 c1 c2 c3 c4 c5 c6 c7 c8 c9
  obtain ⟨c0, c1, c2, c3, c4, c5, c6, c7, c8, c9⟩ := ten0 (unhide K2) 0 rfl rfl rfl rfl rfl rfl rfl rfl rfl rfl
  simp only [Nat.add_zero] at c0 c1 c2 c3 c4 c5 c6 c7 c8 c9
  go_wp2_with fail
  refine (unhide H4 _).mono ?_
  rintro e w3 ⟨rfl, b3⟩
  have K3 := hide ((unhide K2).on b3)
  clear b3 K2 H4 c0 c1 c2 c3 c4 c5 c6 c7 c8 c9
  obtain ⟨c0, c1, c2, c3, c4, c5, c6, c7, c8, c9⟩ := ten0 (unhide K3) 1 rfl rfl rfl rfl rfl rfl rfl rfl rfl rfl
  go_wp2_with fail
  refine (unhide H5 _).mono ?_
  rintro e w4 ⟨rfl, b4⟩
  have K4 := hide ((unhide K3).on b4)
  clear b4 K3 H5 c0 c1 c2 c3 c4 c5 c6 c7 c8 c9
  go_wp2_with fail
  refine (unhide H3 _).mono ?_
  rintro e w5 ⟨rfl, b5⟩
  go_wp2_with fail
  go_ret
  exact ⟨rfl, tr2 (unhide K4).bel b5⟩

set_option maxRecDepth 20000 in
set_option maxHeartbeats 2000000 in
theorem back_main (h i : Rh) (d o b : ByteArray) (t : Nat) (w : World) (hb : ¬ 4096 < b.size) (S T C X : ByteArray) (F : Int) (b2 b3 : Bool) (hF : (F != 0) = true ∨ (F = 0 ∧ (S.toList == T.toList) = (b2 && b3)))
    (hX : S ++ b = X) (hx : ¬ 9223372036854775807 < S.size + b.size) (ht : t < 65536)
    (q2 : ∀ w, (binOp .eql 25 (hdV h) (hdV i)).run Try.prog w = .ok (.bool b2) w) (q3 : (d.toList == o.toList) = b3)
    (H1 : Hid (∀ w, Calls Try.prog 9 #[hdV h, .string d] w fun e w' => e = .returned (.bool false) ∧ Below w.heap.size w w'))
    (H2 : Hid (∀ w, Calls Try.prog 9 #[hdV i, .string o] w fun e w' => e = .returned (.bool false) ∧ Below w.heap.size w w'))
    (H4 : Hid (∀ w, Calls Try.prog 11 #[hdV h, .string d] w fun e w' => e = .returned (.tuple #[.string S, .int .i64 0]) ∧ Below w.heap.size w w'))
    (H5 : Hid (∀ w, Calls Try.prog 11 #[hdV i, .string o] w fun e w' => e = .returned (.tuple #[.string T, .int .i64 F]) ∧ Below w.heap.size w w'))
    (H6 : Hid (∀ w, Calls Try.prog 13 #[.string X] w fun e w' => e = .returned (.tuple #[hdV h, .string d, .int .i64 0]) ∧ Below w.heap.size w w'))
    (H7 : Hid (∀ w, Calls Try.prog 25 #[.string S, .int .i64 ((t : Int) % max (S.size : Int) 1)] w fun e w' => e = .returned (.string C) ∧ w' = w))
    (H8 : Hid (∀ w, Calls Try.prog 13 #[.string C] w fun e w' => e = .returned (.tuple #[hd0V, .string ⟨#[]⟩, .int .i64 10]) ∧ Below w.heap.size w w')) :
    Calls Try.prog 6 #[hdV h, hdV i, .string d, .string o, .string b, .int .u16 (t : Int)] w fun e w' => e = .returned (.bool true) ∧ Below w.heap.size w w' := by
  have H3 := hide alive_any
  have K0 := hide (box_hd2 w h i)
  have BX := hide (fun w => box_hd w h)
  have q1 := hd_same h
  have qd := toList_refl d
  have wi : IntKind.i64.wrap (t : Int) = (t : Int) := by rw [IntKind.wrap_i64]; omega
  have HF := hide hF
  clear hF
  go_enter Try.func6, Try.ntmps6
  obtain ⟨c0, c1, c2, c3, c4, c5, c6, c7, c8, c9⟩ := ten0 (unhide K0) 0 rfl rfl rfl rfl rfl rfl rfl rfl rfl rfl
  simp only [Nat.add_zero] at c0 c1 c2 c3 c4 c5 c6 c7 c8 c9
  go_wp2_with fail
  refine (unhide H1 _).mono ?_
  rintro e w1 ⟨rfl, b1⟩
  have K1 := hide ((unhide K0).on b1)
  clear b1 K0 H1 c0 c1 c2 c3 c4 c5 c6 c7 c8 c9
  obtain ⟨c0, c1, c2, c3, c4, c5, c6, c7, c8, c9⟩ := ten0 (unhide K1) 1 rfl rfl rfl rfl rfl rfl rfl rfl rfl rfl
  go_wp2_with fail
  refine (unhide H2 _).mono ?_
  rintro e w2 ⟨rfl, b2⟩
  have K2 := hide ((unhide K1).on b2)
  clear b2 K1 H2 c0 c1 c2 c3 c4 c5 c6 c7 c8 c9
  obtain ⟨c0, c1, c2, c3, c4, c5, c6, c7, c8, c9⟩ := ten0 (unhide K2) 0 rfl rfl rfl rfl rfl rfl rfl rfl rfl rfl
  simp only [Nat.add_zero] at c0 c1 c2 c3 c4 c5 c6 c7 c8 c9
  go_wp2_with fail
  refine (unhide H4 _).mono ?_
  rintro e w3 ⟨rfl, b3⟩
  have K3 := hide ((unhide K2).on b3)
  clear b3 K2 H4 c0 c1 c2 c3 c4 c5 c6 c7 c8 c9
  obtain ⟨c0, c1, c2, c3, c4, c5, c6, c7, c8, c9⟩ := ten0 (unhide K3) 1 rfl rfl rfl rfl rfl rfl rfl rfl rfl rfl
  go_wp2_with fail
  refine (unhide H5 _).mono ?_
  rintro e w4 ⟨rfl, b4⟩
  have K4 := hide ((unhide K3).on b4)
  clear b4 K3 H5 c0 c1 c2 c3 c4 c5 c6 c7 c8 c9
  go_wp2_with fail
  refine (unhide H6 _).mono ?_
  rintro e w5 ⟨rfl, b5⟩
  have K5 := hide (((unhide K4).on b5).on (below_one w5 (.cells (hdL h).toArray 25)))
  have X5 := hide (unhide BX w5)
  clear b5 K4 H6 BX
  go_wp2_with fail
  refine (unhide H7 _).mono ?_
  rintro e w6 ⟨rfl, rfl⟩
  clear H7
  go_wp2_with fail
  refine (unhide H8 _).mono ?_
  rintro e w7 ⟨rfl, b7⟩
  have K7 := hide ((unhide K5).on (tr2 b7 (below_one w7 v0C)))
  have X7 := hide ((unhide X5).on (tr2 b7 (below_one w7 v0C)))
  clear b7 K5 X5 H8
  obtain ⟨x0, x1, x2, x3, x4, x5, x6, x7, x8, x9⟩ := ten0 (unhide X7) 0 rfl rfl rfl rfl rfl rfl rfl rfl rfl rfl
  obtain ⟨c0, c1, c2, c3, c4, c5, c6, c7, c8, c9⟩ := ten0 (unhide K7) 0 rfl rfl rfl rfl rfl rfl rfl rfl rfl rfl
  obtain ⟨g0, g1, g2, g3, g4, g5, g6, g7, g8, g9⟩ := ten0 (unhide K7) 1 rfl rfl rfl rfl rfl rfl rfl rfl rfl rfl
  simp only [Nat.add_zero] at x0 x1 x2 x3 x4 x5 x6 x7 x8 x9 c0 c1 c2 c3 c4 c5 c6 c7 c8 c9
  cases b2
  all_goals
    rcases unhide HF with hF | ⟨rfl, hF⟩
    all_goals
      clear HF
      go_wp2_with fail
      refine (unhide H3 _).mono ?_
      rintro e w8 ⟨rfl, b8⟩
      go_wp2_with fail
      go_ret
      exact ⟨rfl, tr2 (unhide K7).bel b8⟩

theorem enc_alike {h i : Rh} {d o : ByteArray} (hi : h.In) (hm : h.MayB) (hw : wholeB h.more d.size) (hr : roomB h d.size) (hi' : i.In) (hm' : i.MayB) (hw' : wholeB i.more o.size) (hr' : roomB i o.size) :
    (((⟨(rawB h.hd d.data.toList).toArray⟩ : ByteArray).toList == (⟨(rawB i.hd o.data.toList).toArray⟩ : ByteArray).toList)) = (decide (h = i) && (d.toList == o.toList)) := by
  have l : d.data.toList.length = d.size := (Lib.size_eq d).symm
  have l' : o.data.toList.length = o.size := (Lib.size_eq o).symm
  rw [Bool.eq_iff_iff]
  simp only [Bool.and_eq_true, beq_iff_eq, decide_eq_true_iff, ByteArray.toList_eq]
  constructor
  · intro e
    obtain ⟨e1, e2⟩ := raw_inj (in_hd hi) (may_hd hm) (by rw [l]; exact hw) (by rw [l]; exact fits_hd hm hr) (in_hd hi') (may_hd hm') (by rw [l']; exact hw') (by rw [l']; exact fits_hd hm' hr') e
    exact ⟨hd_inj e1 hm.1 hm'.1, e2⟩
  · rintro ⟨rfl, e⟩
    rw [e]

theorem ipBack_walk (v : Value) (h : Rh) (v' : Value) (i : Rh) (d o b : ByteArray) (t : Int) (w : World) (hv : IsHead v h) (hv' : IsHead v' i) (hd : d.size ≤ maxLen) (ho : o.size ≤ maxLen) (_ : b.size ≤ maxLen) (ht : (Lit.int .u16 t).wf = true) :
    Calls Try.prog 6 #[v, v', .string d, .string o, .string b, .int .u16 t] w fun e w' => e = .returned (.bool true) ∧ Below w.heap.size w w' := by
  obtain rfl := hv.eq
  obtain rfl := hv'.eq
  obtain ⟨t, rfl, ht2⟩ := nat16 ht
  have H1 := hide (fun w => long_any h d w hv.op hd)
  have H2 := hide (fun w => long_any i o w hv'.op ho)
  by_cases l1 : longB h d
  · exact back_long h i d o b t w _ _ (.inl (decide_eq_true l1)) H1 H2
  by_cases l2 : longB i o
  · exact back_long h i d o b t w _ _ (.inr (.inl ⟨decide_eq_false l1, decide_eq_true l2⟩)) H1 H2
  by_cases hb : 4096 < b.size
  · exact back_long h i d o b t w _ _ (.inr (.inr ⟨decide_eq_false l1, decide_eq_false l2, hb⟩)) H1 H2
  rw [decide_eq_false l1] at H1
  rw [decide_eq_false l2] at H2
  unfold longB at l1 l2
  have hi := hv.in' (by omega)
  have hi' := hv'.in' (by omega)
  obtain ⟨S, E, he⟩ := enc_ex h d
  obtain ⟨T, F, hf⟩ := enc_ex i o
  have H4 := hide (fun w => encode_any h d w hi (by omega) he)
  have H5 := hide (fun w => encode_any i o w hi' (by omega) hf)
  rcases he with ⟨hz, _, rfl⟩ | ⟨⟨hm, hw, hr⟩, rfl, rfl⟩
  · exact back_no h i d o b t w hb _ _ _ _ (by simpa using hz) H1 H2 H4 H5
  have hn := hdn h
  have hz := raw_size (h := h) (d := d)
  have hm' := hm
  obtain ⟨_, _, _, m4, _⟩ := hm'
  have hlen : (rawB h.hd d.data.toList).length = h.hd.n + d.size := by rw [raw_len, Lib.size_eq]
  have hj : t % (h.hd.n + d.size) < h.hd.n + d.size := Nat.mod_lt _ (by omega)
  have hd8 : (⟨(rawB h.hd d.data.toList).toArray⟩ : ByteArray).size ≤ 131132 := by omega
  have H6 := hide (fun w => decode_any ((⟨(rawB h.hd d.data.toList).toArray⟩ : ByteArray) ++ b) w (by rw [ByteArray.size_append]; omega))
  rw [dec_enc hi hm hw hr rfl b] at H6
  have H7 := hide (fun w => cut_any (⟨(rawB h.hd d.data.toList).toArray⟩ : ByteArray) (t % (h.hd.n + d.size)) w (by omega))
  have el : ((⟨(rawB h.hd d.data.toList).toArray⟩ : ByteArray).extract 0 (t % (h.hd.n + d.size))).data.toList = (rawB h.hd d.data.toList).take (t % (h.hd.n + d.size)) := by
    rw [Lib.extract_data, Nat.sub_zero, List.drop_zero]
  have H8 := hide (fun w => decode_any ((⟨(rawB h.hd d.data.toList).toArray⟩ : ByteArray).extract 0 (t % (h.hd.n + d.size))) w (by rw [Lib.size_eq, el, List.length_take]; omega))
  rw [decV_no (e := 10) (by rw [el]; exact dec_cut (may_hd hm) (by rw [← Lib.size_eq]; exact fits_hd hm hr) (by rw [hlen]; exact hj))] at H8
  refine back_main h i d o b t w hb _ T _ _ F (decide (h = i)) _ ?_ rfl (by omega) ht2 (eql_hd h i) rfl H1 H2 H4 H5 H6 ?_ H8
  · rcases hf with ⟨hz, _, rfl⟩ | ⟨⟨hm', hw', hr'⟩, rfl, rfl⟩
    · exact .inl (by simpa using hz)
    · exact .inr ⟨rfl, enc_alike hi hm hw hr hi' hm' hw' hr'⟩
  · intro w
    rw [show ((t : Int) % max ((⟨(rawB h.hd d.data.toList).toArray⟩ : ByteArray).size : Int) 1) = ((t % (h.hd.n + d.size) : Nat) : Int) by rw [hz, Int.max_eq_left (by omega)]; exact (Int.natCast_emod _ _).symm]
    exact H7 w

end Go.Proofs.Ytjkoppjikplkeaa
