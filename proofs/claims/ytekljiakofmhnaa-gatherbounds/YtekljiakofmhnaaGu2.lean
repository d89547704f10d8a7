/- package gather's Put: a part that is taken. -/
import Derived.Test.YtekljiakofmhnaaGu1
namespace Go.Proofs.Ytekljiakofmhnaa
open Go.RowKit Go.Shelf

variable {No : Nat → Prop} {w : World} {p b : Nat} {c : Cf} {L : List En} {o : Value} {last : Int}

set_option maxRecDepth 100000 in
set_option maxHeartbeats 4000000 in
theorem put_part {ks ks' : List Pk} {L' : Value → List En} {held held' last' : Int} (hg : GX No w p b c L ks o held last) (h : Rh) (hin : h.In) (d : ByteArray) (now : Int) (hd : d.size ≤ 1073741824) (hop : h.op.size ≤ 1073741824) (hes : ∃ s, EncIs h d s 0) (hnw : ¬ (h.at' = 0 ∧ h.more = false)) (y : Ga) (hyl : y.ps.length ≤ 65536) (hyi : ∀ q ∈ y.ps, q.In) (hyw : wholeF 0 true y.ps = false)
    (HT : Hid (∀ (No' : Nat → Prop) (W : World), GX No' W p b c L ks o held last → Calls Try.prog 23 #[.pointer (some ⟨p, 0, none⟩), hdV h, .string d, .int .i64 now] W fun x w' => Ks No' W w' ∧ ∃ v', x = .returned (.tuple #[gaV y v', .int .i64 0]) ∧ PV w' v' y.ps ∧ ∃ o', GX No' w' p b c (L' v') ks' o' held' last')) :
    Calls Try.prog 10 #[.pointer (some ⟨p, 0, none⟩), hdV h, .string d, .int .i64 now] w fun x w' => Ks No w w' ∧ x = noR 0 ∧ ∃ v' o', GX No w' p b c (L' v') ks' o' held' last' := by
  have HNW := hide hnw
  clear hnw
  have B2 := tr2 (below_one w (.cells (hdL h).toArray 34)) (below_one _ (.cells hd0C 34))
  have HBX := hide ((below_one (w.alloc (.cells (hdL h).toArray 34)) (.cells hd0C 34)).block _ (by simp) |>.trans (heap_alloc_new w (.cells (hdL h).toArray 34)))
  have HR := hide (show ((w.alloc (.cells (hdL h).toArray 34)).alloc (.cells hd0C 34)).heap[w.heap.size + 1]? = some (.cells hd0C 34 (0, 0)) by
    have := heap_alloc_new (w.alloc (.cells (hdL h).toArray 34)) (.cells hd0C 34)
    rwa [World.size_alloc] at this)
  obtain ⟨s, hes⟩ := hes
  have HE := hide (fun W => encode_any h d W hin hd hes)
  have HCl := hide (fun W => clone_any h.op W (by omega))
  have HCd := hide (fun W => clone_any d W (by omega))
  have HM := hide (made_ok p b _ ((hg.below B2).cell rfl))
  have HG2 := hide (hg.below B2)
  have HB2 := hide B2
  have hs2 : ((w.alloc (.cells (hdL h).toArray 34)).alloc (.cells hd0C 34)).heap.size = w.heap.size + 1 + 1 := by simp
  have hpn := hg.plt
  have hbn := hg.blt
  have HGW := hide hg
  clear hg B2
  obtain ⟨W2, hW2⟩ : ∃ W2, W2 = ((w.alloc (.cells (hdL h).toArray 34)).alloc (.cells hd0C 34)) := ⟨_, rfl⟩
  rw [← hW2] at HBX HR HM HB2 HG2 hs2
  simp only [hdL, hd0C] at hW2
  have HS2 := hide hs2
  clear hs2
  go_enter Try.func10, Try.ntmps10
  go_upto_block 1 with fail
  rw [← hW2]
  clear hW2
  refine (unhide HM).mono ?_
  rintro e w' ⟨rfl, rfl⟩
  have c0 := cell_lie (unhide HBX) 0 (Value.int .u8 (h.tos : Int)) rfl
  have c1 := cell_lie (unhide HBX) 1 (Value.int .u16 (h.id : Int)) rfl
  have c2 := cell_lie (unhide HBX) 2 (Value.bool h.hold) rfl
  have c3 := cell_lie (unhide HBX) 3 (Value.bool h.more) rfl
  have c4 := cell_lie (unhide HBX) 4 (Value.int .i64 h.at') rfl
  have c5 := cell_lie (unhide HBX) 5 (Value.int .u8 (h.ttl : Int)) rfl
  have c6 := cell_lie (unhide HBX) 6 (Value.int .u8 (h.proto : Int)) rfl
  have c7 := cell_lie (unhide HBX) 7 (Value.int .u32 (h.frm : Int)) rfl
  have c8 := cell_lie (unhide HBX) 8 (Value.int .u32 (h.to : Int)) rfl
  have c9 := cell_lie (unhide HBX) 9 (Value.string h.op) rfl
  go_wp2_with fail
  refine (unhide HE _).mono ?_
  rintro e w3 ⟨rfl, hb3⟩
  have HX3 := hide ((hb3.block _ (by rw [unhide HS2]; omega)).trans (unhide HBX))
  have HB3 := hide hb3
  clear c0 c1 c2 c3 c4 c5 c6 c7 c8 c9 hb3
  have c0 := cell_lie (unhide HX3) 0 (Value.int .u8 (h.tos : Int)) rfl
  have c1 := cell_lie (unhide HX3) 1 (Value.int .u16 (h.id : Int)) rfl
  have c2 := cell_lie (unhide HX3) 2 (Value.bool h.hold) rfl
  have c3 := cell_lie (unhide HX3) 3 (Value.bool h.more) rfl
  have c4 := cell_lie (unhide HX3) 4 (Value.int .i64 h.at') rfl
  have c5 := cell_lie (unhide HX3) 5 (Value.int .u8 (h.ttl : Int)) rfl
  have c6 := cell_lie (unhide HX3) 6 (Value.int .u8 (h.proto : Int)) rfl
  have c7 := cell_lie (unhide HX3) 7 (Value.int .u32 (h.frm : Int)) rfl
  have c8 := cell_lie (unhide HX3) 8 (Value.int .u32 (h.to : Int)) rfl
  have c9 := cell_lie (unhide HX3) 9 (Value.string h.op) rfl
  go_wp2_with fail
  refine (unhide HCl _).mono ?_
  rintro e w4 ⟨rfl, hb4⟩
  go_wp2_with fail
  refine (unhide HCd _).mono ?_
  rintro e w5 ⟨rfl, hb5⟩
  have B5 := tr2 (unhide HB3) (tr2 hb4 hb5)
  have HX5 := hide ((B5.block _ (by rw [unhide HS2]; omega)).trans (unhide HBX))
  have HR5 := hide ((B5.block _ (by rw [unhide HS2]; omega)).trans (unhide HR))
  have HG5 := hide ((unhide HG2).below B5)
  have HW5 := hide (tr2 (unhide HB2) B5)
  clear c0 c1 c2 c3 c4 c5 c6 c7 c8 c9 hb4 hb5 B5
  have c0 := cell_lie (unhide HX5) 0 (Value.int .u8 (h.tos : Int)) rfl
  have c1 := cell_lie (unhide HX5) 1 (Value.int .u16 (h.id : Int)) rfl
  have c2 := cell_lie (unhide HX5) 2 (Value.bool h.hold) rfl
  have c3 := cell_lie (unhide HX5) 3 (Value.bool h.more) rfl
  have c4 := cell_lie (unhide HX5) 4 (Value.int .i64 h.at') rfl
  have c5 := cell_lie (unhide HX5) 5 (Value.int .u8 (h.ttl : Int)) rfl
  have c6 := cell_lie (unhide HX5) 6 (Value.int .u8 (h.proto : Int)) rfl
  have c7 := cell_lie (unhide HX5) 7 (Value.int .u32 (h.frm : Int)) rfl
  have c8 := cell_lie (unhide HX5) 8 (Value.int .u32 (h.to : Int)) rfl
  have c9 := cell_lie (unhide HX5) 9 (Value.string h.op) rfl
  have r0 := cell_lie (unhide HR5) 0 (Value.int .u8 0) rfl
  have f0 := free_lie (unhide HR5) 0
  have r1 := cell_lie (unhide HR5) 1 (Value.int .u16 0) rfl
  have f1 := free_lie (unhide HR5) 1
  have r2 := cell_lie (unhide HR5) 2 (Value.bool false) rfl
  have f2 := free_lie (unhide HR5) 2
  have r3 := cell_lie (unhide HR5) 3 (Value.bool false) rfl
  have f3 := free_lie (unhide HR5) 3
  have r4 := cell_lie (unhide HR5) 4 (Value.int .i64 0) rfl
  have f4 := free_lie (unhide HR5) 4
  have r5 := cell_lie (unhide HR5) 5 (Value.int .u8 0) rfl
  have f5 := free_lie (unhide HR5) 5
  have r6 := cell_lie (unhide HR5) 6 (Value.int .u8 0) rfl
  have f6 := free_lie (unhide HR5) 6
  have r7 := cell_lie (unhide HR5) 7 (Value.int .u32 0) rfl
  have f7 := free_lie (unhide HR5) 7
  have r8 := cell_lie (unhide HR5) 8 (Value.int .u32 0) rfl
  have f8 := free_lie (unhide HR5) 8
  have r9 := cell_lie (unhide HR5) 9 (Value.string ⟨#[]⟩) rfl
  have f9 := free_lie (unhide HR5) 9
  have f9' := free_lie (unhide HX5) 9
  have hid := setCell_idem (unhide HX5) 9 (.string h.op) rfl
  have hN : ∀ i, (No i ∨ i = w.heap.size ∨ i = w.heap.size + 1) → i < w5.heap.size ∧ (No i ∨ w.heap.size ≤ i) := by
    have h1 := (unhide HW5).size
    have h2 := heap_lt (unhide HR5)
    rintro i (x | x | x)
    · exact ⟨by have := (unhide HGW).nlt i x; omega, .inl x⟩
    · exact ⟨by omega, .inr (by omega)⟩
    · exact ⟨by omega, .inr (by omega)⟩
  have HGN := hide ((unhide HGW).no (unhide HW5) hN)
  have HTA := hide (unhide HT _ w5 (unhide HGN))
  have hsz5 := heap_lt (unhide HR5)
  have zz : (h.at' == 0) = false ∨ (h.at' == 0) = true ∧ h.more = true := by
    have := unhide HNW
    rcases hz : (h.at' == 0) with _ | _
    · exact .inl rfl
    · refine .inr ⟨rfl, ?_⟩
      rcases hm : h.more with _ | _
      · exact absurd ⟨by simpa using hz, hm⟩ this
      · rfl
  clear hN HT
  rcases zz with z4 | ⟨z4, hmo⟩
  case' inr => simp only [hdV, hmo] at HTA
  all_goals
    go_wp2_with fail
    refine (unhide HTA).mono ?_
    rintro e w6 ⟨k6, v6, rfl, pv6, o6, g6⟩
    clear z4
    try clear hmo
    obtain ⟨sp, sc, rfl⟩ := pv_shape pv6
    have HR6 := (k6.block _ hsz5 (.inr (.inr rfl))).trans (unhide HR5)
    have BA := below_one w6 (.cells #[.int .u8 (y.hd.tos : Int), .int .u16 (y.hd.id : Int), .bool y.hd.hold, .bool y.hd.more, .int .i64 y.hd.at', .int .u8 (y.hd.ttl : Int), .int .u8 (y.hd.proto : Int), .int .u32 (y.hd.frm : Int), .int .u32 (y.hd.to : Int), .string y.hd.op, .slice sp y.ps.length sc, .int .i64 y.ov, .bool y.sp] 59)
    have HWH := hide (whole_any y (.slice sp y.ps.length sc) _ (pv6.on BA) hyl hyi)
    have HR7 := (BA.block _ (heap_lt HR6)).trans HR6
    have K7 := hide ((((Ks.of_below (No := No) (unhide HW5)).trans (k6.mono (fun i hi => .inl hi)))).trans (Ks.of_below BA))
    have G7 := hide ((g6.below BA).mono (No := No) (fun i hi => .inl hi))
    have HR7' := hide HR7
    clear k6 g6 HR6 BA HTA HCl HCd HE hes HM hid HR7 pv6
    go_wp2_with fail
    rw [hyw] at HWH
    refine (unhide HWH).mono ?_
    rintro e w8 ⟨rfl, hb8⟩
    have HR8 := hide ((hb8.block _ (heap_lt (unhide HR7'))).trans (unhide HR7'))
    have G8 := hide ((unhide G7).below hb8)
    have K8 := hide ((unhide K7).trans (Ks.of_below hb8))
    clear hb8
    have r0 := cell_lie (unhide HR8) 0 (Value.int .u8 0) rfl
    have f0 := free_lie (unhide HR8) 0
    have r1 := cell_lie (unhide HR8) 1 (Value.int .u16 0) rfl
    have f1 := free_lie (unhide HR8) 1
    have r2 := cell_lie (unhide HR8) 2 (Value.bool false) rfl
    have f2 := free_lie (unhide HR8) 2
    have r3 := cell_lie (unhide HR8) 3 (Value.bool false) rfl
    have f3 := free_lie (unhide HR8) 3
    have r4 := cell_lie (unhide HR8) 4 (Value.int .i64 0) rfl
    have f4 := free_lie (unhide HR8) 4
    have r5 := cell_lie (unhide HR8) 5 (Value.int .u8 0) rfl
    have f5 := free_lie (unhide HR8) 5
    have r6 := cell_lie (unhide HR8) 6 (Value.int .u8 0) rfl
    have f6 := free_lie (unhide HR8) 6
    have r7 := cell_lie (unhide HR8) 7 (Value.int .u32 0) rfl
    have f7 := free_lie (unhide HR8) 7
    have r8 := cell_lie (unhide HR8) 8 (Value.int .u32 0) rfl
    have f8 := free_lie (unhide HR8) 8
    have r9 := cell_lie (unhide HR8) 9 (Value.string ⟨#[]⟩) rfl
    have f9 := free_lie (unhide HR8) 9
    have q0 := setCell_idem (unhide HR8) 0 (Value.int .u8 0) rfl
    have q1 := setCell_idem (unhide HR8) 1 (Value.int .u16 0) rfl
    have q2 := setCell_idem (unhide HR8) 2 (Value.bool false) rfl
    have q3 := setCell_idem (unhide HR8) 3 (Value.bool false) rfl
    have q4 := setCell_idem (unhide HR8) 4 (Value.int .i64 0) rfl
    have q5 := setCell_idem (unhide HR8) 5 (Value.int .u8 0) rfl
    have q6 := setCell_idem (unhide HR8) 6 (Value.int .u8 0) rfl
    have q7 := setCell_idem (unhide HR8) 7 (Value.int .u32 0) rfl
    have q8 := setCell_idem (unhide HR8) 8 (Value.int .u32 0) rfl
    have q9 := setCell_idem (unhide HR8) 9 (Value.string ⟨#[]⟩) rfl
    go_wp2_with fail
    refine bodyPost_ret (v := .tuple #[hd0V, .string ⟨#[]⟩, .bool false, .int .i64 0]) (by simp [results, Try.results10, go_sem, r0, r1, r2, r3, r4, r5, r6, r7, r8, r9]) rfl ⟨unhide K8, rfl, _, _, unhide G8⟩

end Go.Proofs.Ytekljiakofmhnaa
