/- The contract of package gather's Put, over the loaded program. Conditions: numbers in their bounds. -/
import Derived.Test.YtekljiakofmhnaaGt1
import Derived.Test.YtekljiakofmhnaaGt2
import Derived.Test.YtekljiakofmhnaaIh2
namespace Go.Proofs.Ytekljiakofmhnaa
open Go.RowKit Go.Shelf

variable {No : Nat → Prop} {w : World} {p b : Nat} {c : Cf} {L : List En} {o : Value} {last : Int}
abbrev noR (e : Int) : Ending := .returned (.tuple #[hd0V, .string ⟨#[]⟩, .bool false, .int .i64 e])

set_option maxRecDepth 100000 in
set_option maxHeartbeats 4000000 in
theorem put_arg {ks : List Pk} {held : Int} (hg : GX No w p b c L ks o held last) (h : Rh) (hin : h.In) (d : ByteArray) (now : Int) (hd : d.size ≤ 1073741824) (he : encE h d.size ≠ 0) :
    Calls Try.prog 10 #[.pointer (some ⟨p, 0, none⟩), hdV h, .string d, .int .i64 now] w fun x w' => x = noR 2 ∧ Below w.heap.size w w' := by
  have B2 := tr2 (below_one w (.cells (hdL h).toArray 34)) (below_one _ (.cells hd0C 34))
  have HB := hide ((HC.box w h 34).on (below_one _ (.cells hd0C 34)))
  have HR := hide (show ((w.alloc (.cells (hdL h).toArray 34)).alloc (.cells hd0C 34)).heap[w.heap.size + 1]? = some (.cells hd0C 34 (0, 0)) by
    have := heap_alloc_new (w.alloc (.cells (hdL h).toArray 34)) (.cells hd0C 34)
    rwa [World.size_alloc] at this)
  have HE := hide (fun W => encode_any h d W hin hd (s := ⟨#[]⟩) (e := encE h d.size) (.inl ⟨he, rfl, rfl⟩))
  have HM := hide (made_ok p b _ ((hg.below B2).cell rfl))
  have HB2 := hide B2
  have hs2 : ((w.alloc (.cells (hdL h).toArray 34)).alloc (.cells hd0C 34)).heap.size = w.heap.size + 1 + 1 := by simp
  clear hg B2
  obtain ⟨W2, hW2⟩ : ∃ W2, W2 = (w.alloc (.cells (hdL h).toArray 34)).alloc (.cells hd0C 34) := ⟨_, rfl⟩
  rw [← hW2] at HB HR HM HB2 hs2
  simp only [hdL, hd0C] at hW2
  have HS2 := hide hs2
  clear hs2
  go_enter Try.func10, Try.ntmps10
  go_upto_block 1 with fail
  rw [← hW2]
  clear hW2
  refine (unhide HM).mono ?_
  rintro e w' ⟨rfl, rfl⟩
  obtain ⟨c0, c1, c2, c3, c4, c5, c6, c7, c8, c9⟩ := unhide HB
  have hne : (encE h d.size != 0) = true := by simpa using he
  go_wp2_with fail
  refine (unhide HE _).mono ?_
  rintro e w3 ⟨rfl, hb⟩
  have HR3 := hide ((hb.block _ (by rw [unhide HS2]; omega)).trans (unhide HR))
  have HB3 := hide (tr2 (unhide HB2) hb)
  clear c0 c1 c2 c3 c4 c5 c6 c7 c8 c9 hb
  have r0 := cell_lie (unhide HR3) 0 _ rfl
  have f0 := free_lie (unhide HR3) 0
  have r1 := cell_lie (unhide HR3) 1 _ rfl
  have f1 := free_lie (unhide HR3) 1
  have r2 := cell_lie (unhide HR3) 2 _ rfl
  have f2 := free_lie (unhide HR3) 2
  have r3 := cell_lie (unhide HR3) 3 _ rfl
  have f3 := free_lie (unhide HR3) 3
  have r4 := cell_lie (unhide HR3) 4 _ rfl
  have f4 := free_lie (unhide HR3) 4
  have r5 := cell_lie (unhide HR3) 5 _ rfl
  have f5 := free_lie (unhide HR3) 5
  have r6 := cell_lie (unhide HR3) 6 _ rfl
  have f6 := free_lie (unhide HR3) 6
  have r7 := cell_lie (unhide HR3) 7 _ rfl
  have f7 := free_lie (unhide HR3) 7
  have r8 := cell_lie (unhide HR3) 8 _ rfl
  have f8 := free_lie (unhide HR3) 8
  have r9 := cell_lie (unhide HR3) 9 _ rfl
  have f9 := free_lie (unhide HR3) 9
  clear he
  go_wp2_with fail
  refine bodyPost_ret (v := .tuple #[hd0V, .string ⟨#[]⟩, .bool false, .int .i64 2]) (by simp [results, Try.results10, go_sem, r0, r1, r2, r3, r4, r5, r6, r7, r8, r9]) rfl ⟨rfl, ?_⟩
  exact below_set10 (unhide HB3) (Nat.le_succ _) _ _ _ _ _ _ _ _ _ _

theorem setCell_idem {W : World} {n : Nat} {cs : Array Value} {T : TypeId} (h : W.heap[n]? = some (Obj.cells cs T (0, 0))) (i : Nat) (v : Value) (hv : cs[i]? = some v) : W.setCell ⟨n, i, none⟩ v = W := by
  have e : (W.setCell ⟨n, i, none⟩ v).heap = W.heap := by
    apply Array.ext_getElem?
    intro k
    simp only [World.setCell, Array.getElem?_modify]
    split
    · rename_i e
      subst e
      rw [h]
      obtain ⟨hlt, he⟩ := Array.getElem?_eq_some_iff.1 hv
      have e2 : cs.setIfInBounds i v = cs := by
        apply Array.ext_getElem?
        intro k
        rw [Array.getElem?_setIfInBounds]
        split
        · rename_i e
          subst e
          exact hv.symm
        · rfl
      simp [e2]
    · rfl
  calc W.setCell ⟨n, i, none⟩ v = { W with heap := (W.setCell ⟨n, i, none⟩ v).heap } := rfl
    _ = W := by rw [e]
abbrev set10 (W : World) (n : Nat) (h : Rh) : World := ((((((((((W.setCell ⟨n, 0, none⟩ (.int .u8 (h.tos : Int))).setCell ⟨n, 1, none⟩ (.int .u16 (h.id : Int))).setCell ⟨n, 2, none⟩ (.bool h.hold)).setCell ⟨n, 3, none⟩ (.bool h.more)).setCell ⟨n, 4, none⟩ (.int .i64 h.at')).setCell ⟨n, 5, none⟩ (.int .u8 (h.ttl : Int))).setCell ⟨n, 6, none⟩ (.int .u8 (h.proto : Int))).setCell ⟨n, 7, none⟩ (.int .u32 (h.frm : Int))).setCell ⟨n, 8, none⟩ (.int .u32 (h.to : Int))).setCell ⟨n, 9, none⟩ (.string h.op))
theorem GX.set10 {ks : List Pk} {held : Int} (hg : GX No w p b c L ks o held last) {B : Nat} (h : Rh) (h1 : p ≠ B) (h2 : b ≠ B) (h3 : o.ownBlock ≠ some B) (h4 : ∀ e ∈ L, e.v.ownBlock ≠ some B) (h5 : ¬ No B) :
    GX No (set10 w B h) p b c L ks o held last ∧ Ks No w (set10 w B h) := by
  refine ⟨?_, ?_⟩
  · iterate 10 refine GX.other ?_ h1 h2 h3 h4
    exact hg
  · iterate 9 refine Ks.trans ?_ (Ks.setCell _ B _ _ h5)
    exact Ks.setCell _ B _ _ h5

set_option maxRecDepth 100000 in
set_option maxHeartbeats 4000000 in
theorem put_now {ks : List Pk} {held : Int} (hg : GX No w p b c L ks o held last) (h : Rh) (hin : h.In) (d : ByteArray) (now : Int) (hd : d.size ≤ 1073741824) (hop : h.op.size ≤ 1073741824) (hes : ∃ s, EncIs h d s 0) (hat : h.at' = 0) (hm : h.more = false) :
    Calls Try.prog 10 #[.pointer (some ⟨p, 0, none⟩), hdV h, .string d, .int .i64 now] w fun x w' => x = .returned (.tuple #[hdV h, .string d, .bool true, .int .i64 0]) ∧ GX No w' p b c L ks o held (cntT last now) ∧ Ks No w w' := by
  have HAT := hide hat
  have HMO := hide hm
  clear hat hm
  have B2 := tr2 (below_one w (.cells (hdL h).toArray 34)) (below_one _ (.cells hd0C 34))
  have HBX := hide ((below_one (w.alloc (.cells (hdL h).toArray 34)) (.cells hd0C 34)).block _ (by simp) |>.trans (heap_alloc_new w (.cells (hdL h).toArray 34)))
  have HR := hide (show ((w.alloc (.cells (hdL h).toArray 34)).alloc (.cells hd0C 34)).heap[w.heap.size + 1]? = some (.cells hd0C 34 (0, 0)) by
    have := heap_alloc_new (w.alloc (.cells (hdL h).toArray 34)) (.cells hd0C 34)
    rwa [World.size_alloc] at this)
  obtain ⟨s, hes⟩ := hes
  have HE := hide (fun W => encode_any h d W hin hd hes)
  have HCl := hide (fun W => clone_any h.op W (by omega))
  have HCd := hide (fun W => clone_any d W (by omega))
  have HM := hide (made_ok p b _ ((hg.below B2).cell rfl))
  have HG2 := hide (hg.below B2)
  have HB2 := hide B2
  have hs2 : ((w.alloc (.cells (hdL h).toArray 34)).alloc (.cells hd0C 34)).heap.size = w.heap.size + 1 + 1 := by simp
  have hpn := hg.plt
  have hbn := hg.blt
  have HGW := hide hg
  clear hg B2
  obtain ⟨W2, hW2⟩ : ∃ W2, W2 = ((w.alloc (.cells (hdL h).toArray 34)).alloc (.cells hd0C 34)) := ⟨_, rfl⟩
  rw [← hW2] at HBX HR HM HB2 HG2 hs2
  simp only [hdL, hd0C] at hW2
  have HS2 := hide hs2
  clear hs2
  go_enter Try.func10, Try.ntmps10
  go_upto_block 1 with fail
  rw [← hW2]
  clear hW2
  refine (unhide HM).mono ?_
  rintro e w' ⟨rfl, rfl⟩
  have c0 := cell_lie (unhide HBX) 0 (Value.int .u8 (h.tos : Int)) rfl
  have c1 := cell_lie (unhide HBX) 1 (Value.int .u16 (h.id : Int)) rfl
  have c2 := cell_lie (unhide HBX) 2 (Value.bool h.hold) rfl
  have c3 := cell_lie (unhide HBX) 3 (Value.bool h.more) rfl
  have c4 := cell_lie (unhide HBX) 4 (Value.int .i64 h.at') rfl
  have c5 := cell_lie (unhide HBX) 5 (Value.int .u8 (h.ttl : Int)) rfl
  have c6 := cell_lie (unhide HBX) 6 (Value.int .u8 (h.proto : Int)) rfl
  have c7 := cell_lie (unhide HBX) 7 (Value.int .u32 (h.frm : Int)) rfl
  have c8 := cell_lie (unhide HBX) 8 (Value.int .u32 (h.to : Int)) rfl
  have c9 := cell_lie (unhide HBX) 9 (Value.string h.op) rfl
  go_wp2_with fail
  refine (unhide HE _).mono ?_
  rintro e w3 ⟨rfl, hb3⟩
  have HX3 := hide ((hb3.block _ (by rw [unhide HS2]; omega)).trans (unhide HBX))
  have HB3 := hide hb3
  clear c0 c1 c2 c3 c4 c5 c6 c7 c8 c9 hb3
  have c0 := cell_lie (unhide HX3) 0 (Value.int .u8 (h.tos : Int)) rfl
  have c1 := cell_lie (unhide HX3) 1 (Value.int .u16 (h.id : Int)) rfl
  have c2 := cell_lie (unhide HX3) 2 (Value.bool h.hold) rfl
  have c3 := cell_lie (unhide HX3) 3 (Value.bool h.more) rfl
  have c4 := cell_lie (unhide HX3) 4 (Value.int .i64 h.at') rfl
  have c5 := cell_lie (unhide HX3) 5 (Value.int .u8 (h.ttl : Int)) rfl
  have c6 := cell_lie (unhide HX3) 6 (Value.int .u8 (h.proto : Int)) rfl
  have c7 := cell_lie (unhide HX3) 7 (Value.int .u32 (h.frm : Int)) rfl
  have c8 := cell_lie (unhide HX3) 8 (Value.int .u32 (h.to : Int)) rfl
  have c9 := cell_lie (unhide HX3) 9 (Value.string h.op) rfl
  go_wp2_with fail
  refine (unhide HCl _).mono ?_
  rintro e w4 ⟨rfl, hb4⟩
  go_wp2_with fail
  refine (unhide HCd _).mono ?_
  rintro e w5 ⟨rfl, hb5⟩
  have B5 := tr2 (unhide HB3) (tr2 hb4 hb5)
  have HX5 := hide ((B5.block _ (by rw [unhide HS2]; omega)).trans (unhide HBX))
  have HR5 := hide ((B5.block _ (by rw [unhide HS2]; omega)).trans (unhide HR))
  have HG5 := hide ((unhide HG2).below B5)
  have HW5 := hide (tr2 (unhide HB2) B5)
  clear c0 c1 c2 c3 c4 c5 c6 c7 c8 c9 hb4 hb5 B5
  have c0 := cell_lie (unhide HX5) 0 (Value.int .u8 (h.tos : Int)) rfl
  have c1 := cell_lie (unhide HX5) 1 (Value.int .u16 (h.id : Int)) rfl
  have c2 := cell_lie (unhide HX5) 2 (Value.bool h.hold) rfl
  have c3 := cell_lie (unhide HX5) 3 (Value.bool h.more) rfl
  have c4 := cell_lie (unhide HX5) 4 (Value.int .i64 h.at') rfl
  have c5 := cell_lie (unhide HX5) 5 (Value.int .u8 (h.ttl : Int)) rfl
  have c6 := cell_lie (unhide HX5) 6 (Value.int .u8 (h.proto : Int)) rfl
  have c7 := cell_lie (unhide HX5) 7 (Value.int .u32 (h.frm : Int)) rfl
  have c8 := cell_lie (unhide HX5) 8 (Value.int .u32 (h.to : Int)) rfl
  have c9 := cell_lie (unhide HX5) 9 (Value.string h.op) rfl
  have r0 := cell_lie (unhide HR5) 0 (Value.int .u8 0) rfl
  have f0 := free_lie (unhide HR5) 0
  have r1 := cell_lie (unhide HR5) 1 (Value.int .u16 0) rfl
  have f1 := free_lie (unhide HR5) 1
  have r2 := cell_lie (unhide HR5) 2 (Value.bool false) rfl
  have f2 := free_lie (unhide HR5) 2
  have r3 := cell_lie (unhide HR5) 3 (Value.bool false) rfl
  have f3 := free_lie (unhide HR5) 3
  have r4 := cell_lie (unhide HR5) 4 (Value.int .i64 0) rfl
  have f4 := free_lie (unhide HR5) 4
  have r5 := cell_lie (unhide HR5) 5 (Value.int .u8 0) rfl
  have f5 := free_lie (unhide HR5) 5
  have r6 := cell_lie (unhide HR5) 6 (Value.int .u8 0) rfl
  have f6 := free_lie (unhide HR5) 6
  have r7 := cell_lie (unhide HR5) 7 (Value.int .u32 0) rfl
  have f7 := free_lie (unhide HR5) 7
  have r8 := cell_lie (unhide HR5) 8 (Value.int .u32 0) rfl
  have f8 := free_lie (unhide HR5) 8
  have r9 := cell_lie (unhide HR5) 9 (Value.string ⟨#[]⟩) rfl
  have f9 := free_lie (unhide HR5) 9
  have f9' := free_lie (unhide HX5) 9
  have hid := setCell_idem (unhide HX5) 9 (.string h.op) rfl
  have z4 : (h.at' == 0) = true := by simpa using unhide HAT
  have hmo := unhide HMO
  have c7' : w5.cell? ⟨p, 7, none⟩ = some (.int .i64 last) := (unhide HG5).cell rfl
  have f7' : w5.frozen? ⟨p, 7, none⟩ = false := (unhide HG5).fz 7
  have HK := hide (counted_any p last now w5 c7')
  have hpp : p ≠ w.heap.size := by omega
  have hpq : p ≠ w.heap.size + 1 := by omega
  go_wp2_with fail
  refine (unhide HK).mono ?_
  rintro e w' ⟨rfl, rfl⟩
  clear hmo z4 HK hid HX3 HB3 HBX HR HM HG2 HB2 HCl HCd HE hes
  have hn1 : ¬ No (w.heap.size + 1) := fun x => by have := (unhide HGW).nlt _ x; omega
  have G6 := (unhide HG5).setLast (cntT last now)
  have G7 := hide (G6.set10 h (B := w.heap.size + 1) hpq (by omega) (fun e => by have := (unhide HGW).olt _ e; omega) (fun e he x => by have := ((unhide HGW).pv e he).blt _ x; omega) hn1)
  have K7 := hide (((Ks.of_below (No := No) (unhide HW5)).trans (Ks.setCell _ p 7 (.int .i64 (cntT last now)) (unhide HGW).shp)).trans (unhide G7).2)
  clear G6 hn1
  go_wp2_with fail
  refine bodyPost_ret (v := .tuple #[hdV h, .string d, .bool true, .int .i64 0]) (by simp [results, Try.results10, go_sem, r0, r1, r2, r3, r4, r5, r6, r7, r8, r9]) rfl ⟨rfl, (unhide G7).1, unhide K7⟩

set_option maxRecDepth 100000 in
set_option maxHeartbeats 4000000 in
theorem put_refused {ks ks' : List Pk} {L' : List En} {held held' last' : Int} (hg : GX No w p b c L ks o held last) (h : Rh) (hin : h.In) (d : ByteArray) (now : Int) (hd : d.size ≤ 1073741824) (hop : h.op.size ≤ 1073741824) (hes : ∃ s, EncIs h d s 0) (hnw : ¬ (h.at' = 0 ∧ h.more = false)) (e1 : Int) (he1 : e1 ≠ 0)
    (HT : Hid (∀ (No' : Nat → Prop) (W : World), GX No' W p b c L ks o held last → Calls Try.prog 23 #[.pointer (some ⟨p, 0, none⟩), hdV h, .string d, .int .i64 now] W fun x w' => Ks No' W w' ∧ x = .returned (.tuple #[ga0V, .int .i64 e1]) ∧ ∃ o', GX No' w' p b c L' ks' o' held' last')) :
    Calls Try.prog 10 #[.pointer (some ⟨p, 0, none⟩), hdV h, .string d, .int .i64 now] w fun x w' => Ks No w w' ∧ x = noR e1 ∧ ∃ o', GX No w' p b c L' ks' o' held' last' := by
  have HNW := hide hnw
  clear hnw
  have B2 := tr2 (below_one w (.cells (hdL h).toArray 34)) (below_one _ (.cells hd0C 34))
  have HBX := hide ((below_one (w.alloc (.cells (hdL h).toArray 34)) (.cells hd0C 34)).block _ (by simp) |>.trans (heap_alloc_new w (.cells (hdL h).toArray 34)))
  have HR := hide (show ((w.alloc (.cells (hdL h).toArray 34)).alloc (.cells hd0C 34)).heap[w.heap.size + 1]? = some (.cells hd0C 34 (0, 0)) by
    have := heap_alloc_new (w.alloc (.cells (hdL h).toArray 34)) (.cells hd0C 34)
    rwa [World.size_alloc] at this)
  obtain ⟨s, hes⟩ := hes
  have HE := hide (fun W => encode_any h d W hin hd hes)
  have HCl := hide (fun W => clone_any h.op W (by omega))
  have HCd := hide (fun W => clone_any d W (by omega))
  have HM := hide (made_ok p b _ ((hg.below B2).cell rfl))
  have HG2 := hide (hg.below B2)
  have HB2 := hide B2
  have hs2 : ((w.alloc (.cells (hdL h).toArray 34)).alloc (.cells hd0C 34)).heap.size = w.heap.size + 1 + 1 := by simp
  have hpn := hg.plt
  have hbn := hg.blt
  have HGW := hide hg
  clear hg B2
  obtain ⟨W2, hW2⟩ : ∃ W2, W2 = ((w.alloc (.cells (hdL h).toArray 34)).alloc (.cells hd0C 34)) := ⟨_, rfl⟩
  rw [← hW2] at HBX HR HM HB2 HG2 hs2
  simp only [hdL, hd0C] at hW2
  have HS2 := hide hs2
  clear hs2
  go_enter Try.func10, Try.ntmps10
  go_upto_block 1 with fail
  rw [← hW2]
  clear hW2
  refine (unhide HM).mono ?_
  rintro e w' ⟨rfl, rfl⟩
  have c0 := cell_lie (unhide HBX) 0 (Value.int .u8 (h.tos : Int)) rfl
  have c1 := cell_lie (unhide HBX) 1 (Value.int .u16 (h.id : Int)) rfl
  have c2 := cell_lie (unhide HBX) 2 (Value.bool h.hold) rfl
  have c3 := cell_lie (unhide HBX) 3 (Value.bool h.more) rfl
  have c4 := cell_lie (unhide HBX) 4 (Value.int .i64 h.at') rfl
  have c5 := cell_lie (unhide HBX) 5 (Value.int .u8 (h.ttl : Int)) rfl
  have c6 := cell_lie (unhide HBX) 6 (Value.int .u8 (h.proto : Int)) rfl
  have c7 := cell_lie (unhide HBX) 7 (Value.int .u32 (h.frm : Int)) rfl
  have c8 := cell_lie (unhide HBX) 8 (Value.int .u32 (h.to : Int)) rfl
  have c9 := cell_lie (unhide HBX) 9 (Value.string h.op) rfl
  go_wp2_with fail
  refine (unhide HE _).mono ?_
  rintro e w3 ⟨rfl, hb3⟩
  have HX3 := hide ((hb3.block _ (by rw [unhide HS2]; omega)).trans (unhide HBX))
  have HB3 := hide hb3
  clear c0 c1 c2 c3 c4 c5 c6 c7 c8 c9 hb3
  have c0 := cell_lie (unhide HX3) 0 (Value.int .u8 (h.tos : Int)) rfl
  have c1 := cell_lie (unhide HX3) 1 (Value.int .u16 (h.id : Int)) rfl
  have c2 := cell_lie (unhide HX3) 2 (Value.bool h.hold) rfl
  have c3 := cell_lie (unhide HX3) 3 (Value.bool h.more) rfl
  have c4 := cell_lie (unhide HX3) 4 (Value.int .i64 h.at') rfl
  have c5 := cell_lie (unhide HX3) 5 (Value.int .u8 (h.ttl : Int)) rfl
  have c6 := cell_lie (unhide HX3) 6 (Value.int .u8 (h.proto : Int)) rfl
  have c7 := cell_lie (unhide HX3) 7 (Value.int .u32 (h.frm : Int)) rfl
  have c8 := cell_lie (unhide HX3) 8 (Value.int .u32 (h.to : Int)) rfl
  have c9 := cell_lie (unhide HX3) 9 (Value.string h.op) rfl
  go_wp2_with fail
  refine (unhide HCl _).mono ?_
  rintro e w4 ⟨rfl, hb4⟩
  go_wp2_with fail
  refine (unhide HCd _).mono ?_
  rintro e w5 ⟨rfl, hb5⟩
  have B5 := tr2 (unhide HB3) (tr2 hb4 hb5)
  have HX5 := hide ((B5.block _ (by rw [unhide HS2]; omega)).trans (unhide HBX))
  have HR5 := hide ((B5.block _ (by rw [unhide HS2]; omega)).trans (unhide HR))
  have HG5 := hide ((unhide HG2).below B5)
  have HW5 := hide (tr2 (unhide HB2) B5)
  clear c0 c1 c2 c3 c4 c5 c6 c7 c8 c9 hb4 hb5 B5
  have c0 := cell_lie (unhide HX5) 0 (Value.int .u8 (h.tos : Int)) rfl
  have c1 := cell_lie (unhide HX5) 1 (Value.int .u16 (h.id : Int)) rfl
  have c2 := cell_lie (unhide HX5) 2 (Value.bool h.hold) rfl
  have c3 := cell_lie (unhide HX5) 3 (Value.bool h.more) rfl
  have c4 := cell_lie (unhide HX5) 4 (Value.int .i64 h.at') rfl
  have c5 := cell_lie (unhide HX5) 5 (Value.int .u8 (h.ttl : Int)) rfl
  have c6 := cell_lie (unhide HX5) 6 (Value.int .u8 (h.proto : Int)) rfl
  have c7 := cell_lie (unhide HX5) 7 (Value.int .u32 (h.frm : Int)) rfl
  have c8 := cell_lie (unhide HX5) 8 (Value.int .u32 (h.to : Int)) rfl
  have c9 := cell_lie (unhide HX5) 9 (Value.string h.op) rfl
  have r0 := cell_lie (unhide HR5) 0 (Value.int .u8 0) rfl
  have f0 := free_lie (unhide HR5) 0
  have r1 := cell_lie (unhide HR5) 1 (Value.int .u16 0) rfl
  have f1 := free_lie (unhide HR5) 1
  have r2 := cell_lie (unhide HR5) 2 (Value.bool false) rfl
  have f2 := free_lie (unhide HR5) 2
  have r3 := cell_lie (unhide HR5) 3 (Value.bool false) rfl
  have f3 := free_lie (unhide HR5) 3
  have r4 := cell_lie (unhide HR5) 4 (Value.int .i64 0) rfl
  have f4 := free_lie (unhide HR5) 4
  have r5 := cell_lie (unhide HR5) 5 (Value.int .u8 0) rfl
  have f5 := free_lie (unhide HR5) 5
  have r6 := cell_lie (unhide HR5) 6 (Value.int .u8 0) rfl
  have f6 := free_lie (unhide HR5) 6
  have r7 := cell_lie (unhide HR5) 7 (Value.int .u32 0) rfl
  have f7 := free_lie (unhide HR5) 7
  have r8 := cell_lie (unhide HR5) 8 (Value.int .u32 0) rfl
  have f8 := free_lie (unhide HR5) 8
  have r9 := cell_lie (unhide HR5) 9 (Value.string ⟨#[]⟩) rfl
  have f9 := free_lie (unhide HR5) 9
  have f9' := free_lie (unhide HX5) 9
  have hid := setCell_idem (unhide HX5) 9 (.string h.op) rfl
  have hN : ∀ i, (No i ∨ i = w.heap.size ∨ i = w.heap.size + 1) → i < w5.heap.size ∧ (No i ∨ w.heap.size ≤ i) := by
    have h1 := (unhide HW5).size
    have h2 := heap_lt (unhide HR5)
    rintro i (x | x | x)
    · exact ⟨by have := (unhide HGW).nlt i x; omega, .inl x⟩
    · exact ⟨by omega, .inr (by omega)⟩
    · exact ⟨by omega, .inr (by omega)⟩
  have HGN := hide ((unhide HGW).no (unhide HW5) hN)
  have HTA := hide (unhide HT _ w5 (unhide HGN))
  have hsz5 := heap_lt (unhide HR5)
  have zz : (h.at' == 0) = false ∨ (h.at' == 0) = true ∧ h.more = true := by
    have := unhide HNW
    rcases hz : (h.at' == 0) with _ | _
    · exact .inl rfl
    · refine .inr ⟨rfl, ?_⟩
      rcases hm : h.more with _ | _
      · exact absurd ⟨by simpa using hz, hm⟩ this
      · rfl
  clear hN HT
  rcases zz with z4 | ⟨z4, hmo⟩
  case' inr => simp only [hdV, hmo] at HTA
  all_goals
    go_wp2_with fail
    refine (unhide HTA).mono ?_
    rintro e w6 ⟨k6, rfl, o6, g6⟩
    clear z4
    try clear hmo
    have HR6 := (k6.block _ hsz5 (.inr (.inr rfl))).trans (unhide HR5)
    have HX6 := (k6.block _ (by omega) (.inr (.inl rfl))).trans (unhide HX5)
    have hn1 : (e1 != 0) = true := by simpa using he1
    have BA := below_one w6 (.cells ga0C 59)
    have HR7 := hide ((BA.block _ (heap_lt HR6)).trans HR6)
    have K7 := hide ((((Ks.of_below (No := No) (unhide HW5)).trans (k6.mono (fun i hi => .inl hi)))).trans (Ks.of_below BA))
    have G7 := hide ((g6.below BA).mono (No := No) (fun i hi => .inl hi))
    have hwa := heap_alloc_new w6 (.cells ga0C 59)
    clear k6 g6 HR6 HX6 he1 BA HTA HCl HCd HE hes HM hid
    simp only [ga0C] at HR7 K7 G7
    have r0 := cell_lie (unhide HR7) 0 (Value.int .u8 0) rfl
    have f0 := free_lie (unhide HR7) 0
    have r1 := cell_lie (unhide HR7) 1 (Value.int .u16 0) rfl
    have f1 := free_lie (unhide HR7) 1
    have r2 := cell_lie (unhide HR7) 2 (Value.bool false) rfl
    have f2 := free_lie (unhide HR7) 2
    have r3 := cell_lie (unhide HR7) 3 (Value.bool false) rfl
    have f3 := free_lie (unhide HR7) 3
    have r4 := cell_lie (unhide HR7) 4 (Value.int .i64 0) rfl
    have f4 := free_lie (unhide HR7) 4
    have r5 := cell_lie (unhide HR7) 5 (Value.int .u8 0) rfl
    have f5 := free_lie (unhide HR7) 5
    have r6 := cell_lie (unhide HR7) 6 (Value.int .u8 0) rfl
    have f6 := free_lie (unhide HR7) 6
    have r7 := cell_lie (unhide HR7) 7 (Value.int .u32 0) rfl
    have f7 := free_lie (unhide HR7) 7
    have r8 := cell_lie (unhide HR7) 8 (Value.int .u32 0) rfl
    have f8 := free_lie (unhide HR7) 8
    have r9 := cell_lie (unhide HR7) 9 (Value.string ⟨#[]⟩) rfl
    have f9 := free_lie (unhide HR7) 9
    have q0 := setCell_idem (unhide HR7) 0 (Value.int .u8 0) rfl
    have q1 := setCell_idem (unhide HR7) 1 (Value.int .u16 0) rfl
    have q2 := setCell_idem (unhide HR7) 2 (Value.bool false) rfl
    have q3 := setCell_idem (unhide HR7) 3 (Value.bool false) rfl
    have q4 := setCell_idem (unhide HR7) 4 (Value.int .i64 0) rfl
    have q5 := setCell_idem (unhide HR7) 5 (Value.int .u8 0) rfl
    have q6 := setCell_idem (unhide HR7) 6 (Value.int .u8 0) rfl
    have q7 := setCell_idem (unhide HR7) 7 (Value.int .u32 0) rfl
    have q8 := setCell_idem (unhide HR7) 8 (Value.int .u32 0) rfl
    have q9 := setCell_idem (unhide HR7) 9 (Value.string ⟨#[]⟩) rfl
    clear hwa
    go_wp2_with fail
    refine bodyPost_ret (v := .tuple #[hd0V, .string ⟨#[]⟩, .bool false, .int .i64 e1]) (by simp [results, Try.results10, go_sem, r0, r1, r2, r3, r4, r5, r6, r7, r8, r9]) rfl ⟨unhide K7, rfl, _, unhide G7⟩

end Go.Proofs.Ytekljiakofmhnaa
