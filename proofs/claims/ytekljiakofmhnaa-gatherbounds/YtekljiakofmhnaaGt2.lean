/- The contract of gathering.joined, over the loaded program; no memory that was there has turned. Conditions: numbers in their bounds. -/
import Derived.Test.YtekljiakofmhnaaGn7
import Derived.Test.YtekljiakofmhnaaGs1
import Derived.Deep.CutBlock
namespace Go.Proofs.Ytekljiakofmhnaa
open Go.RowKit Go.Shelf

abbrev hd0C : Array Value := #[.int .u8 0, .int .u16 0, .bool false, .bool false, .int .i64 0, .int .u8 0, .int .u8 0, .int .u32 0, .int .u32 0, .string ⟨#[]⟩]
def datB (l : List Pt) : List UInt8 := (l.map (fun p => p.pd.data.toList)).flatten
theorem datB_snoc (l : List Pt) (k : Nat) (p : Pt) (h : l[k]? = some p) : datB (l.take (k + 1)) = datB (l.take k) ++ p.pd.data.toList := by
  obtain ⟨hlt, he⟩ := List.getElem?_eq_some_iff.1 h
  rw [take_snoc' l k hlt, he]
  simp [datB]
theorem datB_len (l : List Pt) : (datB l).length = sumP l := by
  induction l with
  | nil => rfl
  | cons p r ih =>
    simp only [datB, List.map_cons, List.flatten_cons, List.length_append, sumP] at *
    rw [ih]
    rfl
theorem sumP_take (l : List Pt) (k : Nat) : sumP (l.take k) ≤ sumP l := by
  have := sumP_app (l.take k) (l.drop k)
  rw [List.take_append_drop] at this
  omega

theorem cell_lie {W : World} {n : Nat} {cs : Array Value} {T : TypeId} (h : W.heap[n]? = some (Obj.cells cs T (0, 0))) (i : Nat) (v : Value) (hv : cs[i]? = some v) : W.cell? ⟨n, i, none⟩ = some v := by
  rw [Lib.cell_of_heap h]
  exact hv
theorem free_lie {W : World} {n : Nat} {cs : Array Value} {T : TypeId} (h : W.heap[n]? = some (Obj.cells cs T (0, 0))) (i : Nat) : W.frozen? ⟨n, i, none⟩ = false := by
  simp [World.frozen?, h]

def JB (wr : World) (n : Nat) (wa : World) (o : Obj) (w' : World) : Prop := Below (n + 1 + 1) wa w' ∧ w'.heap[wr.heap.size]? = some o ∧ w'.heap[n + 1]? = some (.cells hd0C 34 (0, 0))

set_option maxRecDepth 100000 in
set_option maxHeartbeats 4000000 in
theorem joined_any (x : Ga) (v : Value) (w : World) (hv : PV w v x.ps) (hl : x.ps.length ≤ 65536) (hs : sumP x.ps ≤ 1048576) :
    Calls Try.prog 26 #[gaV x v] w fun e w' => e = .returned (.tuple #[hdV ⟨x.hd.tos, x.hd.id, x.hd.hold, false, x.hd.at', x.hd.ttl, x.hd.proto, x.hd.frm, x.hd.to, x.hd.op⟩, .string ⟨(datB x.ps).toArray⟩]) ∧ Below w.heap.size w w' := by
  have B1 := below_one w (.cells (gaC x v) 59)
  have B2 := tr2 B1 (below_one _ (.cells hd0C 34))
  have G2 := (GC.box w x v 59).on (below_one _ (.cells hd0C 34))
  have R2 : ((w.alloc (.cells (gaC x v) 59)).alloc (.cells hd0C 34)).heap[w.heap.size + 1]? = some (.cells hd0C 34 (0, 0)) := by
    have := heap_alloc_new (w.alloc (.cells (gaC x v) 59)) (.cells hd0C 34)
    rwa [World.size_alloc] at this
  have hv2 := hv.on B2
  obtain ⟨sp, sc, rfl⟩ := pv_shape hv
  have HB2 := hide B2
  clear hv B1 B2
  go_enter Try.func26, Try.ntmps26
  obtain ⟨w2, hw2⟩ : ∃ w2, w2 = (w.alloc (.cells (gaC x (.slice sp x.ps.length sc)) 59)).alloc (.cells hd0C 34) := ⟨_, rfl⟩
  have hs2 : w2.heap.size = w.heap.size + 1 + 1 := by rw [hw2]; simp
  rw [← hw2] at G2 R2 hv2 HB2
  simp only [gaC, hd0C] at hw2
  have IB := isb_new w2
  have HS2 := hide hs2
  go_upto_block 1 with fail
  rw [← hw2]
  clear hw2
  rw [hs2] at IB
  have B3 := below_one w2 (.cells #[.pointer none, .slice none 0 0] 90)
  rw [hs2] at B3
  obtain ⟨w3, hw3⟩ : ∃ w3, w3 = w2.alloc (.cells #[.pointer none, .slice none 0 0] 90) := ⟨_, rfl⟩
  have hs3 : w.heap.size + 1 + 1 < w3.heap.size := by rw [hw3]; simp; omega
  rw [← hw3] at IB B3
  rw [← hw3]
  clear hw3
  have hw0 : w.heap.size < w.heap.size + 1 + 1 := by omega
  have hw1 : w.heap.size + 1 < w.heap.size + 1 + 1 := by omega
  clear hs2
  go_loopw [11] (fun i wr => ∃ k : Nat, k ≤ x.ps.length ∧ i = .int .i64 (k : Int) ∧ Hid (IsB (w.heap.size + 1 + 1) (w.heap.size + 1 + 1) (datB (x.ps.take k)) wr) ∧ Hid (Below (w.heap.size + 1 + 1) w2 wr) ∧ w.heap.size + 1 + 1 < wr.heap.size) (fun i _ => x.ps.length - (intOf i).toNat)
  case atStart => exact ⟨0, Nat.zero_le _, rfl, hide IB, hide B3, hs3⟩
  case round =>
    obtain ⟨k, hk, rfl, HI, HB, hsz⟩ := hrel
    have HV2 := hide hv2
    have HG2 := hide G2
    have HR2 := hide R2
    clear hv2 G2 R2 IB B3 hs3
    by_cases hlt : k < x.ps.length
    · obtain ⟨q, hq⟩ : ∃ q, x.ps[k]? = some q := ⟨_, List.getElem?_eq_getElem hlt⟩
      have hd := datB_snoc x.ps k q hq
      have hle : (datB (x.ps.take k)).length + q.pd.size ≤ 1048576 := by
        have h1 := sumP_snoc x.ps k q hq
        have h2 := sumP_take x.ps (k + 1)
        rw [datB_len]
        omega
      rcases unhide HV2 with ⟨e, e2⟩ | ⟨g, c, e, h1, h2, h3, h4⟩
      · rw [e2] at hlt; simp at hlt
      · injection e with e1 e3 e4
        subst e1
        subst e4
        rw [unhide HS2] at h3
        obtain ⟨k0, k1, k2⟩ := h4 k q hq
        have c0 := ((unhide HB).cell (p := ⟨g, k * 3, none⟩) h3).trans k0
        have c1 := ((unhide HB).cell (p := ⟨g, k * 3 + 1, none⟩) h3).trans k1
        have c2 := ((unhide HB).cell (p := ⟨g, k * 3 + 2, none⟩) h3).trans k2
        have BQ := below_one wr (.cells #[.int .i64 q.pa, .string q.pd, .bool q.pm] 70)
        have HW := hide (bws_any (w.heap.size + 1 + 1) (w.heap.size + 1 + 1) (datB (x.ps.take k)) q.pd (wr.alloc (.cells #[.int .i64 q.pa, .string q.pd, .bool q.pm] 70)) (isb_on (unhide HI) BQ) hle (by have := BQ.size; omega))
        have HBQ := hide BQ
        have HD := hide hd
        clear hd hle BQ h4 hq k0 k1 k2
        go_wp2_with fail
        refine (unhide HW).mono ?_
        rintro e w5 ⟨rfl, hI, hB5⟩
        go_wp2_with fail
        go_roundw
        case rel => exact ⟨k + 1, by omega, by go_num, hide (by rw [unhide HD]; exact hI), hide (((unhide HB).trans ((unhide HBQ).mono (by omega))).trans hB5), by have := hB5.size; have := (unhide HBQ).size; omega⟩
        case measure => simp [intOf]; omega
    · obtain rfl : k = x.ps.length := by omega
      rw [List.take_length] at HI
      have BB := unhide HB
      have GG : GC wr w.heap.size x (.slice sp x.ps.length sc) := by
        have g := unhide HG2
        exact ⟨(BB.cell (p := ⟨w.heap.size, 0, none⟩) hw0).trans g.c0, (BB.cell (p := ⟨w.heap.size, 1, none⟩) hw0).trans g.c1, (BB.cell (p := ⟨w.heap.size, 2, none⟩) hw0).trans g.c2, (BB.cell (p := ⟨w.heap.size, 3, none⟩) hw0).trans g.c3, (BB.cell (p := ⟨w.heap.size, 4, none⟩) hw0).trans g.c4, (BB.cell (p := ⟨w.heap.size, 5, none⟩) hw0).trans g.c5, (BB.cell (p := ⟨w.heap.size, 6, none⟩) hw0).trans g.c6, (BB.cell (p := ⟨w.heap.size, 7, none⟩) hw0).trans g.c7, (BB.cell (p := ⟨w.heap.size, 8, none⟩) hw0).trans g.c8, (BB.cell (p := ⟨w.heap.size, 9, none⟩) hw0).trans g.c9, (BB.cell (p := ⟨w.heap.size, 10, none⟩) hw0).trans g.c10, (BB.cell (p := ⟨w.heap.size, 11, none⟩) hw0).trans g.c11, (BB.cell (p := ⟨w.heap.size, 12, none⟩) hw0).trans g.c12⟩
      have RR : wr.heap[w.heap.size + 1]? = some (.cells hd0C 34 (0, 0)) := (BB.block _ hw1).trans (unhide HR2)
      obtain ⟨g0, g1, g2, g3, g4, g5, g6, g7, g8, g9, g10, g11, g12⟩ := GG
      have BH := below_one wr (.cells #[.int .u8 (x.hd.tos : Int), .int .u16 (x.hd.id : Int), .bool x.hd.hold, .bool false, .int .i64 x.hd.at', .int .u8 (x.hd.ttl : Int), .int .u8 (x.hd.proto : Int), .int .u32 (x.hd.frm : Int), .int .u32 (x.hd.to : Int), .string x.hd.op] 34)
      have EH := heap_alloc_new wr (.cells #[.int .u8 (x.hd.tos : Int), .int .u16 (x.hd.id : Int), .bool x.hd.hold, .bool false, .int .i64 x.hd.at', .int .u8 (x.hd.ttl : Int), .int .u8 (x.hd.proto : Int), .int .u32 (x.hd.frm : Int), .int .u32 (x.hd.to : Int), .string x.hd.op] 34)
      have HI2 := isb_on (unhide HI) BH
      have RA : (wr.alloc (.cells #[.int .u8 (x.hd.tos : Int), .int .u16 (x.hd.id : Int), .bool x.hd.hold, .bool false, .int .i64 x.hd.at', .int .u8 (x.hd.ttl : Int), .int .u8 (x.hd.proto : Int), .int .u32 (x.hd.frm : Int), .int .u32 (x.hd.to : Int), .string x.hd.op] 34)).heap[w.heap.size + 1]? = some (.cells hd0C 34 (0, 0)) := (BH.block _ (by omega)).trans RR
      have hA : wr.heap.size < (wr.alloc (.cells #[.int .u8 (x.hd.tos : Int), .int .u16 (x.hd.id : Int), .bool x.hd.hold, .bool false, .int .i64 x.hd.at', .int .u8 (x.hd.ttl : Int), .int .u8 (x.hd.proto : Int), .int .u32 (x.hd.frm : Int), .int .u32 (x.hd.to : Int), .string x.hd.op] 34)).heap.size := by rw [World.size_alloc]; omega
      have HST : Hid (∀ W, Below (wr.alloc (.cells #[.int .u8 (x.hd.tos : Int), .int .u16 (x.hd.id : Int), .bool x.hd.hold, .bool false, .int .i64 x.hd.at', .int .u8 (x.hd.ttl : Int), .int .u8 (x.hd.proto : Int), .int .u32 (x.hd.frm : Int), .int .u32 (x.hd.to : Int), .string x.hd.op] 34)).heap.size (wr.alloc (.cells #[.int .u8 (x.hd.tos : Int), .int .u16 (x.hd.id : Int), .bool x.hd.hold, .bool false, .int .i64 x.hd.at', .int .u8 (x.hd.ttl : Int), .int .u8 (x.hd.proto : Int), .int .u32 (x.hd.frm : Int), .int .u32 (x.hd.to : Int), .string x.hd.op] 34)) W → Calls Try.prog 49 #[.pointer (some ⟨w.heap.size + 1 + 1, 0, none⟩)] W fun e w' => e = .returned (.string ⟨(datB x.ps).toArray⟩) ∧ JB wr w.heap.size (wr.alloc (.cells #[.int .u8 (x.hd.tos : Int), .int .u16 (x.hd.id : Int), .bool x.hd.hold, .bool false, .int .i64 x.hd.at', .int .u8 (x.hd.ttl : Int), .int .u8 (x.hd.proto : Int), .int .u32 (x.hd.frm : Int), .int .u32 (x.hd.to : Int), .string x.hd.op] 34)) (.cells #[.int .u8 (x.hd.tos : Int), .int .u16 (x.hd.id : Int), .bool x.hd.hold, .bool false, .int .i64 x.hd.at', .int .u8 (x.hd.ttl : Int), .int .u8 (x.hd.proto : Int), .int .u32 (x.hd.frm : Int), .int .u32 (x.hd.to : Int), .string x.hd.op] 34 (0, 0)) w') := by
        refine hide (fun W b => ?_)
        refine (bstr_box (w.heap.size + 1 + 1) (w.heap.size + 1 + 1) (datB x.ps) W (isb_on HI2 b) (by have := b.size; omega)).mono ?_
        rintro e w' ⟨r, b', k⟩
        exact ⟨r, (b.mono (by omega)).trans b', k _ _ _ ((b.block _ hA).trans EH) (by decide), k _ _ _ ((b.block _ (by omega)).trans RA) (by decide)⟩
      clear BB BH HI2
      go_upto_region 9 with fail
      obtain ⟨wa, hwa⟩ : ∃ wa, wa = (wr.alloc (.cells #[.int .u8 (x.hd.tos : Int), .int .u16 (x.hd.id : Int), .bool x.hd.hold, .bool false, .int .i64 x.hd.at', .int .u8 (x.hd.ttl : Int), .int .u8 (x.hd.proto : Int), .int .u32 (x.hd.frm : Int), .int .u32 (x.hd.to : Int), .string x.hd.op] 34)) := ⟨_, rfl⟩
      rw [← hwa] at HST RA EH hA ⊢
      have HWA := hide hwa
      clear hwa
      clear g0 g1 g2 g3 g4 g5 g6 g7 g8 g9 g10 g11 g12 RR
      have d0 : wa.drew.cell? ⟨wr.heap.size, 0, none⟩ = some (.int .u8 (x.hd.tos : Int)) := cell_lie (W := wa.drew) EH 0 _ rfl
      have d1 : wa.drew.cell? ⟨wr.heap.size, 1, none⟩ = some (.int .u16 (x.hd.id : Int)) := cell_lie (W := wa.drew) EH 1 _ rfl
      have d2 : wa.drew.cell? ⟨wr.heap.size, 2, none⟩ = some (.bool x.hd.hold) := cell_lie (W := wa.drew) EH 2 _ rfl
      have d3 : wa.drew.cell? ⟨wr.heap.size, 3, none⟩ = some (.bool false) := cell_lie (W := wa.drew) EH 3 _ rfl
      have d4 : wa.drew.cell? ⟨wr.heap.size, 4, none⟩ = some (.int .i64 x.hd.at') := cell_lie (W := wa.drew) EH 4 _ rfl
      have d5 : wa.drew.cell? ⟨wr.heap.size, 5, none⟩ = some (.int .u8 (x.hd.ttl : Int)) := cell_lie (W := wa.drew) EH 5 _ rfl
      have d6 : wa.drew.cell? ⟨wr.heap.size, 6, none⟩ = some (.int .u8 (x.hd.proto : Int)) := cell_lie (W := wa.drew) EH 6 _ rfl
      have d7 : wa.drew.cell? ⟨wr.heap.size, 7, none⟩ = some (.int .u32 (x.hd.frm : Int)) := cell_lie (W := wa.drew) EH 7 _ rfl
      have d8 : wa.drew.cell? ⟨wr.heap.size, 8, none⟩ = some (.int .u32 (x.hd.to : Int)) := cell_lie (W := wa.drew) EH 8 _ rfl
      have d9 : wa.drew.cell? ⟨wr.heap.size, 9, none⟩ = some (.string x.hd.op) := cell_lie (W := wa.drew) EH 9 _ rfl
      have HEH := hide EH
      have HRA := hide RA
      clear EH RA
      go_region_with (go_at_call 49; refine (unhide HST _ (below_drew _)).mono ?_; rintro e w5 ⟨rfl, h5, h6, h7⟩; have d0 : w5.cell? ⟨wr.heap.size, 0, none⟩ = some (.int .u8 (x.hd.tos : Int)) := cell_lie h6 0 _ rfl; have d1 : w5.cell? ⟨wr.heap.size, 1, none⟩ = some (.int .u16 (x.hd.id : Int)) := cell_lie h6 1 _ rfl; have d2 : w5.cell? ⟨wr.heap.size, 2, none⟩ = some (.bool x.hd.hold) := cell_lie h6 2 _ rfl; have d3 : w5.cell? ⟨wr.heap.size, 3, none⟩ = some (.bool false) := cell_lie h6 3 _ rfl; have d4 : w5.cell? ⟨wr.heap.size, 4, none⟩ = some (.int .i64 x.hd.at') := cell_lie h6 4 _ rfl; have d5 : w5.cell? ⟨wr.heap.size, 5, none⟩ = some (.int .u8 (x.hd.ttl : Int)) := cell_lie h6 5 _ rfl; have d6 : w5.cell? ⟨wr.heap.size, 6, none⟩ = some (.int .u8 (x.hd.proto : Int)) := cell_lie h6 6 _ rfl; have d7 : w5.cell? ⟨wr.heap.size, 7, none⟩ = some (.int .u32 (x.hd.frm : Int)) := cell_lie h6 7 _ rfl; have d8 : w5.cell? ⟨wr.heap.size, 8, none⟩ = some (.int .u32 (x.hd.to : Int)) := cell_lie h6 8 _ rfl; have d9 : w5.cell? ⟨wr.heap.size, 9, none⟩ = some (.string x.hd.op) := cell_lie h6 9 _ rfl; have r0 : w5.cell? ⟨w.heap.size + 1, 0, none⟩ = some (.int .u8 0) := cell_lie h7 0 _ rfl; have r1 : w5.cell? ⟨w.heap.size + 1, 1, none⟩ = some (.int .u16 0) := cell_lie h7 1 _ rfl; have r2 : w5.cell? ⟨w.heap.size + 1, 2, none⟩ = some (.bool false) := cell_lie h7 2 _ rfl; have r3 : w5.cell? ⟨w.heap.size + 1, 3, none⟩ = some (.bool false) := cell_lie h7 3 _ rfl; have r4 : w5.cell? ⟨w.heap.size + 1, 4, none⟩ = some (.int .i64 0) := cell_lie h7 4 _ rfl; have r5 : w5.cell? ⟨w.heap.size + 1, 5, none⟩ = some (.int .u8 0) := cell_lie h7 5 _ rfl; have r6 : w5.cell? ⟨w.heap.size + 1, 6, none⟩ = some (.int .u8 0) := cell_lie h7 6 _ rfl; have r7 : w5.cell? ⟨w.heap.size + 1, 7, none⟩ = some (.int .u32 0) := cell_lie h7 7 _ rfl; have r8 : w5.cell? ⟨w.heap.size + 1, 8, none⟩ = some (.int .u32 0) := cell_lie h7 8 _ rfl; have r9 : w5.cell? ⟨w.heap.size + 1, 9, none⟩ = some (.string ⟨#[]⟩) := cell_lie h7 9 _ rfl; have f0 : w5.frozen? ⟨w.heap.size + 1, 0, none⟩ = false := free_lie h7 0; have f1 : w5.frozen? ⟨w.heap.size + 1, 1, none⟩ = false := free_lie h7 1; have f2 : w5.frozen? ⟨w.heap.size + 1, 2, none⟩ = false := free_lie h7 2; have f3 : w5.frozen? ⟨w.heap.size + 1, 3, none⟩ = false := free_lie h7 3; have f4 : w5.frozen? ⟨w.heap.size + 1, 4, none⟩ = false := free_lie h7 4; have f5 : w5.frozen? ⟨w.heap.size + 1, 5, none⟩ = false := free_lie h7 5; have f6 : w5.frozen? ⟨w.heap.size + 1, 6, none⟩ = false := free_lie h7 6; have f7 : w5.frozen? ⟨w.heap.size + 1, 7, none⟩ = false := free_lie h7 7; have f8 : w5.frozen? ⟨w.heap.size + 1, 8, none⟩ = false := free_lie h7 8; have f9 : w5.frozen? ⟨w.heap.size + 1, 9, none⟩ = false := free_lie h7 9)
      all_goals
        have BZ := hide (((unhide HB2).trans ((unhide HB).mono (by omega))).trans (((unhide HWA ▸ below_one wr _ : Below wr.heap.size wr wa).mono (by omega)).trans (h5.mono (by omega))))
        clear h5 h6 h7 d0 d1 d2 d3 d4 d5 d6 d7 d8 d9 HST HWA HEH HRA HB HB2 HI HR2 HG2 HV2
        go_wp2_with fail
        refine bodyPost_ret (v := .tuple #[hdV ⟨x.hd.tos, x.hd.id, x.hd.hold, false, x.hd.at', x.hd.ttl, x.hd.proto, x.hd.frm, x.hd.to, x.hd.op⟩, .string ⟨(datB x.ps).toArray⟩]) (by simp [results, Try.results26, go_sem, r0, r1, r2, r3, r4, r5, r6, r7, r8, r9]) rfl ⟨rfl, ?_⟩
        exact below_set10 (unhide BZ) (Nat.le_succ _) _ _ _ _ _ _ _ _ _ _

end Go.Proofs.Ytekljiakofmhnaa
