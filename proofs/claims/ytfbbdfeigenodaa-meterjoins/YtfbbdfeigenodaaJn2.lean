/- What Join of package meter answers and leaves. -/
import Derived.Test.YtfbbdfeigenodaaJn1
namespace Go.Proofs.Ytfbbdfeigenodaa
open Go.RowKit Go.Maps Go.Shelf

structure Mtr where
  p : Nat
  b : Nat
  L : List Ent
structure MtrOk (w : World) (x : Mtr) : Prop where
  pm : PM w x.p x.b x.L
  cnt : Cnt x.L
/-- a row of pointers -/
def PtrRow (w : World) (g : Nat) (os : List (Option Nat)) : Prop := g < w.heap.size ∧ ∀ j o, os[j]? = some o → w.cell? ⟨g, j, none⟩ = some (encP o)

theorem clone_call (b : Nat) (L : List Ent) (w : World) (h : w.ownsMap Try.prog 9 cElem b L.length (dm L)) :
    Calls Try.prog 28 #[.map (some b)] w fun e w' => e = .returned (.map (some w.heap.size)) ∧ w'.ownsMap Try.prog 9 cElem w.heap.size L.length (dm L) ∧ Below w.heap.size w w' :=
  (AnyW.maps_Clone_owns Try.cloneA 9 cElem b L.length (dm L) w h).mono fun _ _ ⟨h1, h2, _, h4⟩ => ⟨h1, h2, h4⟩

set_option maxRecDepth 100000 in
set_option maxHeartbeats 2000000 in
theorem join_none (p b : Nat) (L : List Ent) (g c : Nat) (os : List (Option Nat)) (w : World) (h : PM w p b L) (hn : os.length ≤ 1000) (hrow : PtrRow w g os) (hos : ∀ o ∈ os, PtrOk w o) (hany : os.any Option.isNone = true) :
    Calls Try.prog 14 #[.pointer (some ⟨p, 0, none⟩), .slice (some ⟨g, 0, none⟩) os.length c] w fun e w' => e = .returned (.int .i64 1) ∧ Below w.heap.size w w' := by
  have H := hide (made_ok p b w h.cell)
  have HC := has_call w os hos g c hn hrow.2
  rw [hany] at HC
  have HC := hide HC
  clear h hrow hos hany
  go_enter Try.func14, Try.ntmps14
  go_wp2_with fail
  refine (unhide H).mono ?_
  rintro e w1 ⟨rfl, rfl⟩
  go_wp2_with fail
  refine (unhide HC).mono ?_
  rintro e w2 ⟨rfl, q, rfl⟩
  go_wp2
  go_ret
  exact ⟨rfl, rfl, rfl, rfl, Nat.le_refl _, fun _ _ => rfl⟩

def JPost (Ls : List (List Ent)) (L : List Ent) (p : Nat) (w : World) (e : Ending) (w' : World) : Prop :=
  e = .returned (.int .i64 (joinL Ls L).1) ∧ (((joinL Ls L).1 = 0 ∧ ∃ b', PM w' p b' (joinL Ls L).2 ∧ w.heap.size ≤ b' ∧ Kp [p] w w') ∨ ((joinL Ls L).1 ≠ 0 ∧ Below w.heap.size w w'))

theorem heap_set_box' {w : World} {r : Nat} {u v : Value} {t : TypeId} (h : w.heap[r]? = some (.cells #[u] t)) : (w.setCell ⟨r, 0, none⟩ v).heap[r]? = some (.cells #[v] t) := by
  simp [World.setCell, Array.getElem?_modify, h]
theorem row_slice' {w : World} {base e size n : Nat} {v : Value} {xs : List Value} (h : w.ownsRow base e size v n xs) : ∃ p c, v = .slice p n c := by
  rcases h.2 with ⟨rfl, rfl⟩ | ⟨g, cap, cur, rfl, _⟩
  · exact ⟨_, _, rfl⟩
  · exact ⟨_, _, rfl⟩
theorem alloc_box {w : World} {b : Nat} {L : List Ent} (h : w.ownsMap Try.prog 9 cElem b L.length (dm L)) : PM (w.alloc (.cells #[.map (some b)] 64)) w.heap.size b L := ⟨heap_alloc_new _ _, h.alloc _⟩

theorem pm_store {w w4 : World} {p q b b' : Nat} {L X : List Ent} (h : PM w p b L) (hq : PM w4 q b' X) (hb' : w.heap.size ≤ b') (hB : Below w.heap.size w w4) : PM (w4.setCell ⟨p, 0, none⟩ (.map (some b'))) p b' X ∧ Kp [p] w (w4.setCell ⟨p, 0, none⟩ (.map (some b'))) := by
  have hp := h.plt
  have hne : b' ≠ p := by omega
  have hbox := (hB.block p hp).trans h.box
  refine ⟨⟨heap_set_box' hbox, owns_at hq.map (Below.heap_setCell _ _ _ _ hne)⟩, ⟨hB.os, hB.tape, hB.output, ?_, fun i hi hn => ?_⟩⟩
  · have := hB.size
    simpa [World.setCell] using this
  · have : i ≠ p := by simpa using hn
    rw [Below.heap_setCell _ _ _ _ this, hB.block i hi]

set_option maxRecDepth 100000 in
set_option maxHeartbeats 4000000 in
theorem join_any (p b : Nat) (L : List Ent) (g c : Nat) (ms : List Mtr) (w : World) (h : PM w p b L) (hL : Cnt L) (hn : ms.length ≤ 1000) (hnc : ms.length ≤ c) (hrow : PtrRow w g (ms.map fun x => some x.p)) (hms : ∀ x ∈ ms, MtrOk w x) :
    Calls Try.prog 14 #[.pointer (some ⟨p, 0, none⟩), .slice (some ⟨g, 0, none⟩) ms.length c] w (JPost (ms.map (·.L)) L p w) := by
  have H := hide (made_ok p b w h.cell)
  have HC := has_call w (ms.map fun x => some x.p) (fun o ho => by
    obtain ⟨x, hx, rfl⟩ := List.mem_map.1 ho
    rintro q ⟨⟩
    exact ⟨(hms x hx).pm.plt, _, (hms x hx).pm.cell⟩) g c (by simpa using hn) hrow.2
  rw [show (ms.map fun x => some x.p).any Option.isNone = false by simp, List.length_map] at HC
  have HC := hide HC
  have HP := hide h
  have HR := hide hrow
  have HM := hide hms
  have HL := hide hL
  have hg := hrow.1
  have hc := h.cell
  have hf := h.frozen
  clear h hrow hms hL
  go_enter Try.func14, Try.ntmps14
  go_wp2_with fail
  refine (unhide H).mono ?_
  rintro e w1 ⟨rfl, rfl⟩
  go_wp2_with fail
  refine (unhide HC).mono ?_
  rintro e w2 ⟨rfl, q, hq⟩
  have hb2 : Below w1.heap.size w1 w2 := by rw [hq]; exact ⟨rfl, rfl, rfl, Nat.le_refl _, fun _ _ => rfl⟩
  have hc2 : w2.cell? ⟨p, 0, none⟩ = some (.map (some b)) := (hb2.cell (unhide HP).plt).trans hc
  have HCl := hide (clone_call b L w2 ((unhide HP).kept (Kp.of_below [] hb2) (by simp) (by simp)).map)
  clear hq hc hf
  go_wp2_with fail
  refine (unhide HCl).mono ?_
  rintro e w3 ⟨rfl, hown3, hb3⟩
  have hb13 : Below w1.heap.size w1 w3 := hb2.trans (hb3.mono hb2.size)
  have hQ : PM (w3.alloc (.cells #[.map (some w2.heap.size)] 64)) w3.heap.size w2.heap.size L := alloc_box hown3
  have hlo : w1.heap.size ≤ w2.heap.size := hb2.size
  have hlo3 : w1.heap.size ≤ w3.heap.size := hb13.size
  have hb14 : Below w1.heap.size w1 (w3.alloc (.cells #[.map (some w2.heap.size)] 64)) := hb13.alloc hlo3 _
  clear hown3 hb3 hb2 hc2 HCl hb13
  go_wp2
  go_loopw [27] (fun i wr => ∃ (k : Nat) (X : List Ent), k ≤ ms.length ∧ i = .int .i64 (k : Int) ∧ PM wr w3.heap.size w2.heap.size X ∧ Below w1.heap.size w1 wr ∧ Hid (joinL ((ms.map (·.L)).take k) L = (0, X) ∧ Cnt X)) (fun i _ => ms.length - (intOf i).toNat)
  case atStart => exact ⟨0, L, Nat.zero_le _, rfl, hQ, hb14, rfl, unhide HL⟩
  case round =>
    obtain ⟨k, X, hk, rfl, hPX, hbr, HX⟩ := hrel
    by_cases hlt : k < ms.length
    · obtain ⟨x, hx⟩ : ∃ x, ms[k]? = some x := ⟨ms[k], List.getElem?_eq_getElem hlt⟩
      have hcx : wr.cell? ⟨g, k, none⟩ = some (.pointer (some ⟨x.p, 0, none⟩)) := (hbr.cell hg).trans ((unhide HR).2 k (some x.p) (by simp [hx]))
      have hxo := unhide HM x (List.mem_of_getElem? hx)
      have hxp : PM wr x.p x.b x.L := hxo.pm.kept (T := []) ⟨hbr.os, hbr.tape, hbr.output, hbr.size, fun i hi _ => hbr.block i hi⟩ (by simp) (by simp)
      have HA := hide (all_any x.p x.b x.L wr hxp hxo.cnt)
      have HXL : Hid ((ms.map (·.L))[k]? = some x.L) := by show (ms.map (·.L))[k]? = some x.L; simp [hx]
      have HXC := hide hxo.cnt
      have hi1 : (0 : Int) ≤ (k : Int) := by omega
      have hi2 : (k : Int) < (ms.length : Int) := by omega
      have hi3 : (ms.length : Int) ≤ (c : Int) := by omega
      clear hx hxo hxp
      go_wp2_with fail
      refine (unhide HA).mono ?_
      rintro e w5 ⟨vl, rfl, hrow, hb5⟩
      have hP5 : PM w5 w3.heap.size w2.heap.size X := hPX.kept (Kp.of_below [] hb5) (by simp) (by simp)
      have hb15 : Below w1.heap.size w1 w5 := hbr.trans (hb5.mono hbr.size)
      have hB5 : w2.heap.size < wr.heap.size := hPX.blt
      clear hcx
      by_cases hnil : x.L = []
      · rw [hnil] at hrow
        obtain ⟨p0, c0, rfl⟩ := row_slice' hrow
        have HS : Hid (joinL ((ms.map (·.L)).take (k + 1)) L = (0, X)) := joinL_step (unhide HXL) (unhide HX).1 (by rw [hnil]; rfl)
        clear hrow hnil
        go_wp2
        go_loop [34] (fun i => i = .int .i64 0) (fun _ => 0)
        case atStart => exact rfl
        case round =>
          obtain rfl := hrel
          go_wp2
          go_roundw
          case rel => exact ⟨k + 1, X, by omega, by go_num, hP5, hb15, unhide HS, (unhide HX).2⟩
          case measure => simp [intOf]; omega
      · obtain ⟨gA, cA, rfl, hncA, hgA, hgA2, HCA⟩ : ∃ gA cA, vl = .slice (some ⟨gA, 0, none⟩) x.L.length cA ∧ x.L.length ≤ cA ∧ gA < w5.heap.size ∧ wr.heap.size ≤ gA ∧ Hid (∀ j y, x.L[j]? = some y → w5.cell? ⟨gA, j * 3, none⟩ = some (encStr y.1) ∧ w5.cell? ⟨gA, j * 3 + 1, none⟩ = some (.int .i64 (y.2.1 : Int)) ∧ w5.cell? ⟨gA, j * 3 + 2, none⟩ = some (.int .i64 (y.2.2 : Int))) := by
          rcases hrow.2 with ⟨_, h0⟩ | ⟨gA, cap, cur, hv, hlo', hgg, hn', _, _, ht⟩
          · exact absurd (List.eq_nil_of_length_eq_zero h0) hnil
          · refine ⟨gA, cap, hv, hn', (Array.getElem?_eq_some_iff.1 hgg).1, hlo', fun j y hy => ?_⟩
            have cc := cellsL_get x.L hy
            exact ⟨row_cell hgg ht (cc 0 (by omega)), row_cell hgg ht (cc 1 (by omega)), row_cell hgg ht (cc 2 (by omega))⟩
        have hroomx := (unhide HXC).room
        clear hrow hnil
        go_wp2
        go_loopw [34] (fun i wi => ∃ (j : Nat) (Y : List Ent), j ≤ x.L.length ∧ i = .int .i64 (j : Int) ∧ PM wi w3.heap.size w2.heap.size Y ∧ Kp [w2.heap.size] w5 wi ∧ Hid (addAll (x.L.take j) X = (0, Y) ∧ Cnt Y)) (fun i _ => x.L.length - (intOf i).toNat)
        case atStart => exact ⟨0, X, Nat.zero_le _, rfl, hP5, Kp.refl _ _, rfl, (unhide HX).2⟩
        case round =>
          obtain ⟨j, Y, hj, rfl, hPY, hKY, HY⟩ := hrel
          by_cases hjlt : j < x.L.length
          · obtain ⟨y, hy⟩ : ∃ y, x.L[j]? = some y := ⟨x.L[j], List.getElem?_eq_getElem hjlt⟩
            obtain ⟨a0, a1, a2⟩ := unhide HCA j y hy
            have hbc : ∀ o, wr.cell? ⟨gA, o, none⟩ = w5.cell? ⟨gA, o, none⟩ := fun o => World.cell?_of_block (hKY.block gA hgA (by simp; omega))
            have q0 := (hbc (j * 3)).trans a0
            have q1 := (hbc (j * 3 + 1)).trans a1
            have q2 := (hbc (j * 3 + 2)).trans a2
            have hly := (unhide HXC).len y (List.mem_of_getElem? hy)
            have hsz : (⟨y.1.toArray⟩ : ByteArray).size ≤ maxLen := by
              show y.1.toArray.size ≤ maxLen
              rw [List.size_toArray]
              exact Nat.le_trans hly (by decide)
            have HAD : Hid (∀ o, Calls Try.prog 18 #[.pointer (some ⟨w3.heap.size, 0, none⟩), .string ⟨y.1.toArray⟩, .int .i64 (y.2.1 : Int), .int .i64 (y.2.2 : Int)] (wr.alloc o) fun e w' =>
                e = .returned (.int .i64 (addL Y y.1 (y.2.1 : Int) (y.2.2 : Int)).1) ∧ PM w' w3.heap.size w2.heap.size (addL Y y.1 (y.2.1 : Int) (y.2.2 : Int)).2 ∧ Kp [w2.heap.size] w5 w') := by
              intro o
              have hK1 : Kp [w2.heap.size] w5 (wr.alloc o) := hKY.trans (Kp.of_below [] (below_one wr o)) (by simp)
              have := add_any _ _ Y ⟨y.1.toArray⟩ (y.2.1 : Int) (y.2.2 : Int) (wr.alloc o) (hPY.kept (Kp.of_below [] (below_one wr o)) (by simp) (by simp)) hsz (unhide HY).2
              rw [show (⟨y.1.toArray⟩ : ByteArray).data.toList = y.1 by simp] at this
              exact this.mono fun e w' ⟨h1, h2, h3⟩ => ⟨h1, h2, hK1.trans h3 (by simp)⟩
            have HYC := hide (cnt_addL (unhide HY).2 y.1 (y.2.1 : Int) (y.2.2 : Int))
            have hi4 : (0 : Int) ≤ (j : Int) := by omega
            have hi5 : (j : Int) < (x.L.length : Int) := by omega
            have hi6 : (x.L.length : Int) ≤ (cA : Int) := by omega
            by_cases hcode : (addL Y y.1 (y.2.1 : Int) (y.2.2 : Int)).1 = 0
            · have HY' := hide (addAll_step hy (unhide HY).1 hcode)
              rw [hcode] at HAD
              generalize (addL Y y.1 (y.2.1 : Int) (y.2.2 : Int)).2 = Y' at HAD HYC HY'
              clear hcode hy a0 a1 a2 hbc hsz hly hPY hKY
              go_wp2_with fail
              refine (unhide HAD _).mono ?_
              rintro e w6 ⟨rfl, hP6, hK6⟩
              go_wp2
              go_roundw
              case rel => exact ⟨j + 1, Y', by omega, by go_num, hP6, hK6, unhide HY', unhide HYC⟩
              case measure => simp [intOf]; omega
            · have HJ : Hid ((joinL (ms.map (·.L)) L).1 = (addL Y y.1 (y.2.1 : Int) (y.2.2 : Int)).1) := by
                have e1 := addAll_stop hy (unhide HY).1 hcode
                have e2 := joinL_stop (unhide HXL) (unhide HX).1 (by rw [e1]; exact hcode)
                exact e2.trans e1
              have HB1 : Hid (∀ w', Kp [w2.heap.size] w5 w' → Below w1.heap.size w1 w') := fun w' k' => hb15.trans (k'.below hb15.size (by simp; omega))
              have hcd : (((addL Y y.1 (y.2.1 : Int) (y.2.2 : Int)).1) == (0 : Int)) = false := by simpa using hcode
              generalize (addL Y y.1 (y.2.1 : Int) (y.2.2 : Int)).1 = code at HAD HJ hcd hcode
              clear hy a0 a1 a2 hbc hsz hly hPY hKY
              go_wp2_with fail
              refine (unhide HAD _).mono ?_
              rintro e w6 ⟨rfl, hP6, hK6⟩
              go_wp2
              go_ret
              exact ⟨by rw [unhide HJ]; rfl, .inr ⟨by rw [unhide HJ]; exact hcode, unhide HB1 _ hK6⟩⟩
          · obtain rfl : j = x.L.length := by omega
            have HS : Hid (joinL ((ms.map (·.L)).take (k + 1)) L = (0, Y)) := by
              have e1 := (unhide HY).1
              rw [List.take_length] at e1
              exact joinL_step (unhide HXL) (unhide HX).1 e1
            have hb16 : Below w1.heap.size w1 wr := hb15.trans (hKY.below hb15.size (by simp; omega))
            have HYC := hide (unhide HY).2
            go_wp2
            go_roundw
            case rel => exact ⟨k + 1, Y, by omega, by go_num, hPY, hb16, unhide HS, unhide HYC⟩
            case measure => simp [intOf]; omega
    · obtain rfl : k = ms.length := by omega
      have hfin := pm_store (unhide HP) hPX hlo hbr
      have HJ : Hid (joinL (ms.map (·.L)) L = (0, X)) := by
        have := (unhide HX).1
        rw [List.take_of_length_le (by simp)] at this
        exact this
      have hcp : wr.cell? ⟨p, 0, none⟩ = some (.map (some b)) := (hbr.cell (unhide HP).plt).trans (unhide HP).cell
      have hfp : wr.frozen? ⟨p, 0, none⟩ = false := (hbr.frozen (unhide HP).plt).trans (unhide HP).frozen
      have hcq := hPX.cell
      have HF := hide hfin
      clear hfin
      go_wp2
      go_ret
      refine ⟨by rw [unhide HJ]; rfl, .inl ⟨by rw [unhide HJ], _, ?_, hlo, (unhide HF).2⟩⟩
      rw [unhide HJ]
      exact (unhide HF).1

end Go.Proofs.Ytfbbdfeigenodaa
