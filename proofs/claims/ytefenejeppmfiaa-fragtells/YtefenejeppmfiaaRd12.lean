/- The contract of the document's Raw and Encode (layer 10), over the loaded program: what it answers is what the program's does; no memory that was there has turned. Conditions: numbers in their kinds' bounds, texts of bounded length. -/
import Derived.Test.YtefenejeppmfiaaRd11
import Derived.Deep.CutRange
namespace Go.Proofs.Ytefenejeppmfiaa
open Go.RowKit

/-- two bytes in a block, and their text -/
def Two2 (w : World) (q x y : Nat) : Prop := w.cell? ⟨q, 0, none⟩ = some (.int .u8 (x : Int)) ∧ w.cell? ⟨q, 1, none⟩ = some (.int .u8 (y : Int))
theorem two_back (w : World) (q x y : Nat) (A : ByteArray) (hA : A = ⟨[byt x 0, byt y 0].toArray⟩) (hx : x < 256) (hy : y < 256) (Z : Two2 w q x y) :
    (convert 47 9 (.slice (some ⟨q, 0, none⟩) 2 2)).run Try.prog w = .ok (.string A) w := by
  subst hA
  refine run_convert_bytes_back (P := Try.prog) w 47 9 5 ⟨q, 0, none⟩ 2 [byt x 0, byt y 0] Try.underlying47 Try.underlying5 Try.underlying9 (fun j hj => ?_)
  rw [addr_add0]
  rcases (by simpa using hj : j < 2) with hj2
  rcases (by omega : j = 0 ∨ j = 1) with e | e <;> subst e
  · rw [Z.1]; simp [byt_toNat]; omega
  · rw [Z.2]; simp [byt_toNat]; omega
structure WS (w1 : World) (x y x' y' i j : Nat) (p : Nat × Nat) (l : Array Bool) (w : World) : Prop where
  bel : Below w1.heap.size w1 w
  z1 : l.getD i false = true → Two2 w (w1.heap.size + p.1) x y
  z2 : l.getD j false = true → Two2 w (w1.heap.size + p.2) x' y'
theorem Two2.on {w w' : World} {q x y : Nat} (Z : Two2 w q x y) (h : Below w.heap.size w w') : Two2 w' q x y := ⟨below_cell Z.1 h, below_cell Z.2 h⟩
theorem WS.start (w1 : World) (x y x' y' i j n : Nat) (p : Nat × Nat) : WS w1 x y x' y' i j p (Array.replicate n false) { w1 with drawn := w1.drawn + 1 } :=
  ⟨⟨rfl, rfl, rfl, Nat.le_refl _, fun _ _ => rfl⟩, (fun a => by rw [getD_rep] at a; cases a), (fun a => by rw [getD_rep] at a; cases a)⟩
theorem WS.on {w1 : World} {x y x' y' i j k : Nat} (hi : k ≠ i) (hj : k ≠ j) (p : Nat × Nat) (l : Array Bool) (w w' : World) (W : WS w1 x y x' y' i j p l w) (q : Below w.heap.size w w') : WS w1 x y x' y' i j p (l.setIfInBounds k true) w' :=
  ⟨tr2 W.bel q, fun a => (W.z1 (by rwa [getD_upd hi] at a)).on q, fun a => (W.z2 (by rwa [getD_upd hj] at a)).on q⟩
theorem WS.same {w1 : World} {x y x' y' i j k : Nat} (hi : k ≠ i) (hj : k ≠ j) (p : Nat × Nat) (l : Array Bool) (w : World) (W : WS w1 x y x' y' i j p l w) : WS w1 x y x' y' i j p (l.setIfInBounds k true) w :=
  W.on hi hj p l w w (Below.refl _ _)
theorem two_new (w : World) (x y : Nat) (t : TypeId) : Two2 (w.alloc (.cells #[.int .u8 (x : Int), .int .u8 (y : Int)] t)) w.heap.size x y := by
  have e := heap_alloc_new w (.cells #[.int .u8 (x : Int), .int .u8 (y : Int)] t)
  exact ⟨cell_of_row _ _ 0 _ _ _ e, cell_of_row _ _ 1 _ _ _ e⟩
theorem getD_set_u {l : List Value} {i : Nat} {v : Value} (h : i < l.length) : (l.set i v).getD i undef = v := by simp [List.getD, h]
theorem WS.make1 {w1 w : World} {x y x' y' i j : Nat} {p : Nat × Nat} {l : Array Bool} (W : WS w1 x y x' y' i j p l w) (hij : i ≠ j) (t : TypeId) : WS w1 x y x' y' i j (w.heap.size - w1.heap.size, p.2) (l.setIfInBounds i true) (w.alloc (.cells #[.int .u8 (x : Int), .int .u8 (y : Int)] t)) := by
  have hz : w1.heap.size + (w.heap.size - w1.heap.size) = w.heap.size := by have := W.bel.size; omega
  refine ⟨W.bel.alloc W.bel.size _, fun _ => ?_, fun a => (W.z2 (by rwa [getD_upd hij] at a)).on (below_one _ _)⟩
  show Two2 _ (w1.heap.size + (w.heap.size - w1.heap.size)) x y
  rw [hz]
  exact two_new w x y t
theorem WS.make2 {w1 w : World} {x y x' y' i j : Nat} {p : Nat × Nat} {l : Array Bool} (W : WS w1 x y x' y' i j p l w) (hij : j ≠ i) (t : TypeId) : WS w1 x y x' y' i j (p.1, w.heap.size - w1.heap.size) (l.setIfInBounds j true) (w.alloc (.cells #[.int .u8 (x' : Int), .int .u8 (y' : Int)] t)) := by
  have hz : w1.heap.size + (w.heap.size - w1.heap.size) = w.heap.size := by have := W.bel.size; omega
  refine ⟨W.bel.alloc W.bel.size _, fun a => (W.z1 (by rwa [getD_upd hij] at a)).on (below_one _ _), fun _ => ?_⟩
  show Two2 _ (w1.heap.size + (w.heap.size - w1.heap.size)) x' y'
  rw [hz]
  exact two_new w x' y' t

theorem vs_mid1 (a : List Value) (x x' : Value) (r : List Value) (j : Nat) (h : j ≠ a.length) : (a ++ x :: r).getD j undef = (a ++ x' :: r).getD j undef := by
  simp only [List.getD_eq_getElem?_getD]
  by_cases hj : j < a.length
  · rw [List.getElem?_append_left hj, List.getElem?_append_left hj]
  · rw [List.getElem?_append_right (by omega), List.getElem?_append_right (by omega)]
    obtain ⟨k, hk⟩ : ∃ k, j - a.length = k + 1 := ⟨j - a.length - 1, by omega⟩
    rw [hk]
    rfl

set_option maxRecDepth 20000 in
set_option maxHeartbeats 4000000 in
theorem raw_walk (h : Rh) (d : ByteArray) (w : World) (M F X ck : Nat) (A1 A3 A4 A5 A6 C1 C2 K fr bk fz : ByteArray) (hd0 : d.size ≤ 1073741824) (hop : h.op.size ≤ 40) (hM : M = 20 + h.op.size) (ha0 : 0 ≤ h.at') (ha1 : h.at' ≤ 65528)
    (hF : Hid ((F : Int) = h.at' / 8 + (if h.hold then 16384 else 0) + (if h.more then 8192 else 0)))
    (lX : X < 256) (lt : h.tos < 256) (ll : h.ttl < 256) (lp : h.proto < 256)
    (hA1 : A1 = ⟨[byt X 0, byt h.tos 0].toArray⟩) (hA6 : A6 = ⟨[byt h.ttl 0, byt h.proto 0].toArray⟩)
    (z1 : A1.size ≤ 2) (z3 : A3.size ≤ 2) (z4 : A4.size ≤ 2) (z5 : A5.size ≤ 2) (z6 : A6.size ≤ 2) (y1 : C1.size ≤ 4) (y2 : C2.size ≤ 4) (yk : K.size ≤ 2)
    (efr : Hid (A1 ++ A3 ++ A4 ++ A5 ++ A6 = fr)) (ebk : Hid (C1 ++ C2 ++ h.op = bk)) (efz : Hid (fr ++ ⟨#[0, 0]⟩ ++ bk = fz)) (zf : fr.size ≤ 10) (zb : bk.size ≤ 48)
    (H3 : Hid (∀ w, Calls Try.prog 54 #[.int .u64 ((M : Int) + (d.size : Int)), .int .i64 2] w fun e w' => e = .returned (.string A3) ∧ Below w.heap.size w w'))
    (H4 : Hid (∀ w, Calls Try.prog 54 #[.int .u64 (h.id : Int), .int .i64 2] w fun e w' => e = .returned (.string A4) ∧ Below w.heap.size w w'))
    (H5 : Hid (∀ w, Calls Try.prog 54 #[.int .u64 (F : Int), .int .i64 2] w fun e w' => e = .returned (.string A5) ∧ Below w.heap.size w w'))
    (G1 : Hid (∀ w, Calls Try.prog 54 #[.int .u64 (h.frm : Int), .int .i64 4] w fun e w' => e = .returned (.string C1) ∧ Below w.heap.size w w'))
    (G2 : Hid (∀ w, Calls Try.prog 54 #[.int .u64 (h.to : Int), .int .i64 4] w fun e w' => e = .returned (.string C2) ∧ Below w.heap.size w w'))
    (HS : Hid (∀ w, Calls Try.prog 55 #[.string fz] w fun e w' => e = .returned (.int .u16 (ck : Int)) ∧ w' = w))
    (HK : Hid (∀ w, Calls Try.prog 54 #[.int .u64 (ck : Int), .int .i64 2] w fun e w' => e = .returned (.string K) ∧ Below w.heap.size w w'))
    (o1 : IntKind.i64.wrap (64 + (M : Int) / 4) = (X : Int)) (x0 : IntKind.i64.wrap ((M : Int) / 4) = (M : Int) / 4) (xX : IntKind.u8.wrap (X : Int) = (X : Int)) (x3' : IntKind.i64.wrap ((M : Int) + (d.size : Int)) = (M : Int) + (d.size : Int)) (x3 : IntKind.u64.wrap ((M : Int) + (d.size : Int)) = (M : Int) + (d.size : Int))
    (x4 : IntKind.u64.wrap (h.id : Int) = (h.id : Int)) (xF : IntKind.u64.wrap (F : Int) = (F : Int)) (x8 : IntKind.u64.wrap (h.frm : Int) = (h.frm : Int)) (x9 : IntKind.u64.wrap (h.to : Int) = (h.to : Int)) (xk : IntKind.u64.wrap (ck : Int) = (ck : Int)) :
    Calls Try.prog 22 #[hdV h, .string d] w fun e w' => e = .returned (.string (fr ++ K ++ bk ++ d)) ∧ Below w.heap.size w w' := by
  have BX := hide (HC.box w h 25)
  have BEL := hide (below_one w (.cells (hdL h).toArray 25))
  go_enter Try.func22, Try.ntmps22
  go_upto_if 13 with fail
  simp only [hdL] at BX BEL
  generalize w.alloc _ = w1 at *
  obtain ⟨B, hB⟩ : ∃ B, B = w.heap.size := ⟨_, rfl⟩
  rw [← hB] at BX ⊢
  clear hB
  obtain ⟨F1, hF1⟩ : ∃ F1 : Nat, (F1 : Int) = h.at' / 8 + (if h.hold then 16384 else 0) := ⟨(h.at' / 8 + (if h.hold then 16384 else 0)).toNat, by split <;> omega⟩
  have HF1 := hide hF1
  have lF1 : F1 < 24576 := by split at hF1 <;> omega
  clear hF1
  obtain ⟨g1, hg1⟩ : ∃ g, g = h.hold := ⟨_, rfl⟩
  rw [← hg1]
  go_cut [5] from 13 to 15 (fun f wc => f = .int .i64 (F1 : Int) ∧ wc = w1)
  case first =>
    have e := unhide HF1
    rw [← hg1] at e
    clear hg1
    cases g1
    · have e : (F1 : Int) = h.at' / 8 := by rw [e]; simp
      go_wp2_with fail
      go_meet
      exact ⟨vint (by omega), rfl⟩
    · have e : (F1 : Int) = h.at' / 8 + 16384 := by rw [e]; simp
      go_wp2_with fail
      go_meet
      exact ⟨vint (by omega), rfl⟩
  case rest =>
    obtain ⟨rfl, rfl⟩ := hcut
    clear hg1
    obtain ⟨c0, c1, c2, c3, c4, c5, c6, c7, c8, c9⟩ := unhide BX
    go_upto_if 17 with fail
    clear c0 c1 c2 c3 c4 c5 c6 c7 c8 c9
    obtain ⟨g2, hg2⟩ : ∃ g, g = h.more := ⟨_, rfl⟩
    rw [← hg2]
    go_cut [5] from 17 to 19 (fun f wd => f = .int .i64 (F : Int) ∧ wd = wc)
    case first =>
      have e := unhide HF1
      have e2 := unhide hF
      rw [← e, ← hg2] at e2
      clear hg2 e
      cases g2
      · have e2 : (F : Int) = (F1 : Int) := by rw [e2]; simp
        go_wp2_with fail
        go_meet
        exact ⟨vint (by omega), rfl⟩
      · have e2 : (F : Int) = (F1 : Int) + 8192 := by rw [e2]; simp
        go_wp2_with fail
        go_meet
        exact ⟨vint (by omega), rfl⟩
    case rest =>
      obtain ⟨rfl, rfl⟩ := hcut
      clear hg2 HF1 hF lF1
      obtain ⟨c0, c1, c2, c3, c4, c5, c6, c7, c8, c9⟩ := unhide BX
      have mm : ((20 + h.op.size : Nat) : Int) = (M : Int) := by rw [hM]
      have x20 : 20 + (h.op.size : Int) = (M : Int) := by omega
      clear hM
      have q1 := unhide efr
      obtain ⟨P2, g2⟩ : ∃ P, A1 ++ A3 = P := ⟨_, rfl⟩
      rw [g2] at q1
      have t2 : P2.size ≤ 4 := by rw [← g2, ByteArray.size_append]; omega
      obtain ⟨P3, g3⟩ : ∃ P, P2 ++ A4 = P := ⟨_, rfl⟩
      rw [g3] at q1
      have t3 : P3.size ≤ 6 := by rw [← g3, ByteArray.size_append]; omega
      obtain ⟨P4, g4⟩ : ∃ P, P3 ++ A5 = P := ⟨_, rfl⟩
      rw [g4] at q1
      have t4 : P4.size ≤ 8 := by rw [← g4, ByteArray.size_append]; omega
      have g5 := q1
      have n2 : ¬ 9223372036854775807 < A1.size + A3.size := by omega
      have n3 : ¬ 9223372036854775807 < P2.size + A4.size := by omega
      have n4 : ¬ 9223372036854775807 < P3.size + A5.size := by omega
      have n5 : ¬ 9223372036854775807 < P4.size + A6.size := by omega
      clear q1
      go_wp2_with fail
      have nd : List.Nodup [24, 25, 26, 27, 28, 29, 30, 31, 32, 33, 34, 35, 36, 37, 38, 39, 40, 41, 42, 43, 44, 45, 46, 47, 48, 49, 50, 51, 52, 53, 54, 7] := by decide
      have hs : ∀ d ∈ [24, 25, 26, 27, 28, 29, 30, 31, 32, 33, 34, 35, 36, 37, 38, 39, 40, 41, 42, 43, 44, 45, 46, 47, 48, 49, 50, 51, 52, 53, 54, 7], d < 80 := by decide
      have hW1 : ∀ k, k ≠ 6 → k ≠ 28 → ∀ p l w, WS wc X h.tos h.ttl h.proto 6 28 p l w → WS wc X h.tos h.ttl h.proto 6 28 p (l.setIfInBounds k true) w := fun k hi hj => WS.same hi hj
      have hW2 : ∀ k, k ≠ 6 → k ≠ 28 → ∀ p l w w', WS wc X h.tos h.ttl h.proto 6 28 p l w → Below w.heap.size w w' → WS wc X h.tos h.ttl h.proto 6 28 p (l.setIfInBounds k true) w' := fun k hi hj => WS.on hi hj
      refine wp_region_fr [24, 25, 26, 27, 28, 29, 30, 31, 32, 33, 34, 35, 36, 37, 38, 39, 40, 41, 42, 43, 44, 45, 46, 47, 48, 49, 50, 51, 52, 53, 54, 7] (fun b : Nat × Nat => [.int .i64 (M : Int), .int .i64 ((M : Int) / 4), .int .i64 (X : Int), .int .u8 (X : Int), .pointer (some ⟨B, 0, none⟩), .int .u8 (h.tos : Int), .slice (some ⟨wc.heap.size + b.1, 0, none⟩) 2 2, .string A1, .int .i64 (M : Int), .string d, .int .i64 (d.size : Int), .int .i64 ((M : Int) + (d.size : Int)), .int .u64 ((M : Int) + (d.size : Int)), .string A3, .string P2, .pointer (some ⟨B, 1, none⟩), .int .u16 (h.id : Int), .int .u64 (h.id : Int), .string A4, .string P3, .int .i64 (F : Int), .int .u64 (F : Int), .string A5, .string P4, .pointer (some ⟨B, 5, none⟩), .int .u8 (h.ttl : Int), .pointer (some ⟨B, 6, none⟩), .int .u8 (h.proto : Int), .slice (some ⟨wc.heap.size + b.2, 0, none⟩) 2 2, .string A6, .string fr, .string fr]) (WS wc X h.tos h.ttl h.proto 6 28) (by kernel_rfl) (by kernel_rfl) nd (fun _ => rfl) hs (by decide) ⟨(0, 0), WS.start wc _ _ _ _ _ _ _ _⟩
          ⟨step_val (.int .i64 (M : Int)) nd hs rfl rfl (fun _ => rfl) (hW1 0 (by decide) (by decide)) (fun l a w p hd k _ => by
              have e6 := k.evalOut 6 (by decide) (v := .int .i64 (M : Int)) rfl; generalize a.eval = ρ at *
              simp [execOp, go_sem, e6]),
          step_val (.int .i64 ((M : Int) / 4)) nd hs rfl rfl (fun _ => rfl) (hW1 1 (by decide) (by decide)) (fun l a w p hd k _ => by
              have e24 := k.eval 0 rfl (hd ⟨0, .data⟩ (by simp) rfl) (v := .int .i64 (M : Int)) rfl; have ec : ∀ c, a.eval (.const c) = c := fun _ => rfl; generalize a.eval = ρ at *
              simp [execOp, go_sem, ec, e24, x0]),
          step_val (.int .i64 (X : Int)) nd hs rfl rfl (fun _ => rfl) (hW1 2 (by decide) (by decide)) (fun l a w p hd k _ => by
              have e25 := k.eval 1 rfl (hd ⟨1, .data⟩ (by simp) rfl) (v := .int .i64 ((M : Int) / 4)) rfl; have ec : ∀ c, a.eval (.const c) = c := fun _ => rfl; generalize a.eval = ρ at *
              simp [execOp, go_sem, ec, e25, o1]),
          step_val (.int .u8 (X : Int)) nd hs rfl rfl (fun _ => rfl) (hW1 3 (by decide) (by decide)) (fun l a w p hd k _ => by
              have e26 := k.eval 2 rfl (hd ⟨2, .data⟩ (by simp) rfl) (v := .int .i64 (X : Int)) rfl; generalize a.eval = ρ at *
              simp [execOp, go_sem, e26, xX]),
          step_val (.pointer (some ⟨B, 0, none⟩)) nd hs rfl rfl (fun _ => rfl) (hW1 4 (by decide) (by decide)) (fun l a w p hd k _ => by
              have e2 := k.evalOut 2 (by decide) (v := .pointer (some ⟨B, 0, none⟩)) rfl; generalize a.eval = ρ at *
              simp [execOp, go_sem, e2]),
          step_val (.int .u8 (h.tos : Int)) nd hs rfl rfl (fun _ => rfl) (hW1 5 (by decide) (by decide)) (fun l a w p hd k W => by
              have cc := below_cell c0 W.bel; have e28 := k.eval 4 rfl (hd ⟨4, .data⟩ (by simp) rfl) (v := .pointer (some ⟨B, 0, none⟩)) rfl; generalize a.eval = ρ at *
              simp [execOp, go_sem, e28, cc]),
          ?_,
          step_val (.string A1) nd hs rfl rfl (fun _ => rfl) (hW1 7 (by decide) (by decide)) (fun l a w p hd k W => by
              have cv := two_back w (wc.heap.size + p.1) X h.tos A1 hA1 lX lt (W.z1 (hd ⟨6, .data⟩ (by simp) rfl)); have e30 := k.eval 6 rfl (hd ⟨6, .data⟩ (by simp) rfl) (v := .slice (some ⟨wc.heap.size + p.1, 0, none⟩) 2 2) rfl; generalize a.eval = ρ at *
              simp [execOp, go_sem, e30, cv]),
          step_val (.int .i64 (M : Int)) nd hs rfl rfl (fun _ => rfl) (hW1 8 (by decide) (by decide)) (fun l a w p hd k _ => by
              have e6 := k.evalOut 6 (by decide) (v := .int .i64 (M : Int)) rfl; generalize a.eval = ρ at *
              simp [execOp, go_sem, e6]),
          step_val (.string d) nd hs rfl rfl (fun _ => rfl) (hW1 9 (by decide) (by decide)) (fun l a w p hd k _ => by
              have e1 := k.evalOut 1 (by decide) (v := .string d) rfl; generalize a.eval = ρ at *
              simp [execOp, go_sem, e1]),
          step_val (.int .i64 (d.size : Int)) nd hs rfl rfl (fun _ => rfl) (hW1 10 (by decide) (by decide)) (fun l a w p hd k _ => by
              have e33 := k.eval 9 rfl (hd ⟨9, .data⟩ (by simp) rfl) (v := .string d) rfl; generalize a.eval = ρ at *
              simp [go_sem, e33]),
          step_val (.int .i64 ((M : Int) + (d.size : Int))) nd hs rfl rfl (fun _ => rfl) (hW1 11 (by decide) (by decide)) (fun l a w p hd k _ => by
              have e32 := k.eval 8 rfl (hd ⟨8, .data⟩ (by simp) rfl) (v := .int .i64 (M : Int)) rfl; have e34 := k.eval 10 rfl (hd ⟨10, .data⟩ (by simp) rfl) (v := .int .i64 (d.size : Int)) rfl; generalize a.eval = ρ at *
              simp [execOp, go_sem, e32, e34, x3']),
          step_val (.int .u64 ((M : Int) + (d.size : Int))) nd hs rfl rfl (fun _ => rfl) (hW1 12 (by decide) (by decide)) (fun l a w p hd k _ => by
              have e35 := k.eval 11 rfl (hd ⟨11, .data⟩ (by simp) rfl) (v := .int .i64 ((M : Int) + (d.size : Int))) rfl; generalize a.eval = ρ at *
              simp [execOp, go_sem, e35, x3]),
          step_call (.string A3) #[.int .u64 ((M : Int) + (d.size : Int)), .int .i64 2] nd hs rfl rfl (fun _ => rfl) (hW2 13 (by decide) (by decide)) (fun l a w p hd k _ => by
              have e36 := k.eval 12 rfl (hd ⟨12, .data⟩ (by simp) rfl) (v := .int .u64 ((M : Int) + (d.size : Int))) rfl; have ec : ∀ c, a.eval (.const c) = c := fun _ => rfl; have ef : ∀ f, a.eval (.func f) = .func (.func f) #[] #[] := fun _ => rfl; generalize a.eval = ρ at *
              simp [execOp, go_sem, ec, ef, e36]) (unhide H3),
          step_val (.string P2) nd hs rfl rfl (fun _ => rfl) (hW1 14 (by decide) (by decide)) (fun l a w p hd k _ => by
              have e31 := k.eval 7 rfl (hd ⟨7, .data⟩ (by simp) rfl) (v := .string A1) rfl; have e37 := k.eval 13 rfl (hd ⟨13, .data⟩ (by simp) rfl) (v := .string A3) rfl; generalize a.eval = ρ at *
              simp [execOp, go_sem, e31, e37, n2, g2]),
          step_val (.pointer (some ⟨B, 1, none⟩)) nd hs rfl rfl (fun _ => rfl) (hW1 15 (by decide) (by decide)) (fun l a w p hd k _ => by
              have e2 := k.evalOut 2 (by decide) (v := .pointer (some ⟨B, 0, none⟩)) rfl; generalize a.eval = ρ at *
              simp [execOp, go_sem, e2]),
          step_val (.int .u16 (h.id : Int)) nd hs rfl rfl (fun _ => rfl) (hW1 16 (by decide) (by decide)) (fun l a w p hd k W => by
              have cc := below_cell c1 W.bel; have e39 := k.eval 15 rfl (hd ⟨15, .data⟩ (by simp) rfl) (v := .pointer (some ⟨B, 1, none⟩)) rfl; generalize a.eval = ρ at *
              simp [execOp, go_sem, e39, cc]),
          step_val (.int .u64 (h.id : Int)) nd hs rfl rfl (fun _ => rfl) (hW1 17 (by decide) (by decide)) (fun l a w p hd k _ => by
              have e40 := k.eval 16 rfl (hd ⟨16, .data⟩ (by simp) rfl) (v := .int .u16 (h.id : Int)) rfl; generalize a.eval = ρ at *
              simp [execOp, go_sem, e40, x4]),
          step_call (.string A4) #[.int .u64 (h.id : Int), .int .i64 2] nd hs rfl rfl (fun _ => rfl) (hW2 18 (by decide) (by decide)) (fun l a w p hd k _ => by
              have e41 := k.eval 17 rfl (hd ⟨17, .data⟩ (by simp) rfl) (v := .int .u64 (h.id : Int)) rfl; have ec : ∀ c, a.eval (.const c) = c := fun _ => rfl; have ef : ∀ f, a.eval (.func f) = .func (.func f) #[] #[] := fun _ => rfl; generalize a.eval = ρ at *
              simp [execOp, go_sem, ec, ef, e41]) (unhide H4),
          step_val (.string P3) nd hs rfl rfl (fun _ => rfl) (hW1 19 (by decide) (by decide)) (fun l a w p hd k _ => by
              have e38 := k.eval 14 rfl (hd ⟨14, .data⟩ (by simp) rfl) (v := .string P2) rfl; have e42 := k.eval 18 rfl (hd ⟨18, .data⟩ (by simp) rfl) (v := .string A4) rfl; generalize a.eval = ρ at *
              simp [execOp, go_sem, e38, e42, n3, g3]),
          step_val (.int .i64 (F : Int)) nd hs rfl rfl (fun _ => rfl) (hW1 20 (by decide) (by decide)) (fun l a w p hd k _ => by
              have e5 := k.evalOut 5 (by decide) (v := .int .i64 (F : Int)) rfl; generalize a.eval = ρ at *
              simp [execOp, go_sem, e5]),
          step_val (.int .u64 (F : Int)) nd hs rfl rfl (fun _ => rfl) (hW1 21 (by decide) (by decide)) (fun l a w p hd k _ => by
              have e44 := k.eval 20 rfl (hd ⟨20, .data⟩ (by simp) rfl) (v := .int .i64 (F : Int)) rfl; generalize a.eval = ρ at *
              simp [execOp, go_sem, e44, xF]),
          step_call (.string A5) #[.int .u64 (F : Int), .int .i64 2] nd hs rfl rfl (fun _ => rfl) (hW2 22 (by decide) (by decide)) (fun l a w p hd k _ => by
              have e45 := k.eval 21 rfl (hd ⟨21, .data⟩ (by simp) rfl) (v := .int .u64 (F : Int)) rfl; have ec : ∀ c, a.eval (.const c) = c := fun _ => rfl; have ef : ∀ f, a.eval (.func f) = .func (.func f) #[] #[] := fun _ => rfl; generalize a.eval = ρ at *
              simp [execOp, go_sem, ec, ef, e45]) (unhide H5),
          step_val (.string P4) nd hs rfl rfl (fun _ => rfl) (hW1 23 (by decide) (by decide)) (fun l a w p hd k _ => by
              have e43 := k.eval 19 rfl (hd ⟨19, .data⟩ (by simp) rfl) (v := .string P3) rfl; have e46 := k.eval 22 rfl (hd ⟨22, .data⟩ (by simp) rfl) (v := .string A5) rfl; generalize a.eval = ρ at *
              simp [execOp, go_sem, e43, e46, n4, g4]),
          step_val (.pointer (some ⟨B, 5, none⟩)) nd hs rfl rfl (fun _ => rfl) (hW1 24 (by decide) (by decide)) (fun l a w p hd k _ => by
              have e2 := k.evalOut 2 (by decide) (v := .pointer (some ⟨B, 0, none⟩)) rfl; generalize a.eval = ρ at *
              simp [execOp, go_sem, e2]),
          step_val (.int .u8 (h.ttl : Int)) nd hs rfl rfl (fun _ => rfl) (hW1 25 (by decide) (by decide)) (fun l a w p hd k W => by
              have cc := below_cell c5 W.bel; have e48 := k.eval 24 rfl (hd ⟨24, .data⟩ (by simp) rfl) (v := .pointer (some ⟨B, 5, none⟩)) rfl; generalize a.eval = ρ at *
              simp [execOp, go_sem, e48, cc]),
          step_val (.pointer (some ⟨B, 6, none⟩)) nd hs rfl rfl (fun _ => rfl) (hW1 26 (by decide) (by decide)) (fun l a w p hd k _ => by
              have e2 := k.evalOut 2 (by decide) (v := .pointer (some ⟨B, 0, none⟩)) rfl; generalize a.eval = ρ at *
              simp [execOp, go_sem, e2]),
          step_val (.int .u8 (h.proto : Int)) nd hs rfl rfl (fun _ => rfl) (hW1 27 (by decide) (by decide)) (fun l a w p hd k W => by
              have cc := below_cell c6 W.bel; have e50 := k.eval 26 rfl (hd ⟨26, .data⟩ (by simp) rfl) (v := .pointer (some ⟨B, 6, none⟩)) rfl; generalize a.eval = ρ at *
              simp [execOp, go_sem, e50, cc]),
          ?_,
          step_val (.string A6) nd hs rfl rfl (fun _ => rfl) (hW1 29 (by decide) (by decide)) (fun l a w p hd k W => by
              have cv := two_back w (wc.heap.size + p.2) h.ttl h.proto A6 hA6 ll lp (W.z2 (hd ⟨28, .data⟩ (by simp) rfl)); have e52 := k.eval 28 rfl (hd ⟨28, .data⟩ (by simp) rfl) (v := .slice (some ⟨wc.heap.size + p.2, 0, none⟩) 2 2) rfl; generalize a.eval = ρ at *
              simp [execOp, go_sem, e52, cv]),
          step_val (.string fr) nd hs rfl rfl (fun _ => rfl) (hW1 30 (by decide) (by decide)) (fun l a w p hd k _ => by
              have e47 := k.eval 23 rfl (hd ⟨23, .data⟩ (by simp) rfl) (v := .string P4) rfl; have e53 := k.eval 29 rfl (hd ⟨29, .data⟩ (by simp) rfl) (v := .string A6) rfl; generalize a.eval = ρ at *
              simp [execOp, go_sem, e47, e53, n5, g5]),
          step_val (.string fr) nd hs rfl rfl (fun _ => rfl) (hW1 31 (by decide) (by decide)) (fun l a w p hd k _ => by
              have e54 := k.eval 30 rfl (hd ⟨30, .data⟩ (by simp) rfl) (v := .string fr) rfl; generalize a.eval = ρ at *
              simp [execOp, go_sem, e54]),
          trivial⟩ ?_
      · intro l a w p hd hu k W
        have e27 := k.eval 3 rfl (hd ⟨3, .data⟩ (by simp) rfl) (v := .int .u8 (X : Int)) rfl
        have e29 := k.eval 5 rfl (hd ⟨5, .data⟩ (by simp) rfl) (v := .int .u8 (h.tos : Int)) rfl
        refine op_val (v := .slice (some ⟨w.heap.size, 0, none⟩) 2 2) (w' := w.alloc (.cells #[.int .u8 (X : Int), .int .u8 (h.tos : Int)] 5)) (by generalize a.eval = ρ at *; simp [execOp, go_sem, e27, e29]) ⟨(w.heap.size - wc.heap.size, p.2), ?_, W.make1 (by decide) _⟩
        have hz : wc.heap.size + (w.heap.size - wc.heap.size) = w.heap.size := by have := W.bel.size; omega
        refine (k.as (fun j hj => vs_mid1 [.int .i64 (M : Int), .int .i64 ((M : Int) / 4), .int .i64 (X : Int), .int .u8 (X : Int), .pointer (some ⟨B, 0, none⟩), .int .u8 (h.tos : Int)] _ _ _ j (fun x => by have x : j = 6 := x; subst x; rw [getD_false hu] at hj; cases hj))).step nd hs rfl ?_
        show _ = Value.slice (some ⟨wc.heap.size + (w.heap.size - wc.heap.size), 0, none⟩) 2 2
        rw [hz]
      · intro l a w p hd hu k W
        have e49 := k.eval 25 rfl (hd ⟨25, .data⟩ (by simp) rfl) (v := .int .u8 (h.ttl : Int)) rfl
        have e51 := k.eval 27 rfl (hd ⟨27, .data⟩ (by simp) rfl) (v := .int .u8 (h.proto : Int)) rfl
        refine op_val (v := .slice (some ⟨w.heap.size, 0, none⟩) 2 2) (w' := w.alloc (.cells #[.int .u8 (h.ttl : Int), .int .u8 (h.proto : Int)] 5)) (by generalize a.eval = ρ at *; simp [execOp, go_sem, e49, e51]) ⟨(p.1, w.heap.size - wc.heap.size), ?_, W.make2 (by decide) _⟩
        have hz : wc.heap.size + (w.heap.size - wc.heap.size) = w.heap.size := by have := W.bel.size; omega
        refine (k.as (fun j hj => vs_mid1 ([.int .i64 (M : Int), .int .i64 ((M : Int) / 4), .int .i64 (X : Int), .int .u8 (X : Int), .pointer (some ⟨B, 0, none⟩), .int .u8 (h.tos : Int)] ++ .slice (some ⟨wc.heap.size + p.1, 0, none⟩) 2 2 :: [.string A1, .int .i64 (M : Int), .string d, .int .i64 (d.size : Int), .int .i64 ((M : Int) + (d.size : Int)), .int .u64 ((M : Int) + (d.size : Int)), .string A3, .string P2, .pointer (some ⟨B, 1, none⟩), .int .u16 (h.id : Int), .int .u64 (h.id : Int), .string A4, .string P3, .int .i64 (F : Int), .int .u64 (F : Int), .string A5, .string P4, .pointer (some ⟨B, 5, none⟩), .int .u8 (h.ttl : Int), .pointer (some ⟨B, 6, none⟩), .int .u8 (h.proto : Int)]) _ _ _ j (fun x => by have x : j = 28 := x; subst x; rw [getD_false hu] at hj; cases hj))).step nd hs rfl ?_
        show _ = Value.slice (some ⟨wc.heap.size + (w.heap.size - wc.heap.size), 0, none⟩) 2 2
        rw [hz]
      · intro p l w2 hall W
        have B1 := hide (tr2 (unhide BEL) W.bel)
        have BX2 := hide ((unhide BX).on W.bel)
        clear hall W nd hs hW1 hW2 c0 c1 c2 c3 c4 c5 c6 c7 c8 c9 BX BEL
        simp only [fill, List.setIfInBounds_toArray, List.set_cons_succ, List.set_cons_zero]
        generalize wc.heap.size + p.1 = q1 at *
        generalize wc.heap.size + p.2 = q2 at *
        have q2b := unhide ebk
        obtain ⟨Q1, g6⟩ : ∃ P, C1 ++ C2 = P := ⟨_, rfl⟩
        rw [g6] at q2b
        have t6 : Q1.size ≤ 8 := by rw [← g6, ByteArray.size_append]; omega
        have q3 := unhide efz
        obtain ⟨Q2, g7⟩ : ∃ P, fr ++ ⟨#[0, 0]⟩ = P := ⟨_, rfl⟩
        rw [g7] at q3
        have t7 : Q2.size ≤ 12 := by rw [← g7, ByteArray.size_append]; show fr.size + 2 ≤ 12; omega
        obtain ⟨R1, g8⟩ : ∃ P, fr ++ K = P := ⟨_, rfl⟩
        have t8 : R1.size ≤ 12 := by rw [← g8, ByteArray.size_append]; omega
        obtain ⟨R2, g9⟩ : ∃ P, R1 ++ bk = P := ⟨_, rfl⟩
        have t9 : R2.size ≤ 60 := by rw [← g9, ByteArray.size_append]; omega
        have HE : Hid (fr ++ K ++ bk ++ d = R2 ++ d) := by rw [g8, g9]; exact rfl
        have n7 : ¬ 9223372036854775807 < C1.size + C2.size := by omega
        have n8 : ¬ 9223372036854775807 < Q1.size + h.op.size := by omega
        have n6 : ¬ 9223372036854775807 < fr.size + 2 := by omega
        have n6' : ¬ 9223372036854775807 < Q2.size + bk.size := by omega
        have n9 : ¬ 9223372036854775807 < fr.size + K.size := by omega
        have n10 : ¬ 9223372036854775807 < R1.size + bk.size := by omega
        have n11 : ¬ 9223372036854775807 < R2.size + d.size := Nat.not_lt.2 (Nat.le_trans (Nat.add_le_add t9 hd0) (by decide))
        obtain ⟨c0, c1, c2, c3, c4, c5, c6, c7, c8, c9⟩ := unhide BX2
        have d7 := cell_regrown c7
        have d8 := cell_regrown c8
        have d9 := cell_regrown c9
        clear c0 c1 c2 c3 c4 c5 c6 c7 c8 c9 BX2 n2 n3 n4 n5 g2 g3 g4 g5 t2 t3 t4 t6 t7 t8 t9 z1 z3 z4 z5 z6 y1 y2 yk zf zb hA1 hA6 lX lt ll lp o1 x0 xX x3' x3 x4 xF H3 H4 H5 ha0 ha1
        have r1' := rgB (w := w2) (unhide G1)
        have r2' := rgB (w := w2) (unhide G2)
        go_wp2_with fail
        refine wp_region_quiet_below (by kernel_rfl) (by kernel_rfl) ?_
        repeat (go_big_quiet_step (fail))
        go_big_quiet_step (exact r1' _ _)
        repeat (go_big_quiet_step (fail))
        go_big_quiet_step (exact r2' _ _)
        repeat (go_big_quiet_step (fail))
        refine wpQuiet_nil ?_
        intro _ hw'
        obtain ⟨⟨dq, osq⟩, hw''⟩ := hw'
        subst hw''
        have B2 := hide (tr2 (unhide B1) (below_regrown w2 dq osq))
        clear d7 d8 d9 r1' r2' B1
        generalize Sort.grow (redrawn w2 dq) osq = w3 at *
        go_wp2_with fail
        refine (unhide HS _).mono ?_
        rintro e w4 ⟨rfl, rfl⟩
        go_wp2_with fail
        refine (unhide HK _).mono ?_
        rintro e w5 ⟨rfl, b5⟩
        go_wp2_with fail
        go_ret
        exact ⟨by rw [unhide HE]; rfl, tr2 (unhide B2) b5⟩

theorem vfront_eq (h : Rh) (n : Nat) :
    (⟨[byt (64 + (20 + h.op.size) / 4) 0, byt h.tos 0].toArray⟩ : ByteArray) ++ ⟨(ofB (20 + h.op.size + n) 2).toArray⟩ ++ ⟨(ofB h.id 2).toArray⟩ ++ ⟨(ofB h.hd.flags 2).toArray⟩ ++ ⟨[byt h.ttl 0, byt h.proto 0].toArray⟩ = ⟨(frontB h n).toArray⟩ := by
  rw [str_append, str_append, str_append, str_append]
  unfold frontB preB
  rw [hdn]
  rfl
def fzB (h : Rh) (n : Nat) : List UInt8 := frontB h n ++ [0, 0] ++ backB h
theorem z_eq (h : Rh) (n : Nat) : (⟨(frontB h n).toArray⟩ : ByteArray) ++ ⟨#[0, 0]⟩ ++ ⟨(backB h).toArray⟩ = ⟨(fzB h n).toArray⟩ := by
  rw [show (⟨#[0, 0]⟩ : ByteArray) = ⟨([0, 0] : List UInt8).toArray⟩ from rfl, str_append, str_append]
  rfl
theorem ckz_eq (h : Rh) (n : Nat) : 65535 - sAdd [⟨(fzB h n).toArray⟩] = csum h.hd n := by
  unfold sAdd csum
  rw [cat_one]
  rfl

theorem raw_any (h : Rh) (d : ByteArray) (w : World) (hi : h.In) (hd : d.size ≤ 1073741824) (hm : h.MayB) (hr : roomB h d.size) :
    Calls Try.prog 22 #[hdV h, .string d] w fun e w' => e = .returned (.string ⟨(rawB h.hd d.data.toList).toArray⟩) ∧ Below w.heap.size w w' := by
  have hm' := hm
  obtain ⟨m1, m2, m3, m4, m5⟩ := hm'
  have hF := flags_lt16 hm
  have i1 := hi.tos; have i2 := hi.id; have i3 := hi.ttl; have i4 := hi.proto; have i5 := hi.frm; have i6 := hi.to
  have hck : csum h.hd d.size < 65536 := csum_lt _ _
  have lf : (frontB h d.size).length = 10 := pre_len _ _
  have lb : (backB h).length = 8 + h.op.size := by unfold backB; rw [pst_len]; show 8 + h.op.data.toList.length = _; rw [← Lib.size_eq]
  have hr' := hr
  unfold roomB at hr'
  rw [← whole_eq]
  refine raw_walk h d w (20 + h.op.size) h.hd.flags (64 + (20 + h.op.size) / 4) (csum h.hd d.size) ⟨[byt (64 + (20 + h.op.size) / 4) 0, byt h.tos 0].toArray⟩ ⟨(ofB (20 + h.op.size + d.size) 2).toArray⟩ ⟨(ofB h.id 2).toArray⟩ ⟨(ofB h.hd.flags 2).toArray⟩ ⟨[byt h.ttl 0, byt h.proto 0].toArray⟩
    ⟨(ofB h.frm 4).toArray⟩ ⟨(ofB h.to 4).toArray⟩ ⟨(ofB (csum h.hd d.size) 2).toArray⟩ ⟨(frontB h d.size).toArray⟩ ⟨(backB h).toArray⟩ ⟨(fzB h d.size).toArray⟩ hd m4 rfl m1 m2 ?_ (by omega) i1 i3 i4 rfl rfl
    (Nat.le_refl 2) (of_size _ _) (of_size _ _) (of_size _ _) (Nat.le_refl 2) (of_size _ _) (of_size _ _) (of_size _ _) (vfront_eq h d.size) (back_eq h) (z_eq h d.size) ?_ ?_ ?_ ?_ ?_ ?_ ?_ ?_ ?_ ?_ ?_ ?_ ?_ ?_ (u64w (by omega)) (u64w (by omega)) (u64w (by omega)) (u64w (by omega)) (u64w (by omega))
  · show ((h.hd.flags : Nat) : Int) = _
    unfold Hd.flags Rh.hd
    simp only
    split <;> split <;> omega
  · rw [arr_size, lf]; exact Nat.le_refl _
  · rw [arr_size, lb]; omega
  · exact fun w => Of_any (20 + h.op.size + d.size) 2 w (by omega) (by omega)
  · exact fun w => Of_any _ 2 w (by omega) (by omega)
  · exact fun w => Of_any _ 2 w (by omega) (by omega)
  · exact fun w => Of_any _ 4 w (by omega) (by omega)
  · exact fun w => Of_any _ 4 w (by omega) (by omega)
  · intro w
    have q := rOf_any ⟨(fzB h d.size).toArray⟩ w (by rw [arr_size]; unfold fzB; rw [List.length_append, List.length_append, lf, lb]; show 10 + 2 + _ ≤ _; omega)
    rw [ckz_eq] at q
    exact q
  · exact fun w => Of_any _ 2 w (by omega) (by omega)
  · rw [IntKind.wrap_i64]; omega
  · rw [IntKind.wrap_i64]; omega
  · rw [IntKind.wrap_u8']; omega
  · rw [IntKind.wrap_i64]; omega
  · rw [IntKind.wrap_u64]; omega

set_option maxHeartbeats 1000000 in
theorem renc_no1 (h : Rh) (d : ByteArray) (w : World) (hi : h.In) (hm : ¬ h.MayB) :
    Calls Try.prog 20 #[hdV h, .string d] w fun e w' => e = .returned (.tuple #[.string ⟨#[]⟩, .int .i64 2]) ∧ Below w.heap.size w w' := by
  have H1 := fun w => rmay_any h w hi
  rw [decide_eq_false hm] at H1
  have H1 := hide H1
  have B0 := hide (below_one w (.cells (hdL h).toArray 25))
  go_enter Try.func20, Try.ntmps20
  go_wp2_with fail
  refine (unhide H1 _).mono ?_
  rintro e w1 ⟨rfl, b1⟩
  go_wp2_with fail
  go_ret2
  exact ⟨rfl, tr2 (unhide B0) b1⟩

set_option maxHeartbeats 2000000 in
theorem renc_walk (h : Rh) (d : ByteArray) (w : World) (gw gr : Bool) (R : ByteArray) (V : Value) (hV : Hid (V = if gw then if gr then .tuple #[.string R, .int .i64 0] else .tuple #[.string ⟨#[]⟩, .int .i64 4] else .tuple #[.string ⟨#[]⟩, .int .i64 2]))
    (H1 : Hid (∀ w, Calls Try.prog 51 #[hdV h] w fun e w' => e = .returned (.bool true) ∧ Below w.heap.size w w'))
    (H2 : Hid (∀ w, Calls Try.prog 52 #[hdV h, .int .i64 (d.size : Int)] w fun e w' => e = .returned (.bool gw) ∧ Below w.heap.size w w'))
    (H3 : Hid (∀ w, Calls Try.prog 53 #[hdV h, .int .i64 (d.size : Int)] w fun e w' => e = .returned (.bool gr) ∧ Below w.heap.size w w'))
    (H4 : Hid (gr = true → ∀ w, Calls Try.prog 22 #[hdV h, .string d] w fun e w' => e = .returned (.string R) ∧ Below w.heap.size w w')) :
    Calls Try.prog 20 #[hdV h, .string d] w fun e w' => e = .returned V ∧ Below w.heap.size w w' := by
  have B0 := hide (below_one w (.cells (hdL h).toArray 25))
  have BX := hide (HC.box w h 25)
  go_enter Try.func20, Try.ntmps20
  go_wp2_with fail
  refine (unhide H1 _).mono ?_
  rintro e w1 ⟨rfl, b1⟩
  have B1 := hide (tr2 (unhide B0) b1)
  have X1 := hide ((unhide BX).on b1)
  clear B0 BX b1 H1
  obtain ⟨c0, c1, c2, c3, c4, c5, c6, c7, c8, c9⟩ := unhide X1
  go_wp2_with fail
  refine (unhide H2 _).mono ?_
  rintro e w2 ⟨rfl, b2⟩
  have B2 := hide (tr2 (unhide B1) b2)
  have X2 := hide ((unhide X1).on b2)
  clear B1 X1 b2 H2 c0 c1 c2 c3 c4 c5 c6 c7 c8 c9
  cases gw
  · go_wp2_with fail
    go_ret2
    exact ⟨by rw [unhide hV]; rfl, unhide B2⟩
  · obtain ⟨c0, c1, c2, c3, c4, c5, c6, c7, c8, c9⟩ := unhide X2
    go_wp2_with fail
    refine (unhide H3 _).mono ?_
    rintro e w3 ⟨rfl, b3⟩
    have B3 := hide (tr2 (unhide B2) b3)
    have X3 := hide ((unhide X2).on b3)
    clear B2 X2 b3 H3 c0 c1 c2 c3 c4 c5 c6 c7 c8 c9
    cases gr
    · go_wp2_with fail
      go_ret2
      exact ⟨by rw [unhide hV]; rfl, unhide B3⟩
    · have H5 := hide (unhide H4 rfl)
      clear H4
      obtain ⟨c0, c1, c2, c3, c4, c5, c6, c7, c8, c9⟩ := unhide X3
      go_wp2_with fail
      refine (unhide H5 _).mono ?_
      rintro e w4 ⟨rfl, b4⟩
      go_wp2_with fail
      go_ret2
      exact ⟨by rw [unhide hV]; rfl, tr2 (unhide B3) b4⟩

theorem rencode_any (h : Rh) (d : ByteArray) (w : World) (hi : h.In) (hd : d.size ≤ 1073741824) {s : ByteArray} {e : Int} (he : EncIs h d s e) :
    Calls Try.prog 20 #[hdV h, .string d] w fun x w' => x = .returned (.tuple #[.string s, .int .i64 e]) ∧ Below w.heap.size w w' := by
  by_cases hm : h.MayB
  · have H1 := fun w => rmay_any h w hi
    rw [decide_eq_true hm] at H1
    refine renc_walk h d w (decide (wholeB h.more d.size)) (decide (roomB h d.size)) ⟨(rawB h.hd d.data.toList).toArray⟩ _ ?_ H1 (fun w => rwhole_any h d.size w hd) (fun w => rfits_any h d.size w hm hd) (fun hg w => raw_any h d w hi hd hm (of_decide_eq_true hg))
    show Value.tuple #[.string s, .int .i64 e] = _
    rcases he with ⟨hz, rfl, rfl⟩ | ⟨⟨_, hw, hr⟩, rfl, rfl⟩
    · by_cases hw : wholeB h.more d.size
      · by_cases hr : roomB h d.size
        · exact absurd (encE_ok ⟨hm, hw, hr⟩) hz
        · have e4 : encE h d.size = 4 := by unfold encE; rw [if_pos ⟨hm, hw⟩, if_neg hr]
          rw [e4, decide_eq_true hw, decide_eq_false hr]; rfl
      · have e2 : encE h d.size = 2 := by unfold encE; rw [if_neg (fun x => hw x.2)]
        rw [e2, decide_eq_false hw]; rfl
    · rw [decide_eq_true hw, decide_eq_true hr]; rfl
  · rcases he with ⟨hz, rfl, rfl⟩ | ⟨⟨hm', _, _⟩, _, _⟩
    · have e2 : encE h d.size = 2 := by unfold encE; rw [if_neg (fun x => hm x.1)]
      rw [e2]
      exact renc_no1 h d w hi hm
    · exact absurd hm' hm

end Go.Proofs.Ytefenejeppmfiaa
