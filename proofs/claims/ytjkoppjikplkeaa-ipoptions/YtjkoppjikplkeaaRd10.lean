/- The contracts of the document's two, four and Decode (layer 10), over the loaded program; no memory that was there has turned. Conditions: texts of bounded length. -/
import Derived.Test.YtjkoppjikplkeaaIh5
import Derived.Test.YtjkoppjikplkeaaRx
import Derived.Laws.BitsAllLaws
namespace Go.Proofs.Ytjkoppjikplkeaa
open Go.RowKit

set_option maxHeartbeats 400000 in
theorem rtwo_any (s : ByteArray) (k : Nat) (w : World) (h : k + 2 ≤ s.size) (hm : s.size ≤ 1073741824) :
    Calls Try.prog 48 #[.string s, .int .i64 (k : Int)] w fun e w' => e = .returned (.int .i64 (twoAt s.data.toList k : Nat)) ∧ w' = w := by
  have H := hide (Num_ok s k 2 w (by unfold maxLen; omega) (by omega) h)
  rw [show num (fld s k 2) = twoAt s.data.toList k from rfl] at H
  have hl := twoAt_lt s.data.toList k
  generalize twoAt s.data.toList k = x at *
  clear h
  go_enter Try.func48, Try.ntmps48
  go_wp2_with fail
  refine (unhide H).mono ?_
  rintro e w1 ⟨rfl, rfl⟩
  go_wp2_with fail
  go_ret
  exact ⟨rfl, rfl⟩

set_option maxHeartbeats 400000 in
theorem rfour_any (s : ByteArray) (k : Nat) (w : World) (h : k + 4 ≤ s.size) (hm : s.size ≤ 1073741824) :
    Calls Try.prog 50 #[.string s, .int .i64 (k : Int)] w fun e w' => e = .returned (.int .u32 (fourAt s.data.toList k : Nat)) ∧ w' = w := by
  have H := hide (Num_ok s k 4 w (by unfold maxLen; omega) (by omega) h)
  rw [show num (fld s k 4) = fourAt s.data.toList k from rfl] at H
  have hl := fourAt_lt s.data.toList k
  generalize fourAt s.data.toList k = x at *
  clear h
  go_enter Try.func50, Try.ntmps50
  go_wp2_with fail
  refine (unhide H).mono ?_
  rintro e w1 ⟨rfl, rfl⟩
  go_wp2_with fail
  go_ret
  exact ⟨rfl, rfl⟩

/-- a block that a region makes, and fills at its end -/
def tb (b : Nat) (cs : List Value) : Nat → Nat → Option Value := fun b' j' => if b' = b then cs[j']? else none
theorem tab_alloc {w1 w : World} (hb : Below w1.heap.size w1 w) (cs : List Value) (t : TypeId) : Tab w1 (w.heap.size - w1.heap.size + 1) (tb (w.heap.size - w1.heap.size) cs) (w.alloc (.cells cs.toArray t)) := by
  have hle := hb.size
  have hp : w1.heap.size + (w.heap.size - w1.heap.size) = w.heap.size := by omega
  refine ⟨hb.alloc hb.size _, by simp; omega, fun b j v e => ?_, fun b j v e => ?_, fun b j v e => ?_⟩
  · unfold tb at e
    split at e
    · omega
    · cases e
  · unfold tb at e
    split at e
    · rename_i hbb
      rw [hbb, hp, cell_of_row _ _ j _ _ _ (heap_alloc_new w _)]
      simpa using e
    · cases e
  · unfold tb at e
    split at e
    · rename_i hbb
      rw [hbb, hp]
      unfold World.frozen?
      rw [heap_alloc_new]
      simp
    · cases e
structure WB (w1 : World) (h : Rh) (i j : Nat) (b : Nat) (l : Array Bool) (w : World) : Prop where
  bel : Below w1.heap.size w1 w
  z : l.getD i false = true → l.getD j false = false → Tab w1 (b + 1) (tb b z10) w
  f : l.getD j false = true → l.getD i false = true ∧ Tab w1 (b + 1) (tb b (hdL h)) w
theorem WB.start (w1 : World) (h : Rh) (i j b n : Nat) : WB w1 h i j b (Array.replicate n false) { w1 with drawn := w1.drawn + 1 } :=
  ⟨⟨rfl, rfl, rfl, Nat.le_refl _, fun _ _ => rfl⟩, (fun a => by rw [getD_rep] at a; cases a), (fun a => by rw [getD_rep] at a; cases a)⟩
theorem WB.same {w1 : World} {h : Rh} {i j k : Nat} (hi : k ≠ i) (hj : k ≠ j) (b : Nat) (l : Array Bool) (w : World) (W : WB w1 h i j b l w) : WB w1 h i j b (l.setIfInBounds k true) w :=
  ⟨W.bel, fun a c => W.z (by rwa [getD_upd hi] at a) (by rwa [getD_upd hj] at c), fun a => by rw [getD_upd hj] at a; rw [getD_upd hi]; exact W.f a⟩
theorem WB.on {w1 : World} {h : Rh} {i j k : Nat} (hi : k ≠ i) (hj : k ≠ j) (b : Nat) (l : Array Bool) (w w' : World) (W : WB w1 h i j b l w) (q : Below w.heap.size w w') : WB w1 h i j b (l.setIfInBounds k true) w' := by
  have V := W.same hi hj
  exact ⟨tr2 W.bel q, fun a c => (V.z a c).on q, fun a => ⟨(V.f a).1, (V.f a).2.on q⟩⟩
theorem getD_false {l : Array Bool} {k : Nat} (h : l.getD k true = false) : l.getD k false = false := by
  simp only [Array.getD_eq_getD_getElem?] at h ⊢
  cases e : l[k]? with
  | none => rw [e] at h; cases h
  | some v => rw [e] at h; simpa using h
theorem getD_here {l : Array Bool} {k : Nat} (h : l.getD k true = false) : (l.setIfInBounds k true).getD k false = true := by
  simp only [Array.getD_eq_getD_getElem?] at h ⊢
  rw [Array.getElem?_setIfInBounds, if_pos rfl]
  by_cases hk : k < l.size
  · rw [if_pos hk]; rfl
  · rw [Array.getElem?_eq_none (by omega)] at h; cases h

theorem getD_stay {l : Array Bool} {i k : Nat} (h : l.getD k false = true) : (l.setIfInBounds i true).getD k false = true := by
  by_cases e : i = k
  · subst e
    simp only [Array.getD_eq_getD_getElem?] at h ⊢
    rw [Array.getElem?_setIfInBounds, if_pos rfl]
    by_cases hk : i < l.size
    · rw [if_pos hk]; rfl
    · rw [Array.getElem?_eq_none (by omega)] at h; cases h
  · rw [getD_upd e]; exact h
theorem WB.alloc {w1 w : World} {h : Rh} {i j b : Nat} {l : Array Bool} (W : WB w1 h i j b l w) (hu : l.getD i true = false) (hij : i ≠ j) (t : TypeId) : WB w1 h i j (w.heap.size - w1.heap.size) (l.setIfInBounds i true) (w.alloc (.cells z10.toArray t)) :=
  ⟨W.bel.alloc W.bel.size _, fun _ _ => tab_alloc W.bel z10 t, fun a => by
    rw [getD_upd hij] at a
    have := (W.f a).1
    rw [getD_false hu] at this
    cases this⟩
theorem WB.store {w1 w : World} {h : Rh} {i j b : Nat} {l : Array Bool} (W : WB w1 h i j b l w) (hi : l.getD i false = true) (hu : l.getD j true = false) : WB w1 h i j b (l.setIfInBounds j true)
    ((((((((((w.setCell ⟨w1.heap.size + b, 0, none⟩ (.int .u8 (h.tos : Int))).setCell ⟨w1.heap.size + b, 1, none⟩ (.int .u16 (h.id : Int))).setCell ⟨w1.heap.size + b, 2, none⟩ (.bool h.hold)).setCell ⟨w1.heap.size + b, 3, none⟩ (.bool h.more)).setCell ⟨w1.heap.size + b, 4, none⟩ (.int .i64 h.at')).setCell ⟨w1.heap.size + b, 5, none⟩ (.int .u8 (h.ttl : Int))).setCell ⟨w1.heap.size + b, 6, none⟩ (.int .u8 (h.proto : Int))).setCell ⟨w1.heap.size + b, 7, none⟩ (.int .u32 (h.frm : Int))).setCell ⟨w1.heap.size + b, 8, none⟩ (.int .u32 (h.to : Int))).setCell ⟨w1.heap.size + b, 9, none⟩ (.string h.op)) := by
  have T := W.z hi (getD_false hu)
  have e : ∀ j, tb b z10 b j = z10[j]? := fun j => by unfold tb; rw [if_pos rfl]
  refine ⟨below_set10 W.bel (Nat.le_add_right _ _) _ _ _ _ _ _ _ _ _ _, (fun _ c => by rw [getD_here hu] at c; cases c), fun _ => ⟨getD_stay hi, ?_⟩⟩
  refine (T.put10 b (e 0) (e 1) (e 2) (e 3) (e 4) (e 5) (e 6) (e 7) (e 8) (e 9) _ _ _ _ _ _ _ _ _ _).as fun b' j' v q => ?_
  unfold tb at q ⊢
  split at q
  · rename_i hb; rw [if_pos hb]; exact q
  · cases q
theorem vs_last (base : List Value) (x y : Value) (j : Nat) (h : j ≠ base.length) : (base ++ [x]).getD j undef = (base ++ [y]).getD j undef := by
  simp only [List.getD_eq_getElem?_getD]
  by_cases hj : j < base.length
  · rw [List.getElem?_append_left hj, List.getElem?_append_left hj]
  · rw [List.getElem?_eq_none (by simp; omega), List.getElem?_eq_none (by simp; omega)]

set_option maxRecDepth 20000 in
set_option maxHeartbeats 4000000 in
theorem rdec_walk (s : ByteArray) (w : World) (x0 x1 x8 x9 H P F T4 A B y1 y2 y3 : Nat) (b2 b3 g gw gr : Bool) (V : Value) (h : Rh) (hh : h = ⟨x1, T4, b2, b3, 8 * (y3 : Int), x8, x9, A, B, s.extract 20 H⟩)
    (hV : Hid (V = if !g && gw && gr then .tuple #[hdV h, .string (s.extract H P), .int .i64 0] else .tuple #[hd0V, .string ⟨#[]⟩, .int .i64 8])) (hm : s.size ≤ 1073741824) (l3 : y3 < 8192) (l4 : T4 < 65536) (lP : P < 65536)
    (a1 : 20 ≤ s.size) (c0 : s[0].toNat = x0) (c1 : s[1].toNat = x1) (c8 : s[8].toNat = x8) (c9 : s[9].toNat = x9) (hv : ((x0 : Int) / 16 != 4) = false) (ha : bits .and .u8 (x0 : Int) 15 = ((x0 % 16 : Nat) : Int)) (hH : 4 * ((x0 : Int) % 16) = (H : Int))
    (a2 : 20 ≤ H) (a3 : H ≤ s.size) (a4 : H ≤ P) (a5 : P ≤ s.size) (hF : decide ((32768 : Int) ≤ (F : Int)) = g)
    (R2 : Hid (∀ w, Calls Try.prog 48 #[.string s, .int .i64 2] w fun e w' => e = .returned (.int .i64 (P : Int)) ∧ w' = w))
    (RR : Hid (∀ w, Calls Try.prog 49 #[.string (s.extract 0 H)] w fun e w' => e = .returned (.bool true) ∧ w' = w))
    (R6 : Hid (∀ w, Calls Try.prog 48 #[.string s, .int .i64 6] w fun e w' => e = .returned (.int .i64 (F : Int)) ∧ w' = w))
    (R4 : Hid (∀ w, Calls Try.prog 48 #[.string s, .int .i64 4] w fun e w' => e = .returned (.int .i64 (T4 : Int)) ∧ Below w.heap.size w w'))
    (RA : Hid (∀ w, Calls Try.prog 50 #[.string s, .int .i64 12] w fun e w' => e = .returned (.int .u32 (A : Int)) ∧ Below w.heap.size w w'))
    (RB : Hid (∀ w, Calls Try.prog 50 #[.string s, .int .i64 16] w fun e w' => e = .returned (.int .u32 (B : Int)) ∧ Below w.heap.size w w'))
    (RW : Hid (∀ w, Calls Try.prog 36 #[hdV h, .int .i64 ((P : Int) - (H : Int))] w fun e w' => e = .returned (.bool gw) ∧ Below w.heap.size w w'))
    (RG : Hid (∀ w, Calls Try.prog 37 #[hdV h, .int .i64 ((P : Int) - (H : Int))] w fun e w' => e = .returned (.bool gr) ∧ Below w.heap.size w w'))
    (e1 : bits .and .i64 (F : Int) 16384 = (y1 : Int)) (e2 : bits .and .i64 (F : Int) 8192 = (y2 : Int)) (e3 : bits .and .i64 (F : Int) 8191 = (y3 : Int)) (f1 : ((y1 : Int) != 0) = b2) (f2 : ((y2 : Int) != 0) = b3) :
    Calls Try.prog 14 #[.string s] w fun e w' => e = .returned V ∧ Below w.heap.size w w' := by
  have K := hide ((Tab.zero w).alloc rfl z10 25)
  go_enter Try.func14, Try.ntmps14
  go_wp2_with fail
  refine (unhide R2 _).mono ?_
  rintro e w1 ⟨rfl, rfl⟩
  go_wp2_with fail
  refine (unhide RR _).mono ?_
  rintro e w1 ⟨rfl, rfl⟩
  go_wp2_with fail
  refine (unhide R6 _).mono ?_
  rintro e w1 ⟨rfl, rfl⟩
  go_wp2_with fail
  simp only [List.toArray] at K
  generalize w.alloc _ = w1 at *
  have nd : List.Nodup [50, 51, 52, 53, 54, 55, 56, 57, 58, 59, 60, 61, 62, 63, 64, 65, 66, 67, 68, 69, 70, 71, 72, 73, 74, 75, 8] := by decide
  have hs : ∀ d ∈ [50, 51, 52, 53, 54, 55, 56, 57, 58, 59, 60, 61, 62, 63, 64, 65, 66, 67, 68, 69, 70, 71, 72, 73, 74, 75, 8], d < 100 := by decide
  have hW1 : ∀ k, k ≠ 26 → k ≠ 27 → ∀ b l w, WB w1 h 26 27 b l w → WB w1 h 26 27 b (l.setIfInBounds k true) w := fun k hi hj => WB.same hi hj
  have hW2 : ∀ k, k ≠ 26 → k ≠ 27 → ∀ b l w w', WB w1 h 26 27 b l w → Below w.heap.size w w' → WB w1 h 26 27 b (l.setIfInBounds k true) w' := fun k hi hj => WB.on hi hj
  have g1 : (1 : Int) < s.size := by omega
  have g8 : (8 : Int) < s.size := by omega
  have g9 : (9 : Int) < s.size := by omega
  have xT4 : IntKind.u16.wrap (T4 : Int) = (T4 : Int) := by rw [IntKind.wrap_u16]; omega
  have xy3 : IntKind.i64.wrap (8 * (y3 : Int)) = 8 * (y3 : Int) := by rw [IntKind.wrap_i64]; omega
  have g20 : ¬ (H : Int) < 20 := by omega
  refine wp_region_fr [50, 51, 52, 53, 54, 55, 56, 57, 58, 59, 60, 61, 62, 63, 64, 65, 66, 67, 68, 69, 70, 71, 72, 73, 74, 75, 8] (fun b => [.string s, .int .u8 (x1 : Int), .string s, .int .i64 (T4 : Int), .int .u16 (T4 : Int), .int .i64 (F : Int), .int .i64 (y1 : Int), .bool b2, .int .i64 (F : Int), .int .i64 (y2 : Int), .bool b3, .int .i64 (F : Int), .int .i64 (y3 : Int), .int .i64 (8 * (y3 : Int)), .string s, .int .u8 (x8 : Int), .string s, .int .u8 (x9 : Int), .string s, .int .u32 (A : Int), .string s, .int .u32 (B : Int), .string s, .int .i64 (H : Int), .string (s.extract 20 H), .agg #[.int .u8 (x1 : Int), .int .u16 (T4 : Int), .bool b2, .bool b3, .int .i64 (8 * (y3 : Int)), .int .u8 (x8 : Int), .int .u8 (x9 : Int), .int .u32 (A : Int), .int .u32 (B : Int), .string (s.extract 20 H)], .pointer (some ⟨w1.heap.size + b, 0, none⟩)]) (WB w1 h 26 27) (by kernel_rfl) (by kernel_rfl) nd (fun _ => rfl) hs (by decide) ⟨0, WB.start w1 h _ _ _ _⟩
    ⟨step_val (.string s) nd hs rfl rfl (fun _ => rfl) (hW1 0 (by decide) (by decide)) (fun l a w p hd k _ => by
        have e0 := k.evalOut 0 (by decide) (v := .string s) rfl; generalize a.eval = ρ at *
        simp [execOp, go_sem, e0]),
    step_val (.int .u8 (x1 : Int)) nd hs rfl rfl (fun _ => rfl) (hW1 1 (by decide) (by decide)) (fun l a w p hd k _ => by
        have e50 := k.eval 0 rfl (hd ⟨0, .data⟩ (by simp) rfl) (v := .string s) rfl; have ec : ∀ c, a.eval (.const c) = c := fun _ => rfl; generalize a.eval = ρ at *
        simp [execOp, go_sem, ec, e50, c1, g1]),
    step_val (.string s) nd hs rfl rfl (fun _ => rfl) (hW1 2 (by decide) (by decide)) (fun l a w p hd k _ => by
        have e0 := k.evalOut 0 (by decide) (v := .string s) rfl; generalize a.eval = ρ at *
        simp [execOp, go_sem, e0]),
    step_call (.int .i64 (T4 : Int)) #[.string s, .int .i64 4] nd hs rfl rfl (fun _ => rfl) (hW2 3 (by decide) (by decide)) (fun l a w p hd k _ => by
        have e52 := k.eval 2 rfl (hd ⟨2, .data⟩ (by simp) rfl) (v := .string s) rfl; have ec : ∀ c, a.eval (.const c) = c := fun _ => rfl; have ef : ∀ f, a.eval (.func f) = .func (.func f) #[] #[] := fun _ => rfl; generalize a.eval = ρ at *
        simp [execOp, go_sem, ec, ef, e52]) (unhide R4),
    step_val (.int .u16 (T4 : Int)) nd hs rfl rfl (fun _ => rfl) (hW1 4 (by decide) (by decide)) (fun l a w p hd k _ => by
        have e53 := k.eval 3 rfl (hd ⟨3, .data⟩ (by simp) rfl) (v := .int .i64 (T4 : Int)) rfl; generalize a.eval = ρ at *
        simp [execOp, go_sem, e53, xT4]),
    step_val (.int .i64 (F : Int)) nd hs rfl rfl (fun _ => rfl) (hW1 5 (by decide) (by decide)) (fun l a w p hd k _ => by
        have e7 := k.evalOut 7 (by decide) (v := .int .i64 (F : Int)) rfl; generalize a.eval = ρ at *
        simp [execOp, go_sem, e7]),
    step_val (.int .i64 (y1 : Int)) nd hs rfl rfl (fun _ => rfl) (hW1 6 (by decide) (by decide)) (fun l a w p hd k _ => by
        have e55 := k.eval 5 rfl (hd ⟨5, .data⟩ (by simp) rfl) (v := .int .i64 (F : Int)) rfl; have ec : ∀ c, a.eval (.const c) = c := fun _ => rfl; generalize a.eval = ρ at *
        simp [execOp, go_sem, ec, e55, e1]),
    step_val (.bool b2) nd hs rfl rfl (fun _ => rfl) (hW1 7 (by decide) (by decide)) (fun l a w p hd k _ => by
        have e56 := k.eval 6 rfl (hd ⟨6, .data⟩ (by simp) rfl) (v := .int .i64 (y1 : Int)) rfl; have ec : ∀ c, a.eval (.const c) = c := fun _ => rfl; generalize a.eval = ρ at *
        simp [execOp, go_sem, ec, e56, f1]),
    step_val (.int .i64 (F : Int)) nd hs rfl rfl (fun _ => rfl) (hW1 8 (by decide) (by decide)) (fun l a w p hd k _ => by
        have e7 := k.evalOut 7 (by decide) (v := .int .i64 (F : Int)) rfl; generalize a.eval = ρ at *
        simp [execOp, go_sem, e7]),
    step_val (.int .i64 (y2 : Int)) nd hs rfl rfl (fun _ => rfl) (hW1 9 (by decide) (by decide)) (fun l a w p hd k _ => by
        have e58 := k.eval 8 rfl (hd ⟨8, .data⟩ (by simp) rfl) (v := .int .i64 (F : Int)) rfl; have ec : ∀ c, a.eval (.const c) = c := fun _ => rfl; generalize a.eval = ρ at *
        simp [execOp, go_sem, ec, e58, e2]),
    step_val (.bool b3) nd hs rfl rfl (fun _ => rfl) (hW1 10 (by decide) (by decide)) (fun l a w p hd k _ => by
        have e59 := k.eval 9 rfl (hd ⟨9, .data⟩ (by simp) rfl) (v := .int .i64 (y2 : Int)) rfl; have ec : ∀ c, a.eval (.const c) = c := fun _ => rfl; generalize a.eval = ρ at *
        simp [execOp, go_sem, ec, e59, f2]),
    step_val (.int .i64 (F : Int)) nd hs rfl rfl (fun _ => rfl) (hW1 11 (by decide) (by decide)) (fun l a w p hd k _ => by
        have e7 := k.evalOut 7 (by decide) (v := .int .i64 (F : Int)) rfl; generalize a.eval = ρ at *
        simp [execOp, go_sem, e7]),
    step_val (.int .i64 (y3 : Int)) nd hs rfl rfl (fun _ => rfl) (hW1 12 (by decide) (by decide)) (fun l a w p hd k _ => by
        have e61 := k.eval 11 rfl (hd ⟨11, .data⟩ (by simp) rfl) (v := .int .i64 (F : Int)) rfl; have ec : ∀ c, a.eval (.const c) = c := fun _ => rfl; generalize a.eval = ρ at *
        simp [execOp, go_sem, ec, e61, e3]),
    step_val (.int .i64 (8 * (y3 : Int))) nd hs rfl rfl (fun _ => rfl) (hW1 13 (by decide) (by decide)) (fun l a w p hd k _ => by
        have e62 := k.eval 12 rfl (hd ⟨12, .data⟩ (by simp) rfl) (v := .int .i64 (y3 : Int)) rfl; have ec : ∀ c, a.eval (.const c) = c := fun _ => rfl; generalize a.eval = ρ at *
        simp [execOp, go_sem, ec, e62, xy3]),
    step_val (.string s) nd hs rfl rfl (fun _ => rfl) (hW1 14 (by decide) (by decide)) (fun l a w p hd k _ => by
        have e0 := k.evalOut 0 (by decide) (v := .string s) rfl; generalize a.eval = ρ at *
        simp [execOp, go_sem, e0]),
    step_val (.int .u8 (x8 : Int)) nd hs rfl rfl (fun _ => rfl) (hW1 15 (by decide) (by decide)) (fun l a w p hd k _ => by
        have e64 := k.eval 14 rfl (hd ⟨14, .data⟩ (by simp) rfl) (v := .string s) rfl; have ec : ∀ c, a.eval (.const c) = c := fun _ => rfl; generalize a.eval = ρ at *
        simp [execOp, go_sem, ec, e64, c8, g8]),
    step_val (.string s) nd hs rfl rfl (fun _ => rfl) (hW1 16 (by decide) (by decide)) (fun l a w p hd k _ => by
        have e0 := k.evalOut 0 (by decide) (v := .string s) rfl; generalize a.eval = ρ at *
        simp [execOp, go_sem, e0]),
    step_val (.int .u8 (x9 : Int)) nd hs rfl rfl (fun _ => rfl) (hW1 17 (by decide) (by decide)) (fun l a w p hd k _ => by
        have e66 := k.eval 16 rfl (hd ⟨16, .data⟩ (by simp) rfl) (v := .string s) rfl; have ec : ∀ c, a.eval (.const c) = c := fun _ => rfl; generalize a.eval = ρ at *
        simp [execOp, go_sem, ec, e66, c9, g9]),
    step_val (.string s) nd hs rfl rfl (fun _ => rfl) (hW1 18 (by decide) (by decide)) (fun l a w p hd k _ => by
        have e0 := k.evalOut 0 (by decide) (v := .string s) rfl; generalize a.eval = ρ at *
        simp [execOp, go_sem, e0]),
    step_call (.int .u32 (A : Int)) #[.string s, .int .i64 12] nd hs rfl rfl (fun _ => rfl) (hW2 19 (by decide) (by decide)) (fun l a w p hd k _ => by
        have e68 := k.eval 18 rfl (hd ⟨18, .data⟩ (by simp) rfl) (v := .string s) rfl; have ec : ∀ c, a.eval (.const c) = c := fun _ => rfl; have ef : ∀ f, a.eval (.func f) = .func (.func f) #[] #[] := fun _ => rfl; generalize a.eval = ρ at *
        simp [execOp, go_sem, ec, ef, e68]) (unhide RA),
    step_val (.string s) nd hs rfl rfl (fun _ => rfl) (hW1 20 (by decide) (by decide)) (fun l a w p hd k _ => by
        have e0 := k.evalOut 0 (by decide) (v := .string s) rfl; generalize a.eval = ρ at *
        simp [execOp, go_sem, e0]),
    step_call (.int .u32 (B : Int)) #[.string s, .int .i64 16] nd hs rfl rfl (fun _ => rfl) (hW2 21 (by decide) (by decide)) (fun l a w p hd k _ => by
        have e70 := k.eval 20 rfl (hd ⟨20, .data⟩ (by simp) rfl) (v := .string s) rfl; have ec : ∀ c, a.eval (.const c) = c := fun _ => rfl; have ef : ∀ f, a.eval (.func f) = .func (.func f) #[] #[] := fun _ => rfl; generalize a.eval = ρ at *
        simp [execOp, go_sem, ec, ef, e70]) (unhide RB),
    step_val (.string s) nd hs rfl rfl (fun _ => rfl) (hW1 22 (by decide) (by decide)) (fun l a w p hd k _ => by
        have e0 := k.evalOut 0 (by decide) (v := .string s) rfl; generalize a.eval = ρ at *
        simp [execOp, go_sem, e0]),
    step_val (.int .i64 (H : Int)) nd hs rfl rfl (fun _ => rfl) (hW1 23 (by decide) (by decide)) (fun l a w p hd k _ => by
        have e5 := k.evalOut 5 (by decide) (v := .int .i64 (H : Int)) rfl; generalize a.eval = ρ at *
        simp [execOp, go_sem, e5]),
    step_val (.string (s.extract 20 H)) nd hs rfl rfl (fun _ => rfl) (hW1 24 (by decide) (by decide)) (fun l a w p hd k _ => by
        have e72 := k.eval 22 rfl (hd ⟨22, .data⟩ (by simp) rfl) (v := .string s) rfl; have e73 := k.eval 23 rfl (hd ⟨23, .data⟩ (by simp) rfl) (v := .int .i64 (H : Int)) rfl; have ec : ∀ c, a.eval (.const c) = c := fun _ => rfl; generalize a.eval = ρ at *
        simp [execOp, go_sem, ec, e72, e73, a3, g20]),
    step_val (.agg #[.int .u8 (x1 : Int), .int .u16 (T4 : Int), .bool b2, .bool b3, .int .i64 (8 * (y3 : Int)), .int .u8 (x8 : Int), .int .u8 (x9 : Int), .int .u32 (A : Int), .int .u32 (B : Int), .string (s.extract 20 H)]) nd hs rfl rfl (fun _ => rfl) (hW1 25 (by decide) (by decide)) (fun l a w p hd k _ => by
        have e51 := k.eval 1 rfl (hd ⟨1, .data⟩ (by simp) rfl) (v := .int .u8 (x1 : Int)) rfl; have e54 := k.eval 4 rfl (hd ⟨4, .data⟩ (by simp) rfl) (v := .int .u16 (T4 : Int)) rfl; have e57 := k.eval 7 rfl (hd ⟨7, .data⟩ (by simp) rfl) (v := .bool b2) rfl; have e60 := k.eval 10 rfl (hd ⟨10, .data⟩ (by simp) rfl) (v := .bool b3) rfl; have e63 := k.eval 13 rfl (hd ⟨13, .data⟩ (by simp) rfl) (v := .int .i64 (8 * (y3 : Int))) rfl; have e65 := k.eval 15 rfl (hd ⟨15, .data⟩ (by simp) rfl) (v := .int .u8 (x8 : Int)) rfl; have e67 := k.eval 17 rfl (hd ⟨17, .data⟩ (by simp) rfl) (v := .int .u8 (x9 : Int)) rfl; have e69 := k.eval 19 rfl (hd ⟨19, .data⟩ (by simp) rfl) (v := .int .u32 (A : Int)) rfl; have e71 := k.eval 21 rfl (hd ⟨21, .data⟩ (by simp) rfl) (v := .int .u32 (B : Int)) rfl; have e74 := k.eval 24 rfl (hd ⟨24, .data⟩ (by simp) rfl) (v := .string (s.extract 20 H)) rfl; generalize a.eval = ρ at *
        simp [execOp, go_sem, e51, e54, e57, e60, e63, e65, e67, e69, e71, e74]),
    ?_,
    ?_,
    trivial⟩ ?_
  · intro l a w p hd hu k W
    refine op_val (v := .pointer (some ⟨w.heap.size, 0, none⟩)) (w' := w.alloc (.cells z10.toArray 25)) (by simp [execOp, go_sem]) ⟨w.heap.size - w1.heap.size, ?_, W.alloc hu (by decide) _⟩
    have hz : w1.heap.size + (w.heap.size - w1.heap.size) = w.heap.size := by have := W.bel.size; omega
    refine (k.as (fun j hj => vs_last [.string s, .int .u8 (x1 : Int), .string s, .int .i64 (T4 : Int), .int .u16 (T4 : Int), .int .i64 (F : Int), .int .i64 (y1 : Int), .bool b2, .int .i64 (F : Int), .int .i64 (y2 : Int), .bool b3, .int .i64 (F : Int), .int .i64 (y3 : Int), .int .i64 (8 * (y3 : Int)), .string s, .int .u8 (x8 : Int), .string s, .int .u8 (x9 : Int), .string s, .int .u32 (A : Int), .string s, .int .u32 (B : Int), .string s, .int .i64 (H : Int), .string (s.extract 20 H), .agg #[.int .u8 (x1 : Int), .int .u16 (T4 : Int), .bool b2, .bool b3, .int .i64 (8 * (y3 : Int)), .int .u8 (x8 : Int), .int .u8 (x9 : Int), .int .u32 (A : Int), .int .u32 (B : Int), .string (s.extract 20 H)]] _ _ j (fun x => by have x : j = 26 := x; subst x; rw [getD_false hu] at hj; cases hj))).step nd hs rfl ?_
    show _ = Value.pointer (some ⟨w1.heap.size + (w.heap.size - w1.heap.size), 0, none⟩)
    rw [hz]
  · intro l a w p hd hu k W
    have hi : l.getD 26 false = true := hd ⟨26, .data⟩ (by simp) rfl
    have e8 := k.eval 26 rfl hi (v := .pointer (some ⟨w1.heap.size + p, 0, none⟩)) rfl
    have e75 := k.eval 25 rfl (hd ⟨25, .data⟩ (by simp) rfl) (v := .agg #[.int .u8 (x1 : Int), .int .u16 (T4 : Int), .bool b2, .bool b3, .int .i64 (8 * (y3 : Int)), .int .u8 (x8 : Int), .int .u8 (x9 : Int), .int .u32 (A : Int), .int .u32 (B : Int), .string (s.extract 20 H)]) rfl
    have T := W.z hi (getD_false hu)
    have te : ∀ j, tb p z10 p j = z10[j]? := fun j => by unfold tb; rw [if_pos rfl]
    have c0 := T.cells p 0 _ (te 0)
    have f0 := T.free p 0 _ (te 0)
    have c1 := T.cells p 1 _ (te 1)
    have f1 := T.free p 1 _ (te 1)
    have c2 := T.cells p 2 _ (te 2)
    have f2 := T.free p 2 _ (te 2)
    have c3 := T.cells p 3 _ (te 3)
    have f3 := T.free p 3 _ (te 3)
    have c4 := T.cells p 4 _ (te 4)
    have f4 := T.free p 4 _ (te 4)
    have c5 := T.cells p 5 _ (te 5)
    have f5 := T.free p 5 _ (te 5)
    have c6 := T.cells p 6 _ (te 6)
    have f6 := T.free p 6 _ (te 6)
    have c7 := T.cells p 7 _ (te 7)
    have f7 := T.free p 7 _ (te 7)
    have c8 := T.cells p 8 _ (te 8)
    have f8 := T.free p 8 _ (te 8)
    have c9 := T.cells p 9 _ (te 9)
    have f9 := T.free p 9 _ (te 9)
    have WS := W.store hi hu
    rw [hh] at WS
    simp only at WS
    refine op_skip ?_ ⟨p, k.pass (by decide), hh ▸ WS⟩
    generalize a.eval = ρ at *
    simp [execOp, go_sem, e8, e75, c0, f0, c1, f1, c2, f2, c3, f3, c4, f4, c5, f5, c6, f6, c7, f7, c8, f8, c9, f9]
  · intro p l w2 hall W
    obtain ⟨hi, T⟩ := W.f (hall 27 (by decide))
    have te : ∀ j, tb p (hdL h) p j = (hdL h)[j]? := fun j => by unfold tb; rw [if_pos rfl]
    have C : HC w2 (w1.heap.size + p) h := ⟨T.cells p 0 _ (te 0), T.cells p 1 _ (te 1), T.cells p 2 _ (te 2), T.cells p 3 _ (te 3), T.cells p 4 _ (te 4), T.cells p 5 _ (te 5), T.cells p 6 _ (te 6), T.cells p 7 _ (te 7), T.cells p 8 _ (te 8), T.cells p 9 _ (te 9)⟩
    have K2 := hide ((unhide K).on W.bel)
    have C := hide C
    clear hall W hi T te K nd hs hW1 hW2
    simp only [fill, List.setIfInBounds_toArray, List.set_cons_succ, List.set_cons_zero]
    generalize w1.heap.size + p = q at *
    have x1 : wrap64 ((P : Int) - (H : Int)) = (P : Int) - (H : Int) := by unfold wrap64; omega
    clear hh c1 c8 c9 c0 hv ha hH e1 e2 e3 f1 f2 g1 g8 g9 xT4 xy3 g20 R2 RR R6 R4 RA RB l3 l4
    cases g
    · cases gw
      · obtain ⟨c0, c1, c2, c3, c4, c5, c6, c7, c8, c9⟩ := unhide C
        go_wp2_with fail
        refine (unhide RW _).mono ?_
        rintro e w3 ⟨rfl, b3⟩
        have K3 := hide ((unhide K2).on b3)
        clear K2 b3 C c0 c1 c2 c3 c4 c5 c6 c7 c8 c9
        have r0 : w3.cell? ⟨w.heap.size, 0, none⟩ = some (.int .u8 0) := (unhide K3).cells 0 0 _ rfl
        have f0 : w3.frozen? ⟨w.heap.size, 0, none⟩ = false := (unhide K3).free 0 0 _ rfl
        have r1 : w3.cell? ⟨w.heap.size, 1, none⟩ = some (.int .u16 0) := (unhide K3).cells 0 1 _ rfl
        have f1 : w3.frozen? ⟨w.heap.size, 1, none⟩ = false := (unhide K3).free 0 1 _ rfl
        have r2 : w3.cell? ⟨w.heap.size, 2, none⟩ = some (.bool false) := (unhide K3).cells 0 2 _ rfl
        have f2 : w3.frozen? ⟨w.heap.size, 2, none⟩ = false := (unhide K3).free 0 2 _ rfl
        have r3 : w3.cell? ⟨w.heap.size, 3, none⟩ = some (.bool false) := (unhide K3).cells 0 3 _ rfl
        have f3 : w3.frozen? ⟨w.heap.size, 3, none⟩ = false := (unhide K3).free 0 3 _ rfl
        have r4 : w3.cell? ⟨w.heap.size, 4, none⟩ = some (.int .i64 0) := (unhide K3).cells 0 4 _ rfl
        have f4 : w3.frozen? ⟨w.heap.size, 4, none⟩ = false := (unhide K3).free 0 4 _ rfl
        have r5 : w3.cell? ⟨w.heap.size, 5, none⟩ = some (.int .u8 0) := (unhide K3).cells 0 5 _ rfl
        have f5 : w3.frozen? ⟨w.heap.size, 5, none⟩ = false := (unhide K3).free 0 5 _ rfl
        have r6 : w3.cell? ⟨w.heap.size, 6, none⟩ = some (.int .u8 0) := (unhide K3).cells 0 6 _ rfl
        have f6 : w3.frozen? ⟨w.heap.size, 6, none⟩ = false := (unhide K3).free 0 6 _ rfl
        have r7 : w3.cell? ⟨w.heap.size, 7, none⟩ = some (.int .u32 0) := (unhide K3).cells 0 7 _ rfl
        have f7 : w3.frozen? ⟨w.heap.size, 7, none⟩ = false := (unhide K3).free 0 7 _ rfl
        have r8 : w3.cell? ⟨w.heap.size, 8, none⟩ = some (.int .u32 0) := (unhide K3).cells 0 8 _ rfl
        have f8 : w3.frozen? ⟨w.heap.size, 8, none⟩ = false := (unhide K3).free 0 8 _ rfl
        have r9 : w3.cell? ⟨w.heap.size, 9, none⟩ = some (.string ⟨#[]⟩) := (unhide K3).cells 0 9 _ rfl
        have f9 : w3.frozen? ⟨w.heap.size, 9, none⟩ = false := (unhide K3).free 0 9 _ rfl
        have B := hide (unhide K3).bel
        clear K3
        go_wp2_with fail
        refine bodyPost_ret (v := .tuple #[hd0V, .string ⟨#[]⟩, .int .i64 8]) (by simp [results, Try.results14, go_sem, r0, r1, r2, r3, r4, r5, r6, r7, r8, r9]) rfl ⟨by rw [unhide hV]; rfl, ?_⟩
        exact below_set10 (unhide B) (Nat.le_refl _) _ _ _ _ _ _ _ _ _ _
      · obtain ⟨c0, c1, c2, c3, c4, c5, c6, c7, c8, c9⟩ := unhide C
        go_wp2_with fail
        refine (unhide RW _).mono ?_
        rintro e w3 ⟨rfl, b3⟩
        have K3 := hide ((unhide K2).on b3)
        have C3 := hide ((unhide C).on b3)
        clear K2 b3 C c0 c1 c2 c3 c4 c5 c6 c7 c8 c9
        obtain ⟨c0, c1, c2, c3, c4, c5, c6, c7, c8, c9⟩ := unhide C3
        go_wp2_with fail
        refine (unhide RG _).mono ?_
        rintro e w4 ⟨rfl, b4⟩
        have K4 := hide ((unhide K3).on b4)
        have C4 := hide ((unhide C3).on b4)
        clear K3 b4 C3 c0 c1 c2 c3 c4 c5 c6 c7 c8 c9
        cases gr
        · have r0 : w4.cell? ⟨w.heap.size, 0, none⟩ = some (.int .u8 0) := (unhide K4).cells 0 0 _ rfl
          have f0 : w4.frozen? ⟨w.heap.size, 0, none⟩ = false := (unhide K4).free 0 0 _ rfl
          have r1 : w4.cell? ⟨w.heap.size, 1, none⟩ = some (.int .u16 0) := (unhide K4).cells 0 1 _ rfl
          have f1 : w4.frozen? ⟨w.heap.size, 1, none⟩ = false := (unhide K4).free 0 1 _ rfl
          have r2 : w4.cell? ⟨w.heap.size, 2, none⟩ = some (.bool false) := (unhide K4).cells 0 2 _ rfl
          have f2 : w4.frozen? ⟨w.heap.size, 2, none⟩ = false := (unhide K4).free 0 2 _ rfl
          have r3 : w4.cell? ⟨w.heap.size, 3, none⟩ = some (.bool false) := (unhide K4).cells 0 3 _ rfl
          have f3 : w4.frozen? ⟨w.heap.size, 3, none⟩ = false := (unhide K4).free 0 3 _ rfl
          have r4 : w4.cell? ⟨w.heap.size, 4, none⟩ = some (.int .i64 0) := (unhide K4).cells 0 4 _ rfl
          have f4 : w4.frozen? ⟨w.heap.size, 4, none⟩ = false := (unhide K4).free 0 4 _ rfl
          have r5 : w4.cell? ⟨w.heap.size, 5, none⟩ = some (.int .u8 0) := (unhide K4).cells 0 5 _ rfl
          have f5 : w4.frozen? ⟨w.heap.size, 5, none⟩ = false := (unhide K4).free 0 5 _ rfl
          have r6 : w4.cell? ⟨w.heap.size, 6, none⟩ = some (.int .u8 0) := (unhide K4).cells 0 6 _ rfl
          have f6 : w4.frozen? ⟨w.heap.size, 6, none⟩ = false := (unhide K4).free 0 6 _ rfl
          have r7 : w4.cell? ⟨w.heap.size, 7, none⟩ = some (.int .u32 0) := (unhide K4).cells 0 7 _ rfl
          have f7 : w4.frozen? ⟨w.heap.size, 7, none⟩ = false := (unhide K4).free 0 7 _ rfl
          have r8 : w4.cell? ⟨w.heap.size, 8, none⟩ = some (.int .u32 0) := (unhide K4).cells 0 8 _ rfl
          have f8 : w4.frozen? ⟨w.heap.size, 8, none⟩ = false := (unhide K4).free 0 8 _ rfl
          have r9 : w4.cell? ⟨w.heap.size, 9, none⟩ = some (.string ⟨#[]⟩) := (unhide K4).cells 0 9 _ rfl
          have f9 : w4.frozen? ⟨w.heap.size, 9, none⟩ = false := (unhide K4).free 0 9 _ rfl
          have B := hide (unhide K4).bel
          clear K4
          go_wp2_with fail
          refine bodyPost_ret (v := .tuple #[hd0V, .string ⟨#[]⟩, .int .i64 8]) (by simp [results, Try.results14, go_sem, r0, r1, r2, r3, r4, r5, r6, r7, r8, r9]) rfl ⟨by rw [unhide hV]; rfl, ?_⟩
          exact below_set10 (unhide B) (Nat.le_refl _) _ _ _ _ _ _ _ _ _ _
        · obtain ⟨c0, c1, c2, c3, c4, c5, c6, c7, c8, c9⟩ := unhide C4
          have r0 : w4.cell? ⟨w.heap.size, 0, none⟩ = some (.int .u8 0) := (unhide K4).cells 0 0 _ rfl
          have f0 : w4.frozen? ⟨w.heap.size, 0, none⟩ = false := (unhide K4).free 0 0 _ rfl
          have r1 : w4.cell? ⟨w.heap.size, 1, none⟩ = some (.int .u16 0) := (unhide K4).cells 0 1 _ rfl
          have f1 : w4.frozen? ⟨w.heap.size, 1, none⟩ = false := (unhide K4).free 0 1 _ rfl
          have r2 : w4.cell? ⟨w.heap.size, 2, none⟩ = some (.bool false) := (unhide K4).cells 0 2 _ rfl
          have f2 : w4.frozen? ⟨w.heap.size, 2, none⟩ = false := (unhide K4).free 0 2 _ rfl
          have r3 : w4.cell? ⟨w.heap.size, 3, none⟩ = some (.bool false) := (unhide K4).cells 0 3 _ rfl
          have f3 : w4.frozen? ⟨w.heap.size, 3, none⟩ = false := (unhide K4).free 0 3 _ rfl
          have r4 : w4.cell? ⟨w.heap.size, 4, none⟩ = some (.int .i64 0) := (unhide K4).cells 0 4 _ rfl
          have f4 : w4.frozen? ⟨w.heap.size, 4, none⟩ = false := (unhide K4).free 0 4 _ rfl
          have r5 : w4.cell? ⟨w.heap.size, 5, none⟩ = some (.int .u8 0) := (unhide K4).cells 0 5 _ rfl
          have f5 : w4.frozen? ⟨w.heap.size, 5, none⟩ = false := (unhide K4).free 0 5 _ rfl
          have r6 : w4.cell? ⟨w.heap.size, 6, none⟩ = some (.int .u8 0) := (unhide K4).cells 0 6 _ rfl
          have f6 : w4.frozen? ⟨w.heap.size, 6, none⟩ = false := (unhide K4).free 0 6 _ rfl
          have r7 : w4.cell? ⟨w.heap.size, 7, none⟩ = some (.int .u32 0) := (unhide K4).cells 0 7 _ rfl
          have f7 : w4.frozen? ⟨w.heap.size, 7, none⟩ = false := (unhide K4).free 0 7 _ rfl
          have r8 : w4.cell? ⟨w.heap.size, 8, none⟩ = some (.int .u32 0) := (unhide K4).cells 0 8 _ rfl
          have f8 : w4.frozen? ⟨w.heap.size, 8, none⟩ = false := (unhide K4).free 0 8 _ rfl
          have r9 : w4.cell? ⟨w.heap.size, 9, none⟩ = some (.string ⟨#[]⟩) := (unhide K4).cells 0 9 _ rfl
          have f9 : w4.frozen? ⟨w.heap.size, 9, none⟩ = false := (unhide K4).free 0 9 _ rfl
          have B := hide (unhide K4).bel
          clear K4 C4
          go_wp2_with fail
          go_region
          all_goals
            go_wp2_with fail
            refine bodyPost_ret (v := .tuple #[hdV h, .string (s.extract H P), .int .i64 0]) (by simp [results, Try.results14, go_sem, r0, r1, r2, r3, r4, r5, r6, r7, r8, r9]) rfl ⟨by rw [unhide hV]; rfl, ?_⟩
            exact (below_set10 (unhide B) (Nat.le_refl _) _ _ _ _ _ _ _ _ _ _).drew
    · have r0 : w2.cell? ⟨w.heap.size, 0, none⟩ = some (.int .u8 0) := (unhide K2).cells 0 0 _ rfl
      have f0 : w2.frozen? ⟨w.heap.size, 0, none⟩ = false := (unhide K2).free 0 0 _ rfl
      have r1 : w2.cell? ⟨w.heap.size, 1, none⟩ = some (.int .u16 0) := (unhide K2).cells 0 1 _ rfl
      have f1 : w2.frozen? ⟨w.heap.size, 1, none⟩ = false := (unhide K2).free 0 1 _ rfl
      have r2 : w2.cell? ⟨w.heap.size, 2, none⟩ = some (.bool false) := (unhide K2).cells 0 2 _ rfl
      have f2 : w2.frozen? ⟨w.heap.size, 2, none⟩ = false := (unhide K2).free 0 2 _ rfl
      have r3 : w2.cell? ⟨w.heap.size, 3, none⟩ = some (.bool false) := (unhide K2).cells 0 3 _ rfl
      have f3 : w2.frozen? ⟨w.heap.size, 3, none⟩ = false := (unhide K2).free 0 3 _ rfl
      have r4 : w2.cell? ⟨w.heap.size, 4, none⟩ = some (.int .i64 0) := (unhide K2).cells 0 4 _ rfl
      have f4 : w2.frozen? ⟨w.heap.size, 4, none⟩ = false := (unhide K2).free 0 4 _ rfl
      have r5 : w2.cell? ⟨w.heap.size, 5, none⟩ = some (.int .u8 0) := (unhide K2).cells 0 5 _ rfl
      have f5 : w2.frozen? ⟨w.heap.size, 5, none⟩ = false := (unhide K2).free 0 5 _ rfl
      have r6 : w2.cell? ⟨w.heap.size, 6, none⟩ = some (.int .u8 0) := (unhide K2).cells 0 6 _ rfl
      have f6 : w2.frozen? ⟨w.heap.size, 6, none⟩ = false := (unhide K2).free 0 6 _ rfl
      have r7 : w2.cell? ⟨w.heap.size, 7, none⟩ = some (.int .u32 0) := (unhide K2).cells 0 7 _ rfl
      have f7 : w2.frozen? ⟨w.heap.size, 7, none⟩ = false := (unhide K2).free 0 7 _ rfl
      have r8 : w2.cell? ⟨w.heap.size, 8, none⟩ = some (.int .u32 0) := (unhide K2).cells 0 8 _ rfl
      have f8 : w2.frozen? ⟨w.heap.size, 8, none⟩ = false := (unhide K2).free 0 8 _ rfl
      have r9 : w2.cell? ⟨w.heap.size, 9, none⟩ = some (.string ⟨#[]⟩) := (unhide K2).cells 0 9 _ rfl
      have f9 : w2.frozen? ⟨w.heap.size, 9, none⟩ = false := (unhide K2).free 0 9 _ rfl
      have B := hide (unhide K2).bel
      clear K2
      go_wp2_with fail
      refine bodyPost_ret (v := .tuple #[hd0V, .string ⟨#[]⟩, .int .i64 8]) (by simp [results, Try.results14, go_sem, r0, r1, r2, r3, r4, r5, r6, r7, r8, r9]) rfl ⟨by rw [unhide hV]; rfl, ?_⟩
      exact below_set10 (unhide B) (Nat.le_refl _) _ _ _ _ _ _ _ _ _ _


end Go.Proofs.Ytjkoppjikplkeaa
