/- The statement MeterOrder's walk, its loops one by one. -/
import Derived.Test.YtfbbdfeigenodaaOrd0
import Derived.Test.YtfbbdfeigenodaaLw2
import Derived.Test.YtfbbdfeigenodaaJn2
namespace Go.Proofs.Ytfbbdfeigenodaa
open Go.RowKit Go.Maps
attribute [local go_sem ↓] Go.wp_at_zero Go.wp_at_succ

/-- four meters apart from each other -/
structure Four (w : World) (pa ba pb bb pc bc pd bd : Nat) (A B C D : List Ent) : Prop where
  a : PM w pa ba A
  b : PM w pb bb B
  c : PM w pc bc C
  d : PM w pd bd D
/-- their blocks, one behind the other -/
structure Apart (lo pa ba pb bb pc bc pd bd : Nat) : Prop where
  h : lo ≤ ba ∧ ba < pa ∧ pa < bb ∧ bb < pb ∧ pb < bc ∧ bc < pc ∧ pc < bd ∧ bd < pd

theorem Four.kept {w w' : World} {pa ba pb bb pc bc pd bd : Nat} {A B C D : List Ent} (h : Four w pa ba pb bb pc bc pd bd A B C D) (k : Below w.heap.size w w') : Four w' pa ba pb bb pc bc pd bd A B C D :=
  ⟨h.a.kept (Kp.of_below [] k) (by simp) (by simp), h.b.kept (Kp.of_below [] k) (by simp) (by simp), h.c.kept (Kp.of_below [] k) (by simp) (by simp), h.d.kept (Kp.of_below [] k) (by simp) (by simp)⟩

section
variable {w w' : World} {lo pa ba pb bb pc bc pd bd : Nat} {A B C D X : List Ent}
theorem Four.setA (h : Four w pa ba pb bb pc bc pd bd A B C D) (g : Apart lo pa ba pb bb pc bc pd bd) (hp : PM w' pa ba X) (k : Kp [ba] w w') : Four w' pa ba pb bb pc bc pd bd X B C D := by
  have := g.h
  exact ⟨hp, h.b.kept k (by simp; omega) (by simp; omega), h.c.kept k (by simp; omega) (by simp; omega), h.d.kept k (by simp; omega) (by simp; omega)⟩
theorem Four.setB (h : Four w pa ba pb bb pc bc pd bd A B C D) (g : Apart lo pa ba pb bb pc bc pd bd) (hp : PM w' pb bb X) (k : Kp [bb] w w') : Four w' pa ba pb bb pc bc pd bd A X C D := by
  have := g.h
  exact ⟨h.a.kept k (by simp; omega) (by simp; omega), hp, h.c.kept k (by simp; omega) (by simp; omega), h.d.kept k (by simp; omega) (by simp; omega)⟩
theorem Four.setC (h : Four w pa ba pb bb pc bc pd bd A B C D) (g : Apart lo pa ba pb bb pc bc pd bd) (hp : PM w' pc bc X) (k : Kp [bc] w w') : Four w' pa ba pb bb pc bc pd bd A B X D := by
  have := g.h
  exact ⟨h.a.kept k (by simp; omega) (by simp; omega), h.b.kept k (by simp; omega) (by simp; omega), hp, h.d.kept k (by simp; omega) (by simp; omega)⟩
theorem Four.setD (h : Four w pa ba pb bb pc bc pd bd A B C D) (g : Apart lo pa ba pb bb pc bc pd bd) (hp : PM w' pd bd X) (k : Kp [bd] w w') : Four w' pa ba pb bb pc bc pd bd A B C X := by
  have := g.h
  exact ⟨h.a.kept k (by simp; omega) (by simp; omega), h.b.kept k (by simp; omega) (by simp; omega), h.c.kept k (by simp; omega) (by simp; omega), hp⟩
end

section
variable {w : World} {lo pa ba pb bb pc bc pd bd : Nat} {A B C D : List Ent}
theorem add4A (h : Four w pa ba pb bb pc bc pd bd A B C D) (g : Apart lo pa ba pb bb pc bc pd bd) (x : Stp) (hx : StpOk x) (hc : Cnt A) : Calls Try.prog 18 #[.pointer (some ⟨pa, 0, none⟩), .string x.1, .int .i64 x.2.1, .int .i64 x.2.2] w fun e w' =>
    e = .returned (.int .i64 (addL A x.1.data.toList x.2.1 x.2.2).1) ∧ Four w' pa ba pb bb pc bc pd bd (addL A x.1.data.toList x.2.1 x.2.2).2 B C D ∧ Kp [ba] w w' :=
  (add_any pa ba A x.1 x.2.1 x.2.2 w h.a hx.s hc).mono fun _ _ ⟨h1, h2, h3⟩ => ⟨h1, h.setA g h2 h3, h3⟩
theorem add4B (h : Four w pa ba pb bb pc bc pd bd A B C D) (g : Apart lo pa ba pb bb pc bc pd bd) (x : Stp) (hx : StpOk x) (hc : Cnt B) : Calls Try.prog 18 #[.pointer (some ⟨pb, 0, none⟩), .string x.1, .int .i64 x.2.1, .int .i64 x.2.2] w fun e w' =>
    e = .returned (.int .i64 (addL B x.1.data.toList x.2.1 x.2.2).1) ∧ Four w' pa ba pb bb pc bc pd bd A (addL B x.1.data.toList x.2.1 x.2.2).2 C D ∧ Kp [bb] w w' :=
  (add_any pb bb B x.1 x.2.1 x.2.2 w h.b hx.s hc).mono fun _ _ ⟨h1, h2, h3⟩ => ⟨h1, h.setB g h2 h3, h3⟩
theorem add4C (h : Four w pa ba pb bb pc bc pd bd A B C D) (g : Apart lo pa ba pb bb pc bc pd bd) (x : Stp) (hx : StpOk x) (hc : Cnt C) : Calls Try.prog 18 #[.pointer (some ⟨pc, 0, none⟩), .string x.1, .int .i64 x.2.1, .int .i64 x.2.2] w fun e w' =>
    e = .returned (.int .i64 (addL C x.1.data.toList x.2.1 x.2.2).1) ∧ Four w' pa ba pb bb pc bc pd bd A B (addL C x.1.data.toList x.2.1 x.2.2).2 D ∧ Kp [bc] w w' :=
  (add_any pc bc C x.1 x.2.1 x.2.2 w h.c hx.s hc).mono fun _ _ ⟨h1, h2, h3⟩ => ⟨h1, h.setC g h2 h3, h3⟩
theorem add4D (h : Four w pa ba pb bb pc bc pd bd A B C D) (g : Apart lo pa ba pb bb pc bc pd bd) (x : Stp) (hx : StpOk x) (hc : Cnt D) : Calls Try.prog 18 #[.pointer (some ⟨pd, 0, none⟩), .string x.1, .int .i64 x.2.1, .int .i64 x.2.2] w fun e w' =>
    e = .returned (.int .i64 (addL D x.1.data.toList x.2.1 x.2.2).1) ∧ Four w' pa ba pb bb pc bc pd bd A B C (addL D x.1.data.toList x.2.1 x.2.2).2 ∧ Kp [bd] w w' :=
  (add_any pd bd D x.1 x.2.1 x.2.2 w h.d hx.s hc).mono fun _ _ ⟨h1, h2, h3⟩ => ⟨h1, h.setD g h2 h3, h3⟩
end

/-- the cells of one step -/
def StpAt (w : World) (g off k : Nat) (x : Stp) : Prop := w.cell? ⟨g, off + k * 3, none⟩ = some (.string x.1) ∧ w.cell? ⟨g, off + k * 3 + 1, none⟩ = some (.int .i64 x.2.1) ∧ w.cell? ⟨g, off + k * 3 + 2, none⟩ = some (.int .i64 x.2.2)

set_option maxRecDepth 100000 in
set_option maxHeartbeats 4000000 in
theorem meterOrder_some (g off c : Nat) (l : List Stp) (at' : Nat) (w : World) (hl : 0 < l.length) (hnc : l.length ≤ c) (hg : g < w.heap.size) (hcell : ∀ k x, l[k]? = some x → StpAt w g off k x) (hok : ∀ x ∈ l, StpOk x) (hat : at' < 256) (h : IsSteps w (.slice (some ⟨g, off, none⟩) l.length c) l) :
    Calls Try.prog 5 #[.slice (some ⟨g, off, none⟩) l.length c, .int .u8 (at' : Int)] w fun e w' => e = .returned (.bool true) ∧ Below w.heap.size w w' := by
  have HH := hide (heavy_any _ l w h)
  have HW := hide works_any
  have HM := hide may_any
  have HO := hide hok
  have HC := hide hcell
  have hcm : l.length ≤ maxLen := h.2.1
  clear h hok hcell
  go_enter Try.func5, Try.ntmps5
  go_wp2_with fail
  refine (unhide HH).mono ?_
  rintro e w1 ⟨hv, rfl, rfl, hle⟩
  cases hv with
  | true =>
    clear hle
    go_wp2_with fail
    refine (unhide HW _).mono ?_
    rintro e w2 ⟨rfl, hb⟩
    go_wp2
    go_ret
    exact ⟨rfl, hb⟩
  | false =>
    have hl200 := hle rfl
    clear hle
    by_cases h50 : (50 : Int) < (l.length : Int)
    · go_wp2_with fail
      refine (unhide HW _).mono ?_
      rintro e w2 ⟨rfl, hb⟩
      go_wp2
      go_ret
      exact ⟨rfl, hb⟩
    · have hl50 : l.length ≤ 50 := by omega
      go_wp2
      go_loop [5] (fun i => ∃ k : Nat, k ≤ l.length ∧ i = .int .i64 (k : Int) ∧ Hid (∀ x ∈ l.take k, Ok x)) (fun i => l.length - (intOf i).toNat)
      case atStart => exact ⟨0, Nat.zero_le _, rfl, by intro x hx; simp at hx⟩
      case round =>
        obtain ⟨k, hk, rfl, HK⟩ := hrel
        by_cases hlt : k < l.length
        · obtain ⟨x, hx⟩ : ∃ x, l[k]? = some x := ⟨l[k], List.getElem?_eq_getElem hlt⟩
          obtain ⟨c0, c1, c2⟩ := unhide HC k x hx
          have hi1 : (0 : Int) ≤ (k : Int) := by omega
          have hi2 : (k : Int) < (l.length : Int) := by omega
          have hi3 : (l.length : Int) ≤ (c : Int) := by omega
          by_cases g1 : (1099511627776 : Int) < x.2.1
          · go_wp2_with fail
            refine (unhide HW _).mono ?_
            rintro e w2 ⟨rfl, hb⟩
            go_wp2
            go_ret
            exact ⟨rfl, hb⟩
          · by_cases g2 : (1099511627776 : Int) < x.2.2
            · go_wp2_with fail
              refine (unhide HW _).mono ?_
              rintro e w2 ⟨rfl, hb⟩
              go_wp2
              go_ret
              exact ⟨rfl, hb⟩
            · have HMx := unhide HM x.1 w1
              by_cases g3 : mayL x.1.data.toList = true
              · have HK' : Hid (∀ y ∈ l.take (k + 1), Ok y) := by
                  intro y hy
                  rw [take_at hx] at hy
                  rcases List.mem_append.1 hy with hy | hy
                  · exact unhide HK y hy
                  · simp at hy
                    subst hy
                    exact ⟨g3, by omega, by omega⟩
                rw [g3] at HMx
                have HMx := hide HMx
                clear hx
                go_wp2_with fail
                refine (unhide HMx).mono ?_
                rintro e w2 ⟨rfl, rfl⟩
                go_wp2
                go_round
                case rel => exact ⟨k + 1, by omega, by go_num, HK'⟩
                case measure => simp [intOf]; omega
              · rw [Bool.eq_false_iff.2 g3] at HMx
                have HMx := hide HMx
                go_wp2_with fail
                refine (unhide HMx).mono ?_
                rintro e w2 ⟨rfl, rfl⟩
                go_wp2_with fail
                refine (unhide HW _).mono ?_
                rintro e w3 ⟨rfl, hb⟩
                go_wp2
                go_ret
                exact ⟨rfl, hb⟩
        · obtain rfl : k = l.length := by omega
          have HOk : Hid (∀ x ∈ l, Ok x) := by
            have := unhide HK
            rw [List.take_length] at this
            exact this
          clear HK hlt hk
          have HN := hide new_pm
          go_wp2_with fail
          refine (unhide HN _).mono ?_
          rintro e wa ⟨rfl, hPa, hBa⟩
          go_wp2_with fail
          refine (unhide HN _).mono ?_
          rintro e wb ⟨rfl, hPb, hBb⟩
          go_wp2_with fail
          refine (unhide HN _).mono ?_
          rintro e wc ⟨rfl, hPc, hBc⟩
          go_wp2_with fail
          refine (unhide HN _).mono ?_
          rintro e wd ⟨rfl, hPd, hBd⟩
          have hap : Apart w1.heap.size (w1.heap.size + 1) w1.heap.size (wa.heap.size + 1) wa.heap.size (wb.heap.size + 1) wb.heap.size (wc.heap.size + 1) wc.heap.size := by
            have := hPa.plt
            have := hPb.plt
            have := hPc.plt
            exact ⟨by omega⟩
          have hPb' := hPb.kept (Kp.of_below [] hBc) (by simp) (by simp)
          have hPa' := (hPa.kept (Kp.of_below [] hBb) (by simp) (by simp)).kept (Kp.of_below [] hBc) (by simp) (by simp)
          have hfour : Four wd (w1.heap.size + 1) w1.heap.size (wa.heap.size + 1) wa.heap.size (wb.heap.size + 1) wb.heap.size (wc.heap.size + 1) wc.heap.size [] [] [] [] :=
            ⟨hPa'.kept (Kp.of_below [] hBd) (by simp) (by simp), hPb'.kept (Kp.of_below [] hBd) (by simp) (by simp), hPc.kept (Kp.of_below [] hBd) (by simp) (by simp), hPd⟩
          have hbel : Below w1.heap.size w1 wd := by
            have s1 := hBa.size
            have s2 := hBb.size
            have s3 := hBc.size
            exact hBa.trans ((hBb.mono s1).trans ((hBc.mono (by omega)).trans (hBd.mono (by omega))))
          clear hPa hPb hPc hPd hPa' hPb' hBa hBb hBc hBd HN
          obtain ⟨t, ht⟩ : ∃ t, t = at' % (l.length + 1) := ⟨_, rfl⟩
          have htl : t ≤ l.length := by rw [ht]; have := Nat.mod_lt at' (show 0 < l.length + 1 by omega); omega
          have HTE : Hid ((at' : Int) % ((l.length : Int) + 1) = (t : Int)) := by
            rw [ht]
            simp [Hid]
          have HTM : Hid ((at' : Int).tmod ((l.length : Int) + 1) = (t : Int)) := by
            rw [Int.tmod_eq_emod_of_nonneg (by omega)]
            exact HTE
          clear ht
          have HAP := hide hap
          clear hap
          go_wp2
          go_loopw [10] (fun i wr => ∃ k : Nat, k ≤ l.length ∧ i = .int .i64 (k : Int) ∧ Four wr (w1.heap.size + 1) w1.heap.size (wa.heap.size + 1) wa.heap.size (wb.heap.size + 1) wb.heap.size (wc.heap.size + 1) wc.heap.size (runL (l.take k)) (runL (l.reverse.take k)) (runL ((l.take t).take k)) (runL ((l.drop t).take (k - t))) ∧ Below w1.heap.size w1 wr) (fun i _ => l.length - (intOf i).toNat)
          case atStart => exact ⟨0, Nat.zero_le _, rfl, by simpa [runL] using hfour, hbel⟩
          case round =>
            obtain ⟨k, hk, rfl, h4, hB⟩ := hrel
            by_cases hlt : k < l.length
            · obtain ⟨x, hx⟩ : ∃ x, l[k]? = some x := ⟨l[k], List.getElem?_eq_getElem hlt⟩
              obtain ⟨r, hr⟩ : ∃ r, r = l.length - 1 - k := ⟨_, rfl⟩
              obtain ⟨y, hy⟩ : ∃ y, l[r]? = some y := ⟨l[r], List.getElem?_eq_getElem (by omega)⟩
              have hry : l.reverse[k]? = some y := by rw [List.getElem?_reverse (by omega), ← hr]; exact hy
              have HSX : Hid (∀ w', Below w1.heap.size w1 w' → StpAt w' g off k x) := fun w' k' => ⟨(k'.cell hg).trans (unhide HC k x hx).1, (k'.cell hg).trans (unhide HC k x hx).2.1, (k'.cell hg).trans (unhide HC k x hx).2.2⟩
              obtain ⟨y0, y1, y2⟩ : StpAt wr g off r y := ⟨(hB.cell hg).trans (unhide HC r y hy).1, (hB.cell hg).trans (unhide HC r y hy).2.1, (hB.cell hg).trans (unhide HC r y hy).2.2⟩
              have hidx : (l.length : Int) - 1 - (k : Int) = (r : Int) := by omega
              have hi1 : (0 : Int) ≤ (k : Int) := by omega
              have hi2 : (k : Int) < (l.length : Int) := by omega
              have hi3 : (l.length : Int) ≤ (c : Int) := by omega
              have hi4 : (0 : Int) ≤ (r : Int) := by omega
              have hi5 : (r : Int) < (l.length : Int) := by omega
              have HX := hide hx
              have HRY := hide hry
              have hox := unhide HO x (List.mem_of_getElem? hx)
              have hoy := unhide HO y (List.mem_of_getElem? hy)
              have HcA := hide (cnt_runL (l.take k))
              have HcB := hide (cnt_runL (l.reverse.take k))
              have HcC := hide (cnt_runL ((l.take t).take k))
              have HcD := hide (cnt_runL ((l.drop t).take (k - t)))
              have HsA := hide (runL_snoc hx)
              have HsB := hide (runL_snoc hry)
              have HsC : Hid (k < t → runL ((l.take t).take (k + 1)) = (addL (runL ((l.take t).take k)) x.1.data.toList x.2.1 x.2.2).2) := fun hkt => runL_snoc (by rw [List.getElem?_take, if_pos hkt]; exact hx)
              have HsC' : Hid (¬ k < t → runL ((l.take t).take (k + 1)) = runL ((l.take t).take k)) := fun hkt => by
                rw [List.take_take, List.take_take, show min (k + 1) t = min k t by omega]
              have HsD' : Hid (k < t → runL ((l.drop t).take (k + 1 - t)) = runL ((l.drop t).take (k - t))) := fun hkt => by
                rw [show k + 1 - t = k - t by omega]
              have HsD : Hid (¬ k < t → runL ((l.drop t).take (k + 1 - t)) = (addL (runL ((l.drop t).take (k - t))) x.1.data.toList x.2.1 x.2.2).2) := fun hkt => by
                rw [show k + 1 - t = (k - t) + 1 by omega]
                exact runL_snoc (by rw [List.getElem?_drop, show t + (k - t) = k by omega]; exact hx)
              clear hr hx hy hry
              generalize runL (l.take k) = A at *
              generalize runL (l.reverse.take k) = B at *
              generalize runL ((l.take t).take k) = C at *
              generalize runL ((l.drop t).take (k - t)) = D at *
              go_wp2_with fail
              -- the world behind x's making
              have f4 := h4.kept (below_one wr (.cells #[.string y.1, .int .i64 y.2.1, .int .i64 y.2.2] 42))
              have fB := hB.alloc hB.size (.cells #[.string y.1, .int .i64 y.2.1, .int .i64 y.2.2] 42)
              have fx := heap_alloc_new wr (.cells #[.string y.1, .int .i64 y.2.1, .int .i64 y.2.2] 42)
              have hxlo := hB.size
              have hxd := h4.d.blt
              generalize wr.alloc (.cells #[.string y.1, .int .i64 y.2.1, .int .i64 y.2.2] 42) = W0 at f4 fB fx ⊢
              clear h4 hB y0 y1 y2
              generalize wr.heap.size = xb at fx hxlo hxd ⊢
              have hxb : xb < W0.heap.size := (Array.getElem?_eq_some_iff.1 fx).1
              have hapn := (unhide HAP).h
              have HA : Hid (∀ w2, Below W0.heap.size W0 w2 → Calls Try.prog 18 #[.pointer (some ⟨w1.heap.size + 1, 0, none⟩), .string x.1, .int .i64 x.2.1, .int .i64 x.2.2] w2 fun e w3 =>
                  e = .returned (.int .i64 (addL A x.1.data.toList x.2.1 x.2.2).1) ∧ Four w3 (w1.heap.size + 1) w1.heap.size (wa.heap.size + 1) wa.heap.size (wb.heap.size + 1) wb.heap.size (wc.heap.size + 1) wc.heap.size (addL A x.1.data.toList x.2.1 x.2.2).2 B C D ∧ Below w1.heap.size w1 w3 ∧ w3.heap[xb]? = some (.cells #[.string y.1, .int .i64 y.2.1, .int .i64 y.2.2] 42)) := by
                intro w2 k2
                refine (add4A (f4.kept k2) (unhide HAP) x hox (unhide HcA)).mono fun e w3 ⟨e1, e2, e3⟩ => ⟨e1, e2, ?_, ?_⟩
                · have b2 := fB.trans (k2.mono fB.size)
                  exact b2.trans (e3.below b2.size (by simp))
                · rw [e3.block xb (Nat.lt_of_lt_of_le hxb k2.size) (by simp; omega), k2.block xb hxb, fx]
              obtain ⟨q0, q1, q2⟩ := unhide HSX W0 fB
              generalize (addL A x.1.data.toList x.2.1 x.2.2).1 = codeA at HA
              generalize (addL A x.1.data.toList x.2.1 x.2.2).2 = A' at HA HsA
              clear f4 fB fx hxb HcA
              go_region_held3 (fun w' => w'.cell? ⟨g, off + k * 3, none⟩ = some (.string x.1) ∧ w'.cell? ⟨g, off + k * 3 + 1, none⟩ = some (.int .i64 x.2.1) ∧ w'.cell? ⟨g, off + k * 3 + 2, none⟩ = some (.int .i64 x.2.2)) (go_keep)
                ((go_at_call 18; refine (unhide HA _ ((Below.refl _ _).drew)).mono ?_; rintro e W1 ⟨rfl, f4, fB, fx⟩; obtain ⟨r0, r1, r2⟩ := unhide HSX W1 fB))
              clear q0 q1 q2 r0 r1 r2 HA
              have hxb : xb < W1.heap.size := (Array.getElem?_eq_some_iff.1 fx).1
              have z0 : W1.cell? ⟨xb, 0, none⟩ = some (.string y.1) := by rw [cell_of_row W1 xb 0 _ _ _ fx]; rfl
              have z1 : W1.cell? ⟨xb, 1, none⟩ = some (.int .i64 y.2.1) := by rw [cell_of_row W1 xb 1 _ _ _ fx]; rfl
              have z2 : W1.cell? ⟨xb, 2, none⟩ = some (.int .i64 y.2.2) := by rw [cell_of_row W1 xb 2 _ _ _ fx]; rfl
              have HB : Hid (Calls Try.prog 18 #[.pointer (some ⟨wa.heap.size + 1, 0, none⟩), .string y.1, .int .i64 y.2.1, .int .i64 y.2.2] W1 fun e w3 =>
                  e = .returned (.int .i64 (addL B y.1.data.toList y.2.1 y.2.2).1) ∧ Four w3 (w1.heap.size + 1) w1.heap.size (wa.heap.size + 1) wa.heap.size (wb.heap.size + 1) wb.heap.size (wc.heap.size + 1) wc.heap.size A' (addL B y.1.data.toList y.2.1 y.2.2).2 C D ∧ Below w1.heap.size w1 w3) := by
                refine (add4B f4 (unhide HAP) y hoy (unhide HcB)).mono fun e w3 ⟨e1, e2, e3⟩ => ⟨e1, e2, ?_⟩
                exact fB.trans (e3.below fB.size (by simp; omega))
              generalize (addL B y.1.data.toList y.2.1 y.2.2).1 = codeB at HB
              generalize (addL B y.1.data.toList y.2.1 y.2.2).2 = B' at HB HsB
              clear f4 fB fx hxb HcB
              go_wp2_with fail
              refine (unhide HB).mono ?_
              rintro e W2 ⟨rfl, f4, fB⟩
              clear z0 z1 z2 HB
              have htm := unhide HTM
              have hte := unhide HTE
              obtain ⟨q0, q1, q2⟩ := unhide HSX W2 fB
              by_cases hkt : k < t
              · have hkti : (k : Int) < (t : Int) := by omega
                have HC2 : Hid (∀ w2, Below W2.heap.size W2 w2 → Calls Try.prog 18 #[.pointer (some ⟨wb.heap.size + 1, 0, none⟩), .string x.1, .int .i64 x.2.1, .int .i64 x.2.2] w2 fun e w3 =>
                    e = .returned (.int .i64 (addL C x.1.data.toList x.2.1 x.2.2).1) ∧ Four w3 (w1.heap.size + 1) w1.heap.size (wa.heap.size + 1) wa.heap.size (wb.heap.size + 1) wb.heap.size (wc.heap.size + 1) wc.heap.size A' B' (addL C x.1.data.toList x.2.1 x.2.2).2 D ∧ Below w1.heap.size w1 w3) := by
                  intro w2 k2
                  refine (add4C (f4.kept k2) (unhide HAP) x hox (unhide HcC)).mono fun e w3 ⟨e1, e2, e3⟩ => ⟨e1, e2, ?_⟩
                  have b2 := fB.trans (k2.mono fB.size)
                  exact b2.trans (e3.below b2.size (by simp; omega))
                have HsC2 := hide (unhide HsC hkt)
                have HsD2 := hide (unhide HsD' hkt)
                generalize (addL C x.1.data.toList x.2.1 x.2.2).1 = codeC at HC2
                generalize (addL C x.1.data.toList x.2.1 x.2.2).2 = C' at HC2 HsC2
                clear f4 fB HcC HcD hkt HsC HsC' HsD HsD'
                go_wp2_with fail
                go_region_held3 (fun w' => w'.cell? ⟨g, off + k * 3, none⟩ = some (.string x.1) ∧ w'.cell? ⟨g, off + k * 3 + 1, none⟩ = some (.int .i64 x.2.1) ∧ w'.cell? ⟨g, off + k * 3 + 2, none⟩ = some (.int .i64 x.2.2)) (go_keep)
                  ((go_at_call 18; refine (unhide HC2 _ ((Below.refl _ _).drew)).mono ?_; rintro e W3 ⟨rfl, f4, fB⟩; obtain ⟨r0, r1, r2⟩ := unhide HSX W3 fB))
                clear q0 q1 q2 r0 r1 r2 HC2
                go_wp2
                go_roundw
                case rel => exact ⟨k + 1, by omega, by go_num, by rw [unhide HsA, unhide HsB, unhide HsC2, unhide HsD2]; exact f4, fB⟩
                case measure => simp [intOf]; omega
              · have hkti : ¬ (k : Int) < (t : Int) := by omega
                have HC2 : Hid (∀ w2, Below W2.heap.size W2 w2 → Calls Try.prog 18 #[.pointer (some ⟨wc.heap.size + 1, 0, none⟩), .string x.1, .int .i64 x.2.1, .int .i64 x.2.2] w2 fun e w3 =>
                    e = .returned (.int .i64 (addL D x.1.data.toList x.2.1 x.2.2).1) ∧ Four w3 (w1.heap.size + 1) w1.heap.size (wa.heap.size + 1) wa.heap.size (wb.heap.size + 1) wb.heap.size (wc.heap.size + 1) wc.heap.size A' B' C (addL D x.1.data.toList x.2.1 x.2.2).2 ∧ Below w1.heap.size w1 w3) := by
                  intro w2 k2
                  refine (add4D (f4.kept k2) (unhide HAP) x hox (unhide HcD)).mono fun e w3 ⟨e1, e2, e3⟩ => ⟨e1, e2, ?_⟩
                  have b2 := fB.trans (k2.mono fB.size)
                  exact b2.trans (e3.below b2.size (by simp; omega))
                have HsC2 := hide (unhide HsC' hkt)
                have HsD2 := hide (unhide HsD hkt)
                generalize (addL D x.1.data.toList x.2.1 x.2.2).1 = codeD at HC2
                generalize (addL D x.1.data.toList x.2.1 x.2.2).2 = D' at HC2 HsD2
                clear f4 fB HcC HcD hkt HsC HsC' HsD HsD'
                go_wp2_with fail
                go_region_held3 (fun w' => w'.cell? ⟨g, off + k * 3, none⟩ = some (.string x.1) ∧ w'.cell? ⟨g, off + k * 3 + 1, none⟩ = some (.int .i64 x.2.1) ∧ w'.cell? ⟨g, off + k * 3 + 2, none⟩ = some (.int .i64 x.2.2)) (go_keep)
                  ((go_at_call 18; refine (unhide HC2 _ ((Below.refl _ _).drew)).mono ?_; rintro e W3 ⟨rfl, f4, fB⟩; obtain ⟨r0, r1, r2⟩ := unhide HSX W3 fB))
                clear q0 q1 q2 r0 r1 r2 HC2
                go_wp2
                go_roundw
                case rel => exact ⟨k + 1, by omega, by go_num, by rw [unhide HsA, unhide HsB, unhide HsC2, unhide HsD2]; exact f4, fB⟩
                case measure => simp [intOf]; omega
            · obtain rfl : k = l.length := by omega
              have hapn := (unhide HAP).h
              have e1 : runL (l.take l.length) = runL l := by rw [List.take_length]
              have e2 : runL (l.reverse.take l.length) = runL l := by rw [List.take_of_length_le (by simp), runL_rev l hl50 (unhide HOk)]
              have e3 : runL ((l.take t).take l.length) = runL (l.take t) := by rw [List.take_of_length_le (l := l.take t) (by rw [List.length_take]; omega)]
              have e4 : runL ((l.drop t).take (l.length - t)) = runL (l.drop t) := by rw [List.take_of_length_le (l := l.drop t) (by rw [List.length_drop]; omega)]
              rw [e1, e2, e3, e4] at h4
              have hcC := cnt_runL (l.take t)
              have hcD := cnt_runL (l.drop t)
              have hcL := cnt_runL l
              have hjl := join_run l t hl50 (unhide HOk)
              have HSum := hide (sum_run hl50 (unhide HOk))
              generalize runL (l.take t) = C at *
              generalize runL (l.drop t) = D at *
              generalize runL l = L at *
              have HJ : Hid (∀ o, (∀ u, o = u → u = Obj.cells #[.pointer (some ⟨wb.heap.size + 1, 0, none⟩)] 25) → Calls Try.prog 14 #[.pointer (some ⟨wc.heap.size + 1, 0, none⟩), .slice (some ⟨wr.heap.size, 0, none⟩) 1 1] (wr.alloc o) fun e w' => e = .returned (.int .i64 0) ∧ ∃ b', PM w' (w1.heap.size + 1) w1.heap.size L ∧ PM w' (wa.heap.size + 1) wa.heap.size L ∧ PM w' (wc.heap.size + 1) b' L ∧ Below w1.heap.size w1 w') := by
                intro o ho
                have hoo := ho o rfl
                subst hoo
                have k0 := below_one wr (Obj.cells #[.pointer (some ⟨wb.heap.size + 1, 0, none⟩)] 25)
                have f4 := h4.kept k0
                have hfx := heap_alloc_new wr (Obj.cells #[.pointer (some ⟨wb.heap.size + 1, 0, none⟩)] 25)
                have hbe := hB.alloc hB.size (Obj.cells #[.pointer (some ⟨wb.heap.size + 1, 0, none⟩)] 25)
                refine (join_any _ _ D wr.heap.size 1 [⟨wb.heap.size + 1, wb.heap.size, C⟩] _ f4.d hcD (by simp) (by simp) ⟨by simp, ?_⟩ ?_).mono ?_
                · intro j q hq
                  match j, hq with
                  | 0, hq =>
                    simp at hq
                    subst hq
                    rw [cell_of_row _ wr.heap.size 0 _ _ _ hfx]
                    rfl
                  | j + 1, hq => simp at hq
                · intro z hz
                  simp at hz
                  subst hz
                  exact ⟨f4.c, hcC⟩
                · rintro e w' ⟨he, hp⟩
                  simp only [List.map_cons, List.map_nil, hjl] at he hp
                  rcases hp with ⟨_, b', hP, hlo, hK⟩ | ⟨h0, _⟩
                  · exact ⟨he, b', f4.a.kept hK (by simp; omega) (by simp; omega), f4.b.kept hK (by simp; omega) (by simp; omega), hP, hbe.trans (hK.below hbe.size (by simp; omega))⟩
                  · exact absurd rfl h0
              clear h4 hjl hcC hcD e1 e2 e3 e4 hfour hbel
              go_wp2_with fail
              refine (unhide HJ _ (fun u hu => hu.symm)).mono ?_
              rintro e w2 ⟨rfl, b', hPa, hPb, hPd, hB2⟩
              clear HJ hB
              have HAll := hide (fun p b w (h : PM w p b L) => all_any p b L w h hcL)
              have e52 : (2 : Nat) ^ 52 = 4503599627370496 := by decide
              have sA : sumA L ≤ 4503599627370496 ∧ sumB L ≤ 4503599627370496 := by
                have := unhide HSum L.length
                rwa [List.take_length] at this
              have HTot : Hid (∀ p b w, PM w p b L → Calls Try.prog 20 #[.pointer (some ⟨p, 0, none⟩)] w fun e w' => e = .returned (.complex .f64 (F (sumA L)) (F (sumB L))) ∧ Below w.heap.size w w') := by
                intro p b w h
                have := total_any p b L w h hcL
                rw [Nat.min_eq_left sA.1, Nat.min_eq_left sA.2] at this
                exact this
              have ordA : ((FloatKind.f64.format.order (F (sumA L)) (F (sumA L)) == some .eq) && (FloatKind.f64.format.order (F (sumB L)) (F (sumB L)) == some .eq)) = true := by
                rw [order_eq_F (by omega) (by omega), order_eq_F (by omega) (by omega), decide_eq_true rfl, decide_eq_true rfl]; rfl
              obtain ⟨FA, hFA⟩ : ∃ FA, FA = F (sumA L) := ⟨_, rfl⟩
              obtain ⟨FB, hFB⟩ : ∃ FB, FB = F (sumB L) := ⟨_, rfl⟩
              rw [← hFA, ← hFB] at HTot ordA
              have HFA := hide hFA
              have HFB := hide hFB
              clear hFA hFB
              have hroom := hcL.room
              have HcL := hide hcL
              clear hcL
              go_wp2_with fail
              refine (unhide HAll _ _ _ hPa).mono ?_
              rintro e w3 ⟨vx, rfl, hx3, hb3⟩
              have hPa3 := hPa.kept (Kp.of_below [] hb3) (by simp) (by simp)
              have hPb3 := hPb.kept (Kp.of_below [] hb3) (by simp) (by simp)
              have hPd3 := hPd.kept (Kp.of_below [] hb3) (by simp) (by simp)
              have hB3 := hB2.trans (hb3.mono hB2.size)
              clear hPa hPb hPd hB2 hb3
              go_wp2_with fail
              refine (unhide HAll _ _ _ hPb3).mono ?_
              rintro e w4 ⟨vy, rfl, hy4, hb4⟩
              have hPa4 := hPa3.kept (Kp.of_below [] hb4) (by simp) (by simp)
              have hPb4 := hPb3.kept (Kp.of_below [] hb4) (by simp) (by simp)
              have hPd4 := hPd3.kept (Kp.of_below [] hb4) (by simp) (by simp)
              have hB4 := hB3.trans (hb4.mono hB3.size)
              have hx4 := row_below hx3 hb4
              clear hPa3 hPb3 hPd3 hB3 hb4 hx3
              go_wp2_with fail
              refine (unhide HAll _ _ _ hPd4).mono ?_
              rintro e w5 ⟨vz, rfl, hz5, hb5⟩
              have hPa5 := hPa4.kept (Kp.of_below [] hb5) (by simp) (by simp)
              have hPb5 := hPb4.kept (Kp.of_below [] hb5) (by simp) (by simp)
              have hPd5 := hPd4.kept (Kp.of_below [] hb5) (by simp) (by simp)
              have hB5 := hB4.trans (hb5.mono hB4.size)
              have hx5 := row_below hx4 hb5
              have hy5 := row_below hy4 hb5
              clear hPa4 hPb4 hPd4 hB4 hb5 hx4 hy4
              obtain ⟨px, cx, rfl⟩ := row_slice' hx5
              obtain ⟨py, cy, rfl⟩ := row_slice' hy5
              obtain ⟨pz, cz, rfl⟩ := row_slice' hz5
              have HX5 := hide hx5
              have HY5 := hide hy5
              have HZ5 := hide hz5
              clear hx5 hy5 hz5
              go_wp2_with fail
              refine (unhide HTot _ _ _ hPa5).mono ?_
              rintro e w6 ⟨rfl, hb6⟩
              have hPa6 := hPa5.kept (Kp.of_below [] hb6) (by simp) (by simp)
              have hPb6 := hPb5.kept (Kp.of_below [] hb6) (by simp) (by simp)
              have hPd6 := hPd5.kept (Kp.of_below [] hb6) (by simp) (by simp)
              clear hPa5 hPb5 hPd5
              go_wp2_with fail
              refine (unhide HTot _ _ _ hPb6).mono ?_
              rintro e w7 ⟨rfl, hb7⟩
              have hPa7 := hPa6.kept (Kp.of_below [] hb7) (by simp) (by simp)
              have hPd7 := hPd6.kept (Kp.of_below [] hb7) (by simp) (by simp)
              have hb57 := hb6.trans (hb7.mono hb6.size)
              clear hPa6 hPb6 hPd6 hb6 hb7
              go_wp2_with fail
              refine (unhide HTot _ _ _ hPa7).mono ?_
              rintro e w8 ⟨rfl, hb8⟩
              have hPa8 := hPa7.kept (Kp.of_below [] hb8) (by simp) (by simp)
              have hPd8 := hPd7.kept (Kp.of_below [] hb8) (by simp) (by simp)
              have hb58 := hb57.trans (hb8.mono hb57.size)
              clear hPa7 hPd7 hb57 hb8
              go_wp2_with fail
              refine (unhide HTot _ _ _ hPd8).mono ?_
              rintro e w9 ⟨rfl, hb9⟩
              have hPa9 := hPa8.kept (Kp.of_below [] hb9) (by simp) (by simp)
              have hb59 := hb58.trans (hb9.mono hb58.size)
              have hB9 := hB5.trans (hb59.mono hB5.size)
              have HX9 := hide (row_below (unhide HX5) hb59)
              have HY9 := hide (row_below (unhide HY5) hb59)
              have HZ9 := hide (row_below (unhide HZ5) hb59)
              clear hPa8 hPd8 hb58 hb9 HX5 HY5 HZ5 hb59 hB5
              have HPa := hide hPa9
              clear hPa9
              by_cases hnil : L = []
              · subst hnil
                have e0 : FA = 0 ∧ FB = 0 := ⟨(unhide HFA).trans F_zero, (unhide HFB).trans F_zero⟩
                obtain ⟨rfl, rfl⟩ := e0
                go_wp2
                go_loop [15, 16] (fun sm i => sm = .complex .f64 0 0 ∧ i = .int .i64 0) (fun _ _ => 0)
                case atStart => exact ⟨rfl, rfl⟩
                case round =>
                  obtain ⟨rfl, rfl⟩ := hrel
                  go_wp2_with fail
                  refine (unhide HTot _ _ _ (unhide HPa)).mono ?_
                  rintro e wx ⟨rfl, hbx⟩
                  have hBx := hB9.trans (hbx.mono hB9.size)
                  go_wp2_with fail
                  refine (unhide HW _).mono ?_
                  rintro e wy ⟨rfl, hby⟩
                  go_wp2
                  go_ret
                  exact ⟨rfl, hBx.trans (hby.mono hBx.size)⟩
              · obtain ⟨gx, cx', hvx, hncx, hgx, HCX⟩ := (row_form (unhide HX9) rfl).resolve_left (fun k => hnil k.2)
                obtain ⟨gy, cy', hvy, hncy, hgy, HCY⟩ := (row_form (unhide HY9) rfl).resolve_left (fun k => hnil k.2)
                obtain ⟨gz, cz', hvz, hncz, hgz, HCZ⟩ := (row_form (unhide HZ9) rfl).resolve_left (fun k => hnil k.2)
                obtain ⟨rfl, rfl⟩ : px = some ⟨gx, 0, none⟩ ∧ cx = cx' := by simpa using hvx
                obtain ⟨rfl, rfl⟩ : py = some ⟨gy, 0, none⟩ ∧ cy = cy' := by simpa using hvy
                obtain ⟨rfl, rfl⟩ : pz = some ⟨gz, 0, none⟩ ∧ cz = cz' := by simpa using hvz
                have HCX := hide HCX
                have HCY := hide HCY
                have HCZ := hide HCZ
                clear hvx hvy hvz HX9 HY9 HZ9 hnil
                have hq := neq_same
                go_wp2
                go_loopw [15, 16] (fun sm i wr => ∃ (k X Y : Nat), k ≤ L.length ∧ i = .int .i64 (k : Int) ∧ sm = .complex .f64 X Y ∧ Below w9.heap.size w9 wr ∧ Hid (X = F (sumA (L.take k)) ∧ Y = F (sumB (L.take k)))) (fun _ i _ => L.length - (intOf i).toNat)
                case atStart => exact ⟨0, 0, 0, Nat.zero_le _, rfl, rfl, Below.refl _ _, F_zero.symm, F_zero.symm⟩
                case round =>
                  obtain ⟨k, X, Y, hk, rfl, rfl, hbr, HXY⟩ := hrel
                  by_cases hkl : k < L.length
                  · obtain ⟨z, hz⟩ : ∃ z, L[k]? = some z := ⟨L[k], List.getElem?_eq_getElem hkl⟩
                    obtain ⟨a0, a1, a2⟩ := unhide HCX k z hz
                    obtain ⟨b0, b1, b2⟩ := unhide HCY k z hz
                    obtain ⟨d0, d1, d2⟩ := unhide HCZ k z hz
                    have q0 := (hbr.cell (p := ⟨gx, k * 3, none⟩) hgx).trans a0
                    have q1 := (hbr.cell (p := ⟨gx, k * 3 + 1, none⟩) hgx).trans a1
                    have q2 := (hbr.cell (p := ⟨gx, k * 3 + 2, none⟩) hgx).trans a2
                    have q3 := (hbr.cell (p := ⟨gy, k * 3, none⟩) hgy).trans b0
                    have q4 := (hbr.cell (p := ⟨gy, k * 3 + 1, none⟩) hgy).trans b1
                    have q5 := (hbr.cell (p := ⟨gy, k * 3 + 2, none⟩) hgy).trans b2
                    have q6 := (hbr.cell (p := ⟨gz, k * 3, none⟩) hgz).trans d0
                    have q7 := (hbr.cell (p := ⟨gz, k * 3 + 1, none⟩) hgz).trans d1
                    have q8 := (hbr.cell (p := ⟨gz, k * 3 + 2, none⟩) hgz).trans d2
                    have hj1 : (0 : Int) ≤ (k : Int) := by omega
                    have hj2 : (k : Int) < (L.length : Int) := by omega
                    have hj3 : (L.length : Int) ≤ (cx : Int) := by omega
                    have hj4 : (L.length : Int) ≤ (cy : Int) := by omega
                    have hj5 : (L.length : Int) ≤ (cz : Int) := by omega
                    have hmem := List.mem_of_getElem? hz
                    have hcap := (unhide HcL).cap z hmem
                    have hlen := (unhide HcL).len z hmem
                    have hsz : (⟨z.1.toArray⟩ : ByteArray).size ≤ maxLen := by
                      show z.1.toArray.size ≤ maxLen
                      rw [List.size_toArray]
                      exact Nat.le_trans hlen (by decide)
                    have ecn : cntE z.1 L = z.2 := by unfold cntE; rw [srt_get (unhide HcL).srt hz]; rfl
                    have hPr := (unhide HPa).kept (Kp.of_below [] hbr) (by simp) (by simp)
                    have HG : Hid (∀ n, Calls Try.prog 13 #[.pointer (some ⟨w1.heap.size + 1, 0, none⟩), encStr z.1] (wr.drewN n) fun e w' => e = .returned (.complex .f64 (F z.2.1) (F z.2.2)) ∧ w' = wr.drewN n) := by
                      intro n
                      have := get_any _ _ L ⟨z.1.toArray⟩ (wr.drewN n) (hPr.drewN n) hsz
                      rw [show (⟨z.1.toArray⟩ : ByteArray).data.toList = z.1 by simp, ecn] at this
                      exact this
                    have hsk := unhide HSum k
                    have hadd : ∀ w, (binOp .add 32 (.complex .f64 X Y) (.complex .f64 (F z.2.1) (F z.2.2))).run Try.prog w = .ok (.complex .f64 (F (sumA (L.take (k + 1)))) (F (sumB (L.take (k + 1))))) w := by
                      intro w
                      obtain ⟨rfl, rfl⟩ := unhide HXY
                      have a1 := add_F (a := sumA (L.take k)) (b := z.2.1) (by omega) (by omega)
                      have a2 := add_F (a := sumB (L.take k)) (b := z.2.2) (by omega) (by omega)
                      have e1 : sumA (L.take (k + 1)) = sumA (L.take k) + z.2.1 := sumOf_take (·.1) L hz
                      have e2 : sumB (L.take (k + 1)) = sumB (L.take k) + z.2.2 := sumOf_take (·.2) L hz
                      rw [e1, e2]
                      exact run_complex_sum (P := Try.prog) w .add (.inl rfl) 32 .f64 _ _ _ _ _ _ (by unfold cSumBits; rw [a1, a2]; rfl)
                    obtain ⟨X', hX'⟩ : ∃ X', X' = F (sumA (L.take (k + 1))) := ⟨_, rfl⟩
                    obtain ⟨Y', hY'⟩ : ∃ Y', Y' = F (sumB (L.take (k + 1))) := ⟨_, rfl⟩
                    rw [← hX', ← hY'] at hadd
                    have HXY' := hide (And.intro hX' hY')
                    clear hX' hY' hz hmem hcap hlen hsz ecn hPr hsk a0 a1 a2 b0 b1 b2 d0 d1 d2 HXY
                    generalize F z.2.1 = FX at *
                    generalize F z.2.2 = FY at *
                    go_wp2_with fail
                    go_quiet (fail)
                    go_wp2_with fail
                    refine (unhide HG _).mono ?_
                    rintro e wx ⟨rfl, rfl⟩
                    go_wp2
                    go_roundw
                    case rel => exact ⟨k + 1, X', Y', by omega, by go_num, rfl, ⟨hbr.os, hbr.tape, hbr.output, hbr.size, hbr.block⟩, unhide HXY'⟩
                    case measure => simp [intOf]; omega
                  · obtain rfl : k = L.length := by omega
                    have hXY := unhide HXY
                    rw [List.take_length, ← unhide HFA, ← unhide HFB] at hXY
                    obtain ⟨rfl, rfl⟩ := hXY
                    have hPr := (unhide HPa).kept (Kp.of_below [] hbr) (by simp) (by simp)
                    have hBr := hB9.trans (hbr.mono hB9.size)
                    have HPr := hide hPr
                    clear hPr HXY
                    go_wp2_with fail
                    refine (unhide HTot _ _ _ (unhide HPr)).mono ?_
                    rintro e wx ⟨rfl, hbx⟩
                    have hBx := hBr.trans (hbx.mono hBr.size)
                    go_wp2_with fail
                    refine (unhide HW _).mono ?_
                    rintro e wy ⟨rfl, hby⟩
                    go_wp2
                    go_ret
                    exact ⟨rfl, hBx.trans (hby.mono hBx.size)⟩

end Go.Proofs.Ytfbbdfeigenodaa
