/- The statement RouteOrder of layer 11, as a contract over the loaded program. -/
import Derived.Test.YtmicgkoicmeflaaOw11
import Derived.Deep.Cut
import Derived.Deep.CutBlock
import Derived.Deep.CutRange
namespace Go.Proofs.Ytmicgkoicmeflaa
open Go.RowKit

theorem no_rep {n k : Nat} (h : (Array.replicate n false).getD k false = true) : False := by rw [getD_rep] at h; cases h
/-- what the law's loops have found so far -/
def Looked (r : Rt) (l : List Rt) (i : Nat) : Prop := ∀ a x, a < i → l[a]? = some x → ¬ keyE x r.n r.b ∧ ∀ b y, b < a → l[b]? = some y → ¬ keyE x y.n y.b
def LookedIn (r x : Rt) (l : List Rt) (i j : Nat) : Prop := (0 < j → ¬ keyE x r.n r.b) ∧ ∀ b y, b < j → b < i → l[b]? = some y → ¬ keyE x y.n y.b
theorem Looked.zero (r : Rt) (l : List Rt) : Looked r l 0 := fun _ _ h => absurd h (Nat.not_lt_zero _)
theorem Looked.next {r : Rt} {l : List Rt} {i : Nat} (h : Looked r l i) {x : Rt} (hx : l[i]? = some x) (hi : LookedIn r x l i (i + 1)) : Looked r l (i + 1) := fun a y ha hy => by
  by_cases e : a = i
  · subst e
    rw [hx] at hy
    cases hy
    exact ⟨hi.1 (by omega), fun b y hb hy => hi.2 b y (by omega) hb hy⟩
  · exact h a y (by omega) hy
theorem LookedIn.zero (r x : Rt) (l : List Rt) (i : Nat) : LookedIn r x l i 0 := ⟨fun h => absurd h (by decide), fun b _ h => absurd h (Nat.not_lt_zero _)⟩
theorem LookedIn.next {r x : Rt} {l : List Rt} {i j : Nat} (h : LookedIn r x l i j) {y : Rt} (hy : l[j]? = some y) (h1 : ¬ keyE x r.n r.b) (h2 : i = j ∨ ¬ keyE x y.n y.b) : LookedIn r x l i (j + 1) :=
  ⟨fun _ => h1, fun b z hb hbi hz => by
    by_cases e : b = j
    · subst e
      rw [hy] at hz
      cases hz
      rcases h2 with h2 | h2
      · omega
      · exact h2
    · exact h.2 b z (by omega) hbi hz⟩
theorem Looked.unlike {r : Rt} {l : List Rt} (h : Looked r l l.length) : Unlike l ∧ ∀ y ∈ l, ¬ keyE y r.n r.b := by
  refine ⟨List.pairwise_iff_getElem.2 (fun i j hi hj hij => ?_), fun y hy => ?_⟩
  · exact unlike_symm ((h j l[j] hj (List.getElem?_eq_getElem hj)).2 i l[i] hij (List.getElem?_eq_getElem hi))
  · obtain ⟨i, hi⟩ := List.getElem?_of_mem hy
    exact (h i y (List.getElem?_eq_some_iff.1 hi).1 hi).1

theorem MD.some {base : Nat} {l L : List Rt} {u : Value} {ok : Bool} {W : World} (h : MD base l u ok W) (hk : madeR [] l = some L) : ∃ p b, u = .pointer (some ⟨p, 0, none⟩) ∧ ok = true ∧ PT W p b L ∧ base ≤ p ∧ base ≤ b := by
  rcases h with ⟨L1, p, b, j1, h1, h2, h3, h4, h5⟩ | ⟨j1, _, _⟩
  · obtain rfl : L = L1 := Option.some.inj (hk.symm.trans j1)
    exact ⟨p, b, h1, h2, h3, h4, h5⟩
  · rw [hk] at j1; cases j1
theorem MD.none {base : Nat} {l : List Rt} {u : Value} {ok : Bool} {W : World} (h : MD base l u ok W) (hk : madeR [] l = none) : u = .pointer none ∧ ok = false := by
  rcases h with ⟨L1, p, b, j1, _⟩ | ⟨_, h1, h2⟩
  · rw [hk] at j1; cases j1
  · exact ⟨h1, h2⟩
/-- what memory holds behind the making of both tables -/
structure ST (w : World) (p1 b1 p2 b2 : Nat) (r : Rt) (L L2 : List Rt) (W : World) : Prop where
  t : PT W p1 b1 L
  u : PT W p2 b2 L2
  box : W.heap[w.heap.size]? = some (.cells (rtCs r) 32 (0, 0))
  bel : Below w.heap.size w W
  lo : w.heap.size < b1
  pn : p2 ≠ b1
  bn : b2 ≠ b1
theorem box_go {W W' : World} (hb : Below W.heap.size W W') {q : Nat} {o : Obj} (h : W.heap[q]? = some o) : W'.heap[q]? = some o :=
  (hb.block q (Array.getElem?_eq_some_iff.1 h).1).trans h
theorem box_turn {W W' : World} {b : Nat} (g : W.grownBy W' (some b)) {q : Nat} {o : Obj} (h : W.heap[q]? = some o) (hne : q ≠ b) : W'.heap[q]? = some o :=
  (g.block q (Array.getElem?_eq_some_iff.1 h).1 (fun e => hne (Option.some.inj e))).trans h
theorem ST.go {w W W' : World} {p1 b1 p2 b2 : Nat} {r : Rt} {L L2 : List Rt} (h : ST w p1 b1 p2 b2 r L L2 W) (hb : Below W.heap.size W W') : ST w p1 b1 p2 b2 r L L2 W' :=
  ⟨h.t.below hb, h.u.below hb, box_go hb h.box, h.bel.trans (hb.mono h.bel.size), h.lo, h.pn, h.bn⟩
theorem ST.turn {w W W' : World} {p1 b1 p2 b2 : Nat} {r : Rt} {L L' L2 : List Rt} (h : ST w p1 b1 p2 b2 r L L2 W) (hT : PT W' p1 b1 L') (g : W.grownBy W' (some b1)) : ST w p1 b1 p2 b2 r L' L2 W' :=
  ⟨hT, h.u.keep g (fun e => h.pn (Option.some.inj e)) (fun e => h.bn (Option.some.inj e)), box_turn g h.box (Nat.ne_of_lt h.lo), h.bel.trans (grown_below g h.bel.size (Nat.le_of_lt h.lo)), h.lo, h.pn, h.bn⟩

set_option maxRecDepth 100000 in
set_option maxHeartbeats 8000000 in
theorem routeOrder_walk (lv : Value) (l : List Rt) (rv : Value) (r : Rt) (ip0 fr : Int) (w : World) (hl : IsRtc w lv l) (hr : IsRt rv r) (hi : (Lit.int .u32 ip0).wf = true) (hfr : (Lit.int .u8 fr).wf = true) :
    Calls Try.prog 5 #[lv, rv, .int .u32 ip0, .int .u8 fr] w fun e w' => e = .returned (.bool true) ∧ Below w.heap.size w w' := by
  obtain ⟨ip, rfl, hip⟩ := nat32 hi
  obtain ⟨fm, rfl, hfm⟩ := nat8 hfr
  obtain ⟨rfl, hrin⟩ := hr
  have HX := hide alive_any
  obtain ⟨hl, a, ca, rfl, hca⟩ := hl
  have hB0 := below_one w (.cells (rtCs r) 32)
  have B0 := hide hB0
  have E0 := heap_alloc_new w (.cells (rtCs r) 32)
  have q0 := cell_of_row _ _ 0 _ _ _ E0
  have q1 := cell_of_row _ _ 1 _ _ _ E0
  have q2 := cell_of_row _ _ 2 _ _ _ E0
  have q3 := cell_of_row _ _ 3 _ _ _ E0
  have q4 := cell_of_row _ _ 4 _ _ _ E0
  have HA := hide (hl.1.below hB0)
  have HI := hide hl.2
  have HRin := hide hrin
  have HME := hide (fun W => may_any r W hrin)
  have hqs : w.heap.size < (w.alloc (.cells (rtCs r) 32)).heap.size := by simp
  have E0 := hide E0
  clear hl hB0 hi hfr hrin
  by_cases h100 : l.length ≤ 100
  · have d0 : decide ((100 : Int) < (l.length : Int)) = false := decide_eq_false (by omega)
    by_cases h0 : l.length = 0
    · have d1 : ((l.length : Int) == 0) = true := by rw [h0]; rfl
      clear h0
      go_enter Try.func5, Try.ntmps5
      go_wp2_with fail
      refine (unhide HX _).mono ?_
      rintro e w9 ⟨rfl, b9⟩
      have BF := hide ((unhide B0).trans (b9.mono (unhide B0).size))
      clear b9
      go_wp2_with fail
      go_ret
      exact ⟨rfl, unhide BF⟩
    · have d1 : ((l.length : Int) == 0) = false := by rw [beq_eq_false_iff_ne]; omega
      by_cases hmay : mayR r
      · rw [decide_eq_true hmay] at HME
        have hmay := hide hmay
        go_enter Try.func5, Try.ntmps5
        go_wp2_with fail
        generalize w.alloc (.cells (rtCs r) 32) = w1 at *
        refine (unhide HME _).mono ?_
        rintro e w2 ⟨rfl, b2⟩
        replace q0 := below_cell q0 b2
        replace q1 := below_cell q1 b2
        have E2 := hide ((b2.block _ hqs).trans (unhide E0))
        have HA2 := hide ((unhide HA).below b2)
        have B2 := hide ((unhide B0).trans (b2.mono (unhide B0).size))
        clear b2 HME B0 E0 HA q2 q3 q4
        have hq2 : w.heap.size < w2.heap.size := (Array.getElem?_eq_some_iff.1 (unhide E2)).1
        clear hqs
        go_wp2_with fail
        go_loopw [9] (fun i wr => ∃ (k : Nat), k ≤ l.length ∧ i = .int .i64 (k : Int) ∧ Hid (Looked r l k) ∧ Hid (Below w2.heap.size w2 wr)) (fun i _ => l.length - (intOf i).toNat)
        case atStart => exact ⟨0, Nat.zero_le _, rfl, Looked.zero r l, Below.refl _ _⟩
        case round =>
          clear q0 q1
          obtain ⟨k, hk, rfl, hS, hB⟩ := hrel
          by_cases hlt : k < l.length
          · have hkI : (k : Int) < (l.length : Int) := by omega
            go_wp2_with fail
            go_loopw [10] (fun jv ws => ∃ (j : Nat), j ≤ k + 1 ∧ jv = .int .i64 (j : Int) ∧ Hid (LookedIn r l[k] l k j) ∧ Hid (Below w2.heap.size w2 ws)) (fun jv _ => k + 1 - (intOf jv).toNat)
            case atStart => exact ⟨0, Nat.zero_le _, rfl, LookedIn.zero _ _ _ _, hB⟩
            case round =>
              clear hB
              obtain ⟨j, hj, rfl, hJ, hB⟩ := hrel
              by_cases hjk : j ≤ k
              · have hjI : (j : Int) ≤ (k : Int) := by omega
                have hjl : j < l.length := by omega
                have hjlI : (j : Int) < (l.length : Int) := by omega
                obtain ⟨g, off, rfl, -, hg, x0, x1, -, -, -⟩ := rts_cells ((unhide HA2).below (unhide hB)) hlt
                obtain ⟨g', off', hgg, -, -, y0, y1, -, -, -⟩ := rts_cells ((unhide HA2).below (unhide hB)) hjl
                injection hgg with hgg
                injection hgg with hg1 hg2
                subst hg1 hg2
                have HC : Hid (∀ W, Below w2.heap.size w2 W → W.cell? ⟨g, off + k * 5, none⟩ = some (.int .u32 (l[k].n : Int)) ∧ W.cell? ⟨g, off + k * 5 + 1, none⟩ = some (.int .i64 l[k].b) ∧ W.cell? ⟨w.heap.size, 0, none⟩ = some (.int .u32 (r.n : Int)) ∧ W.cell? ⟨w.heap.size, 1, none⟩ = some (.int .i64 r.b)) := fun W hb => by
                  obtain ⟨g2, off2, hg2, -, hgl, z0, z1, -, -, -⟩ := rts_cells (unhide HA2) hlt
                  injection hg2 with hg2
                  injection hg2 with hg1 hg2
                  subst hg1 hg2
                  exact ⟨(hb.cell (p := ⟨g, off + k * 5, none⟩) hgl).trans z0, (hb.cell (p := ⟨g, off + k * 5 + 1, none⟩) hgl).trans z1, below_cell (cell_of_row _ _ 0 _ _ _ (unhide E2)) hb, below_cell (cell_of_row _ _ 1 _ _ _ (unhide E2)) hb⟩
                have HXK := hide (List.getElem?_eq_getElem hlt)
                have HYJ := hide (List.getElem?_eq_getElem hjl)
                generalize l[k] = x at *
                generalize l[j] = y at *
                go_upto_region 9 with fail
                go_cut [11] from 44 to 99 (fun c wx => c = .bool (decide (keyE x y.n y.b)) ∧ Hid (Below w2.heap.size w2 wx))
                case first =>
                  by_cases e1 : x.n = y.n
                  · by_cases e2 : x.b = y.b
                    · have HK : Hid (keyE x y.n y.b) := ⟨e1, e2⟩
                      have d1 : ((x.n : Int) == (y.n : Int)) = true := by rw [e1]; simp
                      have d2 : (x.b == y.b) = true := by rw [e2]; simp
                      clear e1 e2
                      go_quiet (fail)
                      go_wp2_with fail
                      go_meet
                      exact ⟨congrArg Value.bool (decide_eq_true (unhide HK)).symm, (unhide hB).trans ((below_drewN _ _).mono (unhide hB).size)⟩
                    · have HK : Hid (¬ keyE x y.n y.b) := fun h => e2 h.2
                      have d1 : ((x.n : Int) == (y.n : Int)) = true := by rw [e1]; simp
                      have d2 : (x.b == y.b) = false := by rw [beq_eq_false_iff_ne]; exact e2
                      clear e1 e2
                      go_quiet (fail)
                      go_wp2_with fail
                      go_meet
                      exact ⟨congrArg Value.bool (decide_eq_false (unhide HK)).symm, (unhide hB).trans ((below_drewN _ _).mono (unhide hB).size)⟩
                  · have HK : Hid (¬ keyE x y.n y.b) := fun h => e1 h.1
                    have d1 : ((x.n : Int) == (y.n : Int)) = false := by rw [beq_eq_false_iff_ne]; omega
                    clear e1
                    go_quiet (fail)
                    go_wp2_with fail
                    go_meet
                    exact ⟨congrArg Value.bool (decide_eq_false (unhide HK)).symm, (unhide hB).trans ((below_drewN _ _).mono (unhide hB).size)⟩
                case rest =>
                  obtain ⟨rfl, hB9⟩ := hcut
                  clear x0 x1 y0 y1
                  obtain ⟨x0, x1, q0, q1⟩ := unhide HC _ (unhide hB9)
                  obtain ⟨s, hs⟩ : ∃ s, decide (keyE x y.n y.b) = s := ⟨_, rfl⟩
                  rw [hs]
                  have hs := hide hs
                  go_upto_region 10 with fail
                  go_cut [98] from 44 to 99 (fun c wx => c = .bool (decide ((s = true ∧ k ≠ j) ∨ keyE x r.n r.b)) ∧ Hid (Below w2.heap.size w2 wx))
                  case first =>
                    cases s with
                    | true =>
                      by_cases hkj : k = j
                      · have HNB := hide (show ¬ (true = true ∧ k ≠ j) from fun h => h.2 hkj)
                        have dk : ((k : Int) != (j : Int)) = false := by rw [hkj]; simp
                        clear hkj
                        by_cases e1 : x.n = r.n
                        · by_cases e2 : x.b = r.b
                          · have HK := hide (show (((true = true ∧ k ≠ j) ∨ keyE x r.n r.b)) from .inr ⟨e1, e2⟩)
                            have d1 : ((x.n : Int) == (r.n : Int)) = true := by rw [e1]; simp
                            have d2 : (x.b == r.b) = true := by rw [e2]; simp
                            clear e1 e2
                            go_quiet (fail)
                            go_wp2_with fail
                            go_meet
                            exact ⟨congrArg Value.bool (decide_eq_true (unhide HK)).symm, (unhide hB9).trans ((below_drewN _ _).mono (unhide hB9).size)⟩
                          · have HK := hide (show ¬ ((true = true ∧ k ≠ j) ∨ keyE x r.n r.b) from fun h => h.elim (unhide HNB) (fun h => e2 h.2))
                            have d1 : ((x.n : Int) == (r.n : Int)) = true := by rw [e1]; simp
                            have d2 : (x.b == r.b) = false := by rw [beq_eq_false_iff_ne]; exact e2
                            clear e1 e2
                            go_quiet (fail)
                            go_wp2_with fail
                            go_meet
                            exact ⟨congrArg Value.bool (decide_eq_false (unhide HK)).symm, (unhide hB9).trans ((below_drewN _ _).mono (unhide hB9).size)⟩
                        · have HK := hide (show ¬ ((true = true ∧ k ≠ j) ∨ keyE x r.n r.b) from fun h => h.elim (unhide HNB) (fun h => e1 h.1))
                          have d1 : ((x.n : Int) == (r.n : Int)) = false := by rw [beq_eq_false_iff_ne]; omega
                          clear e1
                          go_quiet (fail)
                          go_wp2_with fail
                          go_meet
                          exact ⟨congrArg Value.bool (decide_eq_false (unhide HK)).symm, (unhide hB9).trans ((below_drewN _ _).mono (unhide hB9).size)⟩
                      · have HK := hide (show ((true = true ∧ k ≠ j) ∨ keyE x r.n r.b) from .inl ⟨rfl, hkj⟩)
                        have dk : ((k : Int) != (j : Int)) = true := by rw [bne_iff_ne]; omega
                        clear hkj
                        go_quiet (fail)
                        go_wp2_with fail
                        go_meet
                        exact ⟨congrArg Value.bool (decide_eq_true (unhide HK)).symm, (unhide hB9).trans ((below_drewN _ _).mono (unhide hB9).size)⟩
                    | false =>
                      have HNB := hide (show ¬ (false = true ∧ k ≠ j) from fun h => by cases h.1)
                      by_cases e1 : x.n = r.n
                      · by_cases e2 : x.b = r.b
                        · have HK := hide (show (((false = true ∧ k ≠ j) ∨ keyE x r.n r.b)) from .inr ⟨e1, e2⟩)
                          have d1 : ((x.n : Int) == (r.n : Int)) = true := by rw [e1]; simp
                          have d2 : (x.b == r.b) = true := by rw [e2]; simp
                          clear e1 e2
                          go_quiet (fail)
                          go_wp2_with fail
                          go_meet
                          exact ⟨congrArg Value.bool (decide_eq_true (unhide HK)).symm, (unhide hB9).trans ((below_drewN _ _).mono (unhide hB9).size)⟩
                        · have HK := hide (show ¬ ((false = true ∧ k ≠ j) ∨ keyE x r.n r.b) from fun h => h.elim (unhide HNB) (fun h => e2 h.2))
                          have d1 : ((x.n : Int) == (r.n : Int)) = true := by rw [e1]; simp
                          have d2 : (x.b == r.b) = false := by rw [beq_eq_false_iff_ne]; exact e2
                          clear e1 e2
                          go_quiet (fail)
                          go_wp2_with fail
                          go_meet
                          exact ⟨congrArg Value.bool (decide_eq_false (unhide HK)).symm, (unhide hB9).trans ((below_drewN _ _).mono (unhide hB9).size)⟩
                      · have HK := hide (show ¬ ((false = true ∧ k ≠ j) ∨ keyE x r.n r.b) from fun h => h.elim (unhide HNB) (fun h => e1 h.1))
                        have d1 : ((x.n : Int) == (r.n : Int)) = false := by rw [beq_eq_false_iff_ne]; omega
                        clear e1
                        go_quiet (fail)
                        go_wp2_with fail
                        go_meet
                        exact ⟨congrArg Value.bool (decide_eq_false (unhide HK)).symm, (unhide hB9).trans ((below_drewN _ _).mono (unhide hB9).size)⟩
                  case rest =>
                    obtain ⟨rfl, hBa⟩ := hcut
                    by_cases hbad : (s = true ∧ k ≠ j) ∨ keyE x r.n r.b
                    · rw [decide_eq_true hbad]
                      clear hbad x0 x1 q0 q1
                      go_wp2_with fail
                      refine (unhide HX _).mono ?_
                      rintro e w9 ⟨rfl, b9⟩
                      have BF := hide ((unhide B2).trans (((unhide hBa).trans (b9.mono (unhide hBa).size)).mono (unhide B2).size))
                      clear b9
                      go_wp2_with fail
                      go_ret
                      exact ⟨rfl, unhide BF⟩
                    · rw [decide_eq_false hbad]
                      have HN := hide ((unhide hJ).next (unhide HYJ) (fun h => hbad (.inr h)) (by
                        by_cases hkj : k = j
                        · exact .inl hkj
                        · exact .inr (fun hK => hbad (.inl ⟨(unhide hs).symm.trans (decide_eq_true hK), hkj⟩))))
                      clear hbad x0 x1 q0 q1
                      go_wp2_with fail
                      go_roundw
                      case rel => exact ⟨j + 1, by omega, by go_num, HN, hBa⟩
                      case measure => simp [intOf]; omega
              · obtain rfl : j = k + 1 := by omega
                have HL := hide ((unhide hS).next (List.getElem?_eq_getElem hlt) (unhide hJ))
                go_wp2_with fail
                go_roundw
                case rel => exact ⟨k + 1, by omega, by go_num, HL, hB⟩
                case measure => simp [intOf]; omega
          · obtain rfl : k = l.length := by omega
            obtain ⟨hun, hno⟩ := Looked.unlike (unhide hS)
            have hun := hide hun
            have hno := hide hno
            have hin2 : IsRts wr (.slice a l.length ca) l := ⟨(unhide HA2).below (unhide hB), unhide HI⟩
            have HM := hide (made_md hin2 (by omega))
            have hrot := fun k => made_rot k (show l.length ≤ 1024 by omega) (unhide HI) (unhide hun)
            obtain ⟨m, hm, hml⟩ : ∃ m : Nat, ((fm : Int) % (l.length : Int)) = (m : Int) ∧ m < l.length := ⟨fm % l.length, by simp, Nat.mod_lt _ (by omega)⟩
            have hrot := hide (hrot m)
            have HAr := hide hin2.1
            have hqr : w.heap.size < wr.heap.size := Nat.lt_of_lt_of_le hq2 (unhide hB).size
            have Er := hide (((unhide hB).block _ hq2).trans (unhide E2))
            have Br := hide ((unhide B2).trans ((unhide hB).mono (unhide B2).size))
            clear hin2 hS hB HA2 E2 B2 hun
            go_upto_region 13 with fail
            rw [hm]
            clear hm
            go_wp2_with fail
            refine (unhide HM).mono ?_
            rintro e w3 ⟨u1, ok1, rfl, M1, b3⟩
            have M1 := hide M1
            have HA3 := (unhide HAr).below b3
            have E3 := hide ((b3.block _ hqr).trans (unhide Er))
            have B3 := hide ((unhide Br).trans (b3.mono (unhide Br).size))
            have h3 : wr.heap.size ≤ w3.heap.size := b3.size
            obtain ⟨g, off, rfl, -⟩ := rts_cells HA3 (show 0 < l.length by omega)
            obtain ⟨D0, hD0⟩ : ∃ D, w3.drewN 1 = D := ⟨_, rfl⟩
            have BD0 : Below w3.heap.size w3 D0 := by rw [← hD0]; exact below_drewN w3 1
            obtain ⟨v1, W2, v2, W3, r1, r2, hrr, bD⟩ := rot_rows (HA3.below BD0) hml (by omega)
            have hinr : IsRts W3 v2 (l.drop m ++ l.take m) := ⟨hrr, fun y hy => (unhide HI) y (by
              rcases List.mem_append.1 hy with h | h
              · exact List.mem_of_mem_drop h
              · exact List.mem_of_mem_take h)⟩
            have HM2 := hide (made_md hinr (by simp; omega))
            have B33 := hide (BD0.trans (bD.mono BD0.size))
            have hml1 : (m : Int) ≤ (l.length : Int) := by omega
            have hcn : ca = m → m * 5 = 0 := fun e => by omega
            have hmc : ¬ ca < m := by omega
            clear HA3 b3 hinr hrr bD BD0 HM HAr Er Br
            go_upto_region 14 with fail
            have nq : ([111, 112, 113, 114, 115, 116, 117, 118, 119, 120, 110, 121, 122, 15, 16] : List Nat).Nodup := by decide
            have hs : ∀ d ∈ ([111, 112, 113, 114, 115, 116, 117, 118, 119, 120, 110, 121, 122, 15, 16] : List Nat), d < 230 := by decide
            refine wp_region_fc [111, 112, 113, 114, 115, 116, 117, 118, 119, 120, 110, 121, 122, 15, 16] (fun c : Value × Bool => [.slice (some ⟨D0.heap.size, 0, none⟩) 0 0, .slice (some ⟨g, off, none⟩) l.length ca, .int .i64 (m : Int), .slice (some ⟨g, off + m * 5, none⟩) (l.length - m) (ca - m), v1, .slice (some ⟨g, off, none⟩) l.length ca, .int .i64 (m : Int), .slice (some ⟨g, off, none⟩) m ca, v2, .tuple #[c.1, .bool c.2], .tuple #[c.1, .bool c.2], c.1, .bool c.2, c.1, .bool c.2]) (QW D0 (D0.alloc (.cells #[] 32)) W2 W3 (fun u ok W => MD W3.heap.size (l.drop m ++ l.take m) u ok W ∧ Below W3.heap.size W3 W)) (by kernel_rfl) (by kernel_rfl) nq (fun _ => rfl) hs (by decide) ⟨(undef, false), ⟨fun _ => hD0, fun e _ => (no_rep e).elim, fun e _ => (no_rep e).elim, fun e _ => (no_rep e).elim, fun e => (no_rep e).elim⟩⟩ ⟨
              stepC_val (.slice (some ⟨D0.heap.size, 0, none⟩) 0 0) nq hs (.inl rfl) rfl rfl (fun _ => rfl) (fun ls a ws c hd hu hc k hW => by
                have k0 : ls.getD 4 false = true → ls.getD 0 false = true := fun h => hc 4 _ rfl h ⟨0, .data⟩ (by simp) rfl
                have k4 : ls.getD 8 false = true → ls.getD 4 false = true := fun h => hc 8 _ rfl h ⟨4, .data⟩ (by simp) rfl
                have k8 : ls.getD 9 false = true → ls.getD 8 false = true := fun h => hc 9 _ rfl h ⟨8, .data⟩ (by simp) rfl
                have hw := hW.s0 (getD_ft hu)
                generalize a.eval = ρ at *
                exact ⟨D0.alloc (.cells #[] 32), by rw [hw]; simp [execOp, go_sem, Instr.buildSlice], QW.at0 hu k0 k4 k8⟩),
              stepC_val (.slice (some ⟨g, off, none⟩) l.length ca) nq hs (.inl rfl) rfl rfl (fun _ => rfl) (fun ls a ws c hd hu hc k hW => by
                have e0 := k.evalOut 0 (by decide) (v := .slice (some ⟨g, off, none⟩) l.length ca) rfl
                generalize a.eval = ρ at *
                exact ⟨ws, by (simp [execOp, go_sem, e0]), hW.same (by decide) (by decide) (by decide) (by decide)⟩),
              stepC_val (.int .i64 (m : Int)) nq hs (.inl rfl) rfl rfl (fun _ => rfl) (fun ls a ws c hd hu hc k hW => by
                have e12 := k.evalOut 12 (by decide) (v := .int .i64 (m : Int)) rfl
                generalize a.eval = ρ at *
                exact ⟨ws, by (simp [execOp, go_sem, e12]), hW.same (by decide) (by decide) (by decide) (by decide)⟩),
              stepC_val (.slice (some ⟨g, off + m * 5, none⟩) (l.length - m) (ca - m)) nq hs (.inl rfl) rfl rfl (fun _ => rfl) (fun ls a ws c hd hu hc k hW => by
                have e112 := k.eval 1 rfl (hd ⟨1, .data⟩ (by simp) rfl) (v := .slice (some ⟨g, off, none⟩) l.length ca) rfl
                have e113 := k.eval 2 rfl (hd ⟨2, .data⟩ (by simp) rfl) (v := .int .i64 (m : Int)) rfl
                generalize a.eval = ρ at *
                exact ⟨ws, by (simp [execOp, go_sem, e112, e113, hml1] ; exact hcn), hW.same (by decide) (by decide) (by decide) (by decide)⟩),
              stepC_val (v1) nq hs (.inl rfl) rfl rfl (fun _ => rfl) (fun ls a ws c hd hu hc k hW => by
                have e111 := k.eval 0 rfl (hd ⟨0, .data⟩ (by simp) rfl) (v := .slice (some ⟨D0.heap.size, 0, none⟩) 0 0) rfl
                have e114 := k.eval 3 rfl (hd ⟨3, .data⟩ (by simp) rfl) (v := .slice (some ⟨g, off + m * 5, none⟩) (l.length - m) (ca - m)) rfl
                have k0 : ls.getD 4 false = true → ls.getD 0 false = true := fun h => hc 4 _ rfl h ⟨0, .data⟩ (by simp) rfl
                have k4 : ls.getD 8 false = true → ls.getD 4 false = true := fun h => hc 8 _ rfl h ⟨4, .data⟩ (by simp) rfl
                have k8 : ls.getD 9 false = true → ls.getD 8 false = true := fun h => hc 9 _ rfl h ⟨8, .data⟩ (by simp) rfl
                have hw := hW.s1 (hd ⟨0, .data⟩ (by simp) rfl) (getD_ft hu)
                generalize a.eval = ρ at *
                exact ⟨W2, by rw [hw]; unfold execOp; simp only [resolve, invoke, builtin, Sem.run_bind, Sem.run_pure, Result.andThen_ok, List.map_toArray, List.map_cons, List.map_nil, e111, e114, r1], QW.at4 (hd ⟨0, .data⟩ (by simp) rfl) hu k4 k8⟩),
              stepC_val (.slice (some ⟨g, off, none⟩) l.length ca) nq hs (.inl rfl) rfl rfl (fun _ => rfl) (fun ls a ws c hd hu hc k hW => by
                have e0 := k.evalOut 0 (by decide) (v := .slice (some ⟨g, off, none⟩) l.length ca) rfl
                generalize a.eval = ρ at *
                exact ⟨ws, by (simp [execOp, go_sem, e0]), hW.same (by decide) (by decide) (by decide) (by decide)⟩),
              stepC_val (.int .i64 (m : Int)) nq hs (.inl rfl) rfl rfl (fun _ => rfl) (fun ls a ws c hd hu hc k hW => by
                have e12 := k.evalOut 12 (by decide) (v := .int .i64 (m : Int)) rfl
                generalize a.eval = ρ at *
                exact ⟨ws, by (simp [execOp, go_sem, e12]), hW.same (by decide) (by decide) (by decide) (by decide)⟩),
              stepC_val (.slice (some ⟨g, off, none⟩) m ca) nq hs (.inl rfl) rfl rfl (fun _ => rfl) (fun ls a ws c hd hu hc k hW => by
                have e116 := k.eval 5 rfl (hd ⟨5, .data⟩ (by simp) rfl) (v := .slice (some ⟨g, off, none⟩) l.length ca) rfl
                have e117 := k.eval 6 rfl (hd ⟨6, .data⟩ (by simp) rfl) (v := .int .i64 (m : Int)) rfl
                generalize a.eval = ρ at *
                exact ⟨ws, by (simp [execOp, go_sem, e116, e117, hmc]), hW.same (by decide) (by decide) (by decide) (by decide)⟩),
              stepC_val (v2) nq hs (.inl rfl) rfl rfl (fun _ => rfl) (fun ls a ws c hd hu hc k hW => by
                have e115 := k.eval 4 rfl (hd ⟨4, .data⟩ (by simp) rfl) (v := v1) rfl
                have e118 := k.eval 7 rfl (hd ⟨7, .data⟩ (by simp) rfl) (v := .slice (some ⟨g, off, none⟩) m ca) rfl
                have k0 : ls.getD 4 false = true → ls.getD 0 false = true := fun h => hc 4 _ rfl h ⟨0, .data⟩ (by simp) rfl
                have k4 : ls.getD 8 false = true → ls.getD 4 false = true := fun h => hc 8 _ rfl h ⟨4, .data⟩ (by simp) rfl
                have k8 : ls.getD 9 false = true → ls.getD 8 false = true := fun h => hc 9 _ rfl h ⟨8, .data⟩ (by simp) rfl
                have hw := hW.s2 (hd ⟨4, .data⟩ (by simp) rfl) (getD_ft hu)
                generalize a.eval = ρ at *
                exact ⟨W3, by rw [hw]; unfold execOp; simp only [resolve, invoke, builtin, Sem.run_bind, Sem.run_pure, Result.andThen_ok, List.map_toArray, List.map_cons, List.map_nil, e115, e118, r2], QW.at8 (k0 (hd ⟨4, .data⟩ (by simp) rfl)) (hd ⟨4, .data⟩ (by simp) rfl) hu k8⟩),
              stepC_pick (fun c => .tuple #[c.1, .bool c.2]) nq hs (.inl rfl) rfl rfl (fun _ => rfl) (fun p p2 j hj => match j, hj with | 0, _ => rfl | 1, _ => rfl | 2, _ => rfl | 3, _ => rfl | 4, _ => rfl | 5, _ => rfl | 6, _ => rfl | 7, _ => rfl | 8, _ => rfl | n + 9, h => absurd h (by omega)) (fun ls hc j h1 h2 h3 => by
                have k10 : ls.getD 10 false = true → ls.getD 9 false = true := fun h => hc 10 _ rfl h ⟨9, .data⟩ (by simp) rfl
                have k11 : ls.getD 11 false = true → ls.getD 10 false = true := fun h => hc 11 _ rfl h ⟨10, .data⟩ (by simp) rfl
                have k12 : ls.getD 12 false = true → ls.getD 10 false = true := fun h => hc 12 _ rfl h ⟨10, .data⟩ (by simp) rfl
                have k13 : ls.getD 13 false = true → ls.getD 11 false = true := fun h => hc 13 _ rfl h ⟨11, .data⟩ (by simp) rfl
                have k14 : ls.getD 14 false = true → ls.getD 12 false = true := fun h => hc 14 _ rfl h ⟨12, .data⟩ (by simp) rfl
                have hjj : j = 10 ∨ j = 11 ∨ j = 12 ∨ j = 13 ∨ j = 14 := by have h5 : j < 15 := h2; omega
                rcases hjj with rfl | rfl | rfl | rfl | rfl
                · exact k10 h3
                · exact k10 (k11 h3)
                · exact k10 (k12 h3)
                · exact k10 (k11 (k13 h3))
                · exact k10 (k12 (k14 h3))) (fun _ => rfl) (fun ls a ws c hd hu hc k hW => by
                have e119 := k.eval 8 rfl (hd ⟨8, .data⟩ (by simp) rfl) (v := v2) rfl
                have k0 : ls.getD 4 false = true → ls.getD 0 false = true := fun h => hc 4 _ rfl h ⟨0, .data⟩ (by simp) rfl
                have k4 : ls.getD 8 false = true → ls.getD 4 false = true := fun h => hc 8 _ rfl h ⟨4, .data⟩ (by simp) rfl
                have k8 : ls.getD 9 false = true → ls.getD 8 false = true := fun h => hc 9 _ rfl h ⟨8, .data⟩ (by simp) rfl
                have hw := hW.s3 (hd ⟨8, .data⟩ (by simp) rfl) (getD_ft hu)
                have ef : ∀ f, a.eval (.func f) = .func (.func f) #[] #[] := fun _ => rfl
                generalize a.eval = ρ at *
                refine ⟨18, #[v2], by simp [execOp, go_sem, ef, e119], ?_⟩
                rw [hw]
                refine (unhide HM2).mono ?_
                rintro e w2 ⟨u, ok, rfl, hmd, hb2⟩
                exact ⟨(u, ok), rfl, QW.at9 (k0 (k4 (hd ⟨8, .data⟩ (by simp) rfl))) (k4 (hd ⟨8, .data⟩ (by simp) rfl)) (hd ⟨8, .data⟩ (by simp) rfl) hu ⟨hmd, hb2⟩⟩),
              stepC_same (fun c : Value × Bool => .tuple #[c.1, .bool c.2]) nq hs (.inl rfl) rfl rfl (fun _ => rfl) (fun ls a ws c hd hu hc k hW => by
                have e120 := k.eval 9 rfl (hd ⟨9, .data⟩ (by simp) rfl) (v := .tuple #[c.1, .bool c.2]) rfl
                generalize a.eval = ρ at *
                exact ⟨by simp [execOp, go_sem, e120], hW.same (by decide) (by decide) (by decide) (by decide)⟩),
              stepC_same (fun c : Value × Bool => c.1) nq hs (.inl rfl) rfl rfl (fun _ => rfl) (fun ls a ws c hd hu hc k hW => by
                have e110 := k.eval 10 rfl (hd ⟨10, .data⟩ (by simp) rfl) (v := .tuple #[c.1, .bool c.2]) rfl
                generalize a.eval = ρ at *
                exact ⟨by simp [execOp, go_sem, e110], hW.same (by decide) (by decide) (by decide) (by decide)⟩),
              stepC_same (fun c : Value × Bool => .bool c.2) nq hs (.inl rfl) rfl rfl (fun _ => rfl) (fun ls a ws c hd hu hc k hW => by
                have e110 := k.eval 10 rfl (hd ⟨10, .data⟩ (by simp) rfl) (v := .tuple #[c.1, .bool c.2]) rfl
                generalize a.eval = ρ at *
                exact ⟨by simp [execOp, go_sem, e110], hW.same (by decide) (by decide) (by decide) (by decide)⟩),
              stepC_same (fun c : Value × Bool => c.1) nq hs (.inl rfl) rfl rfl (fun _ => rfl) (fun ls a ws c hd hu hc k hW => by
                have e121 := k.eval 11 rfl (hd ⟨11, .data⟩ (by simp) rfl) (v := c.1) rfl
                generalize a.eval = ρ at *
                exact ⟨by simp [execOp, go_sem, e121], hW.same (by decide) (by decide) (by decide) (by decide)⟩),
              stepC_same (fun c : Value × Bool => .bool c.2) nq hs (.inl rfl) rfl rfl (fun _ => rfl) (fun ls a ws c hd hu hc k hW => by
                have e122 := k.eval 12 rfl (hd ⟨12, .data⟩ (by simp) rfl) (v := .bool c.2) rfl
                generalize a.eval = ρ at *
                exact ⟨by simp [execOp, go_sem, e122], hW.same (by decide) (by decide) (by decide) (by decide)⟩), trivial⟩ ?_
            intro c l5 w5 hal hW
            obtain ⟨M2, b5⟩ := hW.s4 (hal 9 (by decide))
            obtain ⟨u2, ok2⟩ := c
            simp only at M2
            have B35 := hide ((unhide B33).trans (b5.mono (unhide B33).size))
            have B5 := hide ((unhide B3).trans ((unhide B35).mono (unhide B3).size))
            have h5 : w3.heap.size ≤ W3.heap.size := (unhide B33).size
            have M2 := hide M2
            clear hal hW nq hs r1 r2 HM2 hml1 hcn hmc b5 B33 hD0
            simp only [fill, List.setIfInBounds_toArray, List.set_cons_succ, List.set_cons_zero]
            rcases unhide hrot with ⟨L, k1, k2, hok, hLm, hLl⟩ | ⟨k1, k2⟩
            · obtain ⟨p1, b1, rfl, rfl, P1, g1, g1'⟩ := (unhide M1).some k1
              obtain ⟨p2, b2, rfl, rfl, P2, g2, g2'⟩ := (unhide M2).some k2
              have hb13 := P1.blt
              have S5 : Hid (ST w p1 b1 p2 b2 r L L w5) := ⟨P1.below (unhide B35), P2, box_go (unhide B35) (unhide E3), unhide B5, by omega, by omega, by omega⟩
              have hno' : ∀ y ∈ L, ¬ keyE y r.n r.b := fun y hy => (unhide hno) y ((hLm y).1 hy)
              have hl24 : L.length < 1024 := by omega
              clear hLl
              have hmore := found_more hok (unhide HRin) (unhide hmay) hl24 hno' hip
              obtain ⟨e0, hlk, hdl, _⟩ := find_more hok (unhide HRin) (unhide hmay) hl24 hno' hip
              have HFA := fun W p b (h : PT W p b L) => find_any h ip hip
              have HA1 := fun W (h : PT W p1 b1 L) => add_at h r (unhide HRin) 0 _ ⟨e0, rfl⟩
              have HFX := fun W (h : PT W p1 b1 (addT r L)) => find_any h ip hip
              have HDR := fun W (h : PT W p1 b1 (addT r L)) => drop_any h r.n r.b (unhide HRin).key
              rw [hlk, hdl] at HDR
              have HIN := fun W => rin_any ip r.n r.b W hip (unhide HRin).n
              simp only [elim_rt] at HFA HFX
              clear e0 hlk hdl hno' hok hLm k1 k2 P1 P2 M1 M2 hrot hno HRin hmay HI
              generalize addT r L = T at *
              generalize (findR ip T).getD RZ = X at *
              generalize (findR ip T).isSome = Y at *
              generalize (findR ip L).getD RZ = R at *
              generalize (findR ip L).isSome = F at *
              generalize inB ip r.n (clip r.b) = I at *
              replace HFA := hide HFA
              replace HA1 := hide HA1
              replace HFX := hide HFX
              replace HDR := hide HDR
              replace HIN := hide HIN
              replace hmore := hide hmore
              have HF1 := hide (unhide HFA _ _ _ (unhide S5).t)
              go_wp2_with fail
              refine (unhide HF1).mono ?_
              rintro e w6 ⟨rfl, b6⟩
              have hqa : w6.heap.size ≠ b1 := by have := (unhide S5).t.blt; have := b6.size; omega
              have b7 := tr2 b6 (below_one w6 (.cells (rtCs R) 32))
              have S7 := hide ((unhide S5).go b7)
              have A7 := hide (heap_alloc_new w6 (.cells (rtCs R) 32))
              clear b6 b7 S5 HF1
              go_upto_region 18 with fail
              generalize w6.alloc (.cells (rtCs R) 32) = w7 at *
              generalize w6.heap.size = qa at *
              have HF2 := hide (unhide HFA _ _ _ (unhide S7).u)
              go_wp2_with fail
              refine (unhide HF2).mono ?_
              rintro e w8 ⟨rfl, b8⟩
              have b9 := tr2 b8 (below_one w8 (.cells (rtCs R) 32))
              have S9 := hide ((unhide S7).go b9)
              have A9 := hide (box_go b9 (unhide A7))
              have C9 := hide (heap_alloc_new w8 (.cells (rtCs R) 32))
              clear b8 b9 S7 A7 HF2
              go_upto_region 19 with fail
              generalize w8.alloc (.cells (rtCs R) 32) = w9 at *
              generalize w8.heap.size = qc at *
              have f0 := cell_of_row _ _ 0 _ _ _ (unhide A9)
              have f1 := cell_of_row _ _ 1 _ _ _ (unhide A9)
              have f2 := cell_of_row _ _ 2 _ _ _ (unhide A9)
              have f3 := cell_of_row _ _ 3 _ _ _ (unhide A9)
              have f4 := cell_of_row _ _ 4 _ _ _ (unhide A9)
              have y0 := cell_of_row _ _ 0 _ _ _ (unhide C9)
              have y1 := cell_of_row _ _ 1 _ _ _ (unhide C9)
              have y2 := cell_of_row _ _ 2 _ _ _ (unhide C9)
              have y3 := cell_of_row _ _ 3 _ _ _ (unhide C9)
              have y4 := cell_of_row _ _ 4 _ _ _ (unhide C9)
              have HL1 := hide (all_any (unhide S9).t)
              go_wp2_with fail
              refine (unhide HL1).mono ?_
              rintro e w10 ⟨sp1, cap1, rfl, hr1, b10⟩
              have S10 := hide ((unhide S9).go b10)
              have A10 := hide (box_go b10 (unhide A9))
              have HL2 := hide (all_any (unhide S10).u)
              have hr1 := hide hr1
              clear b10 HL1 S9 A9 C9 f0 f1 f2 f3 f4 y0 y1 y2 y3 y4
              go_wp2_with fail
              refine (unhide HL2).mono ?_
              rintro e w11 ⟨sp2, cap2, rfl, hr2, b11⟩
              have hsm := same_any ((unhide hr1).below b11) hr2 (by omega)
              rw [decide_eq_true rfl] at hsm
              have HSM := hide hsm
              have S11 := hide ((unhide S10).go b11)
              have A11 := hide (box_go b11 (unhide A10))
              clear hsm hr2 b11 HL2 S10 A10
              go_wp2_with fail
              refine (unhide HSM).mono ?_
              rintro e w12 ⟨rfl, b12⟩
              have S12 := hide ((unhide S11).go b12)
              have A12 := hide (box_go b12 (unhide A11))
              have HA := hide (unhide HA1 _ (unhide S12).t)
              have q0 := cell_of_row _ _ 0 _ _ _ (unhide S12).box
              have q1 := cell_of_row _ _ 1 _ _ _ (unhide S12).box
              have q2 := cell_of_row _ _ 2 _ _ _ (unhide S12).box
              have q3 := cell_of_row _ _ 3 _ _ _ (unhide S12).box
              have q4 := cell_of_row _ _ 4 _ _ _ (unhide S12).box
              clear b12 HSM S11 A11
              go_wp2_with fail
              refine (unhide HA).mono ?_
              rintro e w13 ⟨rfl, P13, g13⟩
              have S13 := hide ((unhide S12).turn P13 g13)
              have A13 := hide (box_turn g13 (unhide A12) hqa)
              have HF3 := hide (unhide HFX _ (unhide S13).t)
              clear P13 g13 S12 A12 HA q0 q1 q2 q3 q4
              go_wp2_with fail
              refine (unhide HF3).mono ?_
              rintro e w14 ⟨rfl, b14⟩
              have b15 := tr2 b14 (below_one w14 (.cells (rtCs X) 32))
              have S15 := hide ((unhide S13).go b15)
              have A15 := hide (box_go b15 (unhide A13))
              have X15 := hide (heap_alloc_new w14 (.cells (rtCs X) 32))
              clear b14 b15 S13 A13 HF3
              go_upto_region 24 with fail
              generalize w14.alloc (.cells (rtCs X) 32) = w15 at *
              generalize w14.heap.size = qx at *
              have q0 := cell_of_row _ _ 0 _ _ _ (unhide S15).box
              have q1 := cell_of_row _ _ 1 _ _ _ (unhide S15).box
              have q2 := cell_of_row _ _ 2 _ _ _ (unhide S15).box
              have q3 := cell_of_row _ _ 3 _ _ _ (unhide S15).box
              have q4 := cell_of_row _ _ 4 _ _ _ (unhide S15).box
              have f0 := cell_of_row _ _ 0 _ _ _ (unhide A15)
              have f1 := cell_of_row _ _ 1 _ _ _ (unhide A15)
              have f2 := cell_of_row _ _ 2 _ _ _ (unhide A15)
              have f3 := cell_of_row _ _ 3 _ _ _ (unhide A15)
              have f4 := cell_of_row _ _ 4 _ _ _ (unhide A15)
              have x0 := cell_of_row _ _ 0 _ _ _ (unhide X15)
              have x1 := cell_of_row _ _ 1 _ _ _ (unhide X15)
              have x2 := cell_of_row _ _ 2 _ _ _ (unhide X15)
              have x3 := cell_of_row _ _ 3 _ _ _ (unhide X15)
              have x4 := cell_of_row _ _ 4 _ _ _ (unhide X15)
              cases I with
              | false =>
                obtain ⟨rfl, rfl⟩ := (unhide hmore).2 (fun h => by cases h.1)
                go_wp2_with fail
                refine (unhide HIN _).mono ?_
                rintro e w16 ⟨rfl, rfl⟩
                have HD := hide (unhide HDR _ (unhide S15).t)
                go_wp2_with fail
                refine (unhide HD).mono ?_
                rintro e w17 ⟨rfl, P17, g17⟩
                have S17 := hide ((unhide S15).turn P17 g17)
                have HL3 := hide (all_any (unhide S17).t)
                clear HD P17 g17 S15 A15 X15 q0 q1 q2 q3 q4 f0 f1 f2 f3 f4 x0 x1 x2 x3 x4
                go_wp2_with fail
                refine (unhide HL3).mono ?_
                rintro e w18 ⟨sp3, cap3, rfl, hr3, b18⟩
                have S18 := hide ((unhide S17).go b18)
                have HL4 := hide (all_any (unhide S18).u)
                have hr3 := hide hr3
                clear b18 HL3 S17
                go_wp2_with fail
                refine (unhide HL4).mono ?_
                rintro e w19 ⟨sp4, cap4, rfl, hr4, b19⟩
                have hsm2 := same_any ((unhide hr3).below b19) hr4 (by omega)
                rw [decide_eq_true rfl] at hsm2
                have HSM2 := hide hsm2
                have S19 := hide ((unhide S18).go b19)
                clear hsm2 hr4 b19 HL4 S18
                go_wp2_with fail
                refine (unhide HSM2).mono ?_
                rintro e w20 ⟨rfl, b20⟩
                have B20 := hide ((unhide S19).go b20).bel
                clear b20 HSM2 S19
                go_wp2_with fail
                refine (unhide HX _).mono ?_
                rintro e w21 ⟨rfl, b21⟩
                have BF := hide ((unhide B20).trans (b21.mono (unhide B20).size))
                clear b21 B20
                go_wp2_with fail
                go_ret
                exact ⟨rfl, unhide BF⟩
              | true =>
                cases F with
                | false =>
                  obtain ⟨rfl, rfl⟩ := (unhide hmore).1 ⟨rfl, .inl rfl⟩
                  go_wp2_with fail
                  refine (unhide HIN _).mono ?_
                  rintro e w16 ⟨rfl, rfl⟩
                  have HD := hide (unhide HDR _ (unhide S15).t)
                  go_wp2_with fail
                  refine (unhide HD).mono ?_
                  rintro e w17 ⟨rfl, P17, g17⟩
                  have S17 := hide ((unhide S15).turn P17 g17)
                  have HL3 := hide (all_any (unhide S17).t)
                  clear HD P17 g17 S15 A15 X15 q0 q1 q2 q3 q4 f0 f1 f2 f3 f4 x0 x1 x2 x3 x4
                  go_wp2_with fail
                  refine (unhide HL3).mono ?_
                  rintro e w18 ⟨sp3, cap3, rfl, hr3, b18⟩
                  have S18 := hide ((unhide S17).go b18)
                  have HL4 := hide (all_any (unhide S18).u)
                  have hr3 := hide hr3
                  clear b18 HL3 S17
                  go_wp2_with fail
                  refine (unhide HL4).mono ?_
                  rintro e w19 ⟨sp4, cap4, rfl, hr4, b19⟩
                  have hsm2 := same_any ((unhide hr3).below b19) hr4 (by omega)
                  rw [decide_eq_true rfl] at hsm2
                  have HSM2 := hide hsm2
                  have S19 := hide ((unhide S18).go b19)
                  clear hsm2 hr4 b19 HL4 S18
                  go_wp2_with fail
                  refine (unhide HSM2).mono ?_
                  rintro e w20 ⟨rfl, b20⟩
                  have B20 := hide ((unhide S19).go b20).bel
                  clear b20 HSM2 S19
                  go_wp2_with fail
                  refine (unhide HX _).mono ?_
                  rintro e w21 ⟨rfl, b21⟩
                  have BF := hide ((unhide B20).trans (b21.mono (unhide B20).size))
                  clear b21 B20
                  go_wp2_with fail
                  go_ret
                  exact ⟨rfl, unhide BF⟩
                | true =>
                  by_cases hbb : R.b < r.b
                  · have dbb : decide (R.b < r.b) = true := decide_eq_true hbb
                    obtain ⟨rfl, rfl⟩ := (unhide hmore).1 ⟨rfl, .inr hbb⟩
                    clear hbb
                    go_wp2_with fail
                    refine (unhide HIN _).mono ?_
                    rintro e w16 ⟨rfl, rfl⟩
                    have HD := hide (unhide HDR _ (unhide S15).t)
                    go_wp2_with fail
                    refine (unhide HD).mono ?_
                    rintro e w17 ⟨rfl, P17, g17⟩
                    have S17 := hide ((unhide S15).turn P17 g17)
                    have HL3 := hide (all_any (unhide S17).t)
                    clear HD P17 g17 S15 A15 X15 q0 q1 q2 q3 q4 f0 f1 f2 f3 f4 x0 x1 x2 x3 x4
                    go_wp2_with fail
                    refine (unhide HL3).mono ?_
                    rintro e w18 ⟨sp3, cap3, rfl, hr3, b18⟩
                    have S18 := hide ((unhide S17).go b18)
                    have HL4 := hide (all_any (unhide S18).u)
                    have hr3 := hide hr3
                    clear b18 HL3 S17
                    go_wp2_with fail
                    refine (unhide HL4).mono ?_
                    rintro e w19 ⟨sp4, cap4, rfl, hr4, b19⟩
                    have hsm2 := same_any ((unhide hr3).below b19) hr4 (by omega)
                    rw [decide_eq_true rfl] at hsm2
                    have HSM2 := hide hsm2
                    have S19 := hide ((unhide S18).go b19)
                    clear hsm2 hr4 b19 HL4 S18
                    go_wp2_with fail
                    refine (unhide HSM2).mono ?_
                    rintro e w20 ⟨rfl, b20⟩
                    have B20 := hide ((unhide S19).go b20).bel
                    clear b20 HSM2 S19
                    go_wp2_with fail
                    refine (unhide HX _).mono ?_
                    rintro e w21 ⟨rfl, b21⟩
                    have BF := hide ((unhide B20).trans (b21.mono (unhide B20).size))
                    clear b21 B20
                    go_wp2_with fail
                    go_ret
                    exact ⟨rfl, unhide BF⟩
                  · have dbb : decide (R.b < r.b) = false := decide_eq_false hbb
                    obtain ⟨rfl, rfl⟩ := (unhide hmore).2 (fun h => by
                      rcases h.2 with h | h
                      · cases h
                      · exact hbb h)
                    clear hbb
                    go_wp2_with fail
                    refine (unhide HIN _).mono ?_
                    rintro e w16 ⟨rfl, rfl⟩
                    have HD := hide (unhide HDR _ (unhide S15).t)
                    go_wp2_with fail
                    refine (unhide HD).mono ?_
                    rintro e w17 ⟨rfl, P17, g17⟩
                    have S17 := hide ((unhide S15).turn P17 g17)
                    have HL3 := hide (all_any (unhide S17).t)
                    clear HD P17 g17 S15 A15 X15 q0 q1 q2 q3 q4 f0 f1 f2 f3 f4 x0 x1 x2 x3 x4
                    go_wp2_with fail
                    refine (unhide HL3).mono ?_
                    rintro e w18 ⟨sp3, cap3, rfl, hr3, b18⟩
                    have S18 := hide ((unhide S17).go b18)
                    have HL4 := hide (all_any (unhide S18).u)
                    have hr3 := hide hr3
                    clear b18 HL3 S17
                    go_wp2_with fail
                    refine (unhide HL4).mono ?_
                    rintro e w19 ⟨sp4, cap4, rfl, hr4, b19⟩
                    have hsm2 := same_any ((unhide hr3).below b19) hr4 (by omega)
                    rw [decide_eq_true rfl] at hsm2
                    have HSM2 := hide hsm2
                    have S19 := hide ((unhide S18).go b19)
                    clear hsm2 hr4 b19 HL4 S18
                    go_wp2_with fail
                    refine (unhide HSM2).mono ?_
                    rintro e w20 ⟨rfl, b20⟩
                    have B20 := hide ((unhide S19).go b20).bel
                    clear b20 HSM2 S19
                    go_wp2_with fail
                    refine (unhide HX _).mono ?_
                    rintro e w21 ⟨rfl, b21⟩
                    have BF := hide ((unhide B20).trans (b21.mono (unhide B20).size))
                    clear b21 B20
                    go_wp2_with fail
                    go_ret
                    exact ⟨rfl, unhide BF⟩
            · obtain ⟨rfl, rfl⟩ := (unhide M1).none k1
              obtain ⟨rfl, rfl⟩ := (unhide M2).none k2
              clear M1 M2 hrot k1 k2
              go_wp2_with fail
              refine (unhide HX _).mono ?_
              rintro e w9 ⟨rfl, b9⟩
              have BF := hide ((unhide B5).trans (b9.mono (unhide B5).size))
              clear b9
              go_wp2_with fail
              go_ret
              exact ⟨rfl, unhide BF⟩
      · rw [decide_eq_false hmay] at HME
        clear hmay
        go_enter Try.func5, Try.ntmps5
        go_wp2_with fail
        refine (unhide HME _).mono ?_
        rintro e w2 ⟨rfl, b2⟩
        have B2 := hide ((unhide B0).trans (b2.mono (unhide B0).size))
        clear b2 HME B0
        go_wp2_with fail
        refine (unhide HX _).mono ?_
        rintro e w9 ⟨rfl, b9⟩
        have BF := hide ((unhide B2).trans (b9.mono (unhide B2).size))
        clear b9
        go_wp2_with fail
        go_ret
        exact ⟨rfl, unhide BF⟩
  · have d0 : decide ((100 : Int) < (l.length : Int)) = true := decide_eq_true (by omega)
    clear h100
    go_enter Try.func5, Try.ntmps5
    go_wp2_with fail
    refine (unhide HX _).mono ?_
    rintro e w9 ⟨rfl, b9⟩
    have BF := hide ((unhide B0).trans (b9.mono (unhide B0).size))
    clear b9
    go_wp2_with fail
    go_ret
    exact ⟨rfl, unhide BF⟩
end Go.Proofs.Ytmicgkoicmeflaa
