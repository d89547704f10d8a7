/- The walk of the law GatherBounds, over the loaded program. -/
import Derived.Test.YtekljiakofmhnaaAl13
import Derived.Test.YtekljiakofmhnaaGb0
import Derived.Test.YtekljiakofmhnaaGb3
namespace Go.Proofs.Ytekljiakofmhnaa
open Go.RowKit Go.Shelf

/-- between the law's rounds -/
structure GbI (No : Nat → Prop) (B : Nat) (W1 : World) (L : List Cl) (p b : Nat) (c : Cf) (k : Nat) (nw : Int) (wr : World) : Prop where
  le : k ≤ L.length
  n0 : 0 ≤ nw
  n1 : nw ≤ (k : Int) * 1073741824
  st : ∃ Lg last, GQ No wr p b c Lg last ∧ WF c Lg last ∧ FromE c (hist (L.take k)) last Lg ∧ last ≤ nw
  bl : Below B W1 wr
theorem heldE_nil : heldE [] = 0 := rfl
theorem cls_cells {w : World} {g off k : Nat} {x : Cl} (hc : ∀ j v, (clCs x)[j]? = some v → w.cell? ⟨g, off + k * 13 + j, none⟩ = some v) :
    w.cell? ⟨g, off + k * 13 + 1, none⟩ = some (.int .u8 (x.h.tos : Int)) ∧ w.cell? ⟨g, off + k * 13 + 1 + 1, none⟩ = some (.int .u16 (x.h.id : Int)) ∧ w.cell? ⟨g, off + k * 13 + 1 + 2, none⟩ = some (.bool x.h.hold) ∧ w.cell? ⟨g, off + k * 13 + 1 + 3, none⟩ = some (.bool x.h.more) ∧ w.cell? ⟨g, off + k * 13 + 1 + 4, none⟩ = some (.int .i64 x.h.at') ∧ w.cell? ⟨g, off + k * 13 + 1 + 5, none⟩ = some (.int .u8 (x.h.ttl : Int)) ∧ w.cell? ⟨g, off + k * 13 + 1 + 6, none⟩ = some (.int .u8 (x.h.proto : Int)) ∧ w.cell? ⟨g, off + k * 13 + 1 + 7, none⟩ = some (.int .u32 (x.h.frm : Int)) ∧ w.cell? ⟨g, off + k * 13 + 1 + 8, none⟩ = some (.int .u32 (x.h.to : Int)) ∧ w.cell? ⟨g, off + k * 13 + 1 + 9, none⟩ = some (.string x.h.op) ∧ w.cell? ⟨g, off + k * 13 + 11, none⟩ = some (.string x.s) := by
  have hd := head_cells hc
  exact ⟨hd 0 _ rfl, hd 1 _ rfl, hd 2 _ rfl, hd 3 _ rfl, hd 4 _ rfl, hd 5 _ rfl, hd 6 _ rfl, hd 7 _ rfl, hd 8 _ rfl, hd 9 _ rfl, hc 11 _ rfl⟩

set_option maxRecDepth 100000 in
set_option maxHeartbeats 8000000 in
theorem gatherBounds_walk (v : Value) (cv : Cv) (sv : Value) (L : List Cl) (w : World) (hv : IsGc v cv) (hL : IsCls w sv L) (hlen : L.length ≤ 9223372036854775807) (_ : True) (hsz : ∀ x ∈ L, x.s.size ≤ 140737488355328 ∧ x.h.op.size ≤ 140737488355328) :
    Calls Try.prog 3 #[v, sv] w fun e w' => e = .returned (.bool true) ∧ Below w.heap.size w w' := by
  obtain ⟨rfl, wf1, wf2, wf3, wf4⟩ := hv
  have HA := hide alive_any
  have B0 := below_one w (.cells (cvL cv) 23)
  have EA := heap_alloc_new w (.cells (cvL cv) 23)
  have hcls := hL.1.on B0
  have HIN := hide hL.2
  have hz0 : w.heap.size < (w.alloc (.cells (cvL cv) 23)).heap.size := by simp
  obtain ⟨W1, hW1⟩ : ∃ W1, W1 = w.alloc (.cells (cvL cv) 23) := ⟨_, rfl⟩
  rw [← hW1] at B0 EA hcls hz0
  have hwL := hL.1.slice
  have HB0 := hide B0
  have HEA := hide EA
  have HCV := hide hcls
  have HZ := hide hsz
  have HZ0 := hide hz0
  obtain ⟨a, cap, rfl⟩ := hwL
  clear hL B0 EA hcls hsz hz0
  go_enter Try.func3, Try.ntmps3
  go_upto_region 1 with fail
  rw [← hW1]
  clear hW1
  have e0 := cell_of_row _ _ 0 _ _ _ (unhide HEA)
  have e1 := cell_of_row _ _ 1 _ _ _ (unhide HEA)
  have e2 := cell_of_row _ _ 2 _ _ _ (unhide HEA)
  have e3 := cell_of_row _ _ 3 _ _ _ (unhide HEA)
  rcases gc_cases (c := cv) wf3 with ⟨c, hok, rfl⟩ | hno
  case inr =>
    have HN := hide (new_no cv hno W1)
    clear hno
    go_wp2_with fail
    refine (unhide HN).mono ?_
    rintro e w2 ⟨rfl, b2⟩
    have HH := hide (heavy_any _ L w2 ((unhide HCV).on b2) hlen (unhide HZ))
    have B2 := hide (tr2 (unhide HB0) b2)
    clear HN b2 HCV e0 e1 e2 e3
    go_wp2_with fail
    refine (unhide HH).mono ?_
    rintro e w3 ⟨⟨r, rfl, -⟩, b3⟩
    have B3 := hide (tr2 (unhide B2) b3)
    clear B2 b3 HH
    cases r
    all_goals
      go_wp2_with fail
      refine (unhide HA _).mono ?_
      rintro e w4 ⟨rfl, b4⟩
      go_wp2_with fail
      go_ret
      exact ⟨rfl, tr2 (unhide B3) b4⟩
  case inl =>
    have HN := hide (new_ok c hok W1)
    go_wp2_with fail
    refine (unhide HN).mono ?_
    rintro e w2 ⟨p, b, rfl, g2, b2, hp2, hb2⟩
    have HH := hide (heavy_any _ L w2 ((unhide HCV).on b2) hlen (unhide HZ))
    have B2 := hide b2
    have G2 := hide g2
    clear HN b2 g2 hp2 hb2 e0 e1 e2 e3
    go_wp2_with fail
    refine (unhide HH).mono ?_
    rintro e w3 ⟨⟨r, rfl, hr⟩, b3⟩
    have G3 := hide ((unhide G2).below b3)
    have B3 := hide (tr2 (unhide B2) b3)
    clear B2 G2 b3 HH
    cases r with
    | true =>
      go_wp2_with fail
      refine (unhide HA _).mono ?_
      rintro e w4 ⟨rfl, b4⟩
      go_wp2_with fail
      go_ret
      exact ⟨rfl, tr2 (tr2 (unhide HB0) (unhide B3)) b4⟩
    | false =>
      obtain ⟨h100, hsm⟩ := hr rfl
      have HSM := hide hsm
      have mixed : Try.prog.follows .mixedOrders = true := by kernel_rfl
      have I0 : GbI (fun i => i < W1.heap.size) W1.heap.size W1 L p b c 0 0 w3 := ⟨Nat.zero_le _, Int.le_refl _, by simp, ⟨[], 0, ⟨_, unhide G3⟩, ⟨hok, by simp, by simp, by simp, by simp, by rw [heldE_nil]; exact Nat.zero_le _, Int.le_refl _, by decide⟩, fun e he => (by cases he), Int.le_refl _⟩, unhide B3⟩
      have HI0 := hide I0
      clear I0 G3 B3 hr hsm HZ
      go_wp2_with fail
      go_loopw [7, 8] (fun n i wr => ∃ (k : Nat) (nw : Int), i = .int .i64 (k : Int) ∧ n = .int .i64 nw ∧ Hid (GbI (fun i => i < W1.heap.size) W1.heap.size W1 L p b c k nw wr)) (fun _ i _ => L.length - (intOf i).toNat)
      case atStart => exact ⟨0, 0, rfl, rfl, HI0⟩
      case round =>
        clear HI0
        obtain ⟨k, nw, rfl, rfl, hI⟩ := hrel
        have hle := (unhide hI).le
        by_cases hlt : k < L.length
        · obtain ⟨x, hx⟩ : ∃ x, L[k]? = some x := ⟨_, List.getElem?_eq_getElem hlt⟩
          have hB := (unhide hI).bl
          have hn0 := (unhide hI).n0
          have hn1 := (unhide hI).n1
          obtain ⟨g, off, rfl, -, hcap, hmx, hg, hc⟩ := (unhide HCV).at hx
          have HCW := hide (fun (W : World) (b : Below W1.heap.size W1 W) (j : Nat) (v : Value) (hj : (clCs x)[j]? = some v) => (b.cell (p := ⟨g, off + k * 13 + j, none⟩) hg).trans (hc j v hj))
          have cb : wr.cell? ⟨g, off + k * 13 + 12, none⟩ = some (.int .i64 x.by') := unhide HCW wr hB 12 _ rfl
          have cd : wr.cell? ⟨g, off + k * 13, none⟩ = some (.int .u8 (x.d : Int)) := unhide HCW wr hB 0 _ rfl
          have hxm := List.mem_of_getElem? hx
          have t1 := Int.lt_tmod_of_pos x.by' (show (0 : Int) < 1073741824 by decide)
          have t2 := Int.tmod_lt_of_pos x.by' (show (0 : Int) < 1073741824 by decide)
          generalize htm : x.by'.tmod 1073741824 = tm at *
          have x1 : wrap64 (nw + tm) = nw + tm := by unfold wrap64; omega
          have HX0 := hide hx
          clear hc hx
          have HXB := hide hB
          have HNB := hide (And.intro hn0 hn1)
          have HTB := hide (And.intro t1 t2)
          clear hn0 hn1 t1 t2
          go_upto_region 9 with fail
          have hn2 : 0 ≤ max nw (nw + tm) ∧ nw ≤ max nw (nw + tm) ∧ max nw (nw + tm) ≤ ((k : Int) + 1) * 1073741824 := by
            have := unhide HNB
            have := unhide HTB
            omega
          clear HTB HNB x1 cb htm
          generalize max nw (nw + tm) = nw2 at *
          obtain ⟨Lg, last, ⟨o, gx⟩, wf, fr, hll⟩ := (unhide hI).st
          by_cases hd6 : x.d % 6 = 5
          · have hd : ((x.d : Int) % 6 == 5) = true := by simp; omega
            have HD := hide hd6
            have hct : nw2 = cntT last nw2 := by unfold cntT; omega
            have HT := hide (tick_any gx wf nw2 nw2 hct _ rfl)
            have wf2 := wf_dropn (wf.now nw2) (tickN nw2 Lg)
            rw [← hct] at wf2
            have fr2 := (fr.mono (fun _ h => h) (show last ≤ nw2 by omega)).drop (tickN nw2 Lg)
            rw [← hist_tick (unhide HX0) hd6] at fr2
            have HTF := hide (fun e r => tick_first (t := nw2) (L := Lg) (e := e) (r := r))
            have HW17 := hide wf2
            have HF17 := hide fr2
            have hBs := hide hB.size
            have HN2 := hide hn2
            clear wf fr wf2 fr2 gx hd6 hct hll hn2
            go_wp2_with fail
            refine (unhide HT).mono ?_
            rintro e w4 ⟨vv, rfl, -, ⟨o4, g4⟩, ks4⟩
            obtain ⟨L17, hL17⟩ : ∃ L17, Lg.drop (tickN nw2 Lg) = L17 := ⟨_, rfl⟩
            rw [hL17] at g4 HW17 HF17 HTF
            have B4 := hide (hB.trans (ks4.below (B := W1.heap.size) (unhide hBs) (fun i hi => hi)))
            clear HT ks4 hL17 hBs hd cd hB
            have hn2 := unhide HN2
            clear HN2
            cases L17 with
            | nil =>
              have HN := hide (next_empty g4)
              have HG4 := hide g4
              clear g4
              go_wp2_with fail
              refine (unhide HN).mono ?_
              rintro e W17 ⟨rfl, b5⟩
              have HB17 := hide ((unhide B4).trans (b5.mono (unhide B4).size))
              have HG17 := hide ((unhide HG4).below b5)
              clear HN HG4 b5 B4
              obtain ⟨L17, hL17⟩ : ∃ L17 : List En, L17 = [] := ⟨_, rfl⟩
              rw [← hL17] at HG17 HW17 HF17
              obtain ⟨t17, ht17⟩ : ∃ t17, t17 = nw2 := ⟨_, rfl⟩
              rw [← ht17] at HG17 HW17 HF17
              have HL17 : Hid (t17 ≤ nw2) := hide (by omega)
              obtain ⟨o17, ho17⟩ : ∃ o17, o17 = o4 := ⟨_, rfl⟩
              rw [← ho17] at HG17
              clear hL17 ht17 ho17 HTF
              go_wp2_with fail
              as_aux_lemma =>
                have G17 := unhide HG17
                have c0 : W17.cell? ⟨w.heap.size, 0, none⟩ = some (.int .i64 (c.most : Int)) := ((unhide HB17).cell (p := ⟨w.heap.size, 0, none⟩) (unhide HZ0)).trans (cell_of_row _ _ 0 _ _ _ (unhide HEA))
                have c1 : W17.cell? ⟨w.heap.size, 1, none⟩ = some (.int .i64 (c.byt : Int)) := ((unhide HB17).cell (p := ⟨w.heap.size, 1, none⟩) (unhide HZ0)).trans (cell_of_row _ _ 1 _ _ _ (unhide HEA))
                have r0 := cell_regrown c0
                have r1 := cell_regrown c1
                have hlen17 : ∀ d os, Calls Try.prog 12 #[.pointer (some ⟨p, 0, none⟩)] (Sort.grow (redrawn W17 d) os) fun x w'' => x = .returned (.int .i64 (L17.length : Int)) ∧ ∃ q : Regrown, w'' = Sort.grow (redrawn W17 q.d) q.os := fun d os => Calls.regrown_of ((len_any p b L17 _ ((G17.below (below_regrown W17 d os)).cell rfl) (G17.below (below_regrown W17 d os)).map).mono (fun x w'' h => ⟨h.1, by rw [h.2]; exact Below.refl _ _⟩))
                have hheld17 : ∀ d os, Calls Try.prog 13 #[.pointer (some ⟨p, 0, none⟩)] (Sort.grow (redrawn W17 d) os) fun x w'' => x = .returned (.int .i64 ((heldE L17 : Nat) : Int)) ∧ ∃ q : Regrown, w'' = Sort.grow (redrawn W17 q.d) q.os := fun d os => Calls.regrown_of ((held_any p b _ _ ((G17.below (below_regrown W17 d os)).cell rfl) ((G17.below (below_regrown W17 d os)).cell rfl)).mono (fun x w'' h => ⟨h.1, by rw [h.2]; exact Below.refl _ _⟩))
                have d1 : decide ((c.most : Int) < (L17.length : Int)) = false := decide_eq_false (by have := (unhide HW17).len; omega)
                have d2 : decide ((c.byt : Int) < ((heldE L17 : Nat) : Int)) = false := decide_eq_false (by have := (unhide HW17).held; omega)
                have d1n : decide (c.most < L17.length) = false := decide_eq_false (by have := (unhide HW17).len; omega)
                have d2n : decide (c.byt < heldE L17) = false := decide_eq_false (by have := (unhide HW17).held; omega)
                clear c0 c1
                by_cases hz : L17.length = 0
                · have d3 : ((L17.length : Int) == 0) = true := by simp [hz]
                  have d4 : (((heldE L17 : Nat) : Int) != 0) = false := by
                    rw [List.eq_nil_of_length_eq_zero hz]
                    rfl
                  clear hz
                  go_wp2_with fail
                  refine wp_region_quiet_below (by kernel_rfl) (by kernel_rfl) ?_
                  repeat (go_big_quiet_step (fail))
                  go_big_quiet_step (exact hlen17 _ _)
                  repeat (go_big_quiet_step (fail))
                  go_big_quiet_step (exact hheld17 _ _)
                  repeat (go_big_quiet_step (fail))
                  go_big_quiet_step (exact hlen17 _ _)
                  repeat (go_big_quiet_step (fail))
                  go_big_quiet_step (exact hheld17 _ _)
                  repeat (go_big_quiet_step (fail))
                  refine wpQuiet_nil ?_
                  intro _ hw'
                  obtain ⟨⟨dq, osq⟩, hw''⟩ := hw'
                  subst hw''
                  have BW := below_regrown W17 dq osq
                  have HN17 := hide (⟨by omega, by omega, by omega, ⟨L17, t17, ⟨o17, G17.below BW⟩, unhide HW17, unhide HF17, unhide HL17⟩, (unhide HB17).trans (BW.mono (unhide HB17).size)⟩ : GbI (fun i => i < W1.heap.size) W1.heap.size W1 L p b c (k + 1) nw2 (Sort.grow (redrawn W17 dq) osq))
                  clear r0 r1 hlen17 hheld17 d1 d2 d1n d2n d3 d4 BW
                  go_wp2_with fail
                  go_roundw
                  case rel => exact ⟨k + 1, nw2, by go_num, rfl, HN17⟩
                  case measure => simp [intOf]; omega
                · have d3 : ((L17.length : Int) == 0) = false := by simpa using hz
                  clear hz
                  go_wp2_with fail
                  refine wp_region_quiet_below (by kernel_rfl) (by kernel_rfl) ?_
                  repeat (go_big_quiet_step (fail))
                  go_big_quiet_step (exact hlen17 _ _)
                  repeat (go_big_quiet_step (fail))
                  go_big_quiet_step (exact hheld17 _ _)
                  repeat (go_big_quiet_step (fail))
                  go_big_quiet_step (exact hlen17 _ _)
                  repeat (go_big_quiet_step (fail))
                  refine wpQuiet_nil ?_
                  intro _ hw'
                  obtain ⟨⟨dq, osq⟩, hw''⟩ := hw'
                  subst hw''
                  have BW := below_regrown W17 dq osq
                  have HN17 := hide (⟨by omega, by omega, by omega, ⟨L17, t17, ⟨o17, G17.below BW⟩, unhide HW17, unhide HF17, unhide HL17⟩, (unhide HB17).trans (BW.mono (unhide HB17).size)⟩ : GbI (fun i => i < W1.heap.size) W1.heap.size W1 L p b c (k + 1) nw2 (Sort.grow (redrawn W17 dq) osq))
                  clear r0 r1 hlen17 hheld17 d1 d2 d1n d2n d3 BW
                  go_wp2_with fail
                  go_roundw
                  case rel => exact ⟨k + 1, nw2, by go_num, rfl, HN17⟩
                  case measure => simp [intOf]; omega
            | cons e4 r4 =>
              have ho1 := unhide HTF e4 r4 rfl
              have ho2 := (unhide HF17 e4 (by simp)).ov
              have HN := hide (next_any g4 (k := e4.k) (r := r4.map (·.k)) rfl ((unhide HW17).kin e4 (by simp)) (look_first e4 r4))
              have HG4 := hide g4
              have hok1 := hok.t1
              have hok0 := hok.t0
              generalize hov : e4.a.ov = ov at *
              have d1 : decide (ov ≤ nw2) = false := decide_eq_false (by omega)
              have d2 : decide (nw2 + (c.tm : Int) < ov) = false := decide_eq_false (by omega)
              have x2 : wrap64 (nw2 + (c.tm : Int)) = nw2 + (c.tm : Int) := by unfold wrap64; omega
              clear g4 ho1 ho2 hov hok1 hok0
              go_wp2_with fail
              refine (unhide HN).mono ?_
              rintro e W17 ⟨rfl, b5⟩
              have HB17 := hide ((unhide B4).trans (b5.mono (unhide B4).size))
              have HG17 := hide ((unhide HG4).below b5)
              have c3 : W17.cell? ⟨w.heap.size, 3, none⟩ = some (.int .i64 (c.tm : Int)) := ((unhide HB17).cell (p := ⟨w.heap.size, 3, none⟩) (unhide HZ0)).trans (cell_of_row _ _ 3 _ _ _ (unhide HEA))
              clear HN HG4 b5 B4
              obtain ⟨L17, hL17⟩ : ∃ L17, L17 = e4 :: r4 := ⟨_, rfl⟩
              rw [← hL17] at HG17 HW17 HF17
              obtain ⟨t17, ht17⟩ : ∃ t17, t17 = nw2 := ⟨_, rfl⟩
              rw [← ht17] at HG17 HW17 HF17
              have HL17 : Hid (t17 ≤ nw2) := hide (by omega)
              obtain ⟨o17, ho17⟩ : ∃ o17, o17 = o4 := ⟨_, rfl⟩
              rw [← ho17] at HG17
              clear hL17 ht17 ho17 HTF
              go_wp2_with fail
              clear d1 d2 x2 c3
              as_aux_lemma =>
                have G17 := unhide HG17
                have c0 : W17.cell? ⟨w.heap.size, 0, none⟩ = some (.int .i64 (c.most : Int)) := ((unhide HB17).cell (p := ⟨w.heap.size, 0, none⟩) (unhide HZ0)).trans (cell_of_row _ _ 0 _ _ _ (unhide HEA))
                have c1 : W17.cell? ⟨w.heap.size, 1, none⟩ = some (.int .i64 (c.byt : Int)) := ((unhide HB17).cell (p := ⟨w.heap.size, 1, none⟩) (unhide HZ0)).trans (cell_of_row _ _ 1 _ _ _ (unhide HEA))
                have r0 := cell_regrown c0
                have r1 := cell_regrown c1
                have hlen17 : ∀ d os, Calls Try.prog 12 #[.pointer (some ⟨p, 0, none⟩)] (Sort.grow (redrawn W17 d) os) fun x w'' => x = .returned (.int .i64 (L17.length : Int)) ∧ ∃ q : Regrown, w'' = Sort.grow (redrawn W17 q.d) q.os := fun d os => Calls.regrown_of ((len_any p b L17 _ ((G17.below (below_regrown W17 d os)).cell rfl) (G17.below (below_regrown W17 d os)).map).mono (fun x w'' h => ⟨h.1, by rw [h.2]; exact Below.refl _ _⟩))
                have hheld17 : ∀ d os, Calls Try.prog 13 #[.pointer (some ⟨p, 0, none⟩)] (Sort.grow (redrawn W17 d) os) fun x w'' => x = .returned (.int .i64 ((heldE L17 : Nat) : Int)) ∧ ∃ q : Regrown, w'' = Sort.grow (redrawn W17 q.d) q.os := fun d os => Calls.regrown_of ((held_any p b _ _ ((G17.below (below_regrown W17 d os)).cell rfl) ((G17.below (below_regrown W17 d os)).cell rfl)).mono (fun x w'' h => ⟨h.1, by rw [h.2]; exact Below.refl _ _⟩))
                have d1 : decide ((c.most : Int) < (L17.length : Int)) = false := decide_eq_false (by have := (unhide HW17).len; omega)
                have d2 : decide ((c.byt : Int) < ((heldE L17 : Nat) : Int)) = false := decide_eq_false (by have := (unhide HW17).held; omega)
                have d1n : decide (c.most < L17.length) = false := decide_eq_false (by have := (unhide HW17).len; omega)
                have d2n : decide (c.byt < heldE L17) = false := decide_eq_false (by have := (unhide HW17).held; omega)
                clear c0 c1
                by_cases hz : L17.length = 0
                · have d3 : ((L17.length : Int) == 0) = true := by simp [hz]
                  have d4 : (((heldE L17 : Nat) : Int) != 0) = false := by
                    rw [List.eq_nil_of_length_eq_zero hz]
                    rfl
                  clear hz
                  go_wp2_with fail
                  refine wp_region_quiet_below (by kernel_rfl) (by kernel_rfl) ?_
                  repeat (go_big_quiet_step (fail))
                  go_big_quiet_step (exact hlen17 _ _)
                  repeat (go_big_quiet_step (fail))
                  go_big_quiet_step (exact hheld17 _ _)
                  repeat (go_big_quiet_step (fail))
                  go_big_quiet_step (exact hlen17 _ _)
                  repeat (go_big_quiet_step (fail))
                  go_big_quiet_step (exact hheld17 _ _)
                  repeat (go_big_quiet_step (fail))
                  refine wpQuiet_nil ?_
                  intro _ hw'
                  obtain ⟨⟨dq, osq⟩, hw''⟩ := hw'
                  subst hw''
                  have BW := below_regrown W17 dq osq
                  have HN17 := hide (⟨by omega, by omega, by omega, ⟨L17, t17, ⟨o17, G17.below BW⟩, unhide HW17, unhide HF17, unhide HL17⟩, (unhide HB17).trans (BW.mono (unhide HB17).size)⟩ : GbI (fun i => i < W1.heap.size) W1.heap.size W1 L p b c (k + 1) nw2 (Sort.grow (redrawn W17 dq) osq))
                  clear r0 r1 hlen17 hheld17 d1 d2 d1n d2n d3 d4 BW
                  go_wp2_with fail
                  go_roundw
                  case rel => exact ⟨k + 1, nw2, by go_num, rfl, HN17⟩
                  case measure => simp [intOf]; omega
                · have d3 : ((L17.length : Int) == 0) = false := by simpa using hz
                  clear hz
                  go_wp2_with fail
                  refine wp_region_quiet_below (by kernel_rfl) (by kernel_rfl) ?_
                  repeat (go_big_quiet_step (fail))
                  go_big_quiet_step (exact hlen17 _ _)
                  repeat (go_big_quiet_step (fail))
                  go_big_quiet_step (exact hheld17 _ _)
                  repeat (go_big_quiet_step (fail))
                  go_big_quiet_step (exact hlen17 _ _)
                  repeat (go_big_quiet_step (fail))
                  refine wpQuiet_nil ?_
                  intro _ hw'
                  obtain ⟨⟨dq, osq⟩, hw''⟩ := hw'
                  subst hw''
                  have BW := below_regrown W17 dq osq
                  have HN17 := hide (⟨by omega, by omega, by omega, ⟨L17, t17, ⟨o17, G17.below BW⟩, unhide HW17, unhide HF17, unhide HL17⟩, (unhide HB17).trans (BW.mono (unhide HB17).size)⟩ : GbI (fun i => i < W1.heap.size) W1.heap.size W1 L p b c (k + 1) nw2 (Sort.grow (redrawn W17 dq) osq))
                  clear r0 r1 hlen17 hheld17 d1 d2 d1n d2n d3 BW
                  go_wp2_with fail
                  go_roundw
                  case rel => exact ⟨k + 1, nw2, by go_num, rfl, HN17⟩
                  case measure => simp [intOf]; omega
          · have hd : ((x.d : Int) % 6 == 5) = false := by simp; omega
            have HH := hide (hist_put (unhide HX0) hd6)
            have hxm := List.mem_of_getElem? (unhide HX0)
            have hxi := unhide HIN x hxm
            have hsx := unhide HSM x hxm
            have hin : x.h.In := ⟨hxi.tos, hxi.id, (i64_wf hxi.at').1, (i64_wf hxi.at').2, hxi.ttl, hxi.proto, hxi.frm, hxi.dst, by omega⟩
            have HPUT := hide (put_law (p := p) (b := b) wf fr x.h hin x.s nw2 (by omega) (by omega))
            obtain ⟨hr, s, isb, ee, hX, hcase⟩ := putX_shape c Lg last x.h x.s nw2
            have HX := hide hX
            have HCS := hide hcase
            have HN2 := hide hn2
            have HGQ := hide (⟨o, gx⟩ : GQ (fun i => i < W1.heap.size) wr p b c Lg last)
            have HLL := hide hll
            have HNO : Hid (∀ i, i < W1.heap.size → i < wr.heap.size) := hide (fun i hi => Nat.lt_of_lt_of_le hi hB.size)
            have HCL := hide (fun (W : World) (hk : Ks (fun i => i < W1.heap.size) wr W) => cls_cells (unhide HCW W (hB.trans (hk.below (B := W1.heap.size) hB.size (fun i hi => hi)))))
            have hkl : (k : Int) < (L.length : Int) := by omega
            clear wf fr gx hd6 hll hxm hxi hsx hin hX hcase hn2 hB
            go_upto_region 14 with fail
            clear hd cd
            obtain ⟨No, hNo⟩ : ∃ No : Nat → Prop, No = fun i => i < W1.heap.size := ⟨_, rfl⟩
            obtain ⟨w6, hw6⟩ : ∃ w6, w6 = wr := ⟨_, rfl⟩
            have HNoE := hide hNo
            have HW6 := hide hw6
            rw [← hNo, ← hw6] at HGQ HCL
            rw [← hw6] at HNO
            have HNO : Hid (∀ i, No i → i < w6.heap.size) := by rw [hNo]; exact HNO
            rw [← hw6]
            clear hNo hw6
            have nq : ([77, 78, 79, 80, 81, 82, 83, 84, 85, 86, 87, 88, 89, 76, 90, 91, 92, 93, 11, 0, 12, 13, 14] : List Nat).Nodup := by decide
            have hs : ∀ d ∈ ([77, 78, 79, 80, 81, 82, 83, 84, 85, 86, 87, 88, 89, 76, 90, 91, 92, 93, 11, 0, 12, 13, 14] : List Nat), d < 206 := by decide
            refine wp_region_fd [77, 78, 79, 80, 81, 82, 83, 84, 85, 86, 87, 88, 89, 76, 90, 91, 92, 93, 11, 0, 12, 13, 14] (fun B : Nat => [.pointer (some ⟨p, 0, none⟩), .slice (some ⟨g, off, none⟩) L.length cap, .int .i64 (k : Int), .pointer (some ⟨g, off + k * 13, none⟩), .pointer (some ⟨g, off + k * 13 + 1, none⟩), hdV x.h, .slice (some ⟨g, off, none⟩) L.length cap, .int .i64 (k : Int), .pointer (some ⟨g, off + k * 13, none⟩), .pointer (some ⟨g, off + k * 13 + 11, none⟩), .string x.s, .int .i64 nw2, .tuple #[hdV hr, .string s, .bool isb, .int .i64 ee], .tuple #[hdV hr, .string s, .bool isb, .int .i64 ee], hdV hr, .string s, .bool isb, .int .i64 ee, .pointer (some ⟨B, 0, none⟩), .agg (cvL ⟨c.most, c.byt, c.prt, c.tm⟩), .string s, .bool isb, .int .i64 ee]) (fun B l wx => RW No w6 p b c Lg last nw2 (hist (L.take k) ++ [(x.h, x.s)]) (pkOf x.h) (putX c Lg last x.h x.s nw2) hr B l wx) mixed (by kernel_rfl) nq (fun _ => rfl) hs (by decide) ⟨0, RW.start (unhide HGQ) _⟩ ⟨
              stepD_val (.pointer (some ⟨p, 0, none⟩)) nq hs (.inl rfl) rfl rfl (fun _ => rfl) (fun ls a ws B hd hu hc kk hW => by
                have e5 := kk.evalOut 5 (by decide) (v := .pointer (some ⟨p, 0, none⟩)) rfl
                generalize a.eval = ρ at *
                exact ⟨ws, by simp [execOp, go_sem, e5], hW.same (by decide) (by decide) (by decide)⟩),
              stepD_val (.slice (some ⟨g, off, none⟩) L.length cap) nq hs (.inl rfl) rfl rfl (fun _ => rfl) (fun ls a ws B hd hu hc kk hW => by
                have e1 := kk.evalOut 1 (by decide) (v := .slice (some ⟨g, off, none⟩) L.length cap) rfl
                generalize a.eval = ρ at *
                exact ⟨ws, by simp [execOp, go_sem, e1], hW.same (by decide) (by decide) (by decide)⟩),
              stepD_val (.int .i64 (k : Int)) nq hs (.inl rfl) rfl rfl (fun _ => rfl) (fun ls a ws B hd hu hc kk hW => by
                have e8 := kk.evalOut 8 (by decide) (v := .int .i64 (k : Int)) rfl
                generalize a.eval = ρ at *
                exact ⟨ws, by simp [execOp, go_sem, e8], hW.same (by decide) (by decide) (by decide)⟩),
              stepD_val (.pointer (some ⟨g, off + k * 13, none⟩)) nq hs (.inl rfl) rfl rfl (fun _ => rfl) (fun ls a ws B hd hu hc kk hW => by
                have e78 := kk.eval 1 rfl (hd ⟨1, .data⟩ (by simp) rfl) (v := .slice (some ⟨g, off, none⟩) L.length cap) rfl
                have e79 := kk.eval 2 rfl (hd ⟨2, .data⟩ (by simp) rfl) (v := .int .i64 (k : Int)) rfl
                generalize a.eval = ρ at *
                exact ⟨ws, by simp [execOp, go_sem, e78, e79, hkl], hW.same (by decide) (by decide) (by decide)⟩),
              stepD_val (.pointer (some ⟨g, off + k * 13 + 1, none⟩)) nq hs (.inl rfl) rfl rfl (fun _ => rfl) (fun ls a ws B hd hu hc kk hW => by
                have e80 := kk.eval 3 rfl (hd ⟨3, .data⟩ (by simp) rfl) (v := .pointer (some ⟨g, off + k * 13, none⟩)) rfl
                generalize a.eval = ρ at *
                exact ⟨ws, by simp [execOp, go_sem, e80], hW.same (by decide) (by decide) (by decide)⟩),
              stepD_val (hdV x.h) nq hs (.inl rfl) rfl rfl (fun _ => rfl) (fun ls a ws B hd hu hc kk hW => by
                have e81 := kk.eval 4 rfl (hd ⟨4, .data⟩ (by simp) rfl) (v := .pointer (some ⟨g, off + k * 13 + 1, none⟩)) rfl
                obtain ⟨q0, q1, q2, q3, q4, q5, q6, q7, q8, q9, qs⟩ := unhide HCL ws hW.ks
                generalize a.eval = ρ at *
                exact ⟨ws, by simp [execOp, go_sem, e81, q0, q1, q2, q3, q4, q5, q6, q7, q8, q9], hW.same (by decide) (by decide) (by decide)⟩),
              stepD_val (.slice (some ⟨g, off, none⟩) L.length cap) nq hs (.inl rfl) rfl rfl (fun _ => rfl) (fun ls a ws B hd hu hc kk hW => by
                have e1 := kk.evalOut 1 (by decide) (v := .slice (some ⟨g, off, none⟩) L.length cap) rfl
                generalize a.eval = ρ at *
                exact ⟨ws, by simp [execOp, go_sem, e1], hW.same (by decide) (by decide) (by decide)⟩),
              stepD_val (.int .i64 (k : Int)) nq hs (.inl rfl) rfl rfl (fun _ => rfl) (fun ls a ws B hd hu hc kk hW => by
                have e8 := kk.evalOut 8 (by decide) (v := .int .i64 (k : Int)) rfl
                generalize a.eval = ρ at *
                exact ⟨ws, by simp [execOp, go_sem, e8], hW.same (by decide) (by decide) (by decide)⟩),
              stepD_val (.pointer (some ⟨g, off + k * 13, none⟩)) nq hs (.inl rfl) rfl rfl (fun _ => rfl) (fun ls a ws B hd hu hc kk hW => by
                have e83 := kk.eval 6 rfl (hd ⟨6, .data⟩ (by simp) rfl) (v := .slice (some ⟨g, off, none⟩) L.length cap) rfl
                have e84 := kk.eval 7 rfl (hd ⟨7, .data⟩ (by simp) rfl) (v := .int .i64 (k : Int)) rfl
                generalize a.eval = ρ at *
                exact ⟨ws, by simp [execOp, go_sem, e83, e84, hkl], hW.same (by decide) (by decide) (by decide)⟩),
              stepD_val (.pointer (some ⟨g, off + k * 13 + 11, none⟩)) nq hs (.inl rfl) rfl rfl (fun _ => rfl) (fun ls a ws B hd hu hc kk hW => by
                have e85 := kk.eval 8 rfl (hd ⟨8, .data⟩ (by simp) rfl) (v := .pointer (some ⟨g, off + k * 13, none⟩)) rfl
                generalize a.eval = ρ at *
                exact ⟨ws, by simp [execOp, go_sem, e85], hW.same (by decide) (by decide) (by decide)⟩),
              stepD_val (.string x.s) nq hs (.inl rfl) rfl rfl (fun _ => rfl) (fun ls a ws B hd hu hc kk hW => by
                have e86 := kk.eval 9 rfl (hd ⟨9, .data⟩ (by simp) rfl) (v := .pointer (some ⟨g, off + k * 13 + 11, none⟩)) rfl
                obtain ⟨q0, q1, q2, q3, q4, q5, q6, q7, q8, q9, qs⟩ := unhide HCL ws hW.ks
                generalize a.eval = ρ at *
                exact ⟨ws, by simp [execOp, go_sem, e86, qs], hW.same (by decide) (by decide) (by decide)⟩),
              stepD_val (.int .i64 nw2) nq hs (.inl rfl) rfl rfl (fun _ => rfl) (fun ls a ws B hd hu hc kk hW => by
                have e7 := kk.evalOut 7 (by decide) (v := .int .i64 nw2) rfl
                generalize a.eval = ρ at *
                exact ⟨ws, by simp [execOp, go_sem, e7], hW.same (by decide) (by decide) (by decide)⟩),
              stepD_call (.tuple #[hdV hr, .string s, .bool isb, .int .i64 ee]) 10 #[.pointer (some ⟨p, 0, none⟩), hdV x.h, .string x.s, .int .i64 nw2] nq hs (.inl rfl) rfl rfl (fun _ => rfl) (fun ls a ws B hd hu hc kk hW => by
                have e77 := kk.eval 0 rfl (hd ⟨0, .data⟩ (by simp) rfl) (v := .pointer (some ⟨p, 0, none⟩)) rfl
                have e82 := kk.eval 5 rfl (hd ⟨5, .data⟩ (by simp) rfl) (v := hdV x.h) rfl
                have e87 := kk.eval 10 rfl (hd ⟨10, .data⟩ (by simp) rfl) (v := .string x.s) rfl
                have e88 := kk.eval 11 rfl (hd ⟨11, .data⟩ (by simp) rfl) (v := .int .i64 nw2) rfl
                have ef : ∀ f, a.eval (.func f) = .func (.func f) #[] #[] := fun _ => rfl
                generalize a.eval = ρ at *
                refine ⟨by simp [execOp, go_sem, ef, e77, e82, e87, e88], (unhide HPUT (NoB No ls B) ws (hW.pre (getD_nf hu))).mono ?_⟩
                rintro e w7 ⟨rfl, hk7, ha7⟩
                exact ⟨unhide HX, hW.put hu hk7 ha7⟩),
              stepD_val (.tuple #[hdV hr, .string s, .bool isb, .int .i64 ee]) nq hs (.inl rfl) rfl rfl (fun _ => rfl) (fun ls a ws B hd hu hc kk hW => by
                have e89 := kk.eval 12 rfl (hd ⟨12, .data⟩ (by simp) rfl) (v := .tuple #[hdV hr, .string s, .bool isb, .int .i64 ee]) rfl
                generalize a.eval = ρ at *
                exact ⟨ws, by simp [execOp, go_sem, e89], hW.same (by decide) (by decide) (by decide)⟩),
              stepD_val (hdV hr) nq hs (.inl rfl) rfl rfl (fun _ => rfl) (fun ls a ws B hd hu hc kk hW => by
                have e76 := kk.eval 13 rfl (hd ⟨13, .data⟩ (by simp) rfl) (v := .tuple #[hdV hr, .string s, .bool isb, .int .i64 ee]) rfl
                generalize a.eval = ρ at *
                exact ⟨ws, by simp [execOp, go_sem, e76], hW.same (by decide) (by decide) (by decide)⟩),
              stepD_val (.string s) nq hs (.inl rfl) rfl rfl (fun _ => rfl) (fun ls a ws B hd hu hc kk hW => by
                have e76 := kk.eval 13 rfl (hd ⟨13, .data⟩ (by simp) rfl) (v := .tuple #[hdV hr, .string s, .bool isb, .int .i64 ee]) rfl
                generalize a.eval = ρ at *
                exact ⟨ws, by simp [execOp, go_sem, e76], hW.same (by decide) (by decide) (by decide)⟩),
              stepD_val (.bool isb) nq hs (.inl rfl) rfl rfl (fun _ => rfl) (fun ls a ws B hd hu hc kk hW => by
                have e76 := kk.eval 13 rfl (hd ⟨13, .data⟩ (by simp) rfl) (v := .tuple #[hdV hr, .string s, .bool isb, .int .i64 ee]) rfl
                generalize a.eval = ρ at *
                exact ⟨ws, by simp [execOp, go_sem, e76], hW.same (by decide) (by decide) (by decide)⟩),
              stepD_val (.int .i64 ee) nq hs (.inl rfl) rfl rfl (fun _ => rfl) (fun ls a ws B hd hu hc kk hW => by
                have e76 := kk.eval 13 rfl (hd ⟨13, .data⟩ (by simp) rfl) (v := .tuple #[hdV hr, .string s, .bool isb, .int .i64 ee]) rfl
                generalize a.eval = ρ at *
                exact ⟨ws, by simp [execOp, go_sem, e76], hW.same (by decide) (by decide) (by decide)⟩),
              (fun ls a ws B hd hu hc kk hW => ⟨wanted_none rfl _, op_val (v := .pointer (some ⟨ws.heap.size, 0, none⟩)) (w' := ws.alloc (.cells hd0C 34)) (by
                generalize a.eval = ρ at *
                simp [execOp, go_sem]) ⟨ws.heap.size, (kk.as (fun j hj => by
                  by_cases e : j = 18
                  · subst e; rw [getD_nf hu] at hj; cases hj
                  · match j, e with
                    | 0, _ | 1, _ | 2, _ | 3, _ | 4, _ | 5, _ | 6, _ | 7, _ | 8, _ | 9, _ | 10, _ | 11, _ | 12, _ | 13, _ | 14, _ | 15, _ | 16, _ | 17, _ | 19, _ | 20, _ | 21, _ | 22, _ => rfl
                    | n + 23, _ => rfl)).step nq hs hu rfl rfl, hW.make hu⟩⟩),
              (fun ls a ws B hd hu hc kk hW => by
                have e18 := hd ⟨18, .data⟩ (by simp) rfl
                have e14 := hd ⟨14, .data⟩ (by simp) rfl
                have e12 : ls.getD 12 false = true := hd ⟨12, .chain⟩ (by simp) rfl
                have e11 := kk.eval 18 rfl e18 (v := .pointer (some ⟨B, 0, none⟩)) rfl
                have e90 := kk.eval 14 rfl e14 (v := hdV hr) rfl
                have hb := (hW.box e18).2
                rw [getD_nf hu] at hb
                simp only [Bool.false_eq_true, if_false] at hb
                have c0 : ws.cell? ⟨B, 0, none⟩ = some (.int .u8 0) := by rw [cell_of_row _ _ 0 _ _ _ hb]; rfl
                have c1 : ws.cell? ⟨B, 1, none⟩ = some (.int .u16 0) := by rw [cell_of_row _ _ 1 _ _ _ hb]; rfl
                have c2 : ws.cell? ⟨B, 2, none⟩ = some (.bool false) := by rw [cell_of_row _ _ 2 _ _ _ hb]; rfl
                have c3 : ws.cell? ⟨B, 3, none⟩ = some (.bool false) := by rw [cell_of_row _ _ 3 _ _ _ hb]; rfl
                have c4 : ws.cell? ⟨B, 4, none⟩ = some (.int .i64 0) := by rw [cell_of_row _ _ 4 _ _ _ hb]; rfl
                have c5 : ws.cell? ⟨B, 5, none⟩ = some (.int .u8 0) := by rw [cell_of_row _ _ 5 _ _ _ hb]; rfl
                have c6 : ws.cell? ⟨B, 6, none⟩ = some (.int .u8 0) := by rw [cell_of_row _ _ 6 _ _ _ hb]; rfl
                have c7 : ws.cell? ⟨B, 7, none⟩ = some (.int .u32 0) := by rw [cell_of_row _ _ 7 _ _ _ hb]; rfl
                have c8 : ws.cell? ⟨B, 8, none⟩ = some (.int .u32 0) := by rw [cell_of_row _ _ 8 _ _ _ hb]; rfl
                have c9 : ws.cell? ⟨B, 9, none⟩ = some (.string ⟨#[]⟩) := by rw [cell_of_row _ _ 9 _ _ _ hb]; rfl
                have fz : ∀ j, ws.frozen? ⟨B, j, none⟩ = false := fun j => frozen_of_row _ _ j _ _ hb
                refine ⟨wanted_none rfl _, op_skip (w' := set10 ws B hr) ?_ ⟨B, kk.pass hu rfl rfl, hW.store hu e12 e18 (unhide HNO)⟩⟩
                generalize a.eval = ρ at *
                simp [execOp, go_sem, e11, e90, c0, c1, c2, c3, c4, c5, c6, c7, c8, c9, fz]),
              stepD_val (.string s) nq hs (.inl rfl) rfl rfl (fun _ => rfl) (fun ls a ws B hd hu hc kk hW => by
                have e91 := kk.eval 15 rfl (hd ⟨15, .data⟩ (by simp) rfl) (v := .string s) rfl
                generalize a.eval = ρ at *
                exact ⟨ws, by simp [execOp, go_sem, e91], hW.same (by decide) (by decide) (by decide)⟩),
              stepD_val (.bool isb) nq hs (.inl rfl) rfl rfl (fun _ => rfl) (fun ls a ws B hd hu hc kk hW => by
                have e92 := kk.eval 16 rfl (hd ⟨16, .data⟩ (by simp) rfl) (v := .bool isb) rfl
                generalize a.eval = ρ at *
                exact ⟨ws, by simp [execOp, go_sem, e92], hW.same (by decide) (by decide) (by decide)⟩),
              stepD_val (.int .i64 ee) nq hs (.inl rfl) rfl rfl (fun _ => rfl) (fun ls a ws B hd hu hc kk hW => by
                have e93 := kk.eval 17 rfl (hd ⟨17, .data⟩ (by simp) rfl) (v := .int .i64 ee) rfl
                generalize a.eval = ρ at *
                exact ⟨ws, by simp [execOp, go_sem, e93], hW.same (by decide) (by decide) (by decide)⟩), trivial⟩ ?_
            intro B l5 w7 hal hW
            obtain ⟨L17, t17, gq7, wf7, fr7, hl7, hm7, pr7⟩ := hW.post (hal 12 (by decide))
            obtain ⟨hb1, hb2⟩ := hW.box (hal 18 (by decide))
            rw [hal 19 (by decide), if_pos rfl] at hb2
            obtain ⟨o17, g7⟩ := gq7
            have g7 := g7.mono (No := No) (fun i hi => .inl hi)
            have hNo := unhide HNoE
            have hw6 := unhide HW6
            have hks := hW.ks
            rw [hNo, hw6] at hks
            rw [hNo] at g7
            have B7 : Below W1.heap.size W1 w7 := (unhide HXB).trans (hks.below (unhide HXB).size (fun i hi => hi))
            rw [← unhide HH] at fr7 pr7
            have HW17 := hide wf7
            have HF17 := hide fr7
            have HL17 : Hid (t17 ≤ nw2) := hide (by have := unhide HLL; have := unhide HN2; omega)
            have HPR := hide pr7
            have HG7 := hide g7
            have HB7 := hide B7
            have hC7 : HC w7 B hr := ⟨cell_of_row _ _ 0 _ _ _ hb2, cell_of_row _ _ 1 _ _ _ hb2, cell_of_row _ _ 2 _ _ _ hb2, cell_of_row _ _ 3 _ _ _ hb2, cell_of_row _ _ 4 _ _ _ hb2, cell_of_row _ _ 5 _ _ _ hb2, cell_of_row _ _ 6 _ _ _ hb2, cell_of_row _ _ 7 _ _ _ hb2, cell_of_row _ _ 8 _ _ _ hb2, cell_of_row _ _ 9 _ _ _ hb2⟩
            have HC7 := hide hC7
            obtain ⟨y0, y1, y2, y3, y4, y5, y6, y7, y8, y9, ys⟩ := cls_cells (unhide HCW w7 B7)
            have r1 := cell_regrown y1
            have r6 := cell_regrown y6
            have r7 := cell_regrown y7
            have r8 := cell_regrown y8
            clear hal hW nq hs wf7 fr7 hl7 hm7 pr7 hb1 hb2 g7 hNo hw6 hks B7 hC7 y0 y1 y2 y3 y4 y5 y6 y7 y8 y9 ys HNoE HW6 HGQ HCL HNO HPUT HLL HH
            simp only [fill, List.setIfInBounds_toArray, List.set_cons_succ, List.set_cons_zero]
            go_upto_region 15 with fail
            rcases unhide HCS with rfl | ⟨rfl, rfl⟩
            · obtain ⟨c0, c1, c2, c3, c4, c5, c6, c7, c8, c9⟩ := unhide HC7
              clear c0 c1 c2 c3 c4 c5 c6 c7 c8 c9
              by_cases he : ee = 0
              · subst he
                refine wp_region_quiet_below (by kernel_rfl) (by kernel_rfl) ?_
                try simp only [List.append]
                repeat (go_big_quiet_step (fail))
                refine wpQuiet_nil ?_
                intro _ hw'
                obtain ⟨⟨dq, osq⟩, hw''⟩ := hw'
                subst hw''
                have BW := below_regrown w7 dq osq
                have HG17 := hide ((unhide HG7).below BW)
                have HB17 := hide ((unhide HB7).trans (BW.mono (unhide HB7).size))
                have hn2 := unhide HN2
                clear r1 r6 r7 r8 HC7
                clear BW HN2 HG7 HB7 mixed
                generalize Sort.grow (redrawn w7 dq) osq = W17 at *
                go_wp2_with fail
                as_aux_lemma =>
                  have G17 := unhide HG17
                  have c0 : W17.cell? ⟨w.heap.size, 0, none⟩ = some (.int .i64 (c.most : Int)) := ((unhide HB17).cell (p := ⟨w.heap.size, 0, none⟩) (unhide HZ0)).trans (cell_of_row _ _ 0 _ _ _ (unhide HEA))
                  have c1 : W17.cell? ⟨w.heap.size, 1, none⟩ = some (.int .i64 (c.byt : Int)) := ((unhide HB17).cell (p := ⟨w.heap.size, 1, none⟩) (unhide HZ0)).trans (cell_of_row _ _ 1 _ _ _ (unhide HEA))
                  have r0 := cell_regrown c0
                  have r1 := cell_regrown c1
                  have hlen17 : ∀ d os, Calls Try.prog 12 #[.pointer (some ⟨p, 0, none⟩)] (Sort.grow (redrawn W17 d) os) fun x w'' => x = .returned (.int .i64 (L17.length : Int)) ∧ ∃ q : Regrown, w'' = Sort.grow (redrawn W17 q.d) q.os := fun d os => Calls.regrown_of ((len_any p b L17 _ ((G17.below (below_regrown W17 d os)).cell rfl) (G17.below (below_regrown W17 d os)).map).mono (fun x w'' h => ⟨h.1, by rw [h.2]; exact Below.refl _ _⟩))
                  have hheld17 : ∀ d os, Calls Try.prog 13 #[.pointer (some ⟨p, 0, none⟩)] (Sort.grow (redrawn W17 d) os) fun x w'' => x = .returned (.int .i64 ((heldE L17 : Nat) : Int)) ∧ ∃ q : Regrown, w'' = Sort.grow (redrawn W17 q.d) q.os := fun d os => Calls.regrown_of ((held_any p b _ _ ((G17.below (below_regrown W17 d os)).cell rfl) ((G17.below (below_regrown W17 d os)).cell rfl)).mono (fun x w'' h => ⟨h.1, by rw [h.2]; exact Below.refl _ _⟩))
                  have d1 : decide ((c.most : Int) < (L17.length : Int)) = false := decide_eq_false (by have := (unhide HW17).len; omega)
                  have d2 : decide ((c.byt : Int) < ((heldE L17 : Nat) : Int)) = false := decide_eq_false (by have := (unhide HW17).held; omega)
                  have d1n : decide (c.most < L17.length) = false := decide_eq_false (by have := (unhide HW17).len; omega)
                  have d2n : decide (c.byt < heldE L17) = false := decide_eq_false (by have := (unhide HW17).held; omega)
                  clear c0 c1
                  by_cases hz : L17.length = 0
                  · have d3 : ((L17.length : Int) == 0) = true := by simp [hz]
                    have d4 : (((heldE L17 : Nat) : Int) != 0) = false := by
                      rw [List.eq_nil_of_length_eq_zero hz]
                      rfl
                    clear hz
                    go_wp2_with fail
                    refine wp_region_quiet_below (by kernel_rfl) (by kernel_rfl) ?_
                    repeat (go_big_quiet_step (fail))
                    go_big_quiet_step (exact hlen17 _ _)
                    repeat (go_big_quiet_step (fail))
                    go_big_quiet_step (exact hheld17 _ _)
                    repeat (go_big_quiet_step (fail))
                    go_big_quiet_step (exact hlen17 _ _)
                    repeat (go_big_quiet_step (fail))
                    go_big_quiet_step (exact hheld17 _ _)
                    repeat (go_big_quiet_step (fail))
                    refine wpQuiet_nil ?_
                    intro _ hw'
                    obtain ⟨⟨dq, osq⟩, hw''⟩ := hw'
                    subst hw''
                    have BW := below_regrown W17 dq osq
                    have HN17 := hide (⟨by omega, by omega, by omega, ⟨L17, t17, ⟨o17, G17.below BW⟩, unhide HW17, unhide HF17, unhide HL17⟩, (unhide HB17).trans (BW.mono (unhide HB17).size)⟩ : GbI (fun i => i < W1.heap.size) W1.heap.size W1 L p b c (k + 1) nw2 (Sort.grow (redrawn W17 dq) osq))
                    clear r0 r1 hlen17 hheld17 d1 d2 d1n d2n d3 d4 BW
                    go_wp2_with fail
                    go_roundw
                    case rel => exact ⟨k + 1, nw2, by go_num, rfl, HN17⟩
                    case measure => simp [intOf]; omega
                  · have d3 : ((L17.length : Int) == 0) = false := by simpa using hz
                    clear hz
                    go_wp2_with fail
                    refine wp_region_quiet_below (by kernel_rfl) (by kernel_rfl) ?_
                    repeat (go_big_quiet_step (fail))
                    go_big_quiet_step (exact hlen17 _ _)
                    repeat (go_big_quiet_step (fail))
                    go_big_quiet_step (exact hheld17 _ _)
                    repeat (go_big_quiet_step (fail))
                    go_big_quiet_step (exact hlen17 _ _)
                    repeat (go_big_quiet_step (fail))
                    refine wpQuiet_nil ?_
                    intro _ hw'
                    obtain ⟨⟨dq, osq⟩, hw''⟩ := hw'
                    subst hw''
                    have BW := below_regrown W17 dq osq
                    have HN17 := hide (⟨by omega, by omega, by omega, ⟨L17, t17, ⟨o17, G17.below BW⟩, unhide HW17, unhide HF17, unhide HL17⟩, (unhide HB17).trans (BW.mono (unhide HB17).size)⟩ : GbI (fun i => i < W1.heap.size) W1.heap.size W1 L p b c (k + 1) nw2 (Sort.grow (redrawn W17 dq) osq))
                    clear r0 r1 hlen17 hheld17 d1 d2 d1n d2n d3 BW
                    go_wp2_with fail
                    go_roundw
                    case rel => exact ⟨k + 1, nw2, by go_num, rfl, HN17⟩
                    case measure => simp [intOf]; omega
              · have hee : (ee == 0) = false := by simpa using he
                clear he
                refine wp_region_quiet_below (by kernel_rfl) (by kernel_rfl) ?_
                try simp only [List.append]
                repeat (go_big_quiet_step (fail))
                refine wpQuiet_nil ?_
                intro _ hw'
                obtain ⟨⟨dq, osq⟩, hw''⟩ := hw'
                subst hw''
                have BW := below_regrown w7 dq osq
                have HG17 := hide ((unhide HG7).below BW)
                have HB17 := hide ((unhide HB7).trans (BW.mono (unhide HB7).size))
                have hn2 := unhide HN2
                clear r1 r6 r7 r8 HC7 hee
                clear BW HN2 HG7 HB7 mixed
                generalize Sort.grow (redrawn w7 dq) osq = W17 at *
                go_wp2_with fail
                as_aux_lemma =>
                  have G17 := unhide HG17
                  have c0 : W17.cell? ⟨w.heap.size, 0, none⟩ = some (.int .i64 (c.most : Int)) := ((unhide HB17).cell (p := ⟨w.heap.size, 0, none⟩) (unhide HZ0)).trans (cell_of_row _ _ 0 _ _ _ (unhide HEA))
                  have c1 : W17.cell? ⟨w.heap.size, 1, none⟩ = some (.int .i64 (c.byt : Int)) := ((unhide HB17).cell (p := ⟨w.heap.size, 1, none⟩) (unhide HZ0)).trans (cell_of_row _ _ 1 _ _ _ (unhide HEA))
                  have r0 := cell_regrown c0
                  have r1 := cell_regrown c1
                  have hlen17 : ∀ d os, Calls Try.prog 12 #[.pointer (some ⟨p, 0, none⟩)] (Sort.grow (redrawn W17 d) os) fun x w'' => x = .returned (.int .i64 (L17.length : Int)) ∧ ∃ q : Regrown, w'' = Sort.grow (redrawn W17 q.d) q.os := fun d os => Calls.regrown_of ((len_any p b L17 _ ((G17.below (below_regrown W17 d os)).cell rfl) (G17.below (below_regrown W17 d os)).map).mono (fun x w'' h => ⟨h.1, by rw [h.2]; exact Below.refl _ _⟩))
                  have hheld17 : ∀ d os, Calls Try.prog 13 #[.pointer (some ⟨p, 0, none⟩)] (Sort.grow (redrawn W17 d) os) fun x w'' => x = .returned (.int .i64 ((heldE L17 : Nat) : Int)) ∧ ∃ q : Regrown, w'' = Sort.grow (redrawn W17 q.d) q.os := fun d os => Calls.regrown_of ((held_any p b _ _ ((G17.below (below_regrown W17 d os)).cell rfl) ((G17.below (below_regrown W17 d os)).cell rfl)).mono (fun x w'' h => ⟨h.1, by rw [h.2]; exact Below.refl _ _⟩))
                  have d1 : decide ((c.most : Int) < (L17.length : Int)) = false := decide_eq_false (by have := (unhide HW17).len; omega)
                  have d2 : decide ((c.byt : Int) < ((heldE L17 : Nat) : Int)) = false := decide_eq_false (by have := (unhide HW17).held; omega)
                  have d1n : decide (c.most < L17.length) = false := decide_eq_false (by have := (unhide HW17).len; omega)
                  have d2n : decide (c.byt < heldE L17) = false := decide_eq_false (by have := (unhide HW17).held; omega)
                  clear c0 c1
                  by_cases hz : L17.length = 0
                  · have d3 : ((L17.length : Int) == 0) = true := by simp [hz]
                    have d4 : (((heldE L17 : Nat) : Int) != 0) = false := by
                      rw [List.eq_nil_of_length_eq_zero hz]
                      rfl
                    clear hz
                    go_wp2_with fail
                    refine wp_region_quiet_below (by kernel_rfl) (by kernel_rfl) ?_
                    repeat (go_big_quiet_step (fail))
                    go_big_quiet_step (exact hlen17 _ _)
                    repeat (go_big_quiet_step (fail))
                    go_big_quiet_step (exact hheld17 _ _)
                    repeat (go_big_quiet_step (fail))
                    go_big_quiet_step (exact hlen17 _ _)
                    repeat (go_big_quiet_step (fail))
                    go_big_quiet_step (exact hheld17 _ _)
                    repeat (go_big_quiet_step (fail))
                    refine wpQuiet_nil ?_
                    intro _ hw'
                    obtain ⟨⟨dq, osq⟩, hw''⟩ := hw'
                    subst hw''
                    have BW := below_regrown W17 dq osq
                    have HN17 := hide (⟨by omega, by omega, by omega, ⟨L17, t17, ⟨o17, G17.below BW⟩, unhide HW17, unhide HF17, unhide HL17⟩, (unhide HB17).trans (BW.mono (unhide HB17).size)⟩ : GbI (fun i => i < W1.heap.size) W1.heap.size W1 L p b c (k + 1) nw2 (Sort.grow (redrawn W17 dq) osq))
                    clear r0 r1 hlen17 hheld17 d1 d2 d1n d2n d3 d4 BW
                    go_wp2_with fail
                    go_roundw
                    case rel => exact ⟨k + 1, nw2, by go_num, rfl, HN17⟩
                    case measure => simp [intOf]; omega
                  · have d3 : ((L17.length : Int) == 0) = false := by simpa using hz
                    clear hz
                    go_wp2_with fail
                    refine wp_region_quiet_below (by kernel_rfl) (by kernel_rfl) ?_
                    repeat (go_big_quiet_step (fail))
                    go_big_quiet_step (exact hlen17 _ _)
                    repeat (go_big_quiet_step (fail))
                    go_big_quiet_step (exact hheld17 _ _)
                    repeat (go_big_quiet_step (fail))
                    go_big_quiet_step (exact hlen17 _ _)
                    repeat (go_big_quiet_step (fail))
                    refine wpQuiet_nil ?_
                    intro _ hw'
                    obtain ⟨⟨dq, osq⟩, hw''⟩ := hw'
                    subst hw''
                    have BW := below_regrown W17 dq osq
                    have HN17 := hide (⟨by omega, by omega, by omega, ⟨L17, t17, ⟨o17, G17.below BW⟩, unhide HW17, unhide HF17, unhide HL17⟩, (unhide HB17).trans (BW.mono (unhide HB17).size)⟩ : GbI (fun i => i < W1.heap.size) W1.heap.size W1 L p b c (k + 1) nw2 (Sort.grow (redrawn W17 dq) osq))
                    clear r0 r1 hlen17 hheld17 d1 d2 d1n d2n d3 BW
                    go_wp2_with fail
                    go_roundw
                    case rel => exact ⟨k + 1, nw2, by go_num, rfl, HN17⟩
                    case measure => simp [intOf]; omega
            · obtain ⟨z1, z2, z3, z4, z5⟩ : pkOf hr = pkOf x.h ∧ hr.at' = 0 ∧ hr.more = false ∧ s.size ≤ 65535 ∧ MadeB (hist (L.take (k + 1))) (pkOf x.h) s := by
                have pr := unhide HPR
                rw [unhide HX] at pr
                exact pr.get
              have hmc := madeC_of z5
              rw [← z1] at hmc
              have hcl := ((unhide HCV).on (unhide HB7)).take (i := k + 1) (by omega) (by omega)
              have hlt1 : (L.take (k + 1)).length ≤ 100 := by rw [List.length_take]; omega
              have hsz1 : ∀ y ∈ L.take (k + 1), y.s.size ≤ 262144 := fun y hy => (unhide HSM y (List.mem_of_mem_take hy)).1
              have hmade := hide (fun d os => Calls.regrown_of (made_any (.slice (some ⟨g, off, none⟩) (k + 1) cap) (L.take (k + 1)) hr s (Sort.grow (redrawn w7 d) os) (hcl.on (below_regrown w7 d os)) hlt1 z4 hsz1 hmc))
              obtain ⟨q0, q1, q2, q3, q4, q5, q6, q7, q8, q9⟩ := hr
              simp only [pkOf, Pk.mk.injEq] at z1
              obtain ⟨u0, u1, u2, u3⟩ := z1
              simp only at z2 z3
              subst z2 z3
              obtain ⟨c0, c1, c2, c3, c4, c5, c6, c7, c8, c9⟩ := unhide HC7
              simp only at c0 c1 c2 c3 c4 c5 c6 c7 c8 c9
              have p0 := cell_regrown c0
              have p1 := cell_regrown c1
              have p2 := cell_regrown c2
              have p3 := cell_regrown c3
              have p4 := cell_regrown c4
              have p5 := cell_regrown c5
              have p6 := cell_regrown c6
              have p7 := cell_regrown c7
              have p8 := cell_regrown c8
              have p9 := cell_regrown c9
              have n7 : ((q7 : Int) != (x.h.frm : Int)) = false := by simp [u0]
              have n8 : ((q8 : Int) != (x.h.to : Int)) = false := by simp [u1]
              have n6 : ((q6 : Int) != (x.h.proto : Int)) = false := by simp [u2]
              have n1 : ((q1 : Int) != (x.h.id : Int)) = false := by simp [u3]
              have hk1 : k + 1 ≤ cap := by omega
              clear c0 c1 c2 c3 c4 c5 c6 c7 c8 c9 u0 u1 u2 u3 z4 z5 hmc hcl hlt1 hsz1 HC7
              have hmd := unhide hmade
              refine wp_region_quiet_below (by kernel_rfl) (by kernel_rfl) ?_
              try simp only [List.append]
              repeat (go_big_quiet_step (fail))
              go_big_quiet_step (exact hmd _ _)
              repeat (go_big_quiet_step (fail))
              refine wpQuiet_nil ?_
              intro _ hw'
              obtain ⟨⟨dq, osq⟩, hw''⟩ := hw'
              subst hw''
              have BW := below_regrown w7 dq osq
              have HG17 := hide ((unhide HG7).below BW)
              have HB17 := hide ((unhide HB7).trans (BW.mono (unhide HB7).size))
              have hn2 := unhide HN2
              clear r1 r6 r7 r8 p0 p1 p2 p3 p4 p5 p6 p7 p8 p9 n7 n8 n6 n1 hk1 hmd hmade
              clear BW HN2 HG7 HB7 mixed
              generalize Sort.grow (redrawn w7 dq) osq = W17 at *
              go_wp2_with fail
              as_aux_lemma =>
                have G17 := unhide HG17
                have c0 : W17.cell? ⟨w.heap.size, 0, none⟩ = some (.int .i64 (c.most : Int)) := ((unhide HB17).cell (p := ⟨w.heap.size, 0, none⟩) (unhide HZ0)).trans (cell_of_row _ _ 0 _ _ _ (unhide HEA))
                have c1 : W17.cell? ⟨w.heap.size, 1, none⟩ = some (.int .i64 (c.byt : Int)) := ((unhide HB17).cell (p := ⟨w.heap.size, 1, none⟩) (unhide HZ0)).trans (cell_of_row _ _ 1 _ _ _ (unhide HEA))
                have r0 := cell_regrown c0
                have r1 := cell_regrown c1
                have hlen17 : ∀ d os, Calls Try.prog 12 #[.pointer (some ⟨p, 0, none⟩)] (Sort.grow (redrawn W17 d) os) fun x w'' => x = .returned (.int .i64 (L17.length : Int)) ∧ ∃ q : Regrown, w'' = Sort.grow (redrawn W17 q.d) q.os := fun d os => Calls.regrown_of ((len_any p b L17 _ ((G17.below (below_regrown W17 d os)).cell rfl) (G17.below (below_regrown W17 d os)).map).mono (fun x w'' h => ⟨h.1, by rw [h.2]; exact Below.refl _ _⟩))
                have hheld17 : ∀ d os, Calls Try.prog 13 #[.pointer (some ⟨p, 0, none⟩)] (Sort.grow (redrawn W17 d) os) fun x w'' => x = .returned (.int .i64 ((heldE L17 : Nat) : Int)) ∧ ∃ q : Regrown, w'' = Sort.grow (redrawn W17 q.d) q.os := fun d os => Calls.regrown_of ((held_any p b _ _ ((G17.below (below_regrown W17 d os)).cell rfl) ((G17.below (below_regrown W17 d os)).cell rfl)).mono (fun x w'' h => ⟨h.1, by rw [h.2]; exact Below.refl _ _⟩))
                have d1 : decide ((c.most : Int) < (L17.length : Int)) = false := decide_eq_false (by have := (unhide HW17).len; omega)
                have d2 : decide ((c.byt : Int) < ((heldE L17 : Nat) : Int)) = false := decide_eq_false (by have := (unhide HW17).held; omega)
                have d1n : decide (c.most < L17.length) = false := decide_eq_false (by have := (unhide HW17).len; omega)
                have d2n : decide (c.byt < heldE L17) = false := decide_eq_false (by have := (unhide HW17).held; omega)
                clear c0 c1
                by_cases hz : L17.length = 0
                · have d3 : ((L17.length : Int) == 0) = true := by simp [hz]
                  have d4 : (((heldE L17 : Nat) : Int) != 0) = false := by
                    rw [List.eq_nil_of_length_eq_zero hz]
                    rfl
                  clear hz
                  go_wp2_with fail
                  refine wp_region_quiet_below (by kernel_rfl) (by kernel_rfl) ?_
                  repeat (go_big_quiet_step (fail))
                  go_big_quiet_step (exact hlen17 _ _)
                  repeat (go_big_quiet_step (fail))
                  go_big_quiet_step (exact hheld17 _ _)
                  repeat (go_big_quiet_step (fail))
                  go_big_quiet_step (exact hlen17 _ _)
                  repeat (go_big_quiet_step (fail))
                  go_big_quiet_step (exact hheld17 _ _)
                  repeat (go_big_quiet_step (fail))
                  refine wpQuiet_nil ?_
                  intro _ hw'
                  obtain ⟨⟨dq, osq⟩, hw''⟩ := hw'
                  subst hw''
                  have BW := below_regrown W17 dq osq
                  have HN17 := hide (⟨by omega, by omega, by omega, ⟨L17, t17, ⟨o17, G17.below BW⟩, unhide HW17, unhide HF17, unhide HL17⟩, (unhide HB17).trans (BW.mono (unhide HB17).size)⟩ : GbI (fun i => i < W1.heap.size) W1.heap.size W1 L p b c (k + 1) nw2 (Sort.grow (redrawn W17 dq) osq))
                  clear r0 r1 hlen17 hheld17 d1 d2 d1n d2n d3 d4 BW
                  go_wp2_with fail
                  go_roundw
                  case rel => exact ⟨k + 1, nw2, by go_num, rfl, HN17⟩
                  case measure => simp [intOf]; omega
                · have d3 : ((L17.length : Int) == 0) = false := by simpa using hz
                  clear hz
                  go_wp2_with fail
                  refine wp_region_quiet_below (by kernel_rfl) (by kernel_rfl) ?_
                  repeat (go_big_quiet_step (fail))
                  go_big_quiet_step (exact hlen17 _ _)
                  repeat (go_big_quiet_step (fail))
                  go_big_quiet_step (exact hheld17 _ _)
                  repeat (go_big_quiet_step (fail))
                  go_big_quiet_step (exact hlen17 _ _)
                  repeat (go_big_quiet_step (fail))
                  refine wpQuiet_nil ?_
                  intro _ hw'
                  obtain ⟨⟨dq, osq⟩, hw''⟩ := hw'
                  subst hw''
                  have BW := below_regrown W17 dq osq
                  have HN17 := hide (⟨by omega, by omega, by omega, ⟨L17, t17, ⟨o17, G17.below BW⟩, unhide HW17, unhide HF17, unhide HL17⟩, (unhide HB17).trans (BW.mono (unhide HB17).size)⟩ : GbI (fun i => i < W1.heap.size) W1.heap.size W1 L p b c (k + 1) nw2 (Sort.grow (redrawn W17 dq) osq))
                  clear r0 r1 hlen17 hheld17 d1 d2 d1n d2n d3 BW
                  go_wp2_with fail
                  go_roundw
                  case rel => exact ⟨k + 1, nw2, by go_num, rfl, HN17⟩
                  case measure => simp [intOf]; omega
        · obtain rfl : k = L.length := by omega
          have hB := (unhide hI).bl
          have hn0 := (unhide hI).n0
          have hn1 := (unhide hI).n1
          obtain ⟨Lg, last, ⟨o, gx⟩, wf, fr, hll⟩ := (unhide hI).st
          have hok1 := hok.t1
          have hok0 := hok.t0
          obtain ⟨t, ht⟩ : ∃ t, nw + (c.tm : Int) = t := ⟨_, rfl⟩
          have x2 : wrap64 t = t := by unfold wrap64; omega
          have hct : t = cntT last t := by unfold cntT; omega
          have hall : tickN t Lg = Lg.length := tickN_all (fun j y hj => by
            have := (fr y (List.mem_of_getElem? hj)).ov
            omega)
          have HT := hide (tick_any gx wf t t hct _ rfl)
          rw [hall] at HT
          have c3 : wr.cell? ⟨w.heap.size, 3, none⟩ = some (.int .i64 (c.tm : Int)) := (hB.cell (p := ⟨w.heap.size, 3, none⟩) (unhide HZ0)).trans (cell_of_row _ _ 3 _ _ _ (unhide HEA))
          have hdr : Lg.drop Lg.length = [] := List.drop_length
          rw [hdr] at HT
          have HB := hide hB
          clear hn0 hn1 gx wf fr hll hok1 hok0 hct hall hdr hB hle hlt
          have hzB := hide (unhide HB).size
          go_wp2_with fail
          refine (unhide HT).mono ?_
          rintro e w4 ⟨vv, rfl, -, ⟨o4, g4⟩, ks4⟩
          have HLN : Hid (Calls Try.prog 12 #[.pointer (some ⟨p, 0, none⟩)] w4 fun e w' => e = .returned (.int .i64 0) ∧ w' = w4) := hide (len_any p b [] w4 (g4.cell rfl) g4.map)
          have HHD : Hid (Calls Try.prog 13 #[.pointer (some ⟨p, 0, none⟩)] w4 fun e w' => e = .returned (.int .i64 0) ∧ w' = w4) := hide (held_any p b _ w4 (g4.cell rfl) (g4.cell rfl))
          have HB4 := hide ((unhide HB).trans (ks4.below (B := W1.heap.size) (unhide hzB) (fun i hi => hi)))
          clear HT g4 ks4 x2 ht c3 hzB HB
          go_wp2_with fail
          refine (unhide HLN).mono ?_
          rintro e w5 ⟨rfl, rfl⟩
          go_wp2_with fail
          refine (unhide HHD).mono ?_
          rintro e w5 ⟨rfl, rfl⟩
          go_wp2_with fail
          refine (unhide HA _).mono ?_
          rintro e w6 ⟨rfl, b6⟩
          go_wp2_with fail
          go_ret
          exact ⟨rfl, tr2 (tr2 (unhide HB0) (unhide HB4)) b6⟩

end Go.Proofs.Ytekljiakofmhnaa
