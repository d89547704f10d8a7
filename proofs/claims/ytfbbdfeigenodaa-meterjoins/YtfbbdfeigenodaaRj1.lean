/- The document's Join. -/
import Derived.Test.YtfbbdfeigenodaaRj0
import Derived.LaidEqlPtr
namespace Go.Proofs.Ytfbbdfeigenodaa
open Go.RowKit Go.Maps
attribute [local go_sem ↓] Go.wp_at_zero Go.wp_at_succ

structure Rtr where
  r : Nat
  v : Value
  L : List Ent
structure RtrOk (w : World) (r : Nat) (L : List Ent) (x : Rtr) : Prop where
  rm : RM w x.r x.v x.L
  cnt : Cnt x.L
  self : x.r = r → x.L = L

def RJPost (Ls : List (List Ent)) (L : List Ent) (r : Nat) (w : World) (e : Ending) (w' : World) : Prop :=
  e = .returned (.int .i64 (joinL Ls L).1) ∧ (((joinL Ls L).1 = 0 ∧ ∃ v', RM w' r v' (joinL Ls L).2 ∧ (∀ i, v'.ownBlock = some i → w.heap.size ≤ i) ∧ Kp [r] w w') ∨ ((joinL Ls L).1 ≠ 0 ∧ Below w.heap.size w w'))

/-- x, apart from what lies in w, and c, apart from x -/
structure XC (w wr : World) (rx : Nat) (vx : Value) (X : List Ent) (rc : Nat) (vc : Value) (A : List Ent) : Prop where
  x : RM wr rx vx X
  c : RM wr rc vc A
  lox : w.heap.size ≤ rx
  lov : ∀ i, vx.ownBlock = some i → w.heap.size ≤ i
  rr : rx ≠ rc
  vr : vx.ownBlock ≠ some rc
  vv : ∀ i, vc.ownBlock = some i → vx.ownBlock ≠ some i
  rv : vc.ownBlock ≠ some rx

theorem XC.add {w wr wr' : World} {rx rc : Nat} {vx vx' vc : Value} {X X' A : List Ent} (h : XC w wr rx vx X rc vc A) (hlo : w.heap.size ≤ wr.heap.size) (hx : RM wr' rx vx' X') (k : Kp (rx :: own vx) wr wr') (hloc : ∀ i, vx'.ownBlock = some i → vx.ownBlock = some i ∨ wr.heap.size ≤ i) : XC w wr' rx vx' X' rc vc A := by
  have hcl := h.c.rlt
  refine ⟨hx, h.c.kept k ?_ ?_, h.lox, ?_, h.rr, ?_, ?_, h.rv⟩
  · simp only [List.mem_cons, mem_own, not_or]
    exact ⟨Ne.symm h.rr, h.vr⟩
  · intro i hi
    rcases List.mem_cons.1 hi with rfl | hi
    · exact h.rv
    · intro e
      exact h.vv i e (mem_own.1 hi)
  · intro i hi
    rcases hloc i hi with g | g
    · exact h.lov i g
    · omega
  · intro e
    rcases hloc rc e with g | g
    · exact h.vr g
    · omega
  · intro i hi e
    rcases hloc i e with g | g
    · exact h.vv i hi g
    · have := (h.c.row.lt i hi).2
      omega
theorem XC.below {w wr wr' : World} {rx rc : Nat} {vx vc : Value} {X A : List Ent} (h : XC w wr rx vx X rc vc A) (hB : Below w.heap.size w wr) (k : Kp (rx :: own vx) wr wr') : Below w.heap.size w wr' := by
  refine hB.trans (k.below hB.size ?_)
  intro i hi
  rcases List.mem_cons.1 hi with rfl | hi
  · exact h.lox
  · exact h.lov i (mem_own.1 hi)

theorem rm_move {w w4 : World} {r rx : Nat} {v vx : Value} {L X : List Ent} (h : RM w r v L) (hx : RM w4 rx vx X) (hlov : ∀ i, vx.ownBlock = some i → w.heap.size ≤ i) (hB : Below w.heap.size w w4) : RM (w4.setCell ⟨r, 0, none⟩ vx) r vx X ∧ Kp [r] w (w4.setCell ⟨r, 0, none⟩ vx) := by
  have hR4 : RM w4 r v L := h.kept (T := []) ⟨hB.os, hB.tape, hB.output, hB.size, fun i hi _ => hB.block i hi⟩ (by simp) (by simp)
  exact rm_store h.rlt (w1 := w) ⟨hB.os, hB.tape, hB.output, hB.size, fun i hi _ => hB.block i hi⟩ hR4 hx.row rfl rfl hlov

set_option maxRecDepth 100000 in
set_option maxHeartbeats 4000000 in
theorem rjoin_any (r : Nat) (v : Value) (L : List Ent) (g c : Nat) (ms : List Rtr) (w : World) (h : RM w r v L) (hL : Cnt L) (hn : ms.length ≤ 1000) (hnc : ms.length ≤ c) (hg : g < w.heap.size) (hrow : ∀ j x, ms[j]? = some x → w.cell? ⟨g, j, none⟩ = some (.pointer (some ⟨x.r, 0, none⟩))) (hms : ∀ x ∈ ms, RtrOk w r L x) :
    Calls Try.prog 15 #[.pointer (some ⟨r, 0, none⟩), .slice (some ⟨g, 0, none⟩) ms.length c] w (RJPost (ms.map (·.L)) L r w) := by
  obtain ⟨i58, hi58, hsz58⟩ : ∃ i, Try.prog.info? 58 = some i ∧ i.size ≠ 0 := by
    have h1 : (Try.prog.info? 58).map (fun i => i.size) = some 1 := by kernel_rfl
    cases h2 : Try.prog.info? 58 with
    | none => rw [h2] at h1; cases h1
    | some i =>
      rw [h2] at h1
      refine ⟨i, rfl, ?_⟩
      have : i.size = 1 := by simpa using h1
      omega
  have HC := hide (copy_any r v L w h hL.room)
  have HP := hide h
  have HR := hide hrow
  have HM := hide hms
  have HL := hide hL
  clear h hrow hms hL
  go_enter Try.func15, Try.ntmps15
  go_wp2_with fail
  refine (unhide HC).mono ?_
  rintro e w1 ⟨rx, vx, rfl, hX1, hlox, hlov, hb1⟩
  go_wp2
  go_loopw [6] (fun i wr => ∃ (k : Nat) (vx : Value) (X : List Ent), k ≤ ms.length ∧ i = .int .i64 (k : Int) ∧ RM wr rx vx X ∧ Below w.heap.size w wr ∧ Hid (joinL ((ms.map (·.L)).take k) L = (0, X) ∧ Cnt X ∧ ∀ i, vx.ownBlock = some i → w.heap.size ≤ i)) (fun i _ => ms.length - (intOf i).toNat)
  case atStart => exact ⟨0, vx, L, Nat.zero_le _, rfl, hX1, hb1, rfl, unhide HL, hlov⟩
  case round =>
    obtain ⟨k, vx, X, hk, rfl, hRX, hbr, HX⟩ := hrel
    by_cases hlt : k < ms.length
    · obtain ⟨x, hx⟩ : ∃ x, ms[k]? = some x := ⟨ms[k], List.getElem?_eq_getElem hlt⟩
      have hcx : wr.cell? ⟨g, k, none⟩ = some (.pointer (some ⟨x.r, 0, none⟩)) := (hbr.cell hg).trans (unhide HR k x hx)
      have hxo := unhide HM x (List.mem_of_getElem? hx)
      have hxp : RM wr x.r x.v x.L := hxo.rm.kept (T := []) ⟨hbr.os, hbr.tape, hbr.output, hbr.size, fun i hi _ => hbr.block i hi⟩ (by simp) (by simp)
      have hmp : RM wr r v L := (unhide HP).kept (T := []) ⟨hbr.os, hbr.tape, hbr.output, hbr.size, fun i hi _ => hbr.block i hi⟩ (by simp) (by simp)
      have HA := hide (copy_any x.r x.v x.L wr hxp hxo.cnt.room)
      have HXL : Hid ((ms.map (·.L))[k]? = some x.L) := by show (ms.map (·.L))[k]? = some x.L; simp [hx]
      have HXC := hide hxo.cnt
      have hself := hxo.self
      have hi1 : (0 : Int) ≤ (k : Int) := by omega
      have hi2 : (k : Int) < (ms.length : Int) := by omega
      have hi3 : (ms.length : Int) ≤ (c : Int) := by omega
      have HMP := hide hmp
      have HXP := hide hxp
      clear hx hxo hxp hmp
      go_wp2_with fail
      refine (unhide HA).mono ?_
      rintro e w5 ⟨rc, vc, rfl, hC5, hloc, hlovc, hb5⟩
      have hcx5 : w5.cell? ⟨g, k, none⟩ = some (.pointer (some ⟨x.r, 0, none⟩)) := (hb5.cell (by exact Nat.lt_of_lt_of_le hg hbr.size)).trans hcx
      have hX5 : RM w5 rx vx X := hRX.kept (Kp.of_below [] hb5) (by simp) (by simp)
      have hb15 : Below w.heap.size w w5 := hbr.trans (hb5.mono hbr.size)
      have hvx := (unhide HX).2.2
      by_cases hs : x.r = r
      · have hq := fun w => run_eql_ptr_same (P := Try.prog) w (tp := 26) (te := 58) ⟨r, 0, none⟩ Try.underlying26 hi58
        have hxL : x.L = L := hself hs
        have HM5 := copy_any r v L w5 ((unhide HMP).kept (Kp.of_below [] hb5) (by simp) (by simp)) (unhide HL).room
        have HM5 := hide HM5
        rw [hs] at hcx5 ⊢
        clear hself hs hcx
        go_wp2_with fail
        refine (unhide HM5).mono ?_
        rintro e w6 ⟨rc6, vc6, rfl, hC6, hloc6, hlovc6, hb6⟩
        have hX6 : RM w6 rx vx X := hX5.kept (Kp.of_below [] hb6) (by simp) (by simp)
        have hB6 : Below w.heap.size w w6 := hb15.trans (hb6.mono hb15.size)
        rw [← hxL] at hC6
        have hXC : XC w w6 rx vx X rc6 vc6 x.L := by
          have h1 := hX5.rlt
          refine ⟨hX6, hC6, hlox, hvx, by omega, ?_, ?_, ?_⟩
          · intro e
            have := (hX5.row.lt _ e).2
            omega
          · intro i hi e
            have := (hX5.row.lt _ e).2
            have := hlovc6 i hi
            omega
          · intro e
            have := hlovc6 _ e
            omega
        clear HM5 hC5 hloc hlovc hb5 hX5 hX6 hb6 hloc6 hlovc6 hRX hbr hcx5 hq hxL
        by_cases hnil : x.L = []
        · have hcc := hC6.cell
          obtain ⟨p0, c0, rfl⟩ : ∃ p c, vc6 = .slice p 0 c := by
            have := row_slice hC6.row
            rw [hnil] at this
            exact this
          have HS : Hid (joinL ((ms.map (·.L)).take (k + 1)) L = (0, X)) := joinL_step (unhide HXL) (unhide HX).1 (by rw [hnil]; rfl)
          clear hnil
          go_wp2
          go_loop [8] (fun i => i = .int .i64 0) (fun _ => 0)
          case atStart => exact rfl
          case round =>
            obtain rfl := hrel
            go_wp2
            go_roundw
            case rel => exact ⟨k + 1, vx, X, by omega, by go_num, hXC.x, hB6, unhide HS, (unhide HX).2⟩
            case measure => simp [intOf]; omega
        · obtain ⟨gA, cA, rfl, hncA, hgA, HCA⟩ : ∃ gA cA, vc6 = .slice (some ⟨gA, 0, none⟩) x.L.length cA ∧ x.L.length ≤ cA ∧ gA < w6.heap.size ∧ Hid (∀ wr, RM wr rc6 (.slice (some ⟨gA, 0, none⟩) x.L.length cA) x.L → ∀ j y, x.L[j]? = some y → wr.cell? ⟨gA, j * 3, none⟩ = some (encStr y.1) ∧ wr.cell? ⟨gA, j * 3 + 1, none⟩ = some (.int .i64 (y.2.1 : Int)) ∧ wr.cell? ⟨gA, j * 3 + 2, none⟩ = some (.int .i64 (y.2.2 : Int))) := by
            obtain ⟨gA, cA, rfl, h1, h2, h3⟩ := hC6.form.resolve_left (fun q => hnil q.2)
            refine ⟨gA, cA, rfl, h1, h2, fun wr hw j y hy => ?_⟩
            have cc := cellsL_get x.L hy
            exact ⟨row_all hw _ _ (cc 0 (by omega)), row_all hw _ _ (cc 1 (by omega)), row_all hw _ _ (cc 2 (by omega))⟩
          have hroomx := (unhide HXC).room
          have hlo5 := hB6.size
          have hcc := hC6.cell
          have HXC5 := hide hXC
          clear hnil hXC hC6
          go_wp2
          go_loopw [8] (fun i wi => ∃ (j : Nat) (vy : Value) (Y : List Ent), j ≤ x.L.length ∧ i = .int .i64 (j : Int) ∧ XC w wi rx vy Y rc6 (.slice (some ⟨gA, 0, none⟩) x.L.length cA) x.L ∧ Below w.heap.size w wi ∧ Hid (addAll (x.L.take j) X = (0, Y) ∧ Cnt Y)) (fun i _ => x.L.length - (intOf i).toNat)
          case atStart => exact ⟨0, vx, X, Nat.zero_le _, rfl, unhide HXC5, hB6, rfl, (unhide HX).2.1⟩
          case round =>
            obtain ⟨j, vy, Y, hj, rfl, hXY, hbY, HY⟩ := hrel
            have hcc' := hXY.c.cell
            by_cases hjlt : j < x.L.length
            · obtain ⟨y, hy⟩ : ∃ y, x.L[j]? = some y := ⟨x.L[j], List.getElem?_eq_getElem hjlt⟩
              obtain ⟨q0, q1, q2⟩ := unhide HCA wr hXY.c j y hy
              have HAD : Hid (∀ w2, Below wr.heap.size wr w2 → Calls Try.prog 23 #[.pointer (some ⟨rx, 0, none⟩), encStr y.1, .int .i64 (y.2.1 : Int), .int .i64 (y.2.2 : Int)] w2 fun e w' =>
                  e = .returned (.int .i64 (addL Y y.1 (y.2.1 : Int) (y.2.2 : Int)).1) ∧ (∃ vy', XC w w' rx vy' (addL Y y.1 (y.2.1 : Int) (y.2.2 : Int)).2 rc6 (.slice (some ⟨gA, 0, none⟩) x.L.length cA) x.L) ∧ Below w.heap.size w w') := by
                intro w2 k2
                have hX2 : XC w w2 rx vy Y rc6 (.slice (some ⟨gA, 0, none⟩) x.L.length cA) x.L := { hXY with x := hXY.x.kept (Kp.of_below [] k2) (by simp) (by simp), c := hXY.c.kept (Kp.of_below [] k2) (by simp) (by simp) }
                have hb2 : Below w.heap.size w w2 := hbY.trans (k2.mono hbY.size)
                have := radd_any rx vy Y ⟨y.1.toArray⟩ (y.2.1 : Int) (y.2.2 : Int) w2 hX2.x (unhide HY).2
                rw [show (⟨y.1.toArray⟩ : ByteArray).data.toList = y.1 by simp] at this
                exact this.mono fun e w' ⟨h1, vy', h2, h3, h4⟩ => ⟨h1, ⟨vy', hX2.add hb2.size h2 h3 h4⟩, hX2.below hb2 h3⟩
              have HYC := hide (cnt_addL (unhide HY).2 y.1 (y.2.1 : Int) (y.2.2 : Int))
              have HS4 : Hid (∀ w', (∃ vy' Y', XC w w' rx vy' Y' rc6 (.slice (some ⟨gA, 0, none⟩) x.L.length cA) x.L) → w'.cell? ⟨rc6, 0, none⟩ = some (.slice (some ⟨gA, 0, none⟩) x.L.length cA) ∧ w'.cell? ⟨gA, j * 3, none⟩ = some (encStr y.1) ∧ w'.cell? ⟨gA, j * 3 + 1, none⟩ = some (.int .i64 (y.2.1 : Int)) ∧ w'.cell? ⟨gA, j * 3 + 2, none⟩ = some (.int .i64 (y.2.2 : Int))) := by
                rintro w' ⟨vy', Y', hxx⟩
                exact ⟨hxx.c.cell, unhide HCA w' hxx.c j y hy⟩
              have hi4 : (0 : Int) ≤ (j : Int) := by omega
              have hi5 : (j : Int) < (x.L.length : Int) := by omega
              have hi6 : (x.L.length : Int) ≤ (cA : Int) := by omega
              by_cases hcode : (addL Y y.1 (y.2.1 : Int) (y.2.2 : Int)).1 = 0
              · have HY' := hide (addAll_step hy (unhide HY).1 hcode)
                rw [hcode] at HAD
                generalize (addL Y y.1 (y.2.1 : Int) (y.2.2 : Int)).2 = Y' at HAD HYC HY'
                clear hcode hy hXY hbY hcc
                go_wp2_with fail
                go_region_held3 (fun w' => w'.cell? ⟨rc6, 0, none⟩ = some (.slice (some ⟨gA, 0, none⟩) x.L.length cA) ∧ w'.cell? ⟨gA, j * 3, none⟩ = some (encStr y.1) ∧ w'.cell? ⟨gA, j * 3 + 1, none⟩ = some (.int .i64 (y.2.1 : Int)) ∧ w'.cell? ⟨gA, j * 3 + 2, none⟩ = some (.int .i64 (y.2.2 : Int))) (go_keep)
                  ((go_at_call 23; refine (unhide HAD _ ((Below.refl _ _).drew)).mono ?_; rintro e W1 ⟨rfl, ⟨vy', fX⟩, fB⟩; obtain ⟨r0, r1, r2, r3⟩ := unhide HS4 W1 ⟨vy', Y', fX⟩))
                clear q0 q1 q2 r0 r1 r2 r3 HAD
                go_wp2
                go_roundw
                case rel => exact ⟨j + 1, vy', Y', by omega, by go_num, fX, fB, unhide HY', unhide HYC⟩
                case measure => simp [intOf]; omega
              · have HJ : Hid ((joinL (ms.map (·.L)) L).1 = (addL Y y.1 (y.2.1 : Int) (y.2.2 : Int)).1) := by
                  have e1 := addAll_stop hy (unhide HY).1 hcode
                  have e2 := joinL_stop (unhide HXL) (unhide HX).1 (by rw [e1]; exact hcode)
                  exact e2.trans e1
                have hcd : (((addL Y y.1 (y.2.1 : Int) (y.2.2 : Int)).1) == (0 : Int)) = false := by simpa using hcode
                generalize (addL Y y.1 (y.2.1 : Int) (y.2.2 : Int)).2 = Y' at HAD HYC
                generalize (addL Y y.1 (y.2.1 : Int) (y.2.2 : Int)).1 = code at HAD HJ hcd hcode
                clear hy hXY hbY hcc
                go_wp2_with fail
                go_region_held3 (fun w' => w'.cell? ⟨rc6, 0, none⟩ = some (.slice (some ⟨gA, 0, none⟩) x.L.length cA) ∧ w'.cell? ⟨gA, j * 3, none⟩ = some (encStr y.1) ∧ w'.cell? ⟨gA, j * 3 + 1, none⟩ = some (.int .i64 (y.2.1 : Int)) ∧ w'.cell? ⟨gA, j * 3 + 2, none⟩ = some (.int .i64 (y.2.2 : Int))) (go_keep)
                  ((go_at_call 23; refine (unhide HAD _ ((Below.refl _ _).drew)).mono ?_; rintro e W1 ⟨rfl, ⟨vy', fX⟩, fB⟩; obtain ⟨r0, r1, r2, r3⟩ := unhide HS4 W1 ⟨vy', Y', fX⟩))
                clear q0 q1 q2 r0 r1 r2 r3 HAD
                go_wp2
                go_ret
                exact ⟨by rw [unhide HJ]; rfl, .inr ⟨by rw [unhide HJ]; exact hcode, fB⟩⟩
            · obtain rfl : j = x.L.length := by omega
              have HS : Hid (joinL ((ms.map (·.L)).take (k + 1)) L = (0, Y)) := by
                have e1 := (unhide HY).1
                rw [List.take_length] at e1
                exact joinL_step (unhide HXL) (unhide HX).1 e1
              have HYC := hide (unhide HY).2
              have HLV := hide hXY.lov
              have hRY := hXY.x
              go_wp2
              go_roundw
              case rel => exact ⟨k + 1, vy, Y, by omega, by go_num, hRY, hbY, unhide HS, unhide HYC, unhide HLV⟩
              case measure => simp [intOf]; omega
      · have hq := fun (w' : World) (k' : w'.heap[x.r]? = some (.cells #[x.v] 58)) (k2 : w'.heap[r]? = some (.cells #[v] 58)) => run_eql_ptr_other (P := Try.prog) w' (tp := 26) (te := 58) (a := ⟨x.r, 0, none⟩) (b := ⟨r, 0, none⟩) Try.underlying26 hi58 hsz58 (by intro e; exact hs (congrArg Addr.block e)) k' k2
        have hq5 := hq w5 (((unhide HXP).kept (Kp.of_below [] hb5) (by simp) (by simp)).box) (((unhide HMP).kept (Kp.of_below [] hb5) (by simp) (by simp)).box)
        have hB5 := hb15
        have hXC : XC w w5 rx vx X rc vc x.L := by
          have h1 := hRX.rlt
          refine ⟨hX5, hC5, hlox, hvx, by omega, ?_, ?_, ?_⟩
          · intro e
            have := (hRX.row.lt _ e).2
            omega
          · intro i hi e
            have := (hRX.row.lt _ e).2
            have := hlovc i hi
            omega
          · intro e
            have := hlovc _ e
            omega
        clear hq hloc hlovc hb5 hX5 hRX hbr hcx hself hs
        by_cases hnil : x.L = []
        · have hcc := hC5.cell
          obtain ⟨p0, c0, rfl⟩ : ∃ p c, vc = .slice p 0 c := by
            have := row_slice hC5.row
            rw [hnil] at this
            exact this
          have HS : Hid (joinL ((ms.map (·.L)).take (k + 1)) L = (0, X)) := joinL_step (unhide HXL) (unhide HX).1 (by rw [hnil]; rfl)
          clear hnil
          go_wp2
          go_loop [8] (fun i => i = .int .i64 0) (fun _ => 0)
          case atStart => exact rfl
          case round =>
            obtain rfl := hrel
            go_wp2
            go_roundw
            case rel => exact ⟨k + 1, vx, X, by omega, by go_num, hXC.x, hB5, unhide HS, (unhide HX).2⟩
            case measure => simp [intOf]; omega
        · obtain ⟨gA, cA, rfl, hncA, hgA, HCA⟩ : ∃ gA cA, vc = .slice (some ⟨gA, 0, none⟩) x.L.length cA ∧ x.L.length ≤ cA ∧ gA < w5.heap.size ∧ Hid (∀ wr, RM wr rc (.slice (some ⟨gA, 0, none⟩) x.L.length cA) x.L → ∀ j y, x.L[j]? = some y → wr.cell? ⟨gA, j * 3, none⟩ = some (encStr y.1) ∧ wr.cell? ⟨gA, j * 3 + 1, none⟩ = some (.int .i64 (y.2.1 : Int)) ∧ wr.cell? ⟨gA, j * 3 + 2, none⟩ = some (.int .i64 (y.2.2 : Int))) := by
            obtain ⟨gA, cA, rfl, h1, h2, h3⟩ := hC5.form.resolve_left (fun q => hnil q.2)
            refine ⟨gA, cA, rfl, h1, h2, fun wr hw j y hy => ?_⟩
            have cc := cellsL_get x.L hy
            exact ⟨row_all hw _ _ (cc 0 (by omega)), row_all hw _ _ (cc 1 (by omega)), row_all hw _ _ (cc 2 (by omega))⟩
          have hroomx := (unhide HXC).room
          have hlo5 := hB5.size
          have hcc := hC5.cell
          have HXC5 := hide hXC
          clear hnil hXC hC5
          go_wp2
          go_loopw [8] (fun i wi => ∃ (j : Nat) (vy : Value) (Y : List Ent), j ≤ x.L.length ∧ i = .int .i64 (j : Int) ∧ XC w wi rx vy Y rc (.slice (some ⟨gA, 0, none⟩) x.L.length cA) x.L ∧ Below w.heap.size w wi ∧ Hid (addAll (x.L.take j) X = (0, Y) ∧ Cnt Y)) (fun i _ => x.L.length - (intOf i).toNat)
          case atStart => exact ⟨0, vx, X, Nat.zero_le _, rfl, unhide HXC5, hB5, rfl, (unhide HX).2.1⟩
          case round =>
            obtain ⟨j, vy, Y, hj, rfl, hXY, hbY, HY⟩ := hrel
            have hcc' := hXY.c.cell
            by_cases hjlt : j < x.L.length
            · obtain ⟨y, hy⟩ : ∃ y, x.L[j]? = some y := ⟨x.L[j], List.getElem?_eq_getElem hjlt⟩
              obtain ⟨q0, q1, q2⟩ := unhide HCA wr hXY.c j y hy
              have HAD : Hid (∀ w2, Below wr.heap.size wr w2 → Calls Try.prog 23 #[.pointer (some ⟨rx, 0, none⟩), encStr y.1, .int .i64 (y.2.1 : Int), .int .i64 (y.2.2 : Int)] w2 fun e w' =>
                  e = .returned (.int .i64 (addL Y y.1 (y.2.1 : Int) (y.2.2 : Int)).1) ∧ (∃ vy', XC w w' rx vy' (addL Y y.1 (y.2.1 : Int) (y.2.2 : Int)).2 rc (.slice (some ⟨gA, 0, none⟩) x.L.length cA) x.L) ∧ Below w.heap.size w w') := by
                intro w2 k2
                have hX2 : XC w w2 rx vy Y rc (.slice (some ⟨gA, 0, none⟩) x.L.length cA) x.L := { hXY with x := hXY.x.kept (Kp.of_below [] k2) (by simp) (by simp), c := hXY.c.kept (Kp.of_below [] k2) (by simp) (by simp) }
                have hb2 : Below w.heap.size w w2 := hbY.trans (k2.mono hbY.size)
                have := radd_any rx vy Y ⟨y.1.toArray⟩ (y.2.1 : Int) (y.2.2 : Int) w2 hX2.x (unhide HY).2
                rw [show (⟨y.1.toArray⟩ : ByteArray).data.toList = y.1 by simp] at this
                exact this.mono fun e w' ⟨h1, vy', h2, h3, h4⟩ => ⟨h1, ⟨vy', hX2.add hb2.size h2 h3 h4⟩, hX2.below hb2 h3⟩
              have HYC := hide (cnt_addL (unhide HY).2 y.1 (y.2.1 : Int) (y.2.2 : Int))
              have HS4 : Hid (∀ w', (∃ vy' Y', XC w w' rx vy' Y' rc (.slice (some ⟨gA, 0, none⟩) x.L.length cA) x.L) → w'.cell? ⟨rc, 0, none⟩ = some (.slice (some ⟨gA, 0, none⟩) x.L.length cA) ∧ w'.cell? ⟨gA, j * 3, none⟩ = some (encStr y.1) ∧ w'.cell? ⟨gA, j * 3 + 1, none⟩ = some (.int .i64 (y.2.1 : Int)) ∧ w'.cell? ⟨gA, j * 3 + 2, none⟩ = some (.int .i64 (y.2.2 : Int))) := by
                rintro w' ⟨vy', Y', hxx⟩
                exact ⟨hxx.c.cell, unhide HCA w' hxx.c j y hy⟩
              have hi4 : (0 : Int) ≤ (j : Int) := by omega
              have hi5 : (j : Int) < (x.L.length : Int) := by omega
              have hi6 : (x.L.length : Int) ≤ (cA : Int) := by omega
              by_cases hcode : (addL Y y.1 (y.2.1 : Int) (y.2.2 : Int)).1 = 0
              · have HY' := hide (addAll_step hy (unhide HY).1 hcode)
                rw [hcode] at HAD
                generalize (addL Y y.1 (y.2.1 : Int) (y.2.2 : Int)).2 = Y' at HAD HYC HY'
                clear hcode hy hXY hbY hcc
                go_wp2_with fail
                go_region_held3 (fun w' => w'.cell? ⟨rc, 0, none⟩ = some (.slice (some ⟨gA, 0, none⟩) x.L.length cA) ∧ w'.cell? ⟨gA, j * 3, none⟩ = some (encStr y.1) ∧ w'.cell? ⟨gA, j * 3 + 1, none⟩ = some (.int .i64 (y.2.1 : Int)) ∧ w'.cell? ⟨gA, j * 3 + 2, none⟩ = some (.int .i64 (y.2.2 : Int))) (go_keep)
                  ((go_at_call 23; refine (unhide HAD _ ((Below.refl _ _).drew)).mono ?_; rintro e W1 ⟨rfl, ⟨vy', fX⟩, fB⟩; obtain ⟨r0, r1, r2, r3⟩ := unhide HS4 W1 ⟨vy', Y', fX⟩))
                clear q0 q1 q2 r0 r1 r2 r3 HAD
                go_wp2
                go_roundw
                case rel => exact ⟨j + 1, vy', Y', by omega, by go_num, fX, fB, unhide HY', unhide HYC⟩
                case measure => simp [intOf]; omega
              · have HJ : Hid ((joinL (ms.map (·.L)) L).1 = (addL Y y.1 (y.2.1 : Int) (y.2.2 : Int)).1) := by
                  have e1 := addAll_stop hy (unhide HY).1 hcode
                  have e2 := joinL_stop (unhide HXL) (unhide HX).1 (by rw [e1]; exact hcode)
                  exact e2.trans e1
                have hcd : (((addL Y y.1 (y.2.1 : Int) (y.2.2 : Int)).1) == (0 : Int)) = false := by simpa using hcode
                generalize (addL Y y.1 (y.2.1 : Int) (y.2.2 : Int)).2 = Y' at HAD HYC
                generalize (addL Y y.1 (y.2.1 : Int) (y.2.2 : Int)).1 = code at HAD HJ hcd hcode
                clear hy hXY hbY hcc
                go_wp2_with fail
                go_region_held3 (fun w' => w'.cell? ⟨rc, 0, none⟩ = some (.slice (some ⟨gA, 0, none⟩) x.L.length cA) ∧ w'.cell? ⟨gA, j * 3, none⟩ = some (encStr y.1) ∧ w'.cell? ⟨gA, j * 3 + 1, none⟩ = some (.int .i64 (y.2.1 : Int)) ∧ w'.cell? ⟨gA, j * 3 + 2, none⟩ = some (.int .i64 (y.2.2 : Int))) (go_keep)
                  ((go_at_call 23; refine (unhide HAD _ ((Below.refl _ _).drew)).mono ?_; rintro e W1 ⟨rfl, ⟨vy', fX⟩, fB⟩; obtain ⟨r0, r1, r2, r3⟩ := unhide HS4 W1 ⟨vy', Y', fX⟩))
                clear q0 q1 q2 r0 r1 r2 r3 HAD
                go_wp2
                go_ret
                exact ⟨by rw [unhide HJ]; rfl, .inr ⟨by rw [unhide HJ]; exact hcode, fB⟩⟩
            · obtain rfl : j = x.L.length := by omega
              have HS : Hid (joinL ((ms.map (·.L)).take (k + 1)) L = (0, Y)) := by
                have e1 := (unhide HY).1
                rw [List.take_length] at e1
                exact joinL_step (unhide HXL) (unhide HX).1 e1
              have HYC := hide (unhide HY).2
              have HLV := hide hXY.lov
              have hRY := hXY.x
              go_wp2
              go_roundw
              case rel => exact ⟨k + 1, vy, Y, by omega, by go_num, hRY, hbY, unhide HS, unhide HYC, unhide HLV⟩
              case measure => simp [intOf]; omega
    · obtain rfl : k = ms.length := by omega
      obtain ⟨p0, c0, rfl⟩ := row_slice hRX.row
      have hfin := rm_move (unhide HP) hRX (unhide HX).2.2 hbr
      have HJ : Hid (joinL (ms.map (·.L)) L = (0, X)) := by
        have := (unhide HX).1
        rw [List.take_of_length_le (by simp)] at this
        exact this
      have hcp : wr.cell? ⟨r, 0, none⟩ = some v := (hbr.cell (unhide HP).rlt).trans (unhide HP).cell
      have hfp : wr.frozen? ⟨r, 0, none⟩ = false := (hbr.frozen (unhide HP).rlt).trans (unhide HP).frozen
      have hcq := hRX.cell
      have HF := hide hfin
      have HLV := hide (unhide HX).2.2
      clear hfin
      go_wp2
      go_ret
      refine ⟨by rw [unhide HJ]; rfl, .inl ⟨by rw [unhide HJ], _, ?_, unhide HLV, (unhide HF).2⟩⟩
      rw [unhide HJ]
      exact (unhide HF).1

end Go.Proofs.Ytfbbdfeigenodaa
