/- filled of the laws: a meter and the document's, with all that could be added. -/
import Derived.Test.YtfbbdfeigenodaaLw0
import Derived.Test.YtfbbdfeigenodaaRf4
import Derived.Test.YtfbbdfeigenodaaMt6
namespace Go.Proofs.Ytfbbdfeigenodaa
open Go.RowKit Go.Maps
attribute [local go_sem ↓] Go.wp_at_zero Go.wp_at_succ

def runL (l : List Stp) : List Ent := l.foldl (fun L x => (addL L x.1.data.toList x.2.1 x.2.2).2) []
theorem runL_snoc {l : List Stp} {k : Nat} {x : Stp} (h : l[k]? = some x) : runL (l.take (k + 1)) = (addL (runL (l.take k)) x.1.data.toList x.2.1 x.2.2).2 := by
  unfold runL
  rw [List.take_add_one, h, List.foldl_append]
  rfl
theorem cnt_fold : ∀ (l : List Stp) (L : List Ent), Cnt L → Cnt (l.foldl (fun L x => (addL L x.1.data.toList x.2.1 x.2.2).2) L)
  | [], _, h => h
  | _ :: r, _, h => cnt_fold r _ (cnt_addL h _ _ _)
theorem cnt_runL (l : List Stp) : Cnt (runL l) := cnt_fold l [] cnt_nil

/-- a meter and the document's, alike, from block lo on -/
structure Both (w : World) (lo p b r : Nat) (v : Value) (L : List Ent) : Prop where
  pm : PM w p b L
  rm : RM w r v L
  cnt : Cnt L
  lop : lo ≤ p
  lob : lo ≤ b
  lor : lo ≤ r
  lov : ∀ i, v.ownBlock = some i → lo ≤ i
  rp : r ≠ p
  rb : r ≠ b
  vp : v.ownBlock ≠ some p
  vb : v.ownBlock ≠ some b

theorem Both.kept {w w' : World} {lo p b r : Nat} {v : Value} {L : List Ent} {T : List Nat} (h : Both w lo p b r v L) (k : Kp T w w') (h1 : ∀ i ∈ T, i ≠ p ∧ i ≠ b ∧ i ≠ r ∧ v.ownBlock ≠ some i) : Both w' lo p b r v L :=
  { h with
    pm := h.pm.kept k (fun g => (h1 p g).1 rfl) (fun g => (h1 b g).2.1 rfl)
    rm := h.rm.kept k (fun g => (h1 r g).2.2.1 rfl) (fun i hi => (h1 i hi).2.2.2) }

theorem Both.add1 {w w' : World} {lo p b r : Nat} {v : Value} {L : List Ent} (h : Both w lo p b r v L) (k : Kp [b] w w') : RM w' r v L :=
  h.rm.kept k (by simpa using h.rb) (by simpa using h.vb)
theorem Both.add2 {w w' w'' : World} {lo p b r : Nat} {v v' : Value} {L L' : List Ent} (h : Both w lo p b r v L) (hlo : lo ≤ w.heap.size) (hp : PM w' p b L') (k : Kp [b] w w') (hr : RM w'' r v' L') (k2 : Kp (r :: own v) w' w'') (hloc : ∀ i, v'.ownBlock = some i → v.ownBlock = some i ∨ w'.heap.size ≤ i) (hc : Cnt L') : Both w'' lo p b r v' L' :=
  { pm := hp.kept k2 (by simp [mem_own]; exact ⟨Ne.symm h.rp, h.vp⟩) (by simp [mem_own]; exact ⟨Ne.symm h.rb, h.vb⟩)
    rm := hr
    cnt := hc
    lop := h.lop
    lob := h.lob
    lor := h.lor
    lov := fun i hi => by
      rcases hloc i hi with g | g
      · exact h.lov i g
      · have := k.size; omega
    rp := h.rp
    rb := h.rb
    vp := fun e => by
      rcases hloc p e with g | g
      · exact h.vp g
      · have := hp.plt; omega
    vb := fun e => by
      rcases hloc b e with g | g
      · exact h.vb g
      · have := hp.blt; omega }

theorem both_new {w w1 : World} (h : PM w1 (w.heap.size + 1) w.heap.size []) : Both (w1.alloc (.cells #[.slice none 0 0] 58)) w.heap.size (w.heap.size + 1) w.heap.size w1.heap.size (.slice none 0 0) [] := by
  have hp := h.plt
  exact
  { pm := h.kept (Kp.of_below [] (below_one _ _)) (by simp) (by simp)
    rm := ⟨heap_alloc_new _ _, World.ownsRow_nil _ _ _ _⟩
    cnt := cnt_nil
    lop := by omega
    lob := by omega
    lor := by omega
    lov := fun i hi => by cases hi
    rp := by omega
    rb := by omega
    vp := by simp [Value.ownBlock]
    vb := by simp [Value.ownBlock] }

def FilledPost (l : List Stp) (w : World) (e : Ending) (w' : World) : Prop :=
  ∃ p b r v, e = .returned (.tuple #[.pointer (some ⟨p, 0, none⟩), .pointer (some ⟨r, 0, none⟩), .bool true]) ∧ Both w' w.heap.size p b r v (runL l) ∧ Below w.heap.size w w'

set_option maxRecDepth 100000 in
set_option maxHeartbeats 4000000 in
theorem filled_any (sv : Value) (l : List Stp) (w : World) (h : IsSteps w sv l) (hl : l.length ≤ 200) :
    Calls Try.prog 9 #[sv] w (FilledPost l w) := by
  obtain ⟨hf, _, hok⟩ := h
  have HN := hide (new_pm w)
  rcases hf with ⟨⟨a, c, rfl⟩, rfl⟩ | ⟨g, off, c, rfl, hnc, hg, hcell⟩
  · go_enter Try.func9, Try.ntmps9
    go_wp2_with fail
    refine (unhide HN).mono ?_
    rintro e w1 ⟨rfl, hP1, hB1⟩
    go_wp2
    go_loop [7] (fun i => i = .int .i64 0) (fun _ => 0)
    case atStart => exact rfl
    case round =>
      obtain rfl := hrel
      go_wp2
      go_ret3
      exact ⟨_, _, _, _, rfl, both_new hP1, hB1.alloc hB1.size _⟩
  · have HC := hide hcell
    have HO := hide hok
    clear hcell hok
    go_enter Try.func9, Try.ntmps9
    go_wp2_with fail
    refine (unhide HN).mono ?_
    rintro e w1 ⟨rfl, hP1, hB1⟩
    go_wp2
    go_loopw [7] (fun i wr => ∃ (k : Nat) (v : Value), k ≤ l.length ∧ i = .int .i64 (k : Int) ∧ Both wr w.heap.size (w.heap.size + 1) w.heap.size w1.heap.size v (runL (l.take k)) ∧ Below w.heap.size w wr) (fun i _ => l.length - (intOf i).toNat)
    case atStart => exact ⟨0, _, Nat.zero_le _, rfl, both_new hP1, hB1.alloc hB1.size _⟩
    case round =>
      obtain ⟨k, v, hk, rfl, hBo, hB⟩ := hrel
      by_cases hlt : k < l.length
      · obtain ⟨x, hx⟩ : ∃ x, l[k]? = some x := ⟨l[k], List.getElem?_eq_getElem hlt⟩
        obtain ⟨c0, c1, c2⟩ := unhide HC k x hx
        have HD4 : Hid (∀ w4, Below w.heap.size w w4 → w4.cell? ⟨g, off + k * 3, none⟩ = some (.string x.1) ∧ w4.cell? ⟨g, off + k * 3 + 1, none⟩ = some (.int .i64 x.2.1) ∧ w4.cell? ⟨g, off + k * 3 + 2, none⟩ = some (.int .i64 x.2.2)) :=
          fun w4 h4 => ⟨(h4.cell hg).trans c0, (h4.cell hg).trans c1, (h4.cell hg).trans c2⟩
        have d0 := (hB.cell (p := ⟨g, off + k * 3, none⟩) hg).trans c0
        have d1 := (hB.cell (p := ⟨g, off + k * 3 + 1, none⟩) hg).trans c1
        have d2 := (hB.cell (p := ⟨g, off + k * 3 + 2, none⟩) hg).trans c2
        have hi1 : (0 : Int) ≤ (k : Int) := by omega
        have hi2 : (k : Int) < (l.length : Int) := by omega
        have hi3 : (l.length : Int) ≤ (c : Int) := by omega
        have hxs := ((unhide HO) x (List.mem_of_getElem? hx)).s
        have HX := hide (runL_snoc hx)
        clear hx c0 c1 c2
        generalize hLk : runL (l.take k) = L at *
        clear hLk
        have hc1 := cnt_addL hBo.cnt x.1.data.toList x.2.1 x.2.2
        have HP : Hid (∀ w2, Below wr.heap.size wr w2 → Calls Try.prog 18 #[.pointer (some ⟨w.heap.size + 1, 0, none⟩), .string x.1, .int .i64 x.2.1, .int .i64 x.2.2] w2 fun e w3 => e = .returned (.int .i64 (addL L x.1.data.toList x.2.1 x.2.2).1) ∧ PM w3 (w.heap.size + 1) w.heap.size (addL L x.1.data.toList x.2.1 x.2.2).2 ∧ Kp [w.heap.size] wr w3) := by
          intro w2 hb2
          refine (add_any _ _ L x.1 x.2.1 x.2.2 w2 (hBo.pm.kept (Kp.of_below [] hb2) (by simp) (by simp)) hxs hBo.cnt).mono fun e w3 ⟨he, hp, hk⟩ => ⟨he, hp, (Kp.of_below _ hb2).trans hk (by simp)⟩
        have HR : Hid (∀ w3, PM w3 (w.heap.size + 1) w.heap.size (addL L x.1.data.toList x.2.1 x.2.2).2 → Kp [w.heap.size] wr w3 → Calls Try.prog 23 #[.pointer (some ⟨w1.heap.size, 0, none⟩), .string x.1, .int .i64 x.2.1, .int .i64 x.2.2] w3 fun e w4 => e = .returned (.int .i64 (addL L x.1.data.toList x.2.1 x.2.2).1) ∧ (∃ v', Both w4 w.heap.size (w.heap.size + 1) w.heap.size w1.heap.size v' (addL L x.1.data.toList x.2.1 x.2.2).2) ∧ Below w.heap.size w w4) := by
          intro w3 hp hk3
          refine (radd_any _ v L x.1 x.2.1 x.2.2 w3 (hBo.add1 hk3) hBo.cnt).mono fun e w4 ⟨he, v', hr, hk4, hloc⟩ => ⟨he, ⟨v', hBo.add2 hB.size hp hk3 hr hk4 hloc hc1⟩, ?_⟩
          have b3 := hB.trans (hk3.below hB.size (by simp))
          refine b3.trans (hk4.below b3.size ?_)
          intro i hi
          rcases List.mem_cons.1 hi with rfl | hi
          · exact hBo.lor
          · exact hBo.lov i (mem_own.1 hi)
        have HD : Hid (∀ w3, Kp [w.heap.size] wr w3 → w3.cell? ⟨g, off + k * 3, none⟩ = some (.string x.1) ∧ w3.cell? ⟨g, off + k * 3 + 1, none⟩ = some (.int .i64 x.2.1) ∧ w3.cell? ⟨g, off + k * 3 + 2, none⟩ = some (.int .i64 x.2.2)) := by
          intro w3 hk3
          have b3 := hk3.below hB.size (by simp)
          exact ⟨(b3.cell hg).trans d0, (b3.cell hg).trans d1, (b3.cell hg).trans d2⟩
        generalize (addL L x.1.data.toList x.2.1 x.2.2).1 = code at HP HR
        generalize hL' : (addL L x.1.data.toList x.2.1 x.2.2).2 = L' at HP HR HX hc1
        clear hL' hc1 hBo hB
        go_wp2_with fail
        go_region_held3 (fun w' => w'.cell? ⟨g, off + k * 3, none⟩ = some (.string x.1) ∧ w'.cell? ⟨g, off + k * 3 + 1, none⟩ = some (.int .i64 x.2.1) ∧ w'.cell? ⟨g, off + k * 3 + 2, none⟩ = some (.int .i64 x.2.2)) (go_keep)
          (first
            | (go_at_call 18; refine (unhide HP _ ((Below.refl _ _).drew)).mono ?_; rintro e w3 ⟨rfl, hP3, hK3⟩; obtain ⟨q0, q1, q2⟩ := unhide HD w3 hK3)
            | (go_at_call 23; refine (unhide HR _ hP3 hK3).mono ?_; rintro e w4 ⟨rfl, hBo4, hB4⟩; obtain ⟨q4, q5, q6⟩ := unhide HD4 w4 hB4))
        obtain ⟨v', hBo4⟩ := hBo4
        clear q0 q1 q2 q4 q5 q6 d0 d1 d2 hP3 hK3
        have HBo := hide hBo4
        clear hBo4
        go_wp2
        go_roundw
        case rel => exact ⟨k + 1, v', by omega, by go_num, by rw [unhide HX]; exact unhide HBo, hB4⟩
        case measure => simp [intOf]; omega
      · obtain rfl : k = l.length := by omega
        rw [List.take_length] at hBo
        go_wp2
        go_ret3
        exact ⟨_, _, _, _, rfl, hBo, hB⟩

end Go.Proofs.Ytfbbdfeigenodaa
