/- The statement NearOnce of layer 9, as a contract over the loaded program. -/
import Derived.Test.YtjcigoojlmalnaaOn2
import Derived.Deep.CutRange
import Derived.Deep.CutBlock
namespace Go.Proofs.Ytjcigoojlmalnaa
open Go.RowKit Go.Maps

theorem OG.drewN {No : Nat → Prop} {p b bm : Nat} {c : Cf} {n i N : Nat} {w : World} {v : Value} {out : List Nat} {last : Nat} {L : Ens} {M : Nums} (h : OG No p b bm c n i N w v out last L M) (q : Nat) : OG No p b bm c n i N (w.drewN q) v out last L M :=
  ⟨h.pn.below (below_drewN (Below.refl _ w) q), h.mp.at rfl, row_at h.row (fun _ _ => rfl), h.nd, h.all, h.inv, h.lt, h.tm, h.tail⟩

theorem og_len {No : Nat → Prop} {p b bm : Nat} {c : Cf} {n i N : Nat} {w : World} {v : Value} {out : List Nat} {last : Nat} {L : Ens} {M : Nums} (h : OG No p b bm c n i N w v out last L M) : out.length ≤ maxLen := by
  rcases h.row.2 with ⟨_, h2⟩ | ⟨g, cap', cur, h1, _, _, h3, h4, _⟩
  · omega
  · omega

/-- k numbers have gone -/
def OL (No N0 : Nat → Prop) (W0 : World) (p b bm : Nat) (c : Cf) (last : Nat) (L : Ens) (M : Nums) (out : List Nat) (v : Value) (k : Nat) (wi : World) : Prop :=
  PN No wi p b c last L ∧ MP wi bm (delL (out.take k) M) ∧ wi.ownsRow 0 31 1 v out.length (u64s out) ∧ Ks N0 W0 wi
theorem OL.next {No N0 : Nat → Prop} {W0 : World} {p b bm : Nat} {c : Cf} {last : Nat} {L : Ens} {M : Nums} {out : List Nat} {v : Value} {k : Nat} {wi w2 : World} (h : OL No N0 W0 p b bm c last L M out v k wi) (hbm : No bm) (hnb : ¬ N0 bm) (hm : MP w2 bm (delL (out.take (k + 1)) M)) (hg : wi.grownBy w2 (some bm)) : OL No N0 W0 p b bm c last L M out v (k + 1) w2 := by
  obtain ⟨h1, h2, h3, h4⟩ := h
  exact ⟨h1.turned hg hbm, hm, row_at h3 (fun g hg' => hg.block g (h3.lt g hg').2 (fun e => map_ne h2 h3 (by rw [hg', e]))), h4.trans (Ks.of_grown hg (fun j hj => by cases hj; exact hnb))⟩

theorem step_s {bv : Int} (h : 0 < bv.tmod 1048576) : ∃ s : Nat, bv.tmod 1048576 = (s : Int) ∧ s < 1048576 := by
  have := Int.tmod_lt_of_pos bv (show (0 : Int) < 1048576 by decide)
  exact ⟨(bv.tmod 1048576).toNat, by omega, by omega⟩
theorem tmod_self {a : Nat} (h : a < 1048576) : ((a : Int)).tmod 1048576 = (a : Int) := Int.tmod_eq_of_lt (by omega) (by omega)

set_option maxRecDepth 100000 in
set_option maxHeartbeats 20000000 in
theorem once_main (c : Cf) (hok : c.Ok) (h100 : c.asks ≤ 100) (hpz : c.pause < 1048576) (v : Value) (l : List Cl) (hl : l.length ≤ 200) (w : World) (hv : IsCalls w v l) :
    Calls Try.prog 3 #[cfv c.most c.waits c.each c.known c.asks c.pause, v] w fun e w' => e = .returned (.bool true) ∧ Below w.heap.size w w' := by
  have HA := hide alive_any
  obtain ⟨W0, hW0⟩ : ∃ W0, W0 = w.alloc (.cells #[.int .i64 (c.most : Int), .int .i64 (c.waits : Int), .int .i64 (c.each : Int), .int .i64 (c.known : Int), .int .i64 (c.asks : Int), .int .i64 (c.pause : Int)] 23) := ⟨_, rfl⟩
  have hB0 : Below w.heap.size w W0 := by rw [hW0]; exact below_one w _
  have hz0 : W0.heap.size = w.heap.size + 1 := by rw [hW0]; simp
  have hbx : W0.heap[w.heap.size]? = some (.cells #[.int .i64 (c.most : Int), .int .i64 (c.waits : Int), .int .i64 (c.each : Int), .int .i64 (c.known : Int), .int .i64 (c.asks : Int), .int .i64 (c.pause : Int)] 23 (0, 0)) := by rw [hW0]; exact heap_alloc_new w _
  have HN := hide (new_pn (No := fun i => i < W0.heap.size) hok W0 (fun i hi => hi))
  have hcl : ∀ W, Ks (fun i => i < W0.heap.size) W0 W → W.heap[w.heap.size]? = some (.cells #[.int .i64 (c.most : Int), .int .i64 (c.waits : Int), .int .i64 (c.each : Int), .int .i64 (c.known : Int), .int .i64 (c.asks : Int), .int .i64 (c.pause : Int)] 23 (0, 0)) := fun W hK => (hK.block _ (by omega) (by omega)).trans hbx
  have HCL := hide hcl
  have HIN : Hid (∀ W, Ks (fun i => i < W0.heap.size) W0 W → ∀ k x, l[k]? = some x → ∃ g off cp, v = .slice (some ⟨g, off, none⟩) l.length cp ∧ l.length ≤ cp ∧ W.cell? ⟨g, off + k * 4, none⟩ = some (.int .u8 (x.1 : Int)) ∧ W.cell? ⟨g, off + k * 4 + 1, none⟩ = some (.int .u8 (x.2.1 : Int)) ∧ W.cell? ⟨g, off + k * 4 + 2, none⟩ = some (.int .u64 (x.2.2.1 : Int)) ∧ W.cell? ⟨g, off + k * 4 + 3, none⟩ = some (.int .i64 x.2.2.2) ∧ ClOk x ∧ g < W.heap.size) := by
    intro W hK k x hx
    obtain ⟨hv1, _, hv2⟩ := hv
    rcases hv1 with ⟨_, rfl⟩ | ⟨g, off, cp, h1, h2, h3, h4⟩
    · simp at hx
    · obtain ⟨e0, e1, e2, e3⟩ := h4 k x hx
      have hc : ∀ o u, w.cell? ⟨g, o, none⟩ = some u → W.cell? ⟨g, o, none⟩ = some u := fun o u hu => hK.cell ((hB0.cell (p := ⟨g, o, none⟩) h3).trans hu) (by show g < W0.heap.size; omega)
      exact ⟨g, off, cp, h1, h2, hc _ _ e0, hc _ _ e1, hc _ _ e2, hc _ _ e3, hv2 x (List.mem_of_getElem? hx), by have := hK.size; omega⟩
  obtain ⟨vs, vc, hvs⟩ : ∃ vs vc, v = .slice vs l.length vc := by
    rcases hv.1 with ⟨⟨a, c, rfl⟩, rfl⟩ | ⟨g, off, cp, h1, _⟩
    · exact ⟨a, c, rfl⟩
    · exact ⟨_, _, h1⟩
  have hm1 := hok.m1
  have ha1 := hok.a1
  have hk1 := hok.k1
  have hp1 := hok.p1
  have HB0 := hide hB0
  have HW0 := hide hW0
  have q1 : decide ((100 : Int) < (c.asks : Int)) = false := decide_eq_false (by omega)
  have q2 : decide ((1048576 : Int) ≤ (c.pause : Int)) = false := decide_eq_false (by omega)
  have q3 : decide ((200 : Int) < (l.length : Int)) = false := decide_eq_false (by omega)
  have hmm := @run_makeMap Try.prog
  clear hcl hbx hB0 hok hz0 hW0 hv
  subst hvs
  go_enter Try.func3, Try.ntmps3
  go_wp2_with fail
  rw [← unhide HW0]
  refine (unhide HN).mono ?_
  rintro e w2 ⟨p, b, rfl, hP, hB⟩
  obtain ⟨d1, d2, d3, d4, d5⟩ := conf_cells9 (unhide HCL w2 (Ks.of_below hB))
  have HP := hide hP
  have HB := hide hB
  clear hP hB HN
  go_wp2_with fail
  obtain ⟨bm, hbm⟩ : ∃ bm, bm = w2.heap.size := ⟨_, rfl⟩
  have HOX : Hid (OX (fun i => i < W0.heap.size ∨ i = bm) p b bm c l.length 0 0 (w2.alloc (.map #[] 0)) ∧ Ks (fun i => i < W0.heap.size) W0 (w2.alloc (.map #[] 0))) := by
    have hBm := below_one w2 (.map #[] 0)
    refine ⟨⟨0, [], [], ⟨(unhide HP).no hBm (fun i hi => ?_), ?_, Inv.new, Nat.le_refl _, fun _ x hx => by simp at hx⟩⟩, (Ks.of_below (unhide HB)).trans (Ks.of_below hBm)⟩
    · rcases hi with hi | rfl
      · have := (unhide HB).size
        exact ⟨by simp; omega, .inl hi⟩
      · exact ⟨by rw [hbm]; simp, .inr (by omega)⟩
    · rw [hbm]
      exact World.ownsMap_made w2 Try.prog 31 vE
  rw [← hbm]
  have HNB : Hid (¬ bm < W0.heap.size) := by have := (unhide HB).size; show ¬ _; omega
  clear hbm d1 d2 d3 d4 d5 q1 q2 q3 HP HB hmm
  generalize w2.alloc (.map #[] 0) = w3 at *
  go_loopw [8, 9] (fun nw iv wr => ∃ i N : Nat, i ≤ l.length + 8 * (c.asks + 2) ∧ N ≤ i * 1048576 ∧ nw = .int .i64 (N : Int) ∧ iv = .int .i64 (i : Int) ∧ OX (fun i => i < W0.heap.size ∨ i = bm) p b bm c l.length i N wr ∧ Ks (fun i => i < W0.heap.size) W0 wr) (fun _ iv _ => l.length + 8 * (c.asks + 2) - (intOf iv).toNat)
  case atStart => exact ⟨0, 0, Nat.zero_le _, Nat.zero_le _, rfl, rfl, (unhide HOX).1, (unhide HOX).2⟩
  case round =>
    obtain ⟨i, N, hi, hN, rfl, rfl, hX, hK⟩ := hrel
    obtain ⟨d1, d2, d3, d4, d5⟩ := conf_cells9 (unhide HCL wr hK)
    have HX := hide hX
    have HK := hide hK
    clear hX hK HOX d1 d2 d3
    by_cases hlt : i < l.length + 8 * (c.asks + 2)
    · go_upto_if 67 with fail
      go_cut [] from 50 to 71 (fun wx => ∃ (dv iv mv : Nat) (bv : Int), dv < 256 ∧ iv < 256 ∧ mv < 18446744073709551616 ∧ (l.length ≤ i → dv = 5 ∧ bv = (c.pause : Int)) ∧ wx = wr.alloc (.cells #[.int .u8 (dv : Int), .int .u8 (iv : Int), .int .u64 (mv : Int), .int .i64 bv] 34))
      case first =>
        by_cases hil : i < l.length
        · obtain ⟨x, hx⟩ : ∃ x, l[i]? = some x := ⟨_, List.getElem?_eq_getElem hil⟩
          obtain ⟨g, off, cp, hvv, hcp, e0, e1, e2, e3, hcx, hgl⟩ := unhide HIN wr (unhide HK) i x hx
          simp only [Value.slice.injEq] at hvv
          obtain ⟨rfl, _, rfl⟩ := hvv
          obtain ⟨dv, iv, mv, bv⟩ := x
          obtain ⟨hd, hi8, hm, hb⟩ := hcx
          simp only at e0 e1 e2 e3 hd hi8 hm hb
          have hi1 : (0 : Int) ≤ (i : Int) := by omega
          have hi2 : (i : Int) < (l.length : Int) := by omega
          have hi3 : (l.length : Int) ≤ (vc : Int) := by omega
          clear hx hb
          go_wp2_with fail
          go_meet
          exact ⟨dv, iv, mv, bv, hd, hi8, hm, fun h => by omega, rfl⟩
        · go_wp2_with fail
          go_meet
          exact ⟨5, 0, 0, (c.pause : Int), by decide, by decide, by decide, fun _ => ⟨rfl, rfl⟩, rfl⟩
      case rest =>
        obtain ⟨dv, iv, mv, bv, hd, hi8, hm, htl, rfl⟩ := hcut
        have hB1 := below_one wr (.cells #[.int .u8 (dv : Int), .int .u8 (iv : Int), .int .u64 (mv : Int), .int .i64 bv] 34)
        have hbx := heap_alloc_new wr (.cells #[.int .u8 (dv : Int), .int .u8 (iv : Int), .int .u64 (mv : Int), .int .i64 bv] 34)
        have f0 := (box_cell hbx (j := 0) (v := .int .u8 (dv : Int)) rfl).1
        have f1 := (box_cell hbx (j := 1) (v := .int .u8 (iv : Int)) rfl).1
        have f2 := (box_cell hbx (j := 2) (v := .int .u64 (mv : Int)) rfl).1
        have f3 := (box_cell hbx (j := 3) (v := .int .i64 bv) rfl).1
        have HB1 := hide hB1
        clear hbx hB1 d4 d5
        generalize wr.alloc (.cells #[.int .u8 (dv : Int), .int .u8 (iv : Int), .int .u64 (mv : Int), .int .i64 bv] 34) = W1 at *
        go_upto_region 12 with fail
        go_cut [8] from 50 to 77 (fun nw wx => ∃ N2 : Nat, nw = .int .i64 (N2 : Int) ∧ N ≤ N2 ∧ N2 < N + 1048576 ∧ (l.length ≤ i → N2 = N + c.pause) ∧ wx = W1)
        case first =>
          by_cases hpos : 0 < bv.tmod 1048576
          · obtain ⟨s, hs, hs2⟩ := step_s hpos
            have hs3 : (0 : Int) < (s : Int) := by omega
            have HTL : Hid (l.length ≤ i → N + s = N + c.pause) := fun h => by
              obtain ⟨_, rfl⟩ := htl h
              rw [tmod_self hpz] at hs
              omega
            clear hpos htl
            go_wp2_with fail
            go_meet
            exact ⟨N + s, by go_num, by omega, by omega, unhide HTL, rfl⟩
          · have HTL : Hid (l.length ≤ i → N = N + c.pause) := fun h => by
              obtain ⟨_, rfl⟩ := htl h
              rw [tmod_self hpz] at hpos
              omega
            clear htl
            go_wp2_with fail
            go_meet
            exact ⟨N, rfl, by omega, by omega, unhide HTL, rfl⟩
        case rest =>
          obtain ⟨N2, rfl, hn1, hn2, hn3, rfl⟩ := hcut
          obtain ⟨ip, hip, hip2⟩ : ∃ ip : Nat, (iv : Int) % 4 = (ip : Int) ∧ ip < 12 := ⟨iv % 4, by omega, by omega⟩
          have h2000 : i < 2000 := by omega
          have hn4 : N2 ≤ 17592186044416 := by omega
          have HIN2 : Hid (dv % 7 ≠ 5 → i < l.length) := fun h => by
            apply Classical.byContradiction
            intro h2
            have := (htl (by omega)).1
            omega
          have HN3 := hide hn3
          clear htl hn3
          have HKX : Hid (Ks (fun i => i < W0.heap.size) W0 wc) := (unhide HK).trans (Ks.of_below (unhide HB1))
          obtain ⟨last, L, M, hOS⟩ := unhide HX
          have HF : Hid (i < l.length → _) := fun hin => once_find (N0 := (fun i => i < W0.heap.size)) hOS (unhide HB1) (.inr rfl) (fun k hk => .inl hk) (unhide HNB) hip2 h2000 hn1 hn4 hin
          have HH : Hid (∀ asked : Bool, i < l.length → _) := fun asked hin => once_hear (asked := asked) (N0 := (fun i => i < W0.heap.size)) hOS (unhide HB1) (.inr rfl) (fun k hk => .inl hk) hip2 hm h2000 hn1 hn4 hin
          have HT := hide (once_tick (N0 := (fun i => i < W0.heap.size)) hOS (unhide HB1) (.inr rfl) (fun k hk => .inl hk) h2000 hn1 hn4 (unhide HN3))
          clear hOS
          go_upto_block 2 with fail
          go_cut [12] from 50 to 170 (fun ov wx => ∃ out, (∃ last L M, OG (fun i => i < W0.heap.size ∨ i = bm) p b bm c l.length i N2 wx ov out last L M) ∧ Ks (fun i => i < W0.heap.size) W0 wx)
          case first =>
            have hind : dv % 7 = 0 ∨ dv % 7 = 1 ∨ dv % 7 = 2 ∨ dv % 7 = 3 ∨ dv % 7 = 4 ∨ dv % 7 = 5 ∨ dv % 7 = 6 := by omega
            rcases hind with h7 | h7 | h7 | h7 | h7 | h7 | h7
            · as_aux_lemma =>
                have h7' : (dv : Int) % 7 = 0 := by omega
                have hin := unhide HIN2 (by omega)
                clear h7
                go_wp2_with fail
                refine (unhide HF hin).mono ?_
                rintro e w6 ⟨mc, known, asks, err, rfl, hres⟩
                rcases hres with ⟨rfl, rfl, w7, hrun, hres⟩ | ⟨rfl, rfl, hres⟩ | ⟨rfl, rfl, rfl, hres⟩
                · have HR := hide hres
                  clear hres
                  go_wp2_with fail
                  go_meet
                  exact ⟨[], (unhide HR).1, (unhide HKX).trans (unhide HR).2⟩
                · have HR := hide hres
                  clear hres
                  go_wp2_with fail
                  go_meet
                  exact ⟨[], (unhide HR).1, (unhide HKX).trans (unhide HR).2⟩
                · have HR := hide hres
                  clear hres
                  go_wp2_with fail
                  go_meet
                  exact ⟨[], (unhide HR).1, (unhide HKX).trans (unhide HR).2⟩
            · as_aux_lemma =>
                have h7' : (dv : Int) % 7 = 1 := by omega
                have hin := unhide HIN2 (by omega)
                clear h7
                go_wp2_with fail
                refine (unhide HF hin).mono ?_
                rintro e w6 ⟨mc, known, asks, err, rfl, hres⟩
                rcases hres with ⟨rfl, rfl, w7, hrun, hres⟩ | ⟨rfl, rfl, hres⟩ | ⟨rfl, rfl, rfl, hres⟩
                · have HR := hide hres
                  clear hres
                  go_wp2_with fail
                  go_meet
                  exact ⟨[], (unhide HR).1, (unhide HKX).trans (unhide HR).2⟩
                · have HR := hide hres
                  clear hres
                  go_wp2_with fail
                  go_meet
                  exact ⟨[], (unhide HR).1, (unhide HKX).trans (unhide HR).2⟩
                · have HR := hide hres
                  clear hres
                  go_wp2_with fail
                  go_meet
                  exact ⟨[], (unhide HR).1, (unhide HKX).trans (unhide HR).2⟩
            · as_aux_lemma =>
                have h7' : (dv : Int) % 7 = 2 := by omega
                have hin := unhide HIN2 (by omega)
                clear h7
                go_wp2_with fail
                refine (unhide HF hin).mono ?_
                rintro e w6 ⟨mc, known, asks, err, rfl, hres⟩
                rcases hres with ⟨rfl, rfl, w7, hrun, hres⟩ | ⟨rfl, rfl, hres⟩ | ⟨rfl, rfl, rfl, hres⟩
                · have HR := hide hres
                  clear hres
                  go_wp2_with fail
                  go_meet
                  exact ⟨[], (unhide HR).1, (unhide HKX).trans (unhide HR).2⟩
                · have HR := hide hres
                  clear hres
                  go_wp2_with fail
                  go_meet
                  exact ⟨[], (unhide HR).1, (unhide HKX).trans (unhide HR).2⟩
                · have HR := hide hres
                  clear hres
                  go_wp2_with fail
                  go_meet
                  exact ⟨[], (unhide HR).1, (unhide HKX).trans (unhide HR).2⟩
            · as_aux_lemma =>
                have h7' : (dv : Int) % 7 = 3 := by omega
                have hin := unhide HIN2 (by omega)
                clear h7
                go_wp2_with fail
                refine (unhide HH true hin).mono ?_
                rintro e w6 ⟨sp, sc, out, rfl, last6, L6, M6, hOG, hpw, hall, hKs⟩
                have HR := hide (And.intro hOG (And.intro hpw (And.intro hall hKs)))
                have hol := og_len hOG
                unfold maxLen at hol
                clear hOG hpw hall hKs HF HH HT
                obtain ⟨on, hon⟩ : ∃ on, on = out.length := ⟨_, rfl⟩
                rw [← hon]
                rw [← hon] at hol
                have HON := hide hon
                clear hon
                go_wp2_with fail
                go_loopw [17] (fun kv wi => ∃ k q : Nat, k ≤ on ∧ kv = .int .i64 (k : Int) ∧ wi = w6.drewN q) (fun kv _ => on - (intOf kv).toNat)
                case atStart => exact ⟨0, 0, Nat.zero_le _, rfl, rfl⟩
                case round =>
                  obtain ⟨k, q, hk, rfl, rfl⟩ := hrel
                  by_cases hkl : k < on
                  · obtain ⟨h1, hpw, hall, _⟩ := unhide HR
                    have hko : k < out.length := by rw [← unhide HON]; exact hkl
                    obtain ⟨x, hx⟩ : ∃ x, out[k]? = some x := ⟨_, List.getElem?_eq_getElem hko⟩
                    have hxm := List.mem_of_getElem? hx
                    have hrow := h1.row
                    obtain ⟨g3, rfl, hck, hcap⟩ := row_at_k (k := k) (u := .int .u64 (x : Int)) hrow (by simp [u64s, hx]) hko
                    have hlk : ∀ q, (Instr.lookup 30 (.map (some bm)) (.int .u64 (x : Int)) false).run Try.prog (w6.drewN q) = .ok (.int .u32 (ip : Int)) (w6.drewN q) := fun q => (MP.look (h1.mp.at (w' := w6.drewN q) rfl) (h1.lt x hxm) (hall x hxm)).1
                    have hj1 : (0 : Int) ≤ (k : Int) := by omega
                    have hj2 : (k : Int) < (on : Int) := by omega
                    have hj3 : (on : Int) ≤ (sc : Int) := by rw [unhide HON]; omega
                    cases k with
                    | zero =>
                      clear h1 hpw hall hx hxm hrow hcap hko
                      go_wp2_with fail
                      go_quiet (fail)
                      go_wp2
                      exact ⟨⟨0 + 1, _, by omega, by go_num, rfl⟩, by simp [intOf]; omega⟩
                    | succ k' =>
                      obtain ⟨y, hy⟩ : ∃ y, out[k']? = some y := ⟨_, List.getElem?_eq_getElem (by omega)⟩
                      have hcy : w6.cell? ⟨g3, k', none⟩ = some (.int .u64 (y : Int)) := by rw [hrow.cellAt k' (by omega)]; simp [u64s, hy]
                      have hlt' : y < x := by
                        have := List.pairwise_iff_getElem.1 hpw k' (k' + 1) (by omega) hko (by omega)
                        rw [(List.getElem?_eq_some_iff.1 hx).2, (List.getElem?_eq_some_iff.1 hy).2] at this
                        exact this
                      have hle : decide ((x : Int) ≤ (y : Int)) = false := decide_eq_false (by omega)
                      clear h1 hpw hall hx hxm hrow hcap hko hy
                      go_wp2_with fail
                      go_quiet (fail)
                      go_wp2
                      exact ⟨⟨k' + 1 + 1, _, by omega, by go_num, rfl⟩, by simp [intOf]; omega⟩
                  · go_wp2_with fail
                    go_meet
                    obtain ⟨h1, _, _, h4⟩ := unhide HR
                    exact ⟨out, ⟨_, _, _, by rw [unhide HON]; exact h1.drewN q⟩, (unhide HKX).trans (h4.trans (Ks.of_below (below_drewN (Below.refl _ w6) q)))⟩
            · as_aux_lemma =>
                have h7' : (dv : Int) % 7 = 4 := by omega
                have hin := unhide HIN2 (by omega)
                clear h7
                go_wp2_with fail
                refine (unhide HH false hin).mono ?_
                rintro e w6 ⟨sp, sc, out, rfl, last6, L6, M6, hOG, hpw, hall, hKs⟩
                have HR := hide (And.intro hOG (And.intro hpw (And.intro hall hKs)))
                have hol := og_len hOG
                unfold maxLen at hol
                clear hOG hpw hall hKs HF HH HT
                obtain ⟨on, hon⟩ : ∃ on, on = out.length := ⟨_, rfl⟩
                rw [← hon]
                rw [← hon] at hol
                have HON := hide hon
                clear hon
                go_wp2_with fail
                go_loopw [17] (fun kv wi => ∃ k q : Nat, k ≤ on ∧ kv = .int .i64 (k : Int) ∧ wi = w6.drewN q) (fun kv _ => on - (intOf kv).toNat)
                case atStart => exact ⟨0, 0, Nat.zero_le _, rfl, rfl⟩
                case round =>
                  obtain ⟨k, q, hk, rfl, rfl⟩ := hrel
                  by_cases hkl : k < on
                  · obtain ⟨h1, hpw, hall, _⟩ := unhide HR
                    have hko : k < out.length := by rw [← unhide HON]; exact hkl
                    obtain ⟨x, hx⟩ : ∃ x, out[k]? = some x := ⟨_, List.getElem?_eq_getElem hko⟩
                    have hxm := List.mem_of_getElem? hx
                    have hrow := h1.row
                    obtain ⟨g3, rfl, hck, hcap⟩ := row_at_k (k := k) (u := .int .u64 (x : Int)) hrow (by simp [u64s, hx]) hko
                    have hlk : ∀ q, (Instr.lookup 30 (.map (some bm)) (.int .u64 (x : Int)) false).run Try.prog (w6.drewN q) = .ok (.int .u32 (ip : Int)) (w6.drewN q) := fun q => (MP.look (h1.mp.at (w' := w6.drewN q) rfl) (h1.lt x hxm) (hall x hxm)).1
                    have hj1 : (0 : Int) ≤ (k : Int) := by omega
                    have hj2 : (k : Int) < (on : Int) := by omega
                    have hj3 : (on : Int) ≤ (sc : Int) := by rw [unhide HON]; omega
                    cases k with
                    | zero =>
                      clear h1 hpw hall hx hxm hrow hcap hko
                      go_wp2_with fail
                      go_quiet (fail)
                      go_wp2
                      exact ⟨⟨0 + 1, _, by omega, by go_num, rfl⟩, by simp [intOf]; omega⟩
                    | succ k' =>
                      obtain ⟨y, hy⟩ : ∃ y, out[k']? = some y := ⟨_, List.getElem?_eq_getElem (by omega)⟩
                      have hcy : w6.cell? ⟨g3, k', none⟩ = some (.int .u64 (y : Int)) := by rw [hrow.cellAt k' (by omega)]; simp [u64s, hy]
                      have hlt' : y < x := by
                        have := List.pairwise_iff_getElem.1 hpw k' (k' + 1) (by omega) hko (by omega)
                        rw [(List.getElem?_eq_some_iff.1 hx).2, (List.getElem?_eq_some_iff.1 hy).2] at this
                        exact this
                      have hle : decide ((x : Int) ≤ (y : Int)) = false := decide_eq_false (by omega)
                      clear h1 hpw hall hx hxm hrow hcap hko hy
                      go_wp2_with fail
                      go_quiet (fail)
                      go_wp2
                      exact ⟨⟨k' + 1 + 1, _, by omega, by go_num, rfl⟩, by simp [intOf]; omega⟩
                  · go_wp2_with fail
                    go_meet
                    obtain ⟨h1, _, _, h4⟩ := unhide HR
                    exact ⟨out, ⟨_, _, _, by rw [unhide HON]; exact h1.drewN q⟩, (unhide HKX).trans (h4.trans (Ks.of_below (below_drewN (Below.refl _ w6) q)))⟩
            · as_aux_lemma =>
                have h7' : (dv : Int) % 7 = 5 := by omega
                clear h7
                go_wp2_with fail
                refine (unhide HT).mono ?_
                rintro e w6 ⟨sa, na, ca, sb, cb, out, rfl, hres, hKs⟩
                have HR := hide (And.intro hres hKs)
                clear hres hKs
                go_wp2_with fail
                go_meet
                exact ⟨out, (unhide HR).1, (unhide HKX).trans (unhide HR).2⟩
            · as_aux_lemma =>
                have h7' : (dv : Int) % 7 = 6 := by omega
                clear h7
                go_wp2_with fail
                refine (unhide HT).mono ?_
                rintro e w6 ⟨sa, na, ca, sb, cb, out, rfl, hres, hKs⟩
                have HR := hide (And.intro hres hKs)
                clear hres hKs
                go_wp2_with fail
                go_meet
                exact ⟨out, (unhide HR).1, (unhide HKX).trans (unhide HR).2⟩
          case rest =>
            as_aux_lemma =>
              obtain ⟨out, ⟨last5, L5, M5, hOG⟩, hKx⟩ := hcut
              obtain ⟨sp, sc, hsl⟩ := row_shape hOG.row
              have hol := og_len hOG
              unfold maxLen at hol
              have HR := hide hOG
              have HL0 : Hid (OL (fun i => i < W0.heap.size ∨ i = bm) (fun i => i < W0.heap.size) W0 p b bm c last5 L5 M5 out u12 0 wc) := ⟨hOG.pn, hOG.mp, hOG.row, hKx⟩
              clear hOG hKx HF HH HT HKX HX HK HB1
              subst hsl
              obtain ⟨on, hon⟩ : ∃ on, on = out.length := ⟨_, rfl⟩
              rw [← hon]
              rw [← hon] at hol
              have HON := hide hon
              clear hon
              go_wp2_with fail
              go_loopw [18] (fun kv wi => ∃ k : Nat, k ≤ on ∧ kv = .int .i64 (k : Int) ∧ OL (fun i => i < W0.heap.size ∨ i = bm) (fun i => i < W0.heap.size) W0 p b bm c last5 L5 M5 out (.slice sp out.length sc) k wi) (fun kv _ => on - (intOf kv).toNat)
              case atStart => exact ⟨0, Nat.zero_le _, rfl, unhide HL0⟩
              case round =>
                obtain ⟨k, hk, rfl, hL⟩ := hrel
                have HL := hide hL
                by_cases hkl : k < on
                · have hko : k < out.length := by rw [← unhide HON]; exact hkl
                  obtain ⟨x, hx⟩ : ∃ x, out[k]? = some x := ⟨_, List.getElem?_eq_getElem hko⟩
                  obtain ⟨g3, rfl, hck, hcap⟩ := row_at_k (k := k) (u := .int .u64 (x : Int)) hL.2.2.1 (by simp [u64s, hx]) hko
                  obtain ⟨⟨qq, hlk⟩, w9, hdel, hm9, hg9⟩ := once_drop (unhide HR) hx hL.2.1
                  have HN9 := hide (hL.next (.inr rfl) (unhide HNB) hm9 hg9)
                  have hj1 : (0 : Int) ≤ (k : Int) := by omega
                  have hj2 : (k : Int) < (on : Int) := by omega
                  have hj3 : (on : Int) ≤ (sc : Int) := by rw [unhide HON]; omega
                  clear hL hm9 hg9 hx hcap hko
                  go_wp2
                  exact ⟨⟨k + 1, by omega, by go_num, unhide HN9⟩, by simp [intOf]; omega⟩
                · have hkn : k = out.length := by rw [← unhide HON]; omega
                  have hinv : Inv L5 (delL (out.take k) M5) (i + 1) := by rw [hkn, List.take_length]; exact (unhide HR).inv
                  have HW := hide (waits_any wr hL.1)
                  have hln := hinv.len
                  have hwt : tot L5 ≤ c.waits := hL.1.wl'.1.tot
                  have hsz : ∀ W, Below wr.heap.size wr W → (Builtin.len_ #[30] 3 #[.map (some bm)]).run Try.prog W = .ok (.int .i64 (tot L5 : Int)) W := fun W hB => by
                    have := (hL.2.1.at (hB.block bm hL.2.1.lt)).size
                    rw [hln] at this
                    exact this
                  have HSZ := hide hsz
                  have HOX : Hid (∀ W, Below wr.heap.size wr W → OX (fun i => i < W0.heap.size ∨ i = bm) p b bm c l.length (i + 1) N2 W ∧ Ks (fun i => i < W0.heap.size) W0 W) := fun W hB =>
                    ⟨⟨last5, L5, delL (out.take k) M5, ⟨hL.1.below hB, hL.2.1.at (hB.block bm hL.2.1.lt), hinv, (unhide HR).tm, fun h => (unhide HR).tail h⟩⟩, hL.2.2.2.trans (Ks.of_below hB)⟩
                  have ht1 : decide ((c.waits : Int) < (tot L5 : Int)) = false := decide_eq_false (by omega)
                  have ht2 : decide (c.waits < tot L5) = false := decide_eq_false (by omega)
                  have ht3 : ((tot L5 : Int) != (tot L5 : Int)) = false := by simp
                  have hkb : k = on := by omega
                  clear hinv hln hsz hL hkn hkl
                  subst hkb
                  go_wp2_with fail
                  refine (unhide HW).mono ?_
                  rintro e w8 ⟨sp8, cap8, rfl, hB8⟩
                  have hs8 := unhide HSZ w8 hB8
                  have HO8 := hide (unhide HOX w8 hB8)
                  obtain ⟨d1, d2, d3, d4, d5⟩ := conf_cells9 (unhide HCL w8 (unhide HO8).2)
                  clear hB8 HOX HSZ HW HL HR d2 d3 d4 d5
                  go_wp2
                  exact ⟨⟨i + 1, N2, by omega, by omega, rfl, by go_num, unhide HO8⟩, by simp [intOf]; omega⟩
    · as_aux_lemma =>
        obtain ⟨last, L, M, hOS⟩ := unhide HX
        have hie : i = l.length + 8 * (c.asks + 2) := by omega
        have ht0 : tot L = 0 := tail_none (hOS.tail (by omega)) hOS.pn.wl'.1.asked hOS.pn.wl'.1.no (by omega)
        have hW := waits_any wr hOS.pn
        rw [ht0] at hW
        have HW := hide hW
        clear hW hOS ht0
        go_wp2_with fail
        refine (unhide HW).mono ?_
        rintro e w8 ⟨sp8, cap8, rfl, hB8⟩
        have HB8 := hide hB8
        clear hB8
        go_wp2_with fail
        refine (unhide HA _).mono ?_
        rintro e w9 ⟨rfl, hB9⟩
        go_wp2
        go_ret
        exact ⟨rfl, tr2 (unhide HB0) (tr2 ((unhide HK).below (Nat.le_refl _) (fun _ h => h)) (tr2 (unhide HB8) hB9))⟩
end Go.Proofs.Ytjcigoojlmalnaa
