/- The contracts of package frag's headSize, refused and parts, over the loaded program; no memory that was there has turned. -/
import Derived.Test.YtefenejeppmfiaaFm12
import Derived.Test.YtefenejeppmfiaaRa12
import Derived.Stop.RegionWithIn
import Derived.Sort.QuietIn
namespace Go.Proofs.Ytefenejeppmfiaa
open Go.RowKit Go.Shelf

set_option maxHeartbeats 400000 in
theorem fheadsize_any (h : Rh) (w : World) (hi : h.op.size ≤ 1073741824) :
    Calls Try.prog 49 #[hdV h] w fun e w' => e = .returned (.int .i64 (20 + h.op.size : Nat)) ∧ Below w.heap.size w w' := by
  have BEL := hide (fun o => below_one w o)
  go_enter Try.func49, Try.ntmps49
  go_wp2
  go_ret
  exact ⟨rfl, unhide BEL _⟩

/-- why a packet that is too long is not cut -/
def refE (h : Rh) (room : Int) : Int := if h.hold then 4 else if room < ((28 + h.op.size : Nat) : Int) then 6 else if optsR h.op = none then 2 else 0

set_option maxHeartbeats 1000000 in
theorem refused_any (h : Rh) (room : Int) (w : World) (ho : h.op.size ≤ 40) (E : Int) (HE : Hid (refE h room = E)) :
    Calls Try.prog 18 #[hdV h, .int .i64 room] w fun e w' => e = .returned (.int .i64 E) ∧ Below w.heap.size w w' := by
  have BEL := hide (fun o => below_one w o)
  have H1 := hide (fun w => fheadsize_any h w (by omega))
  have H2 := hide (fun w => options_short h.op w ho)
  obtain ⟨g, hg⟩ : ∃ g, h.hold = g := ⟨_, rfl⟩
  have hE := unhide HE
  unfold refE at hE
  unfold hdV at H1 ⊢
  rw [hg] at H1 hE ⊢
  clear HE
  cases g
  · rw [if_neg (by simp)] at hE
    have hx : IntKind.i64.wrap (((20 + h.op.size : Nat) : Int) + 8) = ((28 + h.op.size : Nat) : Int) := by rw [IntKind.wrap_i64]; omega
    by_cases h3 : room < ((28 + h.op.size : Nat) : Int)
    · rw [if_pos h3] at hE
      subst hE
      clear H2
      have hd : decide (room < ((28 + h.op.size : Nat) : Int)) = true := decide_eq_true h3
      clear h3 ho
      generalize 28 + h.op.size = m28 at *
      generalize 20 + h.op.size = m20 at *
      go_enter Try.func18, Try.ntmps18
      go_wp2_with fail
      refine (unhide H1 _).mono ?_
      rintro e w3 ⟨rfl, b3⟩
      have B3 := hide (tr2 (unhide BEL _) b3)
      go_wp2_with fail
      go_ret
      exact ⟨rfl, unhide B3⟩
    · rw [if_neg h3] at hE
      have hd : decide (room < ((28 + h.op.size : Nat) : Int)) = false := decide_eq_false h3
      clear h3 ho
      generalize 28 + h.op.size = m28 at *
      generalize hm20 : 20 + h.op.size = m20 at *
      have HE := hide hE
      clear hE hm20
      go_enter Try.func18, Try.ntmps18
      go_wp2_with fail
      have k0 := HC.box w ⟨h.tos, h.id, false, h.more, h.at', h.ttl, h.proto, h.frm, h.to, h.op⟩ 25
      simp only [hdL] at k0
      refine (unhide H1 _).mono ?_
      rintro e w3 ⟨rfl, b3⟩
      have B3 := hide (tr2 (unhide BEL _) b3)
      have c9 := (k0.on b3).c9
      clear k0 b3
      go_wp2_with fail
      refine (unhide H2 _).mono ?_
      rintro e w4 (⟨hr, rfl, b4⟩ | ⟨L, sp, sc, hr, hlen, rfl, hown, b4⟩)
      · have hE : E = 2 := by rw [← unhide HE, if_pos hr]
        subst hE
        have B4 := hide (tr2 (unhide B3) b4)
        clear hr
        go_wp2_with fail
        go_ret
        exact ⟨rfl, unhide B4⟩
      · have hE : E = 0 := by rw [← unhide HE, if_neg (by rw [hr]; simp)]
        subst hE
        have B4 := hide (tr2 (unhide B3) b4)
        clear hr hown
        go_wp2_with fail
        go_ret
        exact ⟨rfl, unhide B4⟩
  · rw [if_pos rfl] at hE
    subst hE
    clear H1 H2
    go_enter Try.func18, Try.ntmps18
    go_wp2_with fail
    go_ret
    exact ⟨rfl, unhide BEL _⟩

attribute [local go_sem] Oper.semAt_some

abbrev encPc (x : Pc) : Array Value := #[hdV x.1, .string x.2]

set_option maxHeartbeats 1000000 in
theorem parts_in (h : Rh) (d : ByteArray) (room : Int) (w : World) (n : Nat) :
    CallsIn Fence.wide n Try.prog 19 #[hdV h, .string d, .int .i64 room] w fun e w' => e = .returned (.func (.func 50) #[] #[.pointer (some ⟨w.heap.size, 0, none⟩), .pointer (some ⟨w.heap.size + 1, 0, none⟩), .pointer (some ⟨w.heap.size + 2, 0, none⟩)]) ∧ w' = ((w.alloc (.cells (hdL h).toArray 25)).alloc (.cells #[.string d] 9)).alloc (.cells #[.int .i64 room] 3) := by
  refine callsIn_of_wp Try.func19 rfl trivial ?_ rfl
  simp only [Try.ntmps19, List.size_toArray, List.length_cons, List.length_nil, Nat.reduceAdd, Nat.reduceSub, Array.replicate_succ, Array.replicate_zero, List.push_toArray, List.append_toArray, List.nil_append, List.cons_append]
  gi_wp2
  go_ret
  exact ⟨rfl, rfl⟩

/-- a head's box that may be written -/
structure HF (w : World) (b : Nat) (h : Rh) : Prop where
  c : HC w b h
  f : ∀ j, w.frozen? ⟨b, j, none⟩ = false
theorem HF.on {w w' : World} {b : Nat} {h : Rh} (k : HF w b h) (q : Below w.heap.size w w') : HF w' b h := ⟨k.c.on q, fun j => (q.frozen (p := ⟨b, j, none⟩) k.c.lt).trans (k.f j)⟩
theorem HF.box (w : World) (h : Rh) : HF (w.alloc (.cells (hdL h).toArray 25)) w.heap.size h := by
  have e := heap_alloc_new w (.cells (hdL h).toArray 25)
  refine ⟨HC.box w h _, fun j => ?_⟩
  unfold World.frozen?
  rw [e]
  simp
theorem HF.ks {No : Nat → Prop} {w w' : World} {b : Nat} {h : Rh} (k : HF w b h) (q : Ks No w w') (hN : No b) : HF w' b h :=
  ⟨⟨q.cell k.c.c0 hN, q.cell k.c.c1 hN, q.cell k.c.c2 hN, q.cell k.c.c3 hN, q.cell k.c.c4 hN, q.cell k.c.c5 hN, q.cell k.c.c6 hN, q.cell k.c.c7 hN, q.cell k.c.c8 hN, q.cell k.c.c9 hN⟩, fun j => by
    have := q.block b k.c.lt hN
    have e := k.f j
    unfold World.frozen? at e ⊢
    simp only [this]
    exact e⟩
theorem HF.nxt {w : World} {b : Nat} {h : Rh} (k : HF w b h) (n : Nat) (o : ByteArray) : HF ((w.setCell ⟨b, 4, none⟩ (.int .i64 (h.at' + (n : Int)))).setCell ⟨b, 9, none⟩ (.string o)) b (nxt h n o) := by
  obtain ⟨⟨c0, c1, c2, c3, c4, c5, c6, c7, c8, c9⟩, f⟩ := k
  have oth : ∀ (j : Nat) (v : Value), j ≠ 4 → j ≠ 9 → w.cell? ⟨b, j, none⟩ = some v → ((w.setCell ⟨b, 4, none⟩ (.int .i64 (h.at' + (n : Int)))).setCell ⟨b, 9, none⟩ (.string o)).cell? ⟨b, j, none⟩ = some v := fun j v h4 h9 e => by
    rw [World.cell?_setCell_other _ _ _ _ (fun x => h9 (by have := congrArg Addr.off x; simp at this; omega)), World.cell?_setCell_other _ _ _ _ (fun x => h4 (by have := congrArg Addr.off x; simp at this; omega))]
    exact e
  refine ⟨⟨oth 0 _ (by decide) (by decide) c0, oth 1 _ (by decide) (by decide) c1, oth 2 _ (by decide) (by decide) c2, oth 3 _ (by decide) (by decide) c3, ?_, oth 5 _ (by decide) (by decide) c5, oth 6 _ (by decide) (by decide) c6, oth 7 _ (by decide) (by decide) c7, oth 8 _ (by decide) (by decide) c8, ?_⟩, fun j => by rw [World.frozen?_setCell, World.frozen?_setCell]; exact f j⟩
  · rw [World.cell?_setCell_other _ _ _ _ (fun x => by have := congrArg Addr.off x; simp at this)]
    exact World.cell?_setCell_same _ _ _ c4
  · exact World.cell?_setCell_same _ _ _ ((World.cell?_setCell_other _ _ _ _ (fun x => by have := congrArg Addr.off x; simp at this)).trans c9)

set_option maxRecDepth 100000 in
set_option maxHeartbeats 4000000 in
theorem parts1_in (n : Nat) (hn : 1 ≤ n) (l Bh Bd Br : Nat) (h : Rh) (d : ByteArray) (R : Nat) (hv : HOk h d.size) (hR1 : 28 + h.op.size ≤ R) (hR2 : R ≤ 65535) (M : List Po) (hM : optsR h.op = some (M.map Po.op))
    (X : (Nat → Prop) → List Pc → World → Prop) (RR : World → Prop) (B : Nat) (No : Nat → Prop)
    (hX1 : ∀ No' pre W W', X No' pre W → Below W.heap.size W W' → X No' pre W')
    (hX2 : ∀ (No' : Nat → Prop) pre W b j v, X No' pre W → No' b → B ≤ b → X No' pre (W.setCell ⟨b, j, none⟩ v))
    (hRR : ∀ W W', RR W → Below B W W' → RR W') (hBr : No Br)
    (hY : ∀ No' pre x W, (∀ i, No i → No' i) → pre ++ [x] <+: pieces (keptB h.op) R h d → X No' pre W → RR W → YieldAt Fence.wide (n - 1) Try.prog l (encPc x) W fun e W' => e = .returned (.bool true) ∧ X No' (pre ++ [x]) W' ∧ Ks No' W W' ∧ RR W')
    (W : World) (hB : B ≤ W.heap.size) (ch : HC W Bh h) (cd : W.cell? ⟨Bd, 0, none⟩ = some (.string d)) (cr : W.cell? ⟨Br, 0, none⟩ = some (.int .i64 (R : Int)))
    (h0 : ∀ W' q, Below W.heap.size W W' → W.heap.size ≤ q → q < W'.heap.size → X (fun i => No i ∨ i = q) [] W') (hR0 : RR W) :
    CallsIn Fence.wide n Try.prog 50 #[.func (.yield l) #[] #[], .pointer (some ⟨Bh, 0, none⟩), .pointer (some ⟨Bd, 0, none⟩), .pointer (some ⟨Br, 0, none⟩)] W fun e W' => (∃ v, e = .returned v) ∧ ∃ No' xs, (∀ i, No i → No' i) ∧ xs = pieces (keptB h.op) R h d ∧ X No' xs W' ∧ RR W' := by
  have HK := hide (fun w => kept_any h.op w)
  have HKL := hide (kept_le hv.m.2.2.2.1 hv.m.2.2.2.2 hM)
  obtain ⟨c0, c1, c2, c3, c4, c5, c6, c7, c8, c9⟩ := id ch
  obtain ⟨K, hK⟩ : ∃ K, keptB h.op = K := ⟨_, rfl⟩
  rw [hK] at HK HKL hY ⊢
  have BT := hide (fun o => below_one W o)
  refine callsIn_of_wp Try.func50 rfl trivial ?_ rfl
  simp only [Try.ntmps50, List.size_toArray, List.length_cons, List.length_nil, Nat.reduceAdd, Nat.reduceSub, Array.replicate_succ, Array.replicate_zero, List.push_toArray, List.append_toArray, List.nil_append, List.cons_append]
  have hBd := cell_lt' cd
  simp only at hBd
  have hBA := below_one W (.cells z10.toArray 25)
  have dd := (hBA.cell (p := ⟨Bd, 0, none⟩) hBd).trans cd
  obtain ⟨d0, d1, d2, d3, d4, d5, d6, d7, d8, d9⟩ := ch.on hBA
  have de := ((below_one W (.cells (hdL h).toArray 25)).cell (p := ⟨Bd, 0, none⟩) hBd).trans cd
  have hF1 := (HF.box W h).on (below_drew _)
  have hb1 : Below W.heap.size W ((W.alloc (.cells (hdL h).toArray 25)).drew) := (below_one W (.cells (hdL h).toArray 25)).drew
  simp only [hdL] at de hF1 hb1
  have hx1 := hide (h0 _ _ hb1 (Nat.le_refl _) (by show _ < (W.alloc _).heap.size; simp))
  have hr1 := hide (hRR _ _ hR0 (hb1.mono hB))
  have hF1 := hide hF1
  have hch1 := hide (ch.on hb1)
  have hcr1 := hide ((hb1.cell (p := ⟨Br, 0, none⟩) (cell_lt' cr)).trans cr)
  have hbr := hide (cell_lt' cr)
  have hb1 := hide hb1
  have HX1 := hide hX1
  have HX2 := hide hX2
  have HRR := hide hRR
  have HY := hide hY
  have HV := hide hv
  clear hBA hBd hv hX1 hX2 hRR hY h0 hR0
  gi_wp2_with fail
  gi_region
  clear BT c0 c1 c2 c3 c4 c5 c6 c7 c8 c9 d0 d1 d2 d3 d4 d5 d6 d7 d8 d9 dd de cd cr
  generalize (W.alloc _).drew = W1 at *
  obtain ⟨c0, c1, c2, c3, c4, c5, c6, c7, c8, c9⟩ := id (unhide hch1)
  gi_wp2_with fail
  refine ⟨trivial, (callsIn_wide.2 (unhide HK W1)).mono ?_⟩
  rintro e W2 ⟨rfl, b2⟩
  have hx2 := hide (unhide HX1 _ _ _ _ (unhide hx1) b2)
  have hr2 := hide (unhide HRR _ _ (unhide hr1) (b2.mono (Nat.le_trans hB (unhide hb1).size)))
  have hF2 := (unhide hF1).on b2
  have hcr2 := (b2.cell (p := ⟨Br, 0, none⟩) (cell_lt' (unhide hcr1))).trans (unhide hcr1)
  have hBq : Hid (B ≤ W.heap.size) := hB
  have hBrq := hide (unhide hbr)
  clear c0 c1 c2 c3 c4 c5 c6 c7 c8 c9 b2 hx1 hr1 hF1 hch1 hcr1 hb1 hbr HK hB ch hK hM
  generalize W.heap.size = q at *
  gi_wp2_with fail
  gi_loopw [6] (fun s6 wr => ∃ (h' : Rh) (d' : ByteArray) (pre : List Pc), s6 = .string d' ∧ Hid (pieces K R h d = pre ++ pieces K R h' d') ∧ HF wr q h' ∧ wr.cell? ⟨Br, 0, none⟩ = some (.int .i64 (R : Int)) ∧ Hid (X (fun i => No i ∨ i = q) pre wr) ∧ Hid (RR wr) ∧ Hid (28 + h'.op.size ≤ R) ∧ Hid (HOk h' d'.size) ∧ Hid (K.size ≤ h'.op.size))
    (fun s _ => szV s)
  case atStart => exact ⟨h, d, [], rfl, rfl, hF2, hcr2, hx2, hr2, hR1, HV, (unhide HKL).1⟩
  case round =>
    obtain ⟨h', d', pre, rfl, HP, hF, cr, hx, hr, hh, hok, hkk⟩ := hrel
    have hm4 := (unhide hok).m.2.2.2.1
    have hrm := (unhide hok).r
    unfold roomB at hrm
    have hm1 := (unhide hok).m.1
    have HS := hide (fun (n : Nat) w => callsIn_wide (n := n).2 (fheadsize_any h' w (by omega)))
    have hmost : IntKind.i64.wrap ((R : Int) - ((20 + h'.op.size : Nat) : Int)) = ((most R h' : Nat) : Int) := by have := unhide hh; unfold most; rw [IntKind.wrap_i64]; omega
    have hd' : d'.size ≤ 65535 := by omega
    have BF := hide (fun (w3 : World) (b3 : Below wr.heap.size wr w3) => hF.on b3)
    have BR := hide (fun (w3 : World) (b3 : Below wr.heap.size wr w3) => (b3.cell (p := ⟨Br, 0, none⟩) (cell_lt' cr)).trans cr)
    have BX := hide (fun (w3 : World) (b3 : Below wr.heap.size wr w3) => unhide HX1 _ _ _ _ (unhide hx) b3)
    have BRR := hide (fun (w3 : World) (b3 : Below wr.heap.size wr w3) => unhide HRR _ _ (unhide hr) (b3.mono (Nat.le_trans (unhide hBq) (Nat.le_of_lt hF.c.lt))))
    obtain ⟨c0, c1, c2, c3, c4, c5, c6, c7, c8, c9⟩ := hF.c
    have hmR : most R h' ≤ 65535 := by unfold most; omega
    have hm2 := (unhide hok).m.2.1
    clear hF hm4 hrm hx hr hx2 hr2 hF2 hcr2
    by_cases hl : d'.size ≤ most R h'
    · have hle : decide ((d'.size : Int) ≤ ((most R h' : Nat) : Int)) = true := decide_eq_true (by omega)
      have hle2 : decide (d'.size ≤ most R h') = true := decide_eq_true hl
      have HE := hide (pieces_last (k := K) hl)
      clear hl hm1 hm2
      generalize most R h' = m at *
      generalize 20 + h'.op.size = hs at *
      gi_wp2_with fail
      gi_region_with (refine ⟨trivial, ?_⟩; gi_at_call 49; refine (unhide HS _ _).mono ?_; rintro e w3 ⟨rfl, b3⟩; have b3 := undrew b3; have cr3 := unhide BR _ b3)
      all_goals
        obtain ⟨fn, tmps, assign, body, hy, hRo⟩ := unhide HY (fun i => No i ∨ i = q) pre (h', d') w3 (fun i hi => .inl hi) (by rw [unhide HP, unhide HE]; exact List.prefix_refl _) (unhide BX _ b3) (unhide BRR _ b3)
        obtain ⟨d0, d1, d2, d3, d4, d5, d6, d7, d8, d9⟩ := (unhide BF _ b3).c
        simp only [encPc] at hy
        clear c0 c1 c2 c3 c4 c5 c6 c7 c8 c9 cr
        go_simp
        gi_wp2_with fail
        refine hRo.mono ?_
        rintro e W4 ⟨rfl, hx4, hK4, hr4⟩
        have HZ := hide (And.intro hx4 hr4)
        clear hx4 hK4 hr4 hy hRo d0 d1 d2 d3 d4 d5 d6 d7 d8 d9 cr3 b3
        gi_wp2_with fail
        refine bodyPost_ret (results_none rfl _ _ _) rfl ?_
        exact ⟨⟨_, rfl⟩, _, _, fun i hi => .inl hi, by rw [unhide HP, unhide HE], (unhide HZ).1, (unhide HZ).2⟩
    · have hle : decide ((d'.size : Int) ≤ ((most R h' : Nat) : Int)) = false := decide_eq_false (by omega)
      have hle2 : decide (d'.size ≤ most R h') = false := decide_eq_false hl
      have HE := hide (pieces_more (k := K) (by have := unhide hkk; have := unhide hh; omega) (unhide hh) hl)
      obtain ⟨nn, hnn⟩ : ∃ nn, most R h' / 8 * 8 = nn := ⟨_, rfl⟩
      have hN : ((most R h' : Nat) : Int) / 8 * 8 = (nn : Int) := by omega
      have hm8 : 8 ≤ most R h' := by have := unhide hh; unfold most; omega
      have hn1 : nn < d'.size := by omega
      have hn8 : nn % 8 = 0 := by omega
      rw [hnn] at HE
      have hn3 : (nn : Int) ≤ (d'.size : Int) := by omega
      have hn4 : 8 ≤ nn := by omega
      have hat : IntKind.i64.wrap (h'.at' + (nn : Int)) = h'.at' + (nn : Int) := by rw [IntKind.wrap_i64]; omega
      clear hl hm8 hnn hm1 hm2
      generalize most R h' = m at *
      generalize 20 + h'.op.size = hs at *
      have HN8 := hide (And.intro hn8 hn4)
      clear hn8
      gi_wp2_with fail
      gi_region_with (refine ⟨trivial, ?_⟩; gi_at_call 49; refine (unhide HS _ _).mono ?_; rintro e w3 ⟨rfl, b3⟩; have b3 := undrew b3; have cr3 := unhide BR _ b3)
      all_goals
        have hF3 := unhide BF _ b3
        obtain ⟨d0, d1, d2, d3, d4, d5, d6, d7, d8, d9⟩ := hF3.c
        clear c0 c1 c2 c3 c4 c5 c6 c7 c8 c9 cr
        go_simp
        gi_wp2_with fail
        have b4 := below_one w3 (.cells (hdL (part h')).toArray 25)
        have hF4 := hF3.on b4
        have hP4 := HF.box w3 (part h')
        have cr4 := (b4.cell (p := ⟨Br, 0, none⟩) (cell_lt' cr3)).trans cr3
        have hx4 := unhide HX1 _ _ _ _ (unhide BX _ b3) (b4.drew)
        have hr4 := unhide HRR _ _ (unhide BRR _ b3) (b4.drew.mono (Nat.le_trans (unhide hBq) (Nat.le_of_lt hF3.c.lt)))
        simp only [hdL, part] at b4 hF4 hP4 cr4 hx4 hr4
        have hY4 := hide (unhide HY (fun i => No i ∨ i = q) pre (part h', d'.extract 0 nn) _ (fun i hi => .inl hi) (by rw [unhide HP, unhide HE]; exact ⟨_, List.append_cons _ _ _ |>.symm⟩) hx4 hr4)
        obtain ⟨e0, e1, e2, e3, e4, e5, e6, e7, e8, e9⟩ := id hP4.c
        have HF4 := hide (And.intro hF4 cr4)
        clear d0 d1 d2 d3 d4 d5 d6 d7 d8 d9 cr3 hF3 b4 hF4 hP4 cr4 hx4 hr4
        generalize w3.heap.size = qp at *
        generalize w3.alloc _ = W4 at *
        obtain ⟨fn, tmps, assign, body, hy, hRo⟩ := unhide hY4
        clear hY4
        simp only [encPc, part] at hy
        gi_region_with (refine hRo.mono ?_; rintro e W5 ⟨rfl, hx5, hK5, hr5⟩)
        all_goals
          have hF5 := (((unhide HF4).1).on (below_drew _)).ks hK5 (.inr rfl)
          have cr5 := hK5.cell (p := ⟨Br, 0, none⟩) (w := W4.drew) (unhide HF4).2 (.inl hBr)
          have HS5 := hide (hF5.nxt nn K)
          obtain ⟨c0, c1, c2, c3, c4, c5, c6, c7, c8, c9⟩ := hF5.c
          have f4 := hF5.f 4
          have f9 := hF5.f 9
          have HX5 := hide (And.intro hx5 hr5)
          clear hx5 hr5 hK5 hF5 hRo hy e0 e1 e2 e3 e4 e5 e6 e7 e8 e9
          go_simp
          gi_wp2_with fail
          have hBq5 : B ≤ q := unhide hBq
          have hne : ∀ j, (⟨q, j, none⟩ : Addr) ≠ ⟨Br, 0, none⟩ := fun j e => by have h1 := congrArg Addr.block e; simp at h1; have := unhide hBrq; omega
          obtain ⟨s1, s2⟩ := ext_size d' nn (by omega)
          refine ⟨⟨nxt h' nn K, d'.extract nn d'.size, pre ++ [(part h', d'.extract 0 nn)], rfl, ?_, unhide HS5, ?_, ?_, ?_, ?_, ?_, ?_⟩, ?_⟩
          · rw [unhide HP, unhide HE]; exact List.append_cons _ _ _
          · rw [World.cell?_setCell_other _ _ _ _ (hne 9), World.cell?_setCell_other _ _ _ _ (hne 4)]; exact cr5
          · exact unhide HX2 _ _ _ _ _ _ (unhide HX2 _ _ _ _ _ _ (unhide HX5).1 (.inr rfl) hBq5) (.inr rfl) hBq5
          · exact unhide HRR _ _ (unhide HX5).2 (((Below.refl B W5).setCell (p := ⟨q, 4, none⟩) hBq5 _).setCell (p := ⟨q, 9, none⟩) hBq5 _)
          · show 28 + K.size ≤ R; have := unhide hkk; have := unhide hh; omega
          · show HOk (nxt h' nn K) (d'.extract nn d'.size).size
            rw [s2]
            exact hok_nxt (unhide hok) (unhide HN8).1 hn1 (unhide hkk) (unhide HKL).2
          · exact Nat.le_refl _
          · show (d'.extract nn d'.size).size < d'.size
            rw [s2]; omega
end Go.Proofs.Ytefenejeppmfiaa
