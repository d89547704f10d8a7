/- The contract of package gather's Tick at a Gather that was made, over the loaded program. Conditions: numbers in their bounds. -/
import Derived.Test.YtekljiakofmhnaaGv3
namespace Go.Proofs.Ytekljiakofmhnaa
open Go.RowKit Go.Shelf

variable {No : Nat → Prop} {w : World} {p b : Nat} {c : Cf} {L : List En} {o : Value} {last : Int}
set_option maxRecDepth 100000 in
set_option maxHeartbeats 4000000 in
theorem tick_any (h : GX No w p b c L (L.map (·.k)) o (heldE L : Nat) last) (hwf : WF c L last) (now t : Int) (ht : t = cntT last now) (n' : Nat) (hn' : n' = tickN t L) :
    Calls Try.prog 8 #[.pointer (some ⟨p, 0, none⟩), .int .i64 now] w fun x w' => ∃ v, x = .returned v ∧ w'.ownsRow w.heap.size 34 10 v (headsE (L.take n')).length (flatH (headsE (L.take n'))) ∧ (∃ o', GX No w' p b c (L.drop n') ((L.drop n').map (·.k)) o' (heldE (L.drop n') : Nat) t) ∧ Ks No w w' := by
  have H1 := hide (made_ok p b w (h.cell rfl))
  have H2 := hide (counted_any p last now w (h.cell rfl))
  rw [← ht] at H2
  have HTT := hide (⟨ht, hn'⟩ : t = cntT last now ∧ n' = tickN t L)
  clear ht hn'
  have f7 := h.fz 7
  have c7 : w.cell? ⟨p, 7, none⟩ = some (.int .i64 last) := h.cell rfl
  have hz : (w.setCell ⟨p, 7, none⟩ (.int .i64 t)).heap.size = w.heap.size := by simp
  have g0 := h.setLast t
  have k0 := Ks.setCell (No := No) w p 7 (.int .i64 t) h.shp
  have hpl := h.plt
  have hbl := h.blt
  have hnlt := h.nlt
  have hwv : ∀ e ∈ L, ∀ g, e.v.ownBlock = some g → g < w.heap.size := fun e he => (h.pv e he).blt
  have I0 : TkI No w (w.setCell ⟨p, 7, none⟩ (.int .i64 t)) p b c L t (.slice none 0 0) 0 := by
    refine ⟨Nat.zero_le _, ⟨o, ?_⟩, ?_, fun j x hj => absurd hj (Nat.not_lt_zero _), k0⟩
    · exact g0.mono (fun i hi => hi.resolve_right (by simp [Value.ownBlock]))
    · exact World.ownsRow_nil _ _ _ _
  have HI0 := hide I0
  have HWF := hide hwf
  have HWV := hide hwv
  have HNL := hide hnlt
  clear h hz g0 k0 I0 hwf hwv hnlt
  go_enter Try.func8, Try.ntmps8
  go_wp2_with fail
  refine (unhide H1).mono ?_
  rintro x w1 ⟨rfl, rfl⟩
  go_wp2_with fail
  refine (unhide H2).mono ?_
  rintro x w1 ⟨rfl, rfl⟩
  go_wp2_with fail
  obtain ⟨W0, hW0⟩ : ∃ W0, W0 = w1.setCell ⟨p, 7, none⟩ (.int .i64 t) := ⟨_, rfl⟩
  rw [← hW0] at HI0
  rw [← hW0]
  clear hW0 H1 H2 f7 c7
  go_loopw [5] (fun v wr => ∃ n, Hid (TkI No w1 wr p b c L t v n)) (fun _ wr => ordLen wr p)
  case atStart => exact ⟨0, HI0⟩
  case round =>
    clear HI0
    obtain ⟨n, hI⟩ := hrel
    obtain ⟨o', g⟩ := (unhide hI).gx
    have hdl : ((L.drop n).map (·.k)).length = L.length - n := by simp
    have hol : ordLen wr p = L.length - n := by
      obtain ⟨so, sco, ho⟩ := rowp_shape g.row
      unfold ordLen
      rw [g.cell (j := 5) (v := o') rfl, ho]
      exact hdl
    rw [hol]
    clear hol hdl
    have c5 : wr.cell? ⟨p, 5, none⟩ = some o' := g.cell rfl
    by_cases hlt : n < L.length
    · obtain ⟨e, he⟩ : ∃ e, L[n]? = some e := ⟨_, List.getElem?_eq_getElem hlt⟩
      have hdc := drop_cons he
      have hks : (L.drop n).map (·.k) = e.k :: (L.drop (n + 1)).map (·.k) := by rw [hdc]; rfl
      obtain ⟨g0, cap0, ho1, hg0, hK⟩ := g.first hks
      rw [ho1] at c5
      have hm0 : (0 : Int) < ((((L.drop (n + 1)).map (·.k)).length + 1 : Nat) : Int) := by omega
      generalize ((L.drop (n + 1)).map (·.k)).length + 1 = m at *
      obtain ⟨k0, k1, k2, k3⟩ := hK
      have hem : e ∈ L.drop n := by rw [hdc]; simp
      have hemL : e ∈ L := List.mem_of_mem_drop hem
      have hwf := unhide HWF
      have hkin := hwf.kin e hemL
      have hlk : lookE e.k (L.drop n) = some e := by rw [hdc]; exact look_first e _
      have hnd : ((L.drop n).map (·.k)).Nodup := by
        have := hwf.nd
        rw [← List.take_append_drop n L, List.map_append] at this
        exact (List.nodup_append.1 this).2.1
      have hde : dropE e.k (L.drop n) = L.drop (n + 1) := by
        rw [hdc] at hnd ⊢
        exact drop_first hnd
      have hps : e.a.ps.length ≤ 65536 := by have := (hwf.x e hemL).len; omega
      have hpi := (hwf.x e hemL).inp
      have hpv := g.pv e hem
      obtain ⟨sp, sc, hv⟩ := pv_shape hpv
      have B0 := below_one wr (.cells #[.int .u32 (e.k.frm : Int), .int .u32 (e.k.dst : Int), .int .u8 (e.k.pr : Int), .int .u16 (e.k.idn : Int)] 56)
      have K0 := KB.box wr e.k 56
      have HE := hide (⟨he, hdc, hks, hlk, hnd, hde, hps, hpi, hemL, hlt⟩ : L[n]? = some e ∧ L.drop n = e :: L.drop (n + 1) ∧ (L.drop n).map (·.k) = e.k :: (L.drop (n + 1)).map (·.k) ∧ lookE e.k (L.drop n) = some e ∧ ((L.drop n).map (·.k)).Nodup ∧ dropE e.k (L.drop n) = L.drop (n + 1) ∧ e.a.ps.length ≤ 65536 ∧ (∀ q ∈ e.a.ps, q.In) ∧ e ∈ L ∧ n < L.length)
      have HG := hide g
      have HP := hide hpv
      clear he hdc hks hnd hde hps hpi hemL g ho1 hwf
      go_wp2_with fail
      generalize hw2 : wr.alloc _ = w2 at *
      have H1 := (unhide HG).below B0
      have c4 : w2.cell? ⟨p, 4, none⟩ = some (.map (some b)) := H1.cell rfl
      have KK := K0
      have hB : wr.heap.size < w2.heap.size := K0.lt
      have hpl2 := H1.plt
      obtain ⟨k0, k1, k2, k3⟩ := K0
      have hl := (H1.below ((Below.refl _ _).drew)).map.look_some hkin hlk false
      have hl2 := (H1.below ((below_one w2 (.cells ga0C 59)).drew)).map.look_some hkin hlk false
      simp only [Bool.false_eq_true, if_false] at hl hl2
      rw [hv] at hl hl2
      simp only [gaV] at hl hl2
      have HH := hide H1
      have KH := hide KK
      have hpv2 := hpv.on B0
      clear H1 KK hpv
      have BG := (below_one w2 (.cells #[.int .u8 (e.a.hd.tos : Int), .int .u16 (e.a.hd.id : Int), .bool e.a.hd.hold, .bool e.a.hd.more, .int .i64 e.a.hd.at', .int .u8 (e.a.hd.ttl : Int), .int .u8 (e.a.hd.proto : Int), .int .u32 (e.a.hd.frm : Int), .int .u32 (e.a.hd.to : Int), .string e.a.hd.op, .slice sp e.a.ps.length sc, .int .i64 e.a.ov, .bool e.a.sp] 59)).drew
      have GG : GC (w2.alloc (.cells #[.int .u8 (e.a.hd.tos : Int), .int .u16 (e.a.hd.id : Int), .bool e.a.hd.hold, .bool e.a.hd.more, .int .i64 e.a.hd.at', .int .u8 (e.a.hd.ttl : Int), .int .u8 (e.a.hd.proto : Int), .int .u32 (e.a.hd.frm : Int), .int .u32 (e.a.hd.to : Int), .string e.a.hd.op, .slice sp e.a.ps.length sc, .int .i64 e.a.ov, .bool e.a.sp] 59)).drew w2.heap.size e.a (.slice sp e.a.ps.length sc) := (GC.box w2 e.a (.slice sp e.a.ps.length sc) 59).on ((Below.refl _ _).drew)
      go_region
      all_goals
        have H2 := (unhide HH).below BG
        have K2 := (unhide KH).on BG
        have B2 := hide (tr2 B0 BG)
        have P2 := hpv2.on BG
        obtain ⟨W, hW⟩ : ∃ W, W = (w2.alloc (.cells #[.int .u8 (e.a.hd.tos : Int), .int .u16 (e.a.hd.id : Int), .bool e.a.hd.hold, .bool e.a.hd.more, .int .i64 e.a.hd.at', .int .u8 (e.a.hd.ttl : Int), .int .u8 (e.a.hd.proto : Int), .int .u32 (e.a.hd.frm : Int), .int .u32 (e.a.hd.to : Int), .string e.a.hd.op, .slice sp e.a.ps.length sc, .int .i64 e.a.ov, .bool e.a.sp] 59)).drew := ⟨_, rfl⟩
        rw [← hW] at H2 K2 B2 P2 GG
        rw [← hW]
        have hwz : wr.heap.size < W.heap.size := K2.lt
        clear hW BG hl hl2 k0 k1 k2 k3 c4 HH KH hw2
        have c7 : W.cell? ⟨p, 7, none⟩ = some (.int .i64 t) := H2.cell rfl
        have r7 := cell_regrown c7
        have g11 := GG.c11
        have m11 := cell_regrown g11
        have HH := hide H2
        have KH := hide K2
        have GH := hide GG
        clear H2 K2 GG c7 g11
        go_upto_region 8 with fail
        have HU := hide (And.intro B2 P2)
        clear B2 P2
        rw [hv] at HU
        by_cases hov : e.a.ov ≤ t
        · have hd : decide (t < e.a.ov) = false := decide_eq_false (by omega)
          have HOV := hide hov
          clear hov
          refine wp_region_quiet_below (by kernel_rfl) (by kernel_rfl) ?_
          repeat (go_big_quiet_step (fail))
          refine wpQuiet_nil ?_
          intro _ hw'
          obtain ⟨⟨dq, osq⟩, hw''⟩ := hw'
          subst hw''
          have BW := below_regrown W dq osq
          have HW := hide ((unhide HH).below BW)
          have KW := hide ((unhide KH).on BW)
          have PW := (unhide HU).2.on BW
          have B3 := hide (tr2 (unhide (unhide HU).1) BW)
          have hz3 : wr.heap.size < («Sort».grow (redrawn W dq) osq).heap.size := Nat.lt_of_lt_of_le hwz BW.size
          have GW := hide ((unhide GH).on BW)
          obtain ⟨c0, c1, c2, c3, c4, c5, c6, c7, c8, c9, c10, c11, c12⟩ := unhide GW
          have HS := hashead_any e.a (.slice sp e.a.ps.length sc) («Sort».grow (redrawn W dq) osq) PW (unhide HE).2.2.2.2.2.2.1
          obtain ⟨q, hq⟩ : ∃ q, head0 e.a.ps = q := ⟨_, rfl⟩
          rw [hq] at HS
          have HS := hide HS
          have HQ := hide hq
          clear r7 m11 HH KH GH HU BW PW hwz hd hq
          generalize «Sort».grow (redrawn W dq) osq = W3 at *
          go_wp2_with fail
          refine (unhide HS).mono ?_
          rintro x w4 ⟨rfl, b4⟩
          have H4 := (unhide HW).below b4
          have K4 := (unhide KW).on b4
          have B4 := tr2 (unhide B3) b4
          have I4 := (unhide hI).on B4
          have hz4 : wr.heap.size < w4.heap.size := Nat.lt_of_lt_of_le hz3 b4.size
          have G4 := (unhide GW).on b4
          have hu5 : u5.ownBlock ≠ some wr.heap.size := fun h => by have := ((unhide hI).row.lt _ h).2; omega
          clear c0 c1 c2 c3 c4 c5 c6 c7 c8 c9 c10 c11 c12
          have hwf := unhide HWF
          have ok := hwf.ok
          have q1 := ok.m1
          have q2 := ok.b1
          have q3 := hwf.len
          have q4 := hwf.held
          have he := unhide HE
          have hLn : (L.drop n).length ≤ 65536 := by rw [List.length_drop]; omega
          have hHn : heldE (L.drop n) ≤ 67108864 := by
            have : heldE (L.take n ++ L.drop n) = heldE (L.take n) + heldE (L.drop n) := by unfold heldE; rw [List.map_append, List.sum_append]
            rw [List.take_append_drop] at this
            omega
          have hsn := headsE_snoc L n e he.1
          have hle1 : (headsE (L.take n)).length ≤ 1000 := by
            have := headsE_len (L.take n)
            rw [List.length_take] at this
            omega
          have hovs : ∀ j x, j < n + 1 → L[j]? = some x → x.a.ov ≤ t := fun j x hj hx => by
            by_cases hjn : j < n
            · exact I4.ov j x hjn hx
            · obtain rfl : j = n := by omega
              rw [he.1] at hx
              cases hx
              exact unhide HOV
          have HOS := hide hovs
          have hks4 := hide I4.ks
          have hw1z : w1.heap.size ≤ w4.heap.size := I4.ks.size
          have hev : ∀ e' ∈ L.drop n, ∀ g, e'.v.ownBlock = some g → u5.ownBlock ≠ some g := fun e' he' g hg hu => by
            have := unhide HWV e' (List.mem_of_mem_drop he') g hg
            have := (I4.row.lt g hu).1
            omega
          have row4 := I4.row
          clear hovs hwf ok I4 HW KW B3 b4 B4 hI HG HP hpv2
          cases q with
          | false =>
            have HN0 : ∀ (w6 : World) (o6 : Value), GX (fun i => No i ∨ u5.ownBlock = some i) w6 p b c (dropE e.k (L.drop n)) ((dropE e.k (L.drop n)).map (·.k)) o6 (heldE (dropE e.k (L.drop n)) : Nat) t → Ks (fun i => No i ∨ u5.ownBlock = some i) w4 w6 → TkI No w1 w6 p b c L t u5 (n + 1) := by
              intro w6 o6 G6 KS6
              rw [(unhide HE).2.2.2.2.2.1] at G6
              refine ⟨(unhide HE).2.2.2.2.2.2.2.2.2, ⟨o6, G6⟩, ?_, unhide HOS, (unhide hks4).trans (KS6.mono (fun i hi => .inl hi))⟩
              have hh : hdOf e = [] := by unfold hdOf; rw [unhide HQ]; rfl
              rw [hsn, hh, List.append_nil]
              exact row_at row4 (fun g hg => KS6.block g (row4.lt g hg).2 (.inr hg))
            have HN := hide HN0
            have HD := hide (drop_any H4 hkin hlk he.2.2.2.2.1 hLn hHn he.2.2.2.2.2.2.1 he.2.2.2.2.2.2.2.1)
            clear H4 he hsn hle1 hev row4 hw1z hLn hHn HN0 G4 hu5
            obtain ⟨d0, d1, d2, d3⟩ := K4
            go_wp2_with fail
            refine (unhide HD).mono ?_
            rintro x w6 ⟨rfl, ⟨o6, G6⟩, KS6⟩
            go_wp2_with fail
            go_roundw
            case rel => exact ⟨n + 1, hide (unhide HN w6 o6 G6 KS6)⟩
            case measure =>
              obtain ⟨so6, sco6, ho6⟩ := rowp_shape G6.row
              have he6 := unhide HE
              rw [he6.2.2.2.2.2.1] at G6
              have : ordLen w6 p = L.length - (n + 1) := by
                unfold ordLen
                rw [G6.cell (j := 5) (v := o6) rfl, ho6]
                show ((dropE e.k (L.drop n)).map (·.k)).length = _
                rw [he6.2.2.2.2.2.1]
                simp
              rw [this]
              have := he6.2.2.2.2.2.2.2.2.2
              omega
          | true =>
            obtain ⟨v2, D2, hrun, own2, gr, bel, hob⟩ := head_app row4 hw1z hle1 e.a.hd
            have b5 := below_one w4 (.cells (hdL e.a.hd).toArray 34)
            have h2 : v2.ownBlock = u5.ownBlock ∨ ∀ g, v2.ownBlock = some g → (w4.alloc (.cells (hdL e.a.hd).toArray 34)).heap.size ≤ g ∧ g < D2.heap.size := by
              rcases hob with h | h
              · exact .inl h
              · refine .inr (fun g hg => ?_)
                have hl2 := (own2.lt g hg).2
                rw [h] at hg
                injection hg with hg
                subst hg
                exact ⟨by simp, hl2⟩
            have H6 := (H4.below b5).heads gr hev h2
            have K5 := K4.on b5
            have hb6 := gr.block wr.heap.size K5.lt (fun e => hu5 e.symm)
            have K6 : KB D2 wr.heap.size e.k := by
              have ee : ∀ i, D2.cell? ⟨wr.heap.size, i, none⟩ = (w4.alloc (.cells (hdL e.a.hd).toArray 34)).cell? ⟨wr.heap.size, i, none⟩ := fun i => by simp only [World.cell?, hb6]
              exact ⟨(ee 0).trans K5.c0, (ee 1).trans K5.c1, (ee 2).trans K5.c2, (ee 3).trans K5.c3⟩
            have KD : Ks No w4 D2 := ⟨bel.os, bel.tape, bel.output, bel.size, fun k _ hn => bel.block k (unhide HNL k hn)⟩
            have HN0 : ∀ (w6 : World) (o6 : Value), GX (fun i => No i ∨ v2.ownBlock = some i) w6 p b c (dropE e.k (L.drop n)) ((dropE e.k (L.drop n)).map (·.k)) o6 (heldE (dropE e.k (L.drop n)) : Nat) t → Ks (fun i => No i ∨ v2.ownBlock = some i) D2 w6 → TkI No w1 w6 p b c L t v2 (n + 1) := by
              intro w6 o6 G6 KS6
              rw [(unhide HE).2.2.2.2.2.1] at G6
              refine ⟨(unhide HE).2.2.2.2.2.2.2.2.2, ⟨o6, G6⟩, ?_, unhide HOS, ((unhide hks4).trans KD).trans (KS6.mono (fun i hi => .inl hi))⟩
              have hh : hdOf e = [e.a.hd] := by unfold hdOf; rw [unhide HQ]; rfl
              rw [hsn, hh, List.length_append]
              exact row_at own2 (fun g hg => KS6.block g (own2.lt g hg).2 (.inr hg))
            have HN := hide HN0
            have HD := hide (drop_any H6 hkin hlk he.2.2.2.2.1 hLn hHn he.2.2.2.2.2.2.1 he.2.2.2.2.2.2.2.1)
            obtain ⟨x0, x1, x2, x3, x4, x5, x6, x7, x8, x9, -, -, -⟩ := G4
            have HR := hide hrun
            clear H4 he hsn hle1 hev row4 hw1z hLn hHn HN0 hu5 own2 gr bel hob b5 h2 H6 K5 hb6 KD K4 hrun
            obtain ⟨d0, d1, d2, d3⟩ := K6
            go_wp2_with (at_builtin; refine Lib.wpList_append_run _ rfl _ _ _ _ rfl _ _ rfl rfl _ _ (unhide HR) ?_)
            refine (unhide HD).mono ?_
            rintro x w6 ⟨rfl, ⟨o6, G6⟩, KS6⟩
            go_wp2_with fail
            go_roundw
            case rel => exact ⟨n + 1, hide (unhide HN w6 o6 G6 KS6)⟩
            case measure =>
              obtain ⟨so6, sco6, ho6⟩ := rowp_shape G6.row
              have he6 := unhide HE
              rw [he6.2.2.2.2.2.1] at G6
              have : ordLen w6 p = L.length - (n + 1) := by
                unfold ordLen
                rw [G6.cell (j := 5) (v := o6) rfl, ho6]
                show ((dropE e.k (L.drop n)).map (·.k)).length = _
                rw [he6.2.2.2.2.2.1]
                simp
              rw [this]
              have := he6.2.2.2.2.2.2.2.2.2
              omega
        · have hd : decide (t < e.a.ov) = true := decide_eq_true (by omega)
          have HOV := hide hov
          clear hov
          refine wp_region_quiet_below (by kernel_rfl) (by kernel_rfl) ?_
          repeat (go_big_quiet_step (fail))
          refine wpQuiet_nil ?_
          intro _ hw'
          obtain ⟨⟨dq, osq⟩, hw''⟩ := hw'
          subst hw''
          have BW := tr2 (unhide (unhide HU).1) (below_regrown W dq osq)
          have I4 := (unhide hI).on BW
          clear r7 m11 HH KH GH HU BW hd
          generalize «Sort».grow (redrawn W dq) osq = W3 at *
          go_wp2_with fail
          go_ret
          obtain ⟨ht, hn'⟩ := unhide HTT
          have hstop := tickN_stop I4.ov (unhide HE).1 (by have := unhide HOV; omega : t < e.a.ov)
          obtain ⟨o4, g4⟩ := I4.gx
          rw [hn', hstop]
          exact ⟨u5, rfl, I4.row, ⟨o4, by have := g4.mono (No := No) (fun i hi => .inl hi); first | exact this | rwa [List.map_drop] at this⟩, I4.ks⟩
    · have hn : n = L.length := by have := (unhide hI).le; omega
      obtain ⟨sp, sc, ho⟩ := rowp_shape g.row
      have hz0 : ((L.drop n).map (·.k)).length = 0 := by rw [hn]; simp
      rw [ho, hz0] at c5
      clear ho g hlt
      go_wp2_with fail
      go_ret
      obtain ⟨ht, hn'⟩ := unhide HTT
      have I4 := unhide hI
      have hall : tickN t L = L.length := tickN_all (fun j x hj => I4.ov j x (by rw [hn]; exact (List.getElem?_eq_some_iff.1 hj).1) hj)
      obtain ⟨o4, g4⟩ := I4.gx
      rw [hn', hall, ← hn]
      exact ⟨u5, rfl, I4.row, ⟨o4, by have := g4.mono (No := No) (fun i hi => .inl hi); first | exact this | rwa [List.map_drop] at this⟩, I4.ks⟩

end Go.Proofs.Ytekljiakofmhnaa
