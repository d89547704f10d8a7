/- The statement MeterJoins' walk. -/
import Derived.Test.YtfbbdfeigenodaaJo1
namespace Go.Proofs.Ytfbbdfeigenodaa
open Go.RowKit Go.Maps

theorem tri_kept {w w' : World} {lo lo2 lo3 p1 b1 r1 p2 b2 r2 p3 b3 r3 : Nat} {v1 v2 v3 : Value} {L1 L2 L3 : List Ent} (h : Tri w lo lo2 lo3 p1 b1 r1 v1 L1 p2 b2 r2 v2 L2 p3 b3 r3 v3 L3) (k : Below w.heap.size w w') : Tri w' lo lo2 lo3 p1 b1 r1 v1 L1 p2 b2 r2 v2 L2 p3 b3 r3 v3 L3 :=
  ⟨h.one.kept (Kp.of_below [] k) (by simp), h.two.kept (Kp.of_below [] k) (by simp), h.three.kept (Kp.of_below [] k) (by simp), h.ord⟩

theorem steps_kept {w w' : World} {v : Value} {l : List Stp} (h : IsSteps w v l) (k : Below w.heap.size w w') : IsSteps w' v l := by
  obtain ⟨hf, hm, hok⟩ := h
  refine ⟨?_, hm, hok⟩
  rcases hf with hn | ⟨b, off, c, hv, hn, hb, hc⟩
  · exact .inl hn
  · refine .inr ⟨b, off, c, hv, hn, Nat.lt_of_lt_of_le hb k.size, fun j x hx => ?_⟩
    obtain ⟨c0, c1, c2⟩ := hc j x hx
    exact ⟨(k.cell hb).trans c0, (k.cell hb).trans c1, (k.cell hb).trans c2⟩

theorem own2 {w : World} {base g e : Nat} {a b : Value} (h : w.heap[g]? = some (.cells #[a, b] e)) (hb : base ≤ g) : w.ownsRow base e 1 (.slice (some ⟨g, 0, none⟩) 2 2) 2 [a, b] :=
  ⟨rfl, .inr ⟨g, 2, #[a, b], rfl, hb, h, Nat.le_refl _, by decide, rfl, rfl⟩⟩
theorem own3 {w : World} {base g e c : Nat} {xs : List Value} (h : w.ownsRow base e 1 (.slice (some ⟨g, 0, none⟩) 3 c) 3 xs) : 3 ≤ c ∧ g < w.heap.size ∧ ∀ j u, xs[j]? = some u → w.cell? ⟨g, j, none⟩ = some u := by
  rcases h.2 with ⟨hv, _⟩ | ⟨g', cap, cur, hv, _, hg, hn, _, _, ht⟩
  · cases hv
  · obtain ⟨rfl, rfl⟩ : g = g' ∧ c = cap := by simpa using hv
    exact ⟨hn, (Array.getElem?_eq_some_iff.1 hg).1, fun j u hu => row_cell hg ht hu⟩

set_option maxRecDepth 100000 in
set_option maxHeartbeats 4000000 in
theorem meterJoins_walk (s1 : Value) (l1 : List Stp) (s2 : Value) (l2 : List Stp) (s3 : Value) (l3 : List Stp) (self : Bool) (w : World) (h1 : IsSteps w s1 l1) (h2 : IsSteps w s2 l2) (h3 : IsSteps w s3 l3) :
    Calls Try.prog 4 #[s1, s2, s3, .bool self] w fun e w' => e = .returned (.bool true) ∧ Below w.heap.size w w' := by
  have HW := hide works_any
  have HH1 := hide (heavy_any s1 l1 w h1)
  have HH2 := hide (heavy_any s2 l2 w h2)
  have HH3 := hide (heavy_any s3 l3 w h3)
  go_enter Try.func4, Try.ntmps4
  go_wp2_with fail
  refine (unhide HH1).mono ?_
  rintro e w1 ⟨q1, rfl, rfl, hle1⟩
  cases q1 with
  | true =>
    clear hle1
    go_wp2_with fail
    refine (unhide HW _).mono ?_
    rintro e w2 ⟨rfl, hb⟩
    go_wp2
    go_ret
    exact ⟨rfl, hb⟩
  | false =>
    have hl1 := hle1 rfl
    clear hle1
    go_wp2_with fail
    refine (unhide HH2).mono ?_
    rintro e w1 ⟨q2, rfl, rfl, hle2⟩
    cases q2 with
    | true =>
      clear hle2
      go_wp2_with fail
      refine (unhide HW _).mono ?_
      rintro e w2 ⟨rfl, hb⟩
      go_wp2
      go_ret
      exact ⟨rfl, hb⟩
    | false =>
      have hl2 := hle2 rfl
      clear hle2
      go_wp2_with fail
      refine (unhide HH3).mono ?_
      rintro e w1 ⟨q3, rfl, rfl, hle3⟩
      cases q3 with
      | true =>
        clear hle3
        go_wp2_with fail
        refine (unhide HW _).mono ?_
        rintro e w2 ⟨rfl, hb⟩
        go_wp2
        go_ret
        exact ⟨rfl, hb⟩
      | false =>
        have hl3 := hle3 rfl
        clear hle3 HH1 HH2 HH3
        have HF1 := hide (filled_any s1 l1 w1 h1 hl1)
        have HI2 := hide h2
        have HI3 := hide h3
        clear h1 h2 h3
        go_wp2_with fail
        refine (unhide HF1).mono ?_
        rintro e wA ⟨p1, b1, r1, v1, rfl, hBo1, hBA⟩
        have HF2 := hide (filled_any s2 l2 wA (steps_kept (unhide HI2) hBA) hl2)
        go_wp2_with fail
        refine (unhide HF2).mono ?_
        rintro e wB ⟨p2, b2, r2, v2, rfl, hBo2, hBB⟩
        have hBAB := hBA.trans (hBB.mono hBA.size)
        have HF3 := hide (filled_any s3 l3 wB (steps_kept (unhide HI3) hBAB) hl3)
        go_wp2_with fail
        refine (unhide HF3).mono ?_
        rintro e wC ⟨p3, b3, r3, v3, rfl, hBo3, hBC⟩
        have hB := hBAB.trans (hBC.mono hBAB.size)
        have htri : Tri wC w1.heap.size wA.heap.size wB.heap.size p1 b1 r1 v1 (runL l1) p2 b2 r2 v2 (runL l2) p3 b3 r3 v3 (runL l3) := by
          have g1 := hBo1.pm.plt
          have g2 := hBo1.rm.rlt
          have g3 := hBB.size
          exact ⟨(hBo1.kept (Kp.of_below [] hBB) (by simp)).kept (Kp.of_below [] hBC) (by simp), hBo2.kept (Kp.of_below [] hBC) (by simp), hBo3, by omega, by omega, by omega, by omega⟩
        clear HF1 HF2 HF3 hBo1 hBo2 hBo3 hBA hBB hBC hBAB HI2 HI3
        generalize runL l1 = L1 at *
        generalize runL l2 = L2 at *
        generalize runL l3 = L3 at *
        cases self with
        | false =>
          go_wp2_with fail
          obtain ⟨gl, hgle⟩ : ∃ gl, gl = wC.heap.size := ⟨_, rfl⟩
          obtain ⟨gk, hgke⟩ : ∃ gk, gk = wC.heap.size + 1 := ⟨_, rfl⟩
          obtain ⟨cl, hcle⟩ : ∃ cl, cl = 2 := ⟨_, rfl⟩
          obtain ⟨ck, hcke⟩ : ∃ ck, ck = 2 := ⟨_, rfl⟩
          have hpl : p1 < wC.heap.size := htri.one.pm.plt
          obtain ⟨W, hW⟩ : ∃ W, W = (wC.alloc (.cells #[.pointer (some ⟨p2, 0, none⟩), .pointer (some ⟨p3, 0, none⟩)] 25)).alloc (.cells #[.pointer (some ⟨r2, 0, none⟩), .pointer (some ⟨r3, 0, none⟩)] 26) := ⟨_, rfl⟩
          have kW : Below wC.heap.size wC W := by rw [hW]; exact ((Below.refl _ _).alloc (Nat.le_refl _) _).alloc (by simp) _
          have hT : Tri W w1.heap.size wA.heap.size wB.heap.size p1 b1 r1 v1 L1 p2 b2 r2 v2 L2 p3 b3 r3 v3 L3 := tri_kept htri kW
          have hBW : Below w1.heap.size w1 W := hB.trans (kW.mono hB.size)
          have hrl : W.heap[gl]? = some (.cells #[.pointer (some ⟨p2, 0, none⟩), .pointer (some ⟨p3, 0, none⟩)] 25) := by
            rw [hW, hgle, Below.heap_alloc _ _ _ (by simp)]
            exact heap_alloc_new wC _
          have hrk : W.heap[gk]? = some (.cells #[.pointer (some ⟨r2, 0, none⟩), .pointer (some ⟨r3, 0, none⟩)] 26) := by
            rw [hW, hgke]
            have := heap_alloc_new (wC.alloc (.cells #[.pointer (some ⟨p2, 0, none⟩), .pointer (some ⟨p3, 0, none⟩)] 25)) (.cells #[.pointer (some ⟨r2, 0, none⟩), .pointer (some ⟨r3, 0, none⟩)] 26)
            simpa using this
          have hgl : gl < W.heap.size := (Array.getElem?_eq_some_iff.1 hrl).1
          have hgk : gk < W.heap.size := (Array.getElem?_eq_some_iff.1 hrk).1
          have hcl : 2 ≤ cl := by omega
          have hck : 2 ≤ ck := by omega
          have hcellL : ∀ j x, (msOf false p1 b1 L1 p2 b2 L2 p3 b3 L3)[j]? = some x → W.cell? ⟨gl, j, none⟩ = some (.pointer (some ⟨x.p, 0, none⟩)) := by
            intro j x hx
            rw [cell_of_row W gl j _ _ _ hrl]
            match j, hx with
            | 0, hx => simp [msOf] at hx; subst hx; rfl
            | 1, hx => simp [msOf] at hx; subst hx; rfl
            | j + 2, hx => simp [msOf] at hx
          have hcellK : ∀ j x, (rsOf false r1 v1 L1 r2 v2 L2 r3 v3 L3)[j]? = some x → W.cell? ⟨gk, j, none⟩ = some (.pointer (some ⟨x.r, 0, none⟩)) := by
            intro j x hx
            rw [cell_of_row W gk j _ _ _ hrk]
            match j, hx with
            | 0, hx => simp [rsOf] at hx; subst hx; rfl
            | 1, hx => simp [rsOf] at hx; subst hx; rfl
            | j + 2, hx => simp [rsOf] at hx
          have HJ1 := hide (tri_join hT false gl cl 2 rfl hcl hgl hcellL)
          have HJ2 : Hid (∀ w', Mid w' w1.heap.size wA.heap.size wB.heap.size p1 r1 v1 L1 (jX (LsOf false L1 L2 L3) L1) p2 b2 r2 v2 L2 p3 b3 r3 v3 L3 → Kp [p1] W w' → Calls Try.prog 15 #[.pointer (some ⟨r1, 0, none⟩), .slice (some ⟨gk, 0, none⟩) 2 ck] w' fun e w'' => e = .returned (.int .i64 (joinL (LsOf false L1 L2 L3) L1).1) ∧ (Pr w'' p1 r1 (jX (LsOf false L1 L2 L3) L1) ∧ Pr w'' p2 r2 L2 ∧ Pr w'' p3 r3 L3 ∧ PM w'' p2 b2 L2) ∧ Kp [r1] w' w'') := by
            intro w' hm hk
            have hpl := hT.one.pm.plt
            exact mid_join hm false rfl gk ck 2 rfl hck (Nat.lt_of_lt_of_le hgk hk.size) (fun j x hx => (World.cell?_of_block (hk.block gk hgk (by simp; omega))).trans (hcellK j x hx))
          rw [← hW]
          have e1 : wC.heap.size + 1 = gk := hgke.symm
          rw [hcle, hgle] at HJ1
          rw [hcke, hgke] at HJ2
          clear e1 hW hrl hrk hgl hgk hcl hck hcellL hcellK kW htri hB hgle hgke hcle hcke
          have HT' := hide hT
          have ho := hT.ord
          have hl1p := hT.one.lop
          have hl1r := hT.one.lor
          clear hT
          generalize (joinL (LsOf false L1 L2 L3) L1).1 = code at HJ1 HJ2
          generalize jX (LsOf false L1 L2 L3) L1 = X at HJ1 HJ2
          refine (unhide HJ1).mono ?_
          rintro e wD ⟨rfl, hMid, hKD⟩
          have hBD := hBW.trans (hKD.below hBW.size (by simp; omega))
          go_wp2_with fail
          refine (unhide HJ2 _ hMid hKD).mono ?_
          rintro e wE ⟨rfl, ⟨hp1, hp2, hp3, hpm2⟩, hKE⟩
          have hBE := hBD.trans (hKE.below hBD.size (by simp; omega))
          clear hMid hKD hKE hBD HJ1 HJ2 HT'
          have HA := hide (fun (w : World) (p r : Nat) (L : List Ent) (h : Pr w p r L) => alike_pr h)
          have HP1 := hide hp1
          have HP2 := hide hp2
          have HP3 := hide hp3
          have HM2 := hide hpm2
          clear hp1 hp2 hp3 hpm2
          go_wp2_with fail
          refine (unhide HA _ _ _ _ (unhide HP1)).mono ?_
          rintro e wF ⟨rfl, hbF⟩
          have HP1 := hide ((unhide HP1).kept hbF)
          have HP2 := hide ((unhide HP2).kept hbF)
          have HP3 := hide ((unhide HP3).kept hbF)
          have HM2 := hide ((unhide HM2).kept (Kp.of_below [] hbF) (by simp) (by simp))
          have hBF := hBE.trans (hbF.mono hBE.size)
          clear hbF hBE
          go_wp2_with fail
          refine (unhide HA _ _ _ _ (unhide HP2)).mono ?_
          rintro e wG ⟨rfl, hbG⟩
          have HP1 := hide ((unhide HP1).kept hbG)
          have HP3 := hide ((unhide HP3).kept hbG)
          have HM2 := hide ((unhide HM2).kept (Kp.of_below [] hbG) (by simp) (by simp))
          have hBG := hBF.trans (hbG.mono hBF.size)
          clear hbG hBF
          go_wp2_with fail
          refine (unhide HA _ _ _ _ (unhide HP3)).mono ?_
          rintro e wH ⟨rfl, hbH⟩
          have HP1 := hide ((unhide HP1).kept hbH)
          have HM2 := hide ((unhide HM2).kept (Kp.of_below [] hbH) (by simp) (by simp))
          have hBH := hBG.trans (hbH.mono hBG.size)
          clear hbH hBG
          have HJN : Hid (∀ o, (∀ u, o = u → u = Obj.cells #[.pointer (some ⟨p2, 0, none⟩), .pointer none] 25) → Calls Try.prog 14 #[.pointer (some ⟨p1, 0, none⟩), .slice (some ⟨wH.heap.size, 0, none⟩) 2 2] (wH.alloc o) fun e w' => e = .returned (.int .i64 1) ∧ Pr w' p1 r1 X ∧ Below w1.heap.size w1 w') := by
            intro o ho'
            have hoo := ho' o rfl
            subst hoo
            have k0 := below_one wH (Obj.cells #[.pointer (some ⟨p2, 0, none⟩), .pointer none] 25)
            have f1 := (unhide HP1).kept k0
            have fB := hBH.alloc hBH.size (Obj.cells #[.pointer (some ⟨p2, 0, none⟩), .pointer none] 25)
            refine (none_pr f1 ((unhide HM2).kept (Kp.of_below [] k0) (by simp) (by simp)) wH.heap.size (heap_alloc_new wH _)).mono ?_
            rintro e w' ⟨he, hb⟩
            exact ⟨he, f1.kept hb, fB.trans (hb.mono fB.size)⟩
          go_wp2_with fail
          refine (unhide HJN _ (fun u hu => hu.symm)).mono ?_
          rintro e wI ⟨rfl, hpI, hBI⟩
          have HPI := hide hpI
          clear hpI HJN hBH
          go_wp2_with fail
          refine (unhide HA _ _ _ _ (unhide HPI)).mono ?_
          rintro e wJ ⟨rfl, hbJ⟩
          have hBJ := hBI.trans (hbJ.mono hBI.size)
          clear hBI hbJ
          go_wp2_with fail
          refine (unhide HW _).mono ?_
          rintro e wK ⟨rfl, hbK⟩
          go_wp2
          go_ret
          exact ⟨rfl, hBJ.trans (hbK.mono hBJ.size)⟩
        | true =>
          obtain ⟨i25, hi25, hz25, hs25, hb25⟩ := info_parts (P := Try.prog) (e := 25) (z := .pointer none) (size := 1) (bytes := 8) (by kernel_rfl)
          obtain ⟨i26, hi26, hz26, hs26, hb26⟩ := info_parts (P := Try.prog) (e := 26) (z := .pointer none) (size := 1) (bytes := 8) (by kernel_rfl)
          have hpl : p1 < wC.heap.size := htri.one.pm.plt
          obtain ⟨W0, hW0⟩ : ∃ W0, W0 = (wC.alloc (.cells #[.pointer (some ⟨p2, 0, none⟩), .pointer (some ⟨p3, 0, none⟩)] 25)).alloc (.cells #[.pointer (some ⟨r2, 0, none⟩), .pointer (some ⟨r3, 0, none⟩)] 26) := ⟨_, rfl⟩
          have hs0 : W0.heap.size = wC.heap.size + 2 := by rw [hW0]; simp
          have k0 : Below wC.heap.size wC W0 := by rw [hW0]; exact ((Below.refl _ _).alloc (Nat.le_refl _) _).alloc (by simp) _
          have hrl : W0.heap[wC.heap.size]? = some (.cells #[.pointer (some ⟨p2, 0, none⟩), .pointer (some ⟨p3, 0, none⟩)] 25) := by
            rw [hW0, Below.heap_alloc _ _ _ (by simp)]
            exact heap_alloc_new wC _
          have hrk : W0.heap[wC.heap.size + 1]? = some (.cells #[.pointer (some ⟨r2, 0, none⟩), .pointer (some ⟨r3, 0, none⟩)] 26) := by
            rw [hW0]
            have := heap_alloc_new (wC.alloc (.cells #[.pointer (some ⟨p2, 0, none⟩), .pointer (some ⟨p3, 0, none⟩)] 25)) (.cells #[.pointer (some ⟨r2, 0, none⟩), .pointer (some ⟨r3, 0, none⟩)] 26)
            simpa using this
          have HownL := hide (own2 (base := wC.heap.size) hrl (Nat.le_refl _))
          have HownK := hide (own2 (base := wC.heap.size) hrk (Nat.le_succ _))
          have HS0 := hide hs0
          have HW0 := hide hW0
          clear hs0 hrl hrk hW0
          have HN1 : Hid (∀ j u, [Value.pointer (some ⟨p1, 0, none⟩)][j]? = some u → (W0.alloc (.cells #[.pointer (some ⟨p1, 0, none⟩)] 25)).cell? ((⟨wC.heap.size + 2, 0, none⟩ : Addr).add j) = some u) := by
            have := World.news_of_block (heap_alloc_new W0 (.cells #[.pointer (some ⟨p1, 0, none⟩)] 25))
            rw [unhide HS0] at this
            exact this
          have HB1 : Hid (wC.heap.size ≤ (W0.alloc (.cells #[.pointer (some ⟨p1, 0, none⟩)] 25)).heap.size) := by
            have := unhide HS0
            show wC.heap.size ≤ (W0.heap.push _).size
            rw [Array.size_push]
            omega
          have tok1 : True := trivial
          go_wp2_with (first
            | (at_builtin; have _t := tok1; rw [← unhide HW0]; refine wpList_append_lies _ rfl _ _ 35 rfl wC.heap.size 25 i25 _ 1 8 Try.underlying35 hi25 hz25 hs25 hb25 rfl (by decide) (.slice (some ⟨wC.heap.size, 0, none⟩) 2 2) 2 _ rfl ((unhide HownL).alloc _) ⟨wC.heap.size + 2, 0, none⟩ 1 1 [.pointer (some ⟨p1, 0, none⟩)] rfl rfl (unhide HN1) (by intro u hu; simp at hu; subst hu; rfl) (by decide) (by decide) (by decide) (unhide HB1) _ rfl ?_; intro gl cl w5 hown5 hgrow5 hat5 hlt5; clear tok1; have hownK5 := ((unhide HownK).alloc (.cells #[.pointer (some ⟨p1, 0, none⟩)] 25)).kept hgrow5 (.inr (by simp [Value.ownBlock])))
            | (at_builtin; have _t := hownK5; refine wpList_append_lies _ rfl _ _ 36 rfl wC.heap.size 26 i26 _ 1 8 Try.underlying36 hi26 hz26 hs26 hb26 rfl (by decide) (.slice (some ⟨wC.heap.size + 1, 0, none⟩) 2 2) 2 _ rfl (hownK5.alloc _) ⟨w5.heap.size, 0, none⟩ 1 1 [.pointer (some ⟨r1, 0, none⟩)] rfl rfl (World.news_of_block (heap_alloc_new w5 _)) (by intro u hu; simp at hu; subst hu; rfl) (by decide) (by decide) (by decide) (by have q1 := hgrow5.size; have q2 := unhide HB1; simp; omega) _ rfl ?_; intro gk ck W hown6 hgrow6 hat6 hlt6; clear hownK5)
            | fail)
          have hs0 := unhide HS0
          have hsz1 : (W0.alloc (.cells #[.pointer (some ⟨p1, 0, none⟩)] 25)).heap.size = wC.heap.size + 3 := by
            show (W0.heap.push _).size = _
            rw [Array.size_push]
            omega
          have hgs5 := hgrow5.size
          rw [hsz1] at hgs5
          have hgln : gl ≠ wC.heap.size + 1 := by
            rcases hat5 with k | k
            · have : wC.heap.size = gl := by simpa [Value.ownBlock] using k
              omega
            · omega
          have hsz2 : (w5.alloc (.cells #[.pointer (some ⟨r1, 0, none⟩)] 26)).heap.size = w5.heap.size + 1 := by
            show (w5.heap.push _).size = _
            rw [Array.size_push]
          have hownL6 := (hown5.alloc (.cells #[.pointer (some ⟨r1, 0, none⟩)] 26)).kept hgrow6 (.inr (by simp [Value.ownBlock]; exact hgln))
          obtain ⟨hcl, hgl, hcL⟩ := own3 hownL6
          obtain ⟨hck, hgk, hcK⟩ := own3 hown6
          have hgklo : wC.heap.size ≤ gk := (hown6.lt gk rfl).1
          have kW : Below wC.heap.size wC W := by
            have q1 := k0.alloc (by omega) (.cells #[.pointer (some ⟨p1, 0, none⟩)] 25)
            have q2 := q1.grown hgrow5 (by omega) (by intro i hi; simp [Value.ownBlock] at hi; omega)
            have q3 := q2.alloc (by omega) (.cells #[.pointer (some ⟨r1, 0, none⟩)] 26)
            exact q3.grown hgrow6 (by omega) (by intro i hi; simp [Value.ownBlock] at hi; omega)
          have hT : Tri W w1.heap.size wA.heap.size wB.heap.size p1 b1 r1 v1 L1 p2 b2 r2 v2 L2 p3 b3 r3 v3 L3 := tri_kept htri kW
          have hBW : Below w1.heap.size w1 W := hB.trans (kW.mono hB.size)
          have hcellL : ∀ j x, (msOf true p1 b1 L1 p2 b2 L2 p3 b3 L3)[j]? = some x → W.cell? ⟨gl, j, none⟩ = some (.pointer (some ⟨x.p, 0, none⟩)) := by
            intro j x hx
            refine hcL j _ ?_
            match j, hx with
            | 0, hx => simp [msOf] at hx; subst hx; rfl
            | 1, hx => simp [msOf] at hx; subst hx; rfl
            | 2, hx => simp [msOf] at hx; subst hx; rfl
            | j + 3, hx => simp [msOf] at hx
          have hcellK : ∀ j x, (rsOf true r1 v1 L1 r2 v2 L2 r3 v3 L3)[j]? = some x → W.cell? ⟨gk, j, none⟩ = some (.pointer (some ⟨x.r, 0, none⟩)) := by
            intro j x hx
            refine hcK j _ ?_
            match j, hx with
            | 0, hx => simp [rsOf] at hx; subst hx; rfl
            | 1, hx => simp [rsOf] at hx; subst hx; rfl
            | 2, hx => simp [rsOf] at hx; subst hx; rfl
            | j + 3, hx => simp [rsOf] at hx
          have HJ1 := hide (tri_join hT true gl cl 3 rfl hcl hgl hcellL)
          have HJ2 : Hid (∀ w', Mid w' w1.heap.size wA.heap.size wB.heap.size p1 r1 v1 L1 (jX (LsOf true L1 L2 L3) L1) p2 b2 r2 v2 L2 p3 b3 r3 v3 L3 → Kp [p1] W w' → Calls Try.prog 15 #[.pointer (some ⟨r1, 0, none⟩), .slice (some ⟨gk, 0, none⟩) 3 ck] w' fun e w'' => e = .returned (.int .i64 (joinL (LsOf true L1 L2 L3) L1).1) ∧ (Pr w'' p1 r1 (jX (LsOf true L1 L2 L3) L1) ∧ Pr w'' p2 r2 L2 ∧ Pr w'' p3 r3 L3 ∧ PM w'' p2 b2 L2) ∧ Kp [r1] w' w'') := by
            intro w' hm hk
            have hpl := hT.one.pm.plt
            exact mid_join hm true rfl gk ck 3 rfl hck (Nat.lt_of_lt_of_le hgk hk.size) (fun j x hx => (World.cell?_of_block (hk.block gk hgk (by simp; omega))).trans (hcellK j x hx))
          clear hgl hgk hcl hck hcellL hcellK kW htri hB hcL hcK hownL6 hown5 hown6 hgrow5 hgrow6 hat5 hat6 hlt5 hlt6 _t HownL HownK HN1 HB1 HW0 HS0 hs0 hsz1 hsz2 hgs5 k0 hi25 hz25 hs25 hb25 hi26 hz26 hs26 hb26
          have HT' := hide hT
          have ho := hT.ord
          have hl1p := hT.one.lop
          have hl1r := hT.one.lor
          clear hT
          generalize (joinL (LsOf true L1 L2 L3) L1).1 = code at HJ1 HJ2
          generalize jX (LsOf true L1 L2 L3) L1 = X at HJ1 HJ2
          refine (unhide HJ1).mono ?_
          rintro e wD ⟨rfl, hMid, hKD⟩
          have hBD := hBW.trans (hKD.below hBW.size (by simp; omega))
          go_wp2_with fail
          refine (unhide HJ2 _ hMid hKD).mono ?_
          rintro e wE ⟨rfl, ⟨hp1, hp2, hp3, hpm2⟩, hKE⟩
          have hBE := hBD.trans (hKE.below hBD.size (by simp; omega))
          clear hMid hKD hKE hBD HJ1 HJ2 HT'
          have HA := hide (fun (w : World) (p r : Nat) (L : List Ent) (h : Pr w p r L) => alike_pr h)
          have HP1 := hide hp1
          have HP2 := hide hp2
          have HP3 := hide hp3
          have HM2 := hide hpm2
          clear hp1 hp2 hp3 hpm2
          go_wp2_with fail
          refine (unhide HA _ _ _ _ (unhide HP1)).mono ?_
          rintro e wF ⟨rfl, hbF⟩
          have HP1 := hide ((unhide HP1).kept hbF)
          have HP2 := hide ((unhide HP2).kept hbF)
          have HP3 := hide ((unhide HP3).kept hbF)
          have HM2 := hide ((unhide HM2).kept (Kp.of_below [] hbF) (by simp) (by simp))
          have hBF := hBE.trans (hbF.mono hBE.size)
          clear hbF hBE
          go_wp2_with fail
          refine (unhide HA _ _ _ _ (unhide HP2)).mono ?_
          rintro e wG ⟨rfl, hbG⟩
          have HP1 := hide ((unhide HP1).kept hbG)
          have HP3 := hide ((unhide HP3).kept hbG)
          have HM2 := hide ((unhide HM2).kept (Kp.of_below [] hbG) (by simp) (by simp))
          have hBG := hBF.trans (hbG.mono hBF.size)
          clear hbG hBF
          go_wp2_with fail
          refine (unhide HA _ _ _ _ (unhide HP3)).mono ?_
          rintro e wH ⟨rfl, hbH⟩
          have HP1 := hide ((unhide HP1).kept hbH)
          have HM2 := hide ((unhide HM2).kept (Kp.of_below [] hbH) (by simp) (by simp))
          have hBH := hBG.trans (hbH.mono hBG.size)
          clear hbH hBG
          have HJN : Hid (∀ o, (∀ u, o = u → u = Obj.cells #[.pointer (some ⟨p2, 0, none⟩), .pointer none] 25) → Calls Try.prog 14 #[.pointer (some ⟨p1, 0, none⟩), .slice (some ⟨wH.heap.size, 0, none⟩) 2 2] (wH.alloc o) fun e w' => e = .returned (.int .i64 1) ∧ Pr w' p1 r1 X ∧ Below w1.heap.size w1 w') := by
            intro o ho'
            have hoo := ho' o rfl
            subst hoo
            have k0 := below_one wH (Obj.cells #[.pointer (some ⟨p2, 0, none⟩), .pointer none] 25)
            have f1 := (unhide HP1).kept k0
            have fB := hBH.alloc hBH.size (Obj.cells #[.pointer (some ⟨p2, 0, none⟩), .pointer none] 25)
            refine (none_pr f1 ((unhide HM2).kept (Kp.of_below [] k0) (by simp) (by simp)) wH.heap.size (heap_alloc_new wH _)).mono ?_
            rintro e w' ⟨he, hb⟩
            exact ⟨he, f1.kept hb, fB.trans (hb.mono fB.size)⟩
          go_wp2_with fail
          refine (unhide HJN _ (fun u hu => hu.symm)).mono ?_
          rintro e wI ⟨rfl, hpI, hBI⟩
          have HPI := hide hpI
          clear hpI HJN hBH
          go_wp2_with fail
          refine (unhide HA _ _ _ _ (unhide HPI)).mono ?_
          rintro e wJ ⟨rfl, hbJ⟩
          have hBJ := hBI.trans (hbJ.mono hBI.size)
          clear hBI hbJ
          go_wp2_with fail
          refine (unhide HW _).mono ?_
          rintro e wK ⟨rfl, hbK⟩
          go_wp2
          go_ret
          exact ⟨rfl, hBJ.trans (hbK.mono hBJ.size)⟩

end Go.Proofs.Ytfbbdfeigenodaa
