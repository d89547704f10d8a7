/- Between two rounds of Tick's loop; the iterator over what is due, over the loaded program. -/
import Derived.Test.YtjcigoojlmalnaaNt1
import Derived.Stop.RegionWithIn
import Derived.Sort.QuietIn
namespace Go.Proofs.Ytjcigoojlmalnaa
open Go.RowKit Go.Shelf Go.Maps

attribute [local go_sem] Oper.semAt_some

abbrev Du := (Nat × En) × Value
def dvE (x : Du) : Value := .agg #[.int .u8 (x.1.2.st : Int), .int .u64 (x.1.2.mac : Int), .int .i64 (x.1.2.tm : Int), .int .i64 (x.1.2.asked : Int), x.2]
abbrev encD (x : Du) : Array Value := #[.int .u32 (x.1.1 : Int), dvE x]
def fst (l : List Du) : Ens := l.map (·.1)
theorem fst_snoc (l : List Du) (x : Du) : fst (l ++ [x]) = fst l ++ [x.1] := by simp [fst]

/-- what is none of the entries' memory -/
def NT (No : Nat → Prop) (Ba Bl : Nat) (va vl : Value) : Nat → Prop := fun i => No i ∨ i = Ba ∨ i = Bl ∨ va.ownBlock = some i ∨ vl.ownBlock = some i

structure TI (Ba Bl p b : Nat) (c : Cf) (t : Nat) (L : Ens) (No : Nat → Prop) (D : Ens) (f : Nat → Value) (va vl : Value) (W : World) : Prop where
  pn : PNf (NT No Ba Bl va vl) W p b c t (stepsN c t L D) f
  ba : W.heap[Ba]? = some (.cells #[va] 40 (0, 0))
  bl : W.heap[Bl]? = some (.cells #[vl] 36 (0, 0))
  ra : W.ownsRow 0 35 1 va (asksN c D).length ((asksN c D).map v32)
  rl : W.ownsRow 0 31 1 vl (lostN c D).length (u64s (lostN c D))
  na : ¬ No Ba
  nl : ¬ No Bl
  nra : ∀ g, va.ownBlock = some g → ¬ No g
  nrl : ∀ g, vl.ownBlock = some g → ¬ No g
def TX (Ba Bl p b : Nat) (c : Cf) (t : Nat) (L : Ens) (No : Nat → Prop) (pre : List Du) (W : World) : Prop := ∃ f va vl, TI Ba Bl p b c t L No (fst pre) f va vl W
/-- an entry comes -/
def TJ (Ba Bl p b : Nat) (c : Cf) (t : Nat) (L : Ens) (No : Nat → Prop) (pre : List Du) (x : Du) (W : World) : Prop :=
  ∃ f va vl, TI Ba Bl p b c t L No (fst pre) f va vl W ∧ lookN x.1.1 (stepsN c t L (fst pre)) = some x.1.2 ∧ x.2 = f x.1.1 ∧ (asksN c (fst pre)).length ≤ 12 ∧ (lostN c (fst pre)).length ≤ 1024

theorem below_drewN {k : Nat} {w w' : World} (h : Below k w w') (n : Nat) : Below k w (w'.drewN n) := ⟨h.os, h.tape, h.output, h.size, h.block⟩

section
variable {Ba Bl p b : Nat} {c : Cf} {t : Nat} {L D : Ens} {No : Nat → Prop} {f : Nat → Value} {va vl : Value} {W W' : World}
theorem TI.no (h : TI Ba Bl p b c t L No D f va vl W) (k : Below W.heap.size W W') {No' : Nat → Prop} (hN : ∀ i, No' i → i < W'.heap.size ∧ (No i ∨ W.heap.size ≤ i)) : TI Ba Bl p b c t L No' D f va vl W' := by
  have la := (Array.getElem?_eq_some_iff.1 h.ba).1
  have ll := (Array.getElem?_eq_some_iff.1 h.bl).1
  have lra := fun g hg => (h.ra.lt g hg).2
  have lrl := fun g hg => (h.rl.lt g hg).2
  have out : ∀ i, i < W.heap.size → ¬ No i → ¬ No' i := fun i hi hn k' => by
    rcases (hN i k').2 with h1 | h1
    · exact hn h1
    · omega
  refine ⟨h.pn.no k (fun i hi => ?_), (k.block _ la).trans h.ba, (k.block _ ll).trans h.bl, row_at h.ra (fun g hg => k.block g (lra g hg)), row_at h.rl (fun g hg => k.block g (lrl g hg)), out _ la h.na, out _ ll h.nl, fun g hg => out g (lra g hg) (h.nra g hg), fun g hg => out g (lrl g hg) (h.nrl g hg)⟩
  have hz := k.size
  rcases hi with hi | rfl | rfl | hi | hi
  · exact ⟨(hN i hi).1, (hN i hi).2.imp .inl id⟩
  · exact ⟨by omega, .inl (.inr (.inl rfl))⟩
  · exact ⟨by omega, .inl (.inr (.inr (.inl rfl)))⟩
  · have := lra i hi
    exact ⟨by omega, .inl (.inr (.inr (.inr (.inl hi))))⟩
  · have := lrl i hi
    exact ⟨by omega, .inl (.inr (.inr (.inr (.inr hi))))⟩
theorem TI.below (h : TI Ba Bl p b c t L No D f va vl W) (k : Below W.heap.size W W') : TI Ba Bl p b c t L No D f va vl W' :=
  h.no k (fun i hi => ⟨Nat.lt_of_lt_of_le (h.pn.nlt i (.inl hi)) k.size, .inl hi⟩)
theorem TX.below {pre : List Du} (h : TX Ba Bl p b c t L No pre W) (k : Below W.heap.size W W') : TX Ba Bl p b c t L No pre W' := by
  obtain ⟨f, va, vl, h⟩ := h
  exact ⟨f, va, vl, h.below k⟩
theorem lookN_later {ip : Nat} (h : SrtN D) (hn : lookN ip D = none) : lookN ip (stepsN c t L D) = lookN ip L := by
  rw [lookN_steps c t ip h, hn]
theorem due_take_succ {i : Nat} {x : Nat × En} (hx : L[i]? = some x) : dueN t (L.take (i + 1)) = dueN t (L.take i) ++ (if x.2.tm ≤ t then [x] else []) := by
  have : L.take (i + 1) = L.take i ++ [x] := by rw [List.take_add_one, hx]; rfl
  rw [this]
  unfold dueN
  rw [List.filter_append]
  congr 1
  by_cases h : x.2.tm ≤ t
  · rw [if_pos h]; simp [h]
  · rw [if_neg h]; simp [h]
theorem tot_sub : ∀ {D L : Ens}, D.Sublist L → tot D ≤ tot L
  | _, _, .slnil => Nat.le_refl _
  | _, _, .cons y h => by have := tot_sub h; simp only [tot]; omega
  | _, _, .cons_cons y h => by have := tot_sub h; simp only [tot]; omega
theorem lost_tot (c : Cf) : ∀ D : Ens, (lostN c D).length ≤ tot D
  | [] => Nat.le_refl _
  | y :: r => by
    have ih := lost_tot c r
    unfold lostN at ih ⊢
    rw [List.filter_cons]
    split
    · simp only [List.flatMap_cons, List.length_append, tot]; omega
    · simp only [tot]; omega
theorem due_bounds (c : Cf) (t : Nat) {L : Ens} (k : Nat) (h1 : L.length ≤ 12) (h2 : tot L ≤ 1024) : (asksN c (dueN t (L.take k))).length ≤ 12 ∧ (lostN c (dueN t (L.take k))).length ≤ 1024 := by
  have hs : (dueN t (L.take k)).Sublist L := List.Sublist.trans List.filter_sublist (List.take_sublist _ _)
  have := hs.length_le
  have h3 := lost_tot c (dueN t (L.take k))
  have h4 := tot_sub hs
  refine ⟨?_, by omega⟩
  unfold asksN
  rw [List.length_map]
  have := List.length_filter_le (fun y => asksE c y.2) (dueN t (L.take k))
  omega
theorem look_at {i : Nat} {x : Nat × En} (hS : SrtN L) (hx : L[i]? = some x) : lookN x.1 (stepsN c t L (dueN t (L.take i))) = some x.2 := by
  have hs : SrtN (dueN t (L.take i)) := srt_due t (List.Pairwise.sublist (List.take_sublist _ _) hS)
  rw [lookN_later hs (lookN_none.2 fun y hy e => ?_)]
  · exact lookN_get hS hx
  · have hy' : y ∈ L.take i := (List.mem_filter.1 hy).1
    obtain ⟨j, hj, hjy⟩ := List.mem_take_iff_getElem.1 hy'
    have hi := (List.getElem?_eq_some_iff.1 hx).1
    have := List.pairwise_iff_getElem.1 hS j i (by omega) hi (by omega)
    rw [hjy, (List.getElem?_eq_some_iff.1 hx).2] at this
    omega
end

set_option maxRecDepth 100000 in
set_option maxHeartbeats 2000000 in
theorem due1_in (n : Nat) (hn : 1 ≤ n) (l Bm Ba Bl p b : Nat) (c : Cf) (t : Nat) (L : Ens) (hS : SrtN L) (R : World → Prop) (hR : Stab R) (No : Nat → Prop) (hBm : No Bm)
    (hY : ∀ No' pre x W, (∀ i, No i → No' i) → TJ Ba Bl p b c t L No' pre x W → R W → YieldAt Fence.wide (n - 1) Try.prog l (encD x) W fun e W' => e = .returned (.bool true) ∧ TX Ba Bl p b c t L No' (pre ++ [x]) W' ∧ Ks No' W W' ∧ R W')
    (W : World) (hm : W.cell? ⟨Bm, 0, none⟩ = some (.pointer (some ⟨p, 0, none⟩))) (h0 : TX Ba Bl p b c t L No [] W) (hR0 : R W) :
    CallsIn Fence.wide n Try.prog 27 #[.func (.yield l) #[] #[], .pointer (some ⟨Bm, 0, none⟩)] W fun e W' => (∃ v, e = .returned v) ∧ ∃ No' xs, (∀ i, No i → No' i) ∧ fst xs = dueN t L ∧ TX Ba Bl p b c t L No' xs W' ∧ R W' := by
  have HS := hide hS
  have HA : Hid (∀ W, TX Ba Bl p b c t L No [] W → Calls Try.prog 25 #[.pointer (some ⟨p, 0, none⟩)] W fun e w' => ∃ sp cap, e = .returned (.slice sp L.length cap) ∧ w'.ownsRow W.heap.size 35 1 (.slice sp L.length cap) L.length ((keysN L).map v32) ∧ Below W.heap.size W w') := by
    rintro W ⟨f, va, vl, h⟩
    exact addr_any ⟨f, h.pn⟩
  clear hS
  refine callsIn_of_wp Try.func27 rfl trivial ?_ rfl
  simp only [Try.ntmps27, List.size_toArray, List.length_cons, List.length_nil, Nat.reduceAdd, Nat.reduceSub, Array.replicate_succ, Array.replicate_zero, List.push_toArray, List.append_toArray, List.nil_append, List.cons_append]
  gi_wp2
  refine ⟨trivial, (callsIn_wide.2 (unhide HA _ h0)).mono ?_⟩
  rintro e W2 ⟨sp, cap, rfl, hrow, hB⟩
  have h02 := hide (h0.below hB)
  have hR2 := hR _ _ hR0 hB
  have hbm2 : W2.cell? ⟨Bm, 0, none⟩ = some (.pointer (some ⟨p, 0, none⟩)) := (hB.cell (p := ⟨Bm, 0, none⟩) (World.block_lt_of_cell? W _ hm)).trans hm
  obtain ⟨No1, hNo1⟩ : ∃ No1 : Nat → Prop, No1 = fun i => No i ∨ (Value.slice sp L.length cap).ownBlock = some i := ⟨_, rfl⟩
  have hsub : ∀ i, No i → No1 i := fun i hi => by rw [hNo1]; exact .inl hi
  have hT0 : TX Ba Bl p b c t L No1 [] W2 := by
    obtain ⟨f, va, vl, h⟩ := h0
    refine ⟨f, va, vl, h.no hB (fun i hi => ?_)⟩
    rw [hNo1] at hi
    rcases hi with hi | hi
    · exact ⟨Nat.lt_of_lt_of_le (h.pn.nlt i (.inl hi)) hB.size, .inl hi⟩
    · exact ⟨(hrow.lt i hi).2, .inr (hrow.lt i hi).1⟩
  have hcells : Hid (∀ k x, L[k]? = some x → ∃ g, sp = some ⟨g, 0, none⟩ ∧ No1 g ∧ W2.cell? ⟨g, k, none⟩ = some (.int .u32 (x.1 : Int))) := by
    intro k x hx
    have hkl : k < (keysN L).length := by have := (List.getElem?_eq_some_iff.1 hx).1; simpa [keysN] using this
    have hrow' : W2.ownsRow W.heap.size 35 1 (.slice sp L.length cap) (keysN L).length ((keysN L).map v32) := by
      have : (keysN L).length = L.length := by simp [keysN]
      rw [this]; exact hrow
    rcases row_rf hrow' (by simp [keysN]) with ⟨_, h2, _⟩ | ⟨g, h1, _, _, _, _, h3⟩
    · rw [h2] at hkl; simp at hkl
    · refine ⟨g, h1, by rw [hNo1, h1]; exact .inr rfl, ?_⟩
      have e : (keysN L).length = L.length := by simp [keysN]
      rw [← e] at h3
      rw [h3.cell k hkl, getD_at hkl]
      simp only [keysN, List.getElem_map, (List.getElem?_eq_some_iff.1 hx).2]
  have hL12 : L.length ≤ 12 := by
    obtain ⟨f, va, vl, h⟩ := h0
    exact h.pn.wl.len
  have HLT : Hid (L.length ≤ 12 ∧ tot L ≤ 1024) := by
    obtain ⟨f, va, vl, h⟩ := h0
    exact ⟨h.pn.wl.len, Nat.le_trans h.pn.wl.tot h.pn.ok.w⟩
  clear hrow hB h0 hR0 hm HA hNo1 h02
  generalize hlen : L.length = m at *
  have hlen := hide hlen
  gi_wp2
  gi_loopw [9] (fun i wr => ∃ (k : Nat) (pre : List Du), i = .int .i64 (k : Int) ∧ k ≤ m ∧ fst pre = dueN t (L.take k) ∧ TX Ba Bl p b c t L No1 pre wr ∧ R wr ∧ Ks No1 W2 wr)
    (fun i _ => m - (intOf i).toNat)
  case atStart => exact ⟨0, [], rfl, Nat.zero_le _, rfl, hT0, hR2, Ks.refl _ _⟩
  case round =>
    obtain ⟨k, pre, rfl, hk, hpre, hT, hRr, hK⟩ := hrel
    by_cases hlt : k < m
    · have hkL : k < L.length := by rw [unhide hlen]; exact hlt
      obtain ⟨x, hx⟩ : ∃ x, L[k]? = some x := ⟨_, List.getElem?_eq_getElem hkL⟩
      obtain ⟨g, rfl, hg, hgc⟩ := unhide hcells k x hx
      have hc1 := hK.cell hgc hg
      have hcB := hK.cell hbm2 (hsub _ hBm)
      have hlook := look_at (c := c) (t := t) (unhide HS) hx
      rw [← hpre] at hlook
      have hsucc := due_take_succ (t := t) hx
      rw [← hpre] at hsucc
      obtain ⟨f, va, vl, hTI⟩ := hT
      have hip := hTI.pn.wl.key _ (lookN_some hlook)
      have hl := hTI.pn.look_some hip hlook false
      simp only [Bool.false_eq_true, if_false, evE] at hl
      obtain ⟨sq, sc, hsl⟩ := row_shape (hTI.pn.row _ (lookN_some hlook))
      simp only at hsl hip
      rw [hsl] at hl
      obtain ⟨c6, c7, _, hp, _⟩ := (show PN _ wr p b c t _ from ⟨f, hTI.pn⟩).facts
      have hBlt := World.block_lt_of_cell? wr _ hcB
      have HTJ : Hid (∀ W', Below wr.heap.size wr W' → TJ Ba Bl p b c t L No1 pre (x, .slice sq x.2.ws.length sc) W') := fun W' hb => ⟨f, va, vl, hTI.below hb, hlook, hsl.symm, by rw [hpre]; exact due_bounds c t k (by rw [unhide hlen]; exact (unhide HLT).1) (unhide HLT).2⟩
      have HTX : Hid (∀ W', Below wr.heap.size wr W' → TX Ba Bl p b c t L No1 pre W') := fun W' hb => ⟨f, va, vl, hTI.below hb⟩
      have HS2 := hide hsucc
      clear hTI hlook hsl hcells hgc hbm2 hT0 hR2 hsucc hkL
      obtain ⟨ip, ⟨s, mc, tm, a, ws⟩⟩ := x
      simp only at hl hc1 HTJ HS2 hip
      generalize ws.length = wn at *
      by_cases hd : tm ≤ t
      · have hdd : decide ((tm : Int) ≤ (t : Int)) = true := decide_eq_true (by omega)
        gi_wp2_with fail
        have hB3 := below_one wr (.cells #[.int .u8 (s : Int), .int .u64 (mc : Int), .int .i64 (tm : Int), .int .i64 (a : Int), .slice sq wn sc] 58)
        have d7 := (hB3.cell (p := ⟨p, 7, none⟩) hp).trans c7
        have dB := (hB3.cell (p := ⟨Bm, 0, none⟩) hBlt).trans hcB
        have bx := heap_alloc_new wr (.cells #[.int .u8 (s : Int), .int .u64 (mc : Int), .int .i64 (tm : Int), .int .i64 (a : Int), .slice sq wn sc] 58)
        obtain ⟨e0, _⟩ := box_cell bx (j := 0) (v := .int .u8 (s : Int)) rfl
        obtain ⟨e1, _⟩ := box_cell bx (j := 1) (v := .int .u64 (mc : Int)) rfl
        obtain ⟨e2, _⟩ := box_cell bx (j := 2) (v := .int .i64 (tm : Int)) rfl
        obtain ⟨e3, _⟩ := box_cell bx (j := 3) (v := .int .i64 (a : Int)) rfl
        obtain ⟨e4, _⟩ := box_cell bx (j := 4) (v := .slice sq wn sc) rfl
        have HY := hide (hY No1 pre ((ip, ⟨s, mc, tm, a, ws⟩), .slice sq wn sc) _ hsub (unhide HTJ _ (hB3.drew)) (hR _ _ hRr (hB3.drew)))
        have HK3 := hide (hK.trans (Ks.of_below (hB3.drew)))
        clear c6 c7 hcB bx hl hc1 hY hRr hK
        generalize (wr.alloc (.cells #[.int .u8 (s : Int), .int .u64 (mc : Int), .int .i64 (tm : Int), .int .i64 (a : Int), .slice sq wn sc] 58)) = W3 at *
        obtain ⟨fn, tmps, assign, body, hy, hRo⟩ := unhide HY
        clear HY
        simp only [encD, dvE] at hy
        gi_region_with (refine hRo.mono ?_; rintro e W4 ⟨rfl, hT4, hK4, hR4⟩)
        all_goals
          go_simp
          gi_wp2
          refine ⟨⟨k + 1, pre ++ [((ip, ⟨s, mc, tm, a, ws⟩), .slice sq wn sc)], by simp, by omega, ?_, hT4, hR4, (unhide HK3).trans hK4⟩, ?_⟩
          · rw [unhide HS2, fst_snoc, if_pos hd]
          · simp [intOf]
            omega
      · have hdd : decide ((tm : Int) ≤ (t : Int)) = false := decide_eq_false (by omega)
        gi_wp2_with fail
        have hB3 := below_one wr (.cells #[.int .u8 (s : Int), .int .u64 (mc : Int), .int .i64 (tm : Int), .int .i64 (a : Int), .slice sq wn sc] 58)
        have d7 := (hB3.cell (p := ⟨p, 7, none⟩) hp).trans c7
        have dB := (hB3.cell (p := ⟨Bm, 0, none⟩) hBlt).trans hcB
        have bx := heap_alloc_new wr (.cells #[.int .u8 (s : Int), .int .u64 (mc : Int), .int .i64 (tm : Int), .int .i64 (a : Int), .slice sq wn sc] 58)
        obtain ⟨e0, _⟩ := box_cell bx (j := 0) (v := .int .u8 (s : Int)) rfl
        obtain ⟨e1, _⟩ := box_cell bx (j := 1) (v := .int .u64 (mc : Int)) rfl
        obtain ⟨e2, _⟩ := box_cell bx (j := 2) (v := .int .i64 (tm : Int)) rfl
        obtain ⟨e3, _⟩ := box_cell bx (j := 3) (v := .int .i64 (a : Int)) rfl
        obtain ⟨e4, _⟩ := box_cell bx (j := 4) (v := .slice sq wn sc) rfl
        have HX := hide (fun q => And.intro (unhide HTX _ (below_drewN hB3 q)) (And.intro (hR _ _ hRr (below_drewN hB3 q)) (hK.trans (Ks.of_below (below_drewN hB3 q)))))
        clear c6 c7 hcB bx hl hc1 hY hRr hK
        generalize (wr.alloc (.cells #[.int .u8 (s : Int), .int .u64 (mc : Int), .int .i64 (tm : Int), .int .i64 (a : Int), .slice sq wn sc] 58)) = W3 at *
        refine wpIn_region_quiet_lit rfl (by kernel_rfl) (by kernel_rfl) ?_
        repeat (gi_big_quiet_step (fail))
        refine BigFrame.wpQuietIn_skip (fun _ _ _ _ => trivial) rfl ?_
        simp only [Act.put, List.setIfInBounds_toArray, List.set_cons_succ, List.set_cons_zero]
        repeat (gi_big_quiet_step (fail))
        refine wpQuietIn_nil ?_
        intro _ hw'
        obtain ⟨nq, hw''⟩ := hw'
        subst hw''
        go_simp
        gi_wp2
        refine ⟨⟨k + 1, pre, by simp, by omega, ?_, (unhide HX _).1, (unhide HX _).2.1, (unhide HX _).2.2⟩, ?_⟩
        · rw [unhide HS2, if_neg hd, List.append_nil]
        · simp [intOf]
          omega
    · gi_wp2
      go_end0
      refine ⟨⟨_, rfl⟩, No1, pre, hsub, ?_, hT, hRr⟩
      rw [hpre, List.take_of_length_le (by rw [unhide hlen]; omega)]
end Go.Proofs.Ytjcigoojlmalnaa
