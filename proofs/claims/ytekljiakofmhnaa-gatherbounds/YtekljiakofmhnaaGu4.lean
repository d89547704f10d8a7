/- What of a Gather's numbers stands behind Put. No program in it. -/
import Derived.Test.YtekljiakofmhnaaGt1
namespace Go.Proofs.Ytekljiakofmhnaa
open Go.RowKit Go.Shelf

theorem drop_set (k : Pk) (x : Ga) (v : Value) (L : List En) : dropE k (setE k x v L) = dropE k L := by
  unfold setE
  split
  · rename_i h
    clear h
    induction L with
    | nil => rfl
    | cons y r ih =>
      simp only [dropE, List.map_cons] at ih ⊢
      by_cases hy : y.k = k
      · rw [if_pos hy]
        simpa [hy] using ih
      · rw [if_neg hy]
        simpa [hy] using ih
  · simp [dropE]
theorem cnt_in {last now : Int} (h0 : 0 ≤ last) (h1 : last ≤ 17592186044416) : 0 ≤ cntT last now ∧ cntT last now ≤ 17592186044416 := by
  unfold cntT
  omega
theorem WF.now {c : Cf} {L : List En} {last : Int} (h : WF c L last) (now : Int) : WF c L (cntT last now) :=
  ⟨h.ok, h.len, h.nd, h.kin, h.x, h.held, (cnt_in h.l0 h.l1).1, (cnt_in h.l0 h.l1).2⟩
theorem WF.drop {c : Cf} {L : List En} {last : Int} (h : WF c L last) {k : Pk} {e : En} (he : lookE k L = some e) : WF c (dropE k L) last := by
  have hsub : ∀ x ∈ dropE k L, x ∈ L := fun x hx => (List.mem_filter.1 hx).1
  have hh := heldE_drop h.nd he
  refine ⟨h.ok, ?_, ?_, fun x hx => h.kin x (hsub x hx), fun x hx => h.x x (hsub x hx), by have := h.held; omega, h.l0, h.l1⟩
  · exact Nat.le_trans (List.length_filter_le _ _) h.len
  · rw [keys_drop]
    exact h.nd.filter _
theorem set_len {k : Pk} {x : Ga} {v : Value} {L : List En} : (setE k x v L).length = L.length + (if thereB L k = true then 0 else 1) := by
  unfold setE thereB
  split <;> simp_all
theorem set_nd {k : Pk} {x : Ga} {v : Value} {L : List En} (h : (L.map (·.k)).Nodup) : ((setE k x v L).map (·.k)).Nodup := by
  rcases he : lookE k L with _ | e
  · unfold setE
    rw [he]
    simp only [Option.isSome_none, Bool.false_eq_true, if_false, List.map_append, List.map_cons, List.map_nil]
    rw [List.nodup_append]
    refine ⟨h, by simp, ?_⟩
    intro a ha b hb
    rw [List.mem_map] at ha
    obtain ⟨y, hy, rfl⟩ := ha
    simp only [List.mem_singleton] at hb
    subst hb
    exact lookE_none he y hy
  · rw [keys_set he]
    exact h

theorem srt_cons {p : Pt} {r : List Pt} : SrtP (p :: r) ↔ (∀ q ∈ r, p.pa ≤ q.pa) ∧ SrtP r := by
  constructor
  · intro h
    refine ⟨fun q hq => ?_, fun i j a b hij ha hb => h (i + 1) (j + 1) a b (by omega) (by simpa using ha) (by simpa using hb)⟩
    obtain ⟨j, hj⟩ := List.mem_iff_getElem?.1 hq
    exact h 0 (j + 1) p q (by omega) rfl (by simpa using hj)
  · rintro ⟨h1, h2⟩ i j a b hij ha hb
    cases i with
    | zero =>
      obtain rfl : p = a := by simpa using ha
      cases j with
      | zero =>
        obtain rfl : p = b := by simpa using hb
        exact Int.le_refl _
      | succ j => exact h1 b (List.mem_of_getElem? (by simpa using hb))
    | succ i =>
      cases j with
      | zero => omega
      | succ j => exact h2 i j a b (by omega) (by simpa using ha) (by simpa using hb)
theorem srt_ins (p : Pt) {l : List Pt} (h : SrtP l) : SrtP (insP p l) := by
  induction l with
  | nil => exact srt_cons.2 ⟨by simp, h⟩
  | cons q r ih =>
    obtain ⟨h1, h2⟩ := srt_cons.1 h
    simp only [insP]
    split
    · rename_i hpq
      exact srt_cons.2 ⟨fun a ha => by
        rcases List.mem_cons.1 ha with rfl | ha
        · exact hpq
        · exact Int.le_trans hpq (h1 a ha), h⟩
    · rename_i hpq
      exact srt_cons.2 ⟨fun a ha => by
        rcases insP_mem.1 ha with rfl | ha
        · omega
        · exact h1 a ha, ih h2⟩
theorem WF.set {c : Cf} {L : List En} {last last' : Int} (h : WF c L last) {k : Pk} {y : Ga} {v : Value} (hk : k.In) (hy : WFx y) (hl : thereB L k = true ∨ L.length < c.most) (hh : heldE L + sumP y.ps ≤ c.byt + sumP (xOf L k).ps) (h0 : 0 ≤ last') (h1 : last' ≤ 17592186044416) : WF c (setE k y v L) last' := by
  refine ⟨h.ok, ?_, set_nd h.nd, ?_, ?_, ?_, h0, h1⟩
  · rw [set_len]
    have := h.len
    rcases hl with hl | hl
    · rw [if_pos hl]; omega
    · split <;> omega
  · intro e he
    rcases mem_set he with rfl | he
    · exact hk
    · exact h.kin e he
  · intro e he
    rcases mem_set he with rfl | he
    · exact hy
    · exact h.x e he
  · rcases he : lookE k L with _ | e
    · have e1 : heldE (setE k y v L) = heldE L + sumP y.ps := by
        unfold setE
        rw [he]
        simp [heldE]
      have e2 : xOf L k = ⟨rh0, [], 0, false⟩ := by unfold xOf; rw [he]
      rw [e1]
      rw [e2] at hh
      simpa [sumP] using hh
    · have := heldE_set (x := y) (v := v) h.nd he
      have e2 : xOf L k = e.a := by unfold xOf; rw [he]
      rw [e2] at hh
      omega
theorem WF.xof {c : Cf} {L : List En} {last : Int} (h : WF c L last) (k : Pk) : WFx (xOf L k) := by
  unfold xOf
  rcases he : lookE k L with _ | e
  · exact ⟨by simp, by simp, fun i j p q _ hp => by simp at hp, Nat.zero_le 1073741824, by simp, by simp⟩
  · exact h.x e (lookE_some he).1

theorem WF.taken {c : Cf} {L : List En} {last now last' : Int} {h : Rh} {d : ByteArray} {y : Ga} (hw : WF c L last) (hin : h.In) (hop : h.op.size ≤ 1073741824) (hpt : Pt.In ⟨h.at', d, h.more⟩)
    (hr : takeS c L last h ⟨h.at', d, h.more⟩ now = .ok y last') (v : Value) :
    WF c (setE (pkOf h) y v L) last' ∧ WFx y ∧ (wholeF 0 true y.ps = true → 20 + y.hd.op.size + sumP y.ps ≤ 65535) := by
  have hx := hw.xof (pkOf h)
  have hk : (pkOf h).In := ⟨hin.frm, hin.to, hin.proto, hin.id⟩
  have hcn := cnt_in (now := now) hw.l0 hw.l1
  have hok := hw.ok
  unfold takeS at hr
  split at hr
  · cases hr
  rename_i t1
  split at hr
  · cases hr
  split at hr
  · cases hr
  split at hr
  · cases hr
  rename_i t4
  split at hr
  · cases hr
  rename_i t5
  injection hr with hy hl
  have hps : y.ps = insP ⟨h.at', d, h.more⟩ (xOf L (pkOf h)).ps := by rw [← hy]
  have hhd : y.hd = (withG (xOf L (pkOf h)) h ⟨h.at', d, h.more⟩).hd := by rw [← hy]
  have hov : y.ov = if thereB L (pkOf h) = true then (xOf L (pkOf h)).ov else cntT last now + (c.tm : Int) := by rw [← hy]
  have hsum := sumP_ins ⟨h.at', d, h.more⟩ (xOf L (pkOf h)).ps
  have ht := hok.t1
  have hp1 := hok.p1
  have y1 : WFx y := by
    refine ⟨?_, ?_, ?_, ?_, ?_, ?_⟩
    · rw [hps, insP_length]; omega
    · intro q hq
      rw [hps] at hq
      rcases insP_mem.1 hq with rfl | hq
      · exact hpt
      · exact hx.inp q hq
    · rw [hps]; exact srt_ins _ hx.srt
    · rw [hhd]
      unfold withG
      simp only
      split
      · exact hop
      · exact hx.op
    · rw [hov]
      split
      · exact hx.o0
      · omega
    · rw [hov]
      split
      · exact hx.o1
      · omega
  refine ⟨hw.set hk y1 ?_ ?_ (by rw [← hl]; exact hcn.1) (by rw [← hl]; exact hcn.2), y1, ?_⟩
  · rcases hb : thereB L (pkOf h) with _ | _
    · right
      have : ¬ (c.most ≤ L.length) := fun e => t1 ⟨hb, e⟩
      omega
    · exact .inl rfl
  · rw [hps, hsum]
    have : (⟨h.at', d, h.more⟩ : Pt).pd.size = d.size := rfl
    simp only at t5
    omega
  · intro hwh
    have : longG (withG (xOf L (pkOf h)) h ⟨h.at', d, h.more⟩) = false := by
      rcases hq : longG (withG (xOf L (pkOf h)) h ⟨h.at', d, h.more⟩) with _ | _
      · rfl
      · exact absurd (by rw [hq]; simp) t4
    unfold longG at this
    have e1 : (withG (xOf L (pkOf h)) h ⟨h.at', d, h.more⟩).ps = y.ps := by rw [hps]; rfl
    rw [e1, hwh, ← hhd] at this
    simp only [Bool.true_and, decide_eq_false_iff_not] at this
    omega

end Go.Proofs.Ytekljiakofmhnaa
