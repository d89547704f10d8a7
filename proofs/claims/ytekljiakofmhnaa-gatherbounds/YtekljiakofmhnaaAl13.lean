/- The calls that the law's alive() of package gather makes, over the loaded program. -/
import Derived.Test.YtekljiakofmhnaaGu6
import Derived.Test.YtekljiakofmhnaaGv4
namespace Go.Proofs.Ytekljiakofmhnaa
open Go.RowKit Go.Shelf

abbrev hA : Rh := ⟨0, 1, false, false, 8, 0, 0, 0, 0, ⟨#[]⟩⟩
abbrev hB : Rh := ⟨0, 1, false, true, 0, 5, 0, 0, 0, ⟨#[]⟩⟩
abbrev hC3 : Rh := ⟨0, 2, false, true, 0, 0, 0, 0, 0, ⟨#[]⟩⟩
abbrev dA : ByteArray := ⟨#[120, 121, 122]⟩
abbrev dB : ByteArray := ⟨#[97, 98, 99, 100, 101, 102, 103, 104]⟩
abbrev dC : ByteArray := ⟨#[97, 98, 99, 100, 101, 102, 103, 104, 105, 106, 107, 108, 109, 110, 111, 112]⟩
abbrev cA : Cf := ⟨4, 4096, 16, 30⟩
abbrev kA : Pk := ⟨0, 0, 0, 1⟩
abbrev kC : Pk := ⟨0, 0, 0, 2⟩
abbrev yA : Ga := ⟨rh0, [⟨8, dA, false⟩], 30, false⟩
abbrev yB : Ga := ⟨hB, [⟨0, dB, true⟩, ⟨8, dA, false⟩], 30, false⟩
abbrev yC : Ga := ⟨hC3, [⟨0, dB, true⟩], 33, false⟩
theorem cA_ok : cA.Ok := ⟨by decide, by decide, by decide, by decide, by decide, by decide, by decide, by decide⟩
theorem hA_in : hA.In := ⟨by decide, by decide, by decide, by decide, by decide, by decide, by decide, by decide, by decide⟩
theorem hB_in : hB.In := ⟨by decide, by decide, by decide, by decide, by decide, by decide, by decide, by decide, by decide⟩
theorem hC_in : hC3.In := ⟨by decide, by decide, by decide, by decide, by decide, by decide, by decide, by decide, by decide⟩
theorem al_t1 : takeS cA [] 0 hA ⟨8, dA, false⟩ 0 = .ok yA 0 := by rfl
theorem al_t2 (v : Value) : takeS cA [⟨kA, yA, v⟩] 0 hA ⟨8, dA, false⟩ 1 = .no 7 := by rfl
theorem al_t3 (v : Value) : takeS cA [⟨kA, yA, v⟩] 0 hB ⟨0, dB, true⟩ 2 = .ok yB 2 := by rfl
theorem al_t4 : takeS cA [] 2 hC3 ⟨0, dB, true⟩ 3 = .ok yC 3 := by rfl
theorem al_t5 (v : Value) : takeS cA [⟨kC, yC, v⟩] 3 hC3 ⟨0, dC, true⟩ 4 = .spoil := by rfl
theorem one_srt (p : Pt) : SrtP [p] := srt_cons.2 ⟨by simp, fun i j a b _ ha => by simp at ha⟩
theorem wf_nil (l : Int) (h0 : 0 ≤ l) (h1 : l ≤ 17592186044416) : WF cA [] l := ⟨cA_ok, by simp, by simp, by simp, by simp, by simp [heldE], h0, h1⟩
theorem wf_one (k : Pk) (hk : k.In) (y : Ga) (hy : WFx y) (hs : sumP y.ps ≤ 4096) (v : Value) (l : Int) (h0 : 0 ≤ l) (h1 : l ≤ 17592186044416) : WF cA [⟨k, y, v⟩] l :=
  ⟨cA_ok, by simp, by simp, by simpa using hk, by simpa using hy, by simpa [heldE] using hs, h0, h1⟩
theorem wf_yA : WFx yA := ⟨by decide, by intro q hq; obtain rfl := List.mem_singleton.1 hq; exact ⟨by decide, by decide, by decide⟩, one_srt _, by decide, by decide, by decide⟩
theorem wf_yC : WFx yC := ⟨by decide, by intro q hq; obtain rfl := List.mem_singleton.1 hq; exact ⟨by decide, by decide, by decide⟩, one_srt _, by decide, by decide, by decide⟩
theorem wf_sp (ov : Int) (h0 : 0 ≤ ov) (h1 : ov ≤ 18691697672192) : WFx (spoiltG ov) := ⟨by simp [spoiltG], by simp [spoiltG], fun i j a b _ ha => by simp [spoiltG] at ha, Nat.zero_le 1073741824, h0, h1⟩
theorem GQ.no {No No' : Nat → Prop} {w w' : World} {p b : Nat} {c : Cf} {L : List En} {last : Int} (h : GQ No w p b c L last) (k : Below w.heap.size w w') (hN : ∀ i, No' i → i < w'.heap.size ∧ (No i ∨ w.heap.size ≤ i)) : GQ No' w' p b c L last := by
  obtain ⟨o, g⟩ := h
  exact ⟨o, g.no k hN⟩
theorem GQ.on {No : Nat → Prop} {w w' : World} {p b : Nat} {c : Cf} {L : List En} {last : Int} (h : GQ No w p b c L last) (k : Below w.heap.size w w') : GQ No w' p b c L last := by
  obtain ⟨o, g⟩ := h
  exact ⟨o, g.below k⟩
section
variable {No : Nat → Prop} {w : World} {p b : Nat}
abbrev vhA : Value := .agg #[.int .u8 0, .int .u16 1, .bool false, .bool false, .int .i64 8, .int .u8 0, .int .u8 0, .int .u32 0, .int .u32 0, .string ⟨#[]⟩]
abbrev vhB : Value := .agg #[.int .u8 0, .int .u16 1, .bool false, .bool true, .int .i64 0, .int .u8 5, .int .u8 0, .int .u32 0, .int .u32 0, .string ⟨#[]⟩]
abbrev vhC : Value := .agg #[.int .u8 0, .int .u16 2, .bool false, .bool true, .int .i64 0, .int .u8 0, .int .u8 0, .int .u32 0, .int .u32 0, .string ⟨#[]⟩]
theorem al_p1' (h : GQ No w p b cA [] 0) : Calls Try.prog 10 #[.pointer (some ⟨p, 0, none⟩), vhA, .string ⟨#[120, 121, 122]⟩, .int .i64 0] w fun x w' => x = noR 0 ∧ Ks No w w' ∧ ∃ v, GQ No w' p b cA [⟨kA, yA, v⟩] 0 := by
  obtain ⟨o, g⟩ := h
  refine (put_any g (wf_nil 0 (by decide) (by decide)) hA hA_in dA 0 (by decide) (by decide)).mono ?_
  rintro x w' ⟨hk, hp⟩
  rw [if_neg (by decide), if_neg (by decide), show takeS cA [] 0 hA ⟨hA.at', dA, hA.more⟩ 0 = .ok yA 0 from al_t1] at hp
  simp only [takenQ] at hp
  rw [if_neg (by decide)] at hp
  obtain ⟨rfl, v, hg⟩ := hp
  exact ⟨rfl, hk, v, hg⟩
theorem al_p2' {v : Value} (h : GQ No w p b cA [⟨kA, yA, v⟩] 0) : Calls Try.prog 10 #[.pointer (some ⟨p, 0, none⟩), vhA, .string ⟨#[120, 121, 122]⟩, .int .i64 1] w fun x w' => x = noR 7 ∧ Ks No w w' ∧ GQ No w' p b cA [⟨kA, yA, v⟩] 0 := by
  obtain ⟨o, g⟩ := h
  refine (put_any g (wf_one _ ⟨by decide, by decide, by decide, by decide⟩ _ wf_yA (by decide) v 0 (by decide) (by decide)) hA hA_in dA 1 (by decide) (by decide)).mono ?_
  rintro x w' ⟨hk, hp⟩
  rw [if_neg (by decide), if_neg (by decide), show takeS cA [⟨kA, yA, v⟩] 0 hA ⟨hA.at', dA, hA.more⟩ 1 = .no 7 from al_t2 v] at hp
  exact ⟨hp.1, hk, hp.2⟩
theorem al_p3' {v : Value} (h : GQ No w p b cA [⟨kA, yA, v⟩] 0) : Calls Try.prog 10 #[.pointer (some ⟨p, 0, none⟩), vhB, .string ⟨#[97, 98, 99, 100, 101, 102, 103, 104]⟩, .int .i64 2] w
    fun x w' => x = .returned (.tuple #[.agg #[.int .u8 0, .int .u16 1, .bool false, .bool false, .int .i64 0, .int .u8 5, .int .u8 0, .int .u32 0, .int .u32 0, .string ⟨#[]⟩], .string ⟨#[97, 98, 99, 100, 101, 102, 103, 104, 120, 121, 122]⟩, .bool true, .int .i64 0]) ∧ Ks No w w' ∧ GQ No w' p b cA [] 2 := by
  obtain ⟨o, g⟩ := h
  refine (put_any g (wf_one _ ⟨by decide, by decide, by decide, by decide⟩ _ wf_yA (by decide) v 0 (by decide) (by decide)) hB hB_in dB 2 (by decide) (by decide)).mono ?_
  rintro x w' ⟨hk, hp⟩
  rw [if_neg (by decide), if_neg (by decide), show takeS cA [⟨kA, yA, v⟩] 0 hB ⟨hB.at', dB, hB.more⟩ 2 = .ok yB 2 from al_t3 v] at hp
  simp only [takenQ] at hp
  rw [if_pos (by decide)] at hp
  exact ⟨hp.1, hk, hp.2⟩
theorem al_p4' (h : GQ No w p b cA [] 2) : Calls Try.prog 10 #[.pointer (some ⟨p, 0, none⟩), vhC, .string ⟨#[97, 98, 99, 100, 101, 102, 103, 104]⟩, .int .i64 3] w fun x w' => x = noR 0 ∧ Ks No w w' ∧ ∃ v, GQ No w' p b cA [⟨kC, yC, v⟩] 3 := by
  obtain ⟨o, g⟩ := h
  refine (put_any g (wf_nil 2 (by decide) (by decide)) hC3 hC_in dB 3 (by decide) (by decide)).mono ?_
  rintro x w' ⟨hk, hp⟩
  rw [if_neg (by decide), if_neg (by decide), show takeS cA [] 2 hC3 ⟨hC3.at', dB, hC3.more⟩ 3 = .ok yC 3 from al_t4] at hp
  simp only [takenQ] at hp
  rw [if_neg (by decide)] at hp
  obtain ⟨rfl, v, hg⟩ := hp
  exact ⟨rfl, hk, v, hg⟩
theorem al_p5' {v : Value} (h : GQ No w p b cA [⟨kC, yC, v⟩] 3) : Calls Try.prog 10 #[.pointer (some ⟨p, 0, none⟩), vhC, .string ⟨#[97, 98, 99, 100, 101, 102, 103, 104, 105, 106, 107, 108, 109, 110, 111, 112]⟩, .int .i64 4] w fun x w' => x = noR 3 ∧ Ks No w w' ∧ GQ No w' p b cA [⟨kC, spoiltG 33, .slice none 0 0⟩] 3 := by
  obtain ⟨o, g⟩ := h
  refine (put_any g (wf_one _ ⟨by decide, by decide, by decide, by decide⟩ _ wf_yC (by decide) v 3 (by decide) (by decide)) hC3 hC_in dC 4 (by decide) (by decide)).mono ?_
  rintro x w' ⟨hk, hp⟩
  rw [if_neg (by decide), if_neg (by decide), show takeS cA [⟨kC, yC, v⟩] 3 hC3 ⟨hC3.at', dC, hC3.more⟩ 4 = .spoil from al_t5 v] at hp
  exact ⟨hp.1, hk, hp.2⟩
theorem al_nx (h : GQ No w p b cA [⟨kC, spoiltG 33, .slice none 0 0⟩] 3) : Calls Try.prog 9 #[.pointer (some ⟨p, 0, none⟩)] w fun x w' => x = .returned (.tuple #[.int .i64 33, .bool true]) ∧ Below w.heap.size w w' := by
  obtain ⟨o, g⟩ := h
  exact next_any g rfl ⟨by decide, by decide, by decide, by decide⟩ rfl
theorem al_tk (h : GQ No w p b cA [⟨kC, spoiltG 33, .slice none 0 0⟩] 3) : Calls Try.prog 8 #[.pointer (some ⟨p, 0, none⟩), .int .i64 33] w fun x w' => (∃ sp sc, x = .returned (.slice sp 0 sc)) ∧ Ks No w w' ∧ GQ No w' p b cA [] 33 := by
  obtain ⟨o, g⟩ := h
  refine (tick_any g (wf_one _ ⟨by decide, by decide, by decide, by decide⟩ _ (wf_sp 33 (by decide) (by decide)) (by decide) _ 3 (by decide) (by decide)) 33 33 rfl 1 rfl).mono ?_
  rintro x w' ⟨v, rfl, hr, hg, hk⟩
  obtain ⟨sp, sc, rfl⟩ := rowp_shape hr
  exact ⟨⟨sp, sc, rfl⟩, hk, hg⟩
theorem al_ln {t : Int} (h : GQ No w p b cA [] t) : Calls Try.prog 12 #[.pointer (some ⟨p, 0, none⟩)] w fun x w' => x = .returned (.int .i64 0) ∧ w' = w := by
  obtain ⟨o, g⟩ := h
  exact len_any p b [] w (g.cell rfl) g.map
theorem al_hd {t : Int} {L : List En} {n : Int} (h : GQ No w p b cA L t) (hn : n = (heldE L : Nat)) : Calls Try.prog 13 #[.pointer (some ⟨p, 0, none⟩)] w fun x w' => x = .returned (.int .i64 n) ∧ w' = w := by
  obtain ⟨o, g⟩ := h
  subst hn
  exact held_any p b _ w (g.cell rfl) (g.cell rfl)
end

theorem conf_any (w : World) : Calls Try.prog 16 #[] w fun x w' => x = .returned (.agg (cfL cA)) ∧ Below w.heap.size w w' := by
  have B0 := hide (below_one w (.cells #[.int .i64 4, .int .i64 4096, .int .i64 16, .int .i64 30] 23))
  have EA := heap_alloc_new w (.cells #[.int .i64 4, .int .i64 4096, .int .i64 16, .int .i64 30] 23)
  have d0 : (w.alloc (.cells #[.int .i64 4, .int .i64 4096, .int .i64 16, .int .i64 30] 23)).cell? ⟨w.heap.size, 0, none⟩ = some (.int .i64 4) := cell_of_row _ _ 0 _ _ _ EA
  have d1 : (w.alloc (.cells #[.int .i64 4, .int .i64 4096, .int .i64 16, .int .i64 30] 23)).cell? ⟨w.heap.size, 1, none⟩ = some (.int .i64 4096) := cell_of_row _ _ 1 _ _ _ EA
  have d2 : (w.alloc (.cells #[.int .i64 4, .int .i64 4096, .int .i64 16, .int .i64 30] 23)).cell? ⟨w.heap.size, 2, none⟩ = some (.int .i64 16) := cell_of_row _ _ 2 _ _ _ EA
  have d3 : (w.alloc (.cells #[.int .i64 4, .int .i64 4096, .int .i64 16, .int .i64 30] 23)).cell? ⟨w.heap.size, 3, none⟩ = some (.int .i64 30) := cell_of_row _ _ 3 _ _ _ EA
  clear EA
  go_enter Try.func16, Try.ntmps16
  go_wp2_with fail
  refine bodyPost_ret (v := .agg #[.int .i64 4, .int .i64 4096, .int .i64 16, .int .i64 30]) (by simp [results, Try.results16, go_sem, d0, d1, d2, d3]) rfl ⟨rfl, unhide B0⟩

theorem below_low {No : Nat → Prop} {w w' : World} {B : Nat} (h : Ks No w w') (hN : ∀ k, k < B → No k) (hB : B ≤ w.heap.size) : Below B w w' := h.below hB hN
theorem al_new (w : World) : Calls Try.prog 5 #[.agg (cfL cA)] w fun e w' => ∃ p b, e = .returned (.tuple #[.pointer (some ⟨p, 0, none⟩), .int .i64 0]) ∧ GQ (fun i => i < w.heap.size) w' p b cA [] 0 ∧ Below w.heap.size w w' := by
  refine (new_ok cA cA_ok w).mono ?_
  rintro e w' ⟨p, b, rfl, g, hb, -, -⟩
  exact ⟨p, b, rfl, ⟨_, g⟩, hb⟩

set_option maxRecDepth 100000 in
set_option maxHeartbeats 4000000 in
theorem alive_any (w : World) : Calls Try.prog 7 #[] w fun e w' => e = .returned (.bool true) ∧ Below w.heap.size w w' := by
  go_enter Try.func7, Try.ntmps7
  go_wp2_with fail
  refine (conf_any _).mono ?_
  rintro e w1 ⟨rfl, b1⟩
  go_wp2_with fail
  refine (al_new _).mono ?_
  rintro e w2 ⟨p, b, rfl, q2, b2⟩
  have B2 := hide (tr2 b1 b2)
  have hz1 := hide b1.size
  have hz2 := hide b2.size
  have q2 := hide q2
  clear b1 b2
  go_wp2_with fail
  refine (al_p1' (unhide q2)).mono ?_
  rintro e w3 ⟨rfl, k3, v3, q3⟩
  have K3 := hide k3
  have q3 := hide q3
  clear q2 k3
  go_wp2_with fail
  refine (al_p2' ((unhide q3).on (below_one w3 _))).mono ?_
  rintro e w4 ⟨rfl, k4, q4⟩
  have K4 := hide (((unhide K3).trans (Ks.of_below (below_one w3 _))).trans k4)
  have q4 := hide q4
  clear q3 K3 k4
  go_wp2_with fail
  refine (al_hd (n := 3) ((unhide q4).on (below_one w4 _)) rfl).mono ?_
  rintro e w5 ⟨rfl, rfl⟩
  go_wp2_with fail
  refine (al_p3' ((unhide q4).on (below_one w4 _))).mono ?_
  rintro e w5 ⟨rfl, k5, q5⟩
  have K5 := hide (((unhide K4).trans (Ks.of_below (below_one w4 _))).trans k5)
  have q5 := hide q5
  clear q4 K4 k5
  have EB := hide (heap_alloc_new w5 (.cells #[.int .u8 0, .int .u16 1, .bool false, .bool false, .int .i64 0, .int .u8 5, .int .u8 0, .int .u32 0, .int .u32 0, .string ⟨#[]⟩] 34))
  have BB := below_one w5 (.cells #[.int .u8 0, .int .u16 1, .bool false, .bool false, .int .i64 0, .int .u8 5, .int .u8 0, .int .u32 0, .int .u32 0, .string ⟨#[]⟩] 34)
  have hw12 : w1.heap.size ≤ w5.heap.size := by have := unhide hz2; have := (unhide K5).size; omega
  have q6 := hide ((unhide q5).no (No' := fun i => i < w1.heap.size ∨ i = w5.heap.size) BB (fun i hi => by
    rcases hi with hi | rfl
    · exact ⟨by simp; omega, .inl hi⟩
    · exact ⟨by simp, .inr (Nat.le_refl _)⟩))
  have K6 := hide ((unhide K5).trans (Ks.of_below BB))
  have HW := hide hw12
  clear q5 K5 BB hw12
  go_wp2_with fail
  obtain ⟨w6, hw6⟩ : ∃ w6, w6 = w5.alloc (.cells #[.int .u8 0, .int .u16 1, .bool false, .bool false, .int .i64 0, .int .u8 5, .int .u8 0, .int .u32 0, .int .u32 0, .string ⟨#[]⟩] 34) := ⟨_, rfl⟩
  rw [← hw6] at q6 K6 EB
  rw [← hw6]
  clear hw6
  refine (al_p4' (unhide q6)).mono ?_
  rintro e w7 ⟨rfl, k7, v7, q7⟩
  have EB := hide ((k7.block _ (heap_lt (unhide EB)) (.inr rfl)).trans (unhide EB))
  have K7 := hide ((unhide K6).trans (k7.mono (fun i hi => .inl hi)))
  have q7 := hide q7
  clear q6 K6 k7
  go_wp2_with fail
  refine (al_p5' ((unhide q7).on (below_one w7 _))).mono ?_
  rintro e w8 ⟨rfl, k8, q8⟩
  have k8 := (Ks.of_below (No := fun i => i < w1.heap.size ∨ i = w5.heap.size) (below_one w7 _)).trans k8
  have EB := hide ((k8.block _ (heap_lt (unhide EB)) (.inr rfl)).trans (unhide EB))
  have K8 := hide ((unhide K7).trans (k8.mono (fun i hi => .inl hi)))
  have q8 := hide q8
  clear q7 K7 k8
  go_wp2_with fail
  refine (al_nx ((unhide q8).on (below_one w8 _))).mono ?_
  rintro e w9 ⟨rfl, b9⟩
  have b9 := tr2 (below_one w8 _) b9
  have EB := hide ((b9.block _ (heap_lt (unhide EB))).trans (unhide EB))
  have K9 := hide ((unhide K8).trans (Ks.of_below b9))
  have q9 := hide ((unhide q8).on b9)
  clear q8 K8 b9
  go_wp2_with fail
  refine (al_tk (unhide q9)).mono ?_
  rintro e w10 ⟨⟨sp, sc, rfl⟩, k10, q10⟩
  have EB := (k10.block _ (heap_lt (unhide EB)) (.inr rfl)).trans (unhide EB)
  have K10 := hide ((unhide K9).trans (k10.mono (fun i hi => .inl hi)))
  have q10 := hide q10
  have f5 : w10.cell? ⟨w5.heap.size, 5, none⟩ = some (.int .u8 5) := cell_of_row _ _ 5 _ _ _ EB
  have f3 : w10.cell? ⟨w5.heap.size, 3, none⟩ = some (.bool false) := cell_of_row _ _ 3 _ _ _ EB
  clear q9 K9 k10 EB
  go_wp2_with fail
  refine (al_ln (unhide q10)).mono ?_
  rintro e w11 ⟨rfl, rfl⟩
  go_wp2_with fail
  refine (al_hd (n := 0) (unhide q10) rfl).mono ?_
  rintro e w11 ⟨rfl, rfl⟩
  go_wp2_with fail
  go_ret
  refine ⟨rfl, ?_⟩
  have b := (unhide B2)
  have k := unhide K10
  have h1 := unhide hz1
  have h2 := unhide hz2
  exact b.trans (k.below (by omega) (fun i hi => by show i < _; omega))

end Go.Proofs.Ytekljiakofmhnaa
