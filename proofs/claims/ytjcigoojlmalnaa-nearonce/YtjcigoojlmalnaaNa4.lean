/- The addresses of the entries, rising, over the loaded program. -/
import Derived.Test.YtjcigoojlmalnaaNa3
namespace Go.Proofs.Ytjcigoojlmalnaa
open Go.RowKit Go.Shelf Go.Maps
attribute [local go_sem ↓] Go.wp_at_zero Go.wp_at_succ

theorem srt_same : ∀ {l l' : List Nat}, l.Pairwise (· < ·) → l'.Pairwise (· < ·) → (∀ x, x ∈ l ↔ x ∈ l') → l = l'
  | [], [], _, _, _ => rfl
  | [], y :: r, _, _, h => by have := (h y).2 (by simp); simp at this
  | x :: r, [], _, _, h => by have := (h x).1 (by simp); simp at this
  | x :: r, y :: q, hx, hy, h => by
    obtain ⟨a1, a2⟩ := List.pairwise_cons.1 hx
    obtain ⟨b1, b2⟩ := List.pairwise_cons.1 hy
    have e : x = y := by
      have h1 := (h x).1 (by simp)
      have h2 := (h y).2 (by simp)
      rcases List.mem_cons.1 h1 with h1 | h1
      · exact h1
      · rcases List.mem_cons.1 h2 with h2 | h2
        · exact h2.symm
        · have := b1 x h1; have := a1 y h2; omega
    subst e
    rw [srt_same a2 b2 (fun z => ?_)]
    have := h z
    constructor
    · intro hz
      rcases List.mem_cons.1 (this.1 (by simp [hz])) with e | e
      · have := a1 z hz; omega
      · exact e
    · intro hz
      rcases List.mem_cons.1 (this.2 (by simp [hz])) with e | e
      · have := b1 z hz; omega
      · exact e

theorem getD_at {l : List Nat} {i : Nat} (h : i < l.length) : l.getD i 0 = l[i] := by simp [List.getD, List.getElem?_eq_getElem h]

/-- a row of unlike numbers that is put in order is the rising one -/
theorem row_sorted {w' : World} {base g cap : Nat} {ss ks : List Nat} {f' : Nat → Nat} (hperm : ss.Perm ks) (hk : ks.Pairwise (· < ·)) (hb : base ≤ g) (hc1 : ss.length ≤ cap) (hc2 : cap ≤ maxLen)
    (hR : Rf w' g ss.length cap f') (hM : Mix ss.length (fun i => ss.getD i 0) f') (hS : SrtF f' ss.length) :
    w'.ownsRow base 35 1 (.slice (some ⟨g, 0, none⟩) ss.length cap) ks.length (ks.map v32) := by
  have hl := hperm.length_eq
  have e : (List.range ss.length).map f' = ks := by
    refine srt_same ?_ hk (fun x => ?_)
    · rw [List.pairwise_map]
      refine List.Pairwise.imp_of_mem ?_ List.pairwise_lt_range
      intro a b ha hb' hab
      have h1 := List.mem_range.1 ha
      have h2 := List.mem_range.1 hb'
      have h3 := hS a b hab h2
      have h4 : f' a ≠ f' b := fun e => by have := hM.inj a b h1 h2 e; omega
      omega
    · rw [← hperm.mem_iff]
      constructor
      · intro h
        obtain ⟨i, hi, rfl⟩ := List.mem_map.1 h
        obtain ⟨j, hj, he⟩ := (hM.mem (f' i)).1 ⟨i, List.mem_range.1 hi, rfl⟩
        rw [← he, getD_at hj]
        exact List.getElem_mem hj
      · intro h
        obtain ⟨j, hj, he⟩ := List.mem_iff_getElem.1 h
        obtain ⟨i, hi, he2⟩ := (hM.mem x).2 ⟨j, hj, by simp only [getD_at hj]; exact he⟩
        exact List.mem_map.2 ⟨i, List.mem_range.2 hi, he2⟩
  obtain ⟨cur, hcur, hz⟩ := hR.blk
  refine ⟨by simp, .inr ⟨g, cap, cur, by rw [hl], hb, hcur, by omega, hc2, by omega, ?_⟩⟩
  rw [← e]
  apply List.ext_getElem?
  intro i
  simp only [List.length_map, List.length_range, Nat.mul_one]
  by_cases hi : i < ss.length
  · have := hR.cell i hi
    simp only [World.cell?, hcur] at this
    rw [List.getElem?_take_of_lt hi, List.getElem?_map, List.getElem?_map, List.getElem?_range hi]
    simpa [v32] using this
  · rw [List.getElem?_take_eq_none (by omega), List.getElem?_eq_none (by simp; omega)]

theorem row_rf {w : World} {base n cap : Nat} {sp : Option Addr} {ss : List Nat} (h : w.ownsRow base 35 1 (.slice sp n cap) ss.length (ss.map v32)) (hn : n = ss.length) :
    (sp = none ∧ ss = [] ∧ cap = 0) ∨ ∃ g, sp = some ⟨g, 0, none⟩ ∧ base ≤ g ∧ g < w.heap.size ∧ n ≤ cap ∧ cap ≤ maxLen ∧ Rf w g n cap (fun i => ss.getD i 0) := by
  subst hn
  rcases h.2 with ⟨hv, hz⟩ | ⟨g, cap', cur, hv, hb, hg, h1, h2, h3, h4⟩
  · left
    injection hv with a1 a2 a3
    exact ⟨a1, List.eq_nil_of_length_eq_zero a2, a3⟩
  · right
    injection hv with a1 a2 a3
    subst a3
    refine ⟨g, a1, hb, (Array.getElem?_eq_some_iff.1 hg).1, h1, h2, ⟨cur, hg, by omega⟩, fun i hi => ?_⟩
    have : (cur.toList.take (ss.length * 1))[i]? = some (v32 (ss.getD i 0)) := by
      rw [h4, List.getElem?_map, List.getElem?_eq_getElem hi, getD_at hi]; rfl
    rw [List.getElem?_take_of_lt (by omega)] at this
    simpa [World.cell?, hg, v32] using this
theorem mix_self {ss : List Nat} (h : ss.Nodup) : Mix ss.length (fun i => ss.getD i 0) (fun i => ss.getD i 0) := by
  refine ⟨fun _ => Iff.rfl, fun i j hi hj e => ?_⟩
  simp only [getD_at hi, getD_at hj] at e
  have hp := List.pairwise_iff_getElem.1 h
  rcases Nat.lt_trichotomy i j with g | g | g
  · exact absurd e (hp i j hi hj g)
  · exact g
  · exact absurd e.symm (hp j i hj hi g)

section
variable {No : Nat → Prop} {w : World} {p b : Nat} {c : Cf} {last : Nat} {L : Ens}

set_option maxRecDepth 100000 in
set_option maxHeartbeats 2000000 in
theorem sorted_any (gf : Nat) (lb : Array Value) (N : Nat) (hN : N ≤ 12) (ks : List Nat) (hk : ks.Pairwise (· < ·)) (hl : ks.length ≤ 12) (w : World) (heg : ∀ args w, (callFunc gf args).run Try.prog w = .ok (.enter gf args) w)
    (hseq : SeqStopsK Fence.wide (3 - 1) Try.prog gf lb enc32 KeepsWalks (fun ss => ss.Perm ks) (fun _ => True) N w) :
    Calls Try.prog 28 #[.func (.func gf) #[] lb] w fun e w' => ∃ sp cap, e = .returned (.slice sp ks.length cap) ∧ w'.ownsRow w.heap.size 35 1 (.slice sp ks.length cap) ks.length (ks.map v32) ∧ Below w.heap.size w w' := by
  have HC := hide (collect_any gf lb N hN (fun ss => ss.Perm ks) w heg hseq)
  clear hseq heg
  go_enter Try.func28, Try.ntmps28
  go_wp2_with fail
  refine (unhide HC).mono ?_
  rintro e w1 ⟨sp, ss, cap, rfl, hperm, hrow, hB⟩
  have hlen := hperm.length_eq
  have hnd : ss.Nodup := hperm.symm.nodup (hk.imp (fun h e => by omega))
  rcases row_rf hrow rfl with ⟨rfl, rfl, rfl⟩ | ⟨g, rfl, hb, hg, hc1, hc2, hR⟩
  · have HS := hide (sort_nil w1)
    simp only [List.length_nil]
    go_wp2_with fail
    refine (unhide HS).mono ?_
    rintro e w2 ⟨⟨v, rfl⟩, rfl⟩
    go_wp2
    go_ret
    obtain rfl : ks = [] := List.eq_nil_of_length_eq_zero (by simpa using hlen.symm)
    exact ⟨none, 0, rfl, World.ownsRow_nil _ _ _ _, hB⟩
  · have HS := hide (sort_any g ss.length cap _ w1 (by omega) hR (mix_self hnd))
    have HX := hide (And.intro hperm (And.intro hlen hB))
    clear hperm hlen hnd hrow hR hB
    go_wp2_with fail
    refine (unhide HS).mono ?_
    rintro e w2 ⟨⟨v, rfl⟩, f', hR2, hM2, hG2⟩
    have HR2 := hide hR2
    clear hR2
    go_wp2
    go_ret
    obtain ⟨hperm, hlen, hB⟩ := unhide HX
    refine ⟨some ⟨g, 0, none⟩, cap, by rw [hlen]; rfl, ?_, hB.grown hG2 hB.size (fun k e => by cases e; exact hb)⟩
    have := row_sorted hperm hk hb hc1 hc2 (unhide HR2) (unhide hM2).1 (unhide hM2).2
    rwa [hlen] at this

set_option maxHeartbeats 1000000 in
theorem addr_any (h : PN No w p b c last L) :
    Calls Try.prog 25 #[.pointer (some ⟨p, 0, none⟩)] w fun e w' => ∃ sp cap, e = .returned (.slice sp L.length cap) ∧ w'.ownsRow w.heap.size 35 1 (.slice sp L.length cap) L.length ((keysN L).map v32) ∧ Below w.heap.size w w' := by
  obtain ⟨c6, _, _, hp, _⟩ := h.facts
  obtain ⟨f, h⟩ := h
  have hlen : (keysN L).length = L.length := by simp [keysN]
  have hkl : (keysN L).Pairwise (· < ·) := by unfold keysN; rw [List.pairwise_map]; exact h.wl.srt
  have hk := hide (keys_any b w)
  have hm : (w.alloc (.cells #[.map (some b)] 53)).cell? ⟨w.heap.size, 0, none⟩ = some (.map (some b)) := by simp [go_sem]
  have hs := keys_stops (3 - 1) (by omega) w.heap.size b L.length h.wl.srt h.wl.key (w.alloc (.cells #[.map (some b)] 53)) (by simp) hm (h.map.alloc _)
  have HS := hide (sorted_any 32 _ L.length h.wl.len (keysN L) hkl (by rw [hlen]; exact h.wl.len) _ (by intro args w; rfl) hs)
  rw [hlen] at HS
  clear hs hm hkl h
  go_enter Try.func25, Try.ntmps25
  go_wp2_with fail
  refine (unhide hk).mono ?_
  rintro e w1 ⟨rfl, rfl⟩
  go_wp2_with fail
  refine (unhide HS).mono ?_
  rintro e w2 ⟨sp, cap, rfl, hrow, hB⟩
  go_wp2
  go_ret
  refine ⟨sp, cap, rfl, ?_, tr2 (below_one w _) hB⟩
  exact ⟨hrow.1, hrow.2.imp id (fun ⟨g, cap, cur, a1, a2, rest⟩ => ⟨g, cap, cur, a1, by simp at a2; omega, rest⟩)⟩
end
end Go.Proofs.Ytjcigoojlmalnaa
