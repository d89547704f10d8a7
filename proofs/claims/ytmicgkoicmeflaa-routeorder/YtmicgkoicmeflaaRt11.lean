/- The contract of package route's All, over the loaded program: the routes in their order, in memory of the call's own. -/
import Derived.Test.YtmicgkoicmeflaaRs11
namespace Go.Proofs.Ytmicgkoicmeflaa
open Go.RowKit Go.Shelf

abbrev encRt (r : Rt) : List Value := (rtCs r).toList
instance : Inhabited Rt := ⟨⟨0, 0, 0, 0, 0⟩⟩
/-- routes side by side in memory, to be read -/
def RtsAt (w : World) (sv : Value) (L : List Rt) : Prop :=
  ((∃ a cap, sv = .slice a 0 cap) ∧ L = []) ∨ ∃ g off cap, sv = .slice (some ⟨g, off, none⟩) L.length cap ∧ g < w.heap.size ∧ ∀ i r, L[i]? = some r → ∀ j v, (rtCs r)[j]? = some v → w.cell? ⟨g, off + i * 5 + j, none⟩ = some v
theorem RtsAt.slice {w : World} {sv : Value} {L : List Rt} (h : RtsAt w sv L) : ∃ a cap, sv = .slice a L.length cap := by
  rcases h with ⟨⟨a, cap, rfl⟩, rfl⟩ | ⟨g, off, cap, rfl, _⟩
  · exact ⟨a, cap, rfl⟩
  · exact ⟨_, cap, rfl⟩
theorem RtsAt.below {w w' : World} {sv : Value} {L : List Rt} (h : RtsAt w sv L) (k : RowKit.Below w.heap.size w w') : RtsAt w' sv L := by
  rcases h with h | ⟨g, off, cap, e, hg, hc⟩
  · exact .inl h
  · exact .inr ⟨g, off, cap, e, Nat.lt_of_lt_of_le hg k.size, fun i r hi j v hj => (k.cell (p := ⟨g, off + i * 5 + j, none⟩) hg).trans (hc i r hi j v hj)⟩
/-- what becomes of a map leaves them -/
theorem RtsAt.keep {w w' : World} {sv : Value} {L : List Rt} (h : RtsAt w sv L) {b : Nat} (k : w.grownBy w' (some b)) {es : Array MapEntry} {c : Nat} (hb : w.heap[b]? = some (.map es c)) : RtsAt w' sv L := by
  rcases h with h | ⟨g, off, cap, e, hg, hc⟩
  · exact .inl h
  · refine .inr ⟨g, off, cap, e, Nat.lt_of_lt_of_le hg k.size, fun i r hi j v hj => ?_⟩
    have h1 := hc i r hi j v hj
    have hne : some g ≠ some b := fun x => by
      cases x
      simp [World.cell?, hb] at h1
    rw [World.cell?_of_block (k.block g hg hne)]
    exact h1
theorem PT.isMap {w : World} {p b : Nat} {L : List Rt} (h : PT w p b L) : ∃ es c, w.heap[b]? = some (.map es c) := by
  obtain ⟨D, ⟨es, clock, hb, _⟩, _⟩ := h.map
  exact ⟨es, clock, hb⟩

theorem cellsR_get : ∀ (ss : List Rt) (i j : Nat) (r : Rt) (v : Value), ss[i]? = some r → (rtCs r)[j]? = some v → (cellsR ss)[i * 5 + j]? = some v
  | [], i, j, r, v, h, _ => by simp at h
  | x :: ss, 0, j, r, v, h, hj => by
    obtain rfl : x = r := by simpa using h
    have hl : j < 5 := by have := (Array.getElem?_eq_some_iff.1 hj).1; simpa using this
    show ((rtCs x).toList ++ cellsR ss)[0 * 5 + j]? = _
    rw [List.getElem?_append_left (by simpa using hl)]
    simpa using hj
  | x :: ss, i + 1, j, r, v, h, hj => by
    show ((rtCs x).toList ++ cellsR ss)[(i + 1) * 5 + j]? = _
    rw [List.getElem?_append_right (by simp; omega)]
    have := cellsR_get ss i j r v (by simpa using h) hj
    rw [show (i + 1) * 5 + j - (rtCs x).toList.length = i * 5 + j by simp; omega]
    exact this
theorem holds_of_row {w : World} {base g cap : Nat} {ss : List Rt} (h : w.ownsRow base 32 5 (.slice (some ⟨g, 0, none⟩) ss.length cap) ss.length (cellsR ss)) (_ : ss ≠ []) : Go.Sort.HoldsK encRt 5 w g 0 ss.toArray ∧ base ≤ g ∧ g < w.heap.size := by
  rcases h.2 with ⟨hn, _⟩ | ⟨g', cap', cur, hv, hb, hg, h1, h2, h3, h4⟩
  · cases hn
  · injection hv with a1 a2 a3
    simp only [Option.some.injEq, Addr.mk.injEq] at a1
    obtain ⟨rfl, _⟩ := a1
    refine ⟨fun j hj => ?_, hb, (Array.getElem?_eq_some_iff.1 hg).1⟩
    rw [Go.Sort.size_flatK] at hj
    rw [Go.Sort.get_flatK _ _ _ _ hj]
    have hj' : j < ss.length * 5 := by simpa using hj
    have hi : j / 5 < ss.length := by omega
    have hm : j % 5 < 5 := by omega
    refine ⟨?_, by simp [World.frozen?, hg]⟩
    have e1 : (ss.toArray)[j / 5]! = ss[j / 5] := by simp [hi]
    have e2 : (encRt ss[j / 5])[j % 5]! = (rtCs ss[j / 5])[j % 5]'(by simpa using hm) := by simp [encRt, hm]
    rw [e1, e2]
    have h5 := cellsR_get ss (j / 5) (j % 5) ss[j / 5] ((rtCs ss[j / 5])[j % 5]'(by simpa using hm)) (List.getElem?_eq_getElem hi) (Array.getElem?_eq_getElem _)
    rw [show j / 5 * 5 + j % 5 = j by omega] at h5
    rw [← h4, List.getElem?_take_of_lt (by omega)] at h5
    simpa [World.cell?, hg] using h5

/-- what sorting leaves of a row of unlike routes is their list in order -/
theorem sorted_list {ss L : List Rt} {d' : Array Rt} (hL : OkL L) (hp : ss.Perm L) (h1 : Go.Sort.PermIn 0 ss.toArray.size ss.toArray d') (h2 : Go.Sort.SortedIn (ltOf cfR) 0 ss.toArray.size d') : d'.toList = L := by
  obtain ⟨hz, _, hpp⟩ := h1
  have e1 : d'.extract 0 ss.toArray.size = d' := by rw [← hz]; simp
  rw [e1] at hpp
  have hpl : d'.toList.Perm L := by
    refine hpp.trans ?_
    simpa using hp
  have hmem : ∀ x, x ∈ d'.toList ↔ x ∈ L := fun x => hpl.mem_iff
  have hnd : d'.toList.Nodup := hpl.symm.nodup (nodup_srt hL.srt)
  refine srt_same ?_ hL.srt hmem
  unfold Srt
  rw [List.pairwise_iff_getElem]
  intro i j hi hj hij
  have hi' : i < d'.size := by simpa using hi
  have hj' : j < d'.size := by simpa using hj
  have h3 := h2 i j (Nat.zero_le _) hij (by omega)
  rw [ltOf_cfR, decide_eq_false_iff_not] at h3
  have e2 : d'[i]! = d'.toList[i] := by simp [hi']
  have e3 : d'[j]! = d'.toList[j] := by simp [hj']
  rw [e2, e3] at h3
  refine (ahd_total (fun k => ?_)).resolve_right h3
  have := srt_uniq hL.srt ((hmem _).1 (List.getElem_mem hj)) ((hmem _).1 (List.getElem_mem hi)) k
  exact (List.pairwise_iff_getElem.1 hnd) i j hi hj hij this.symm

theorem sort_below {w0 w : World} {blk n : Nat} {d : Array Rt} {os : Array Obj} {B : Nat} (h : RowKit.Below B w0 w) (hB : B ≤ blk) (hz : B ≤ w.heap.size) : RowKit.Below B w0 (sortWorldK encRt 5 w blk 0 n d os) := by
  refine h.trans ⟨rfl, rfl, rfl, ?_, fun i hi => ?_⟩
  · simp [sortWorldK, Go.Sort.grow, Go.Sort.putRowK, Go.Sort.putRow, Go.Sort.mapBlock, Go.Sort.ahead]
  · have hne : ¬ blk = i := by omega
    simp only [sortWorldK, Go.Sort.grow, Go.Sort.putRowK, Go.Sort.putRow, Go.Sort.mapBlock, Go.Sort.ahead]
    have hi2 : i < w.heap.size := by omega
    rw [Array.getElem?_append_left (by simpa using hi2), Array.getElem?_modify, if_neg hne]
theorem read_of_holds {w : World} {g cap : Nat} {d : Array Rt} {L : List Rt} (h : Go.Sort.HoldsK encRt 5 w g 0 d) (hg : g < w.heap.size) (he : d.toList = L) : RtsAt w (.slice (some ⟨g, 0, none⟩) L.length cap) L := by
  refine .inr ⟨g, 0, cap, rfl, hg, fun i r hi j v hj => ?_⟩
  have hl : j < 5 := by have := (Array.getElem?_eq_some_iff.1 hj).1; simpa using this
  have hi' : i < d.size := by
    have := (List.getElem?_eq_some_iff.1 hi).1
    rw [← he] at this
    simpa using this
  have hd : d[i]! = r := by
    rw [← he] at hi
    simp [hi'] at hi
    simp [hi', hi]
  have h1 := (h (i * 5 + j) (by rw [Go.Sort.size_flatK]; omega)).1
  rw [Go.Sort.get_flatK _ _ _ _ (by omega), show (i * 5 + j) / 5 = i by omega, show (i * 5 + j) % 5 = j by omega, hd] at h1
  have h2 : (encRt r)[j]! = v := by
    have : (encRt r)[j]? = some v := by simpa [encRt] using hj
    rw [List.getElem!_eq_getElem?_getD, this]
    rfl
  rw [h2] at h1
  rw [show 0 + i * 5 + j = 0 + (i * 5 + j) by omega]
  exact h1

set_option maxRecDepth 100000 in
set_option maxHeartbeats 2000000 in
theorem sorted_any (gf : Nat) (lb : Array Value) (L : List Rt) (hL : OkL L) (w : World) (heg : ∀ args w, (callFunc gf args).run Try.prog w = .ok (.enter gf args) w)
    (hseq : SeqStopsK Fence.wide (3 - 1) Try.prog gf lb encR KeepsWalks (fun ss => ss.Perm L) (fun _ => True) L.length w) :
    Calls Try.prog 25 #[.func (.func gf) #[] lb, .func (.func 27) #[] #[]] w fun e w' => ∃ sp cap, e = .returned (.slice sp L.length cap) ∧ RtsAt w' (.slice sp L.length cap) L ∧ RowKit.Below w.heap.size w w' := by
  have HC := hide (collect_any gf lb L.length hL.len (fun ss => ss.Perm L) w heg hseq)
  have HL := hide hL
  clear hseq heg hL
  go_enter Try.func25, Try.ntmps25
  go_wp2_with fail
  refine (unhide HC).mono ?_
  rintro e w1 ⟨sp, ss, cap, rfl, hperm, hrow, hB⟩
  have hlen := hperm.length_eq
  by_cases hnil : ss = []
  · subst hnil
    have HS := AnyF.slices_SortFunc_none (P := Try.prog) (ρ := Try.sortA_ren) { Try.sortA with } sp cap (.func (.func 27) #[] #[]) w1
    change Calls Try.prog 32 _ _ _ at HS
    have HS := hide HS
    obtain rfl : L = [] := List.eq_nil_of_length_eq_zero (by simpa using hlen.symm)
    have HB := hide hB
    clear hlen hperm hrow hB
    simp only [List.length_nil]
    go_wp2_with fail
    refine (unhide HS).mono ?_
    rintro e w2 ⟨rfl, rfl⟩
    go_wp2
    go_ret
    exact ⟨sp, cap, rfl, .inl ⟨⟨_, _, rfl⟩, rfl⟩, unhide HB⟩
  · have hlen2 : ss.toArray.size = ss.length := by simp
    have hsh : ∃ g, sp = some ⟨g, 0, none⟩ := by
      rcases hrow.2 with ⟨hv, _⟩ | ⟨g, cap', cur, hv, _⟩
      · injection hv with a1 a2 a3
        exact absurd (List.eq_nil_of_length_eq_zero a2) hnil
      · injection hv with a1 a2 a3
        exact ⟨g, a1⟩
    obtain ⟨g, rfl⟩ := hsh
    obtain ⟨hH, hge, hlt⟩ := holds_of_row hrow hnil
    have HS := AnyQ.slices_SortFunc (P := Try.prog) (ρ := Try.sortA_ren) Try.sortA 5 Try.isAgg32 Try.sizeOf32 encRt (fun _ => rfl) (fun x v hv => by simp [encRt] at hv; rcases hv with rfl | rfl | rfl | rfl | rfl <;> rfl) cfR swoR 27 #[] g 0 cap ss.toArray w1 (enters_of Try.func27 (by kernel_rfl) rfl) (fun _ _ _ _ x y => compare_any x y _) hH hlt (by rw [hlen2, hlen]; have := (unhide HL).len; omega)
    change Calls Try.prog 32 _ _ _ at HS
    rw [hlen2] at HS
    have HS := hide HS
    have HX := hide (And.intro hperm (And.intro hlen (And.intro hB (And.intro hH (And.intro hge hlt)))))
    clear hperm hlen hB hH hge hlt hrow hnil hlen2
    go_wp2_with fail
    refine (unhide HS).mono ?_
    rintro e w2 ⟨rfl, d', n, os, hp, hs, rfl⟩
    have HP := hide (And.intro hp hs)
    clear hp hs
    obtain ⟨w2, hw2⟩ : ∃ w2, sortWorldK encRt 5 w1 g 0 n d' os = w2 := ⟨_, rfl⟩
    have HW := hide hw2
    rw [hw2]
    clear hw2
    go_wp2
    go_ret
    obtain ⟨hperm, hlen, hB, hH, hge, hlt⟩ := unhide HX
    obtain ⟨hp, hs⟩ := unhide HP
    have hl2 : ss.toArray.size = ss.length := by simp
    rw [← hl2] at hp hs
    have he := sorted_list (unhide HL) hperm hp hs
    rw [← unhide HW]
    refine ⟨some ⟨g, 0, none⟩, cap, by rw [hlen]; rfl, ?_, sort_below hB hge hB.size⟩
    exact read_of_holds (holdsK_sortWorldK encRt 5 w1 g 0 n ss.toArray d' os hlt hH (by have := hp.1; exact this)) (lt_sortWorldK encRt 5 w1 g 0 n d' os hlt) he

section
variable {w : World} {p b : Nat} {L : List Rt}
set_option maxHeartbeats 1000000 in
theorem all_any (h : PT w p b L) :
    Calls Try.prog 17 #[.pointer (some ⟨p, 0, none⟩)] w fun e w' => ∃ sp cap, e = .returned (.slice sp L.length cap) ∧ RtsAt w' (.slice sp L.length cap) L ∧ RowKit.Below w.heap.size w w' := by
  have H1 := hide (made_ok p b w h.cell)
  have hc := h.cell
  have hk := hide (values_any b w)
  obtain ⟨D, hown, hrep⟩ := h.map
  have hm : (w.alloc (.cells #[.map (some b)] 53)).cell? ⟨w.heap.size, 0, none⟩ = some (.map (some b)) := by simp [go_sem]
  have hs := values_stops (3 - 1) (by omega) w.heap.size b L.length h.ok hrep (w.alloc (.cells #[.map (some b)] 53)) (by simp) hm (hown.alloc _)
  have HS := hide (sorted_any 33 _ L h.ok _ (by intro args w; rfl) hs)
  clear hs hm hown hrep h
  go_enter Try.func17, Try.ntmps17
  go_wp2_with fail
  refine (unhide H1).mono ?_
  rintro e w1 ⟨rfl, rfl⟩
  go_wp2_with fail
  refine (unhide hk).mono ?_
  rintro e w1 ⟨rfl, rfl⟩
  go_wp2_with fail
  refine (unhide HS).mono ?_
  rintro e w2 ⟨sp, cap, rfl, hrow, hB⟩
  have HR := hide hrow
  clear hrow
  go_wp2
  go_ret
  exact ⟨sp, cap, rfl, unhide HR, tr2 (below_one _ _) hB⟩
end
end Go.Proofs.Ytmicgkoicmeflaa
