/- What parts keep of options, without the program and by package frag's Kept, over the loaded program; no memory that was there has turned. -/
import Derived.Test.YtefenejeppmfiaaDk12
namespace Go.Proofs.Ytefenejeppmfiaa
open Go.RowKit

/-- what is kept of options' bytes -/
def keptB (s : ByteArray) : ByteArray :=
  if 40 < s.size then ⟨#[]⟩ else match optsR s with
    | none => ⟨#[]⟩
    | some m => ⟨(pad4 (optsB (m.filter fun o => decide (128 ≤ o.1)))).toArray⟩
theorem keptB_long {s : ByteArray} (h : 40 < s.size) : keptB s = ⟨#[]⟩ := by unfold keptB; rw [if_pos h]
theorem keptB_no {s : ByteArray} (h : optsR s = none) : keptB s = ⟨#[]⟩ := by
  unfold keptB
  split
  · rfl
  · rw [h]
theorem keptB_of {s : ByteArray} {L : List Po} (hs : s.size ≤ 40) (h : optsR s = some (L.map Po.op)) : keptB s = ⟨(pad4 (optsL (L.filter keep))).toArray⟩ := by
  unfold keptB optsL
  rw [if_neg (by omega), h]
  simp only
  rw [List.filter_map]
  rfl
theorem sumS_filter (L : List Po) : sumS (L.filter keep) ≤ sumS L := by
  induction L with
  | nil => exact Nat.le_refl _
  | cons x L ih =>
    rw [List.filter_cons]
    split
    · simp only [sumS]; omega
    · simp only [sumS]; omega
theorem anyNot_filter {L : List Po} (h : ¬ anyNot L) : ¬ anyNot (L.filter keep) := fun ⟨x, hx, hy⟩ => h ⟨x, (List.mem_filter.1 hx).1, hy⟩
theorem optsE_parts {L : List Po} (he : optsE L = 0) : ¬ anyNot L ∧ sumS L ≤ 40 := by
  have hn : ¬ anyNot L := fun c => by unfold optsE at he; rw [if_pos c] at he; cases he
  refine ⟨hn, ?_⟩
  unfold optsE at he
  rw [if_neg hn] at he
  by_cases c : sumS L ≤ 40
  · exact c
  · rw [if_neg c] at he; cases he
theorem optsE_filter {L : List Po} (he : optsE L = 0) : optsE (L.filter keep) = 0 := by
  obtain ⟨a, b⟩ := optsE_parts he
  unfold optsE
  rw [if_neg (anyNot_filter a), if_pos (Nat.le_trans (sumS_filter L) b)]
/-- what is known of what is kept -/
structure KeptOk (s k : ByteArray) (M : List Po) : Prop where
  le : k.size ≤ 40
  four : k.size % 4 = 0
  less : k.size ≤ (s.size + 3) / 4 * 4
  rd : optsR k = some (M.map Po.op)
  all : ∀ x ∈ M, keep x = true
theorem keptB_ok {s : ByteArray} {L : List Po} (hs : s.size ≤ 40) (h : optsR s = some (L.map Po.op)) : KeptOk s (keptB s) (L.filter keep) := by
  obtain ⟨a1, a2, a3, a4, a5⟩ := again_opts hs h
  obtain ⟨n1, n2⟩ := optsE_parts a1
  rw [keptB_of hs h]
  obtain ⟨b1, b2, b3⟩ := back_opts (optsE_filter a1) (fun x hx => (a2 x (List.mem_filter.1 hx).1).1)
  refine ⟨b1, b2, Nat.le_trans ?_ a3, b3, fun x hx => (List.mem_filter.1 hx).2⟩
  rw [arr_size, arr_size, pad4_len, pad4_len, optsL_len _ (anyNot_filter n1), optsL_len _ n1]
  have := sumS_filter L
  unfold padN
  omega
theorem keptB_again {s : ByteArray} : keptB (keptB s) = keptB s := by
  have he : keptB ⟨#[]⟩ = ⟨#[]⟩ := rfl
  by_cases hl : 40 < s.size
  · rw [keptB_long hl, he]
  · cases hr : optsR s with
    | none => rw [keptB_no hr, he]
    | some m =>
      obtain ⟨L, rfl⟩ := lists_map m
      have k := keptB_ok (by omega) hr
      have e : (L.filter fun a => keep a && keep a) = L.filter keep := by
        congr 1
        funext x
        exact Bool.and_self _
      rw [keptB_of k.le k.rd, List.filter_filter, e, keptB_of (s := s) (by omega) hr]

set_option maxHeartbeats 1000000 in
theorem kept_any (s : ByteArray) (w : World) :
    Calls Try.prog 12 #[.string s] w fun e w' => e = .returned (.string (keptB s)) ∧ Below w.heap.size w w' := by
  by_cases hl : 40 < s.size
  · rw [keptB_long hl]
    have H := hide (fun w => options_long s w hl)
    have B0 := hide (Below.refl w.heap.size w)
    go_enter Try.func12, Try.ntmps12
    go_wp2_with fail
    refine (unhide H _).mono ?_
    rintro e w1 ⟨rfl, rfl⟩
    go_wp2_with fail
    go_ret
    exact ⟨rfl, unhide B0⟩
  · have H := hide (fun w => options_short s w (by omega))
    obtain ⟨K, hK⟩ : ∃ K, keptB s = K := ⟨_, rfl⟩
    rw [hK]
    have HK := hide hK
    have HL : Hid (s.size ≤ 40) := by show s.size ≤ 40; omega
    clear hK hl
    go_enter Try.func12, Try.ntmps12
    go_wp2_with fail
    refine (unhide H _).mono ?_
    rintro e w1 (⟨hr, rfl, b1⟩ | ⟨L, sp, sc, hr, hlen, rfl, hown, b1⟩)
    · rw [keptB_no hr] at HK
      have HR := unhide HK
      subst HR
      clear hr
      go_wp2_with fail
      go_ret
      exact ⟨rfl, b1⟩
    · obtain ⟨a1, a2, _, _, _⟩ := again_opts (unhide HL) hr
      have hKK : K = ⟨(pad4 (optsL (L.filter keep))).toArray⟩ := by rw [← unhide HK]; exact keptB_of (unhide HL) hr
      have HD := hide (deletekept_any (.slice sp L.length sc) L w.heap.size w1 (by omega) b1.size hown)
      have HE := hide (optsE_filter a1)
      have HX : Hid (∀ x ∈ L.filter keep, x.1 < 256 ∧ x.2.size ≤ 1048576) := fun x hx => a2 x (List.mem_filter.1 hx).1
      have HN : Hid ((L.filter keep).length ≤ 65536) := Nat.le_trans (List.length_filter_le _ _) (by omega)
      have HB := hide b1
      clear hr hown a1 a2 H HK HL b1
      generalize L.filter keep = M at *
      go_wp2_with fail
      refine (unhide HD).mono ?_
      rintro e w2 ⟨sp2, sc2, rfl, hO, b2⟩
      have HO := hide (opts_ok (.slice sp2 M.length sc2) M w2 (unhide HN) hO (unhide HX) (unhide HE))
      have HB2 := hide ((unhide HB).trans b2)
      clear hO HD b2
      go_wp2_with fail
      refine (unhide HO).mono ?_
      rintro e w3 ⟨rfl, b3⟩
      rw [← hKK]
      have HB3 := hide (tr2 (unhide HB2) b3)
      clear hKK
      go_wp2_with fail
      go_ret
      exact ⟨rfl, unhide HB3⟩
end Go.Proofs.Ytefenejeppmfiaa
