/- The statement IpList of layer 10: its cases brought together. -/
import Derived.Test.YtjkoppjikplkeaaLw10j
import Derived.Test.YtjkoppjikplkeaaInp10
namespace Go.Proofs.Ytjkoppjikplkeaa
open Go.RowKit

theorem len_opts : ∀ m : List Opt, m.length ≤ (optsB m).length
  | [] => Nat.le_refl _
  | o :: m => by
    have := len_opts m
    have hp := optB_pos o
    have e : optsB (o :: m) = optB o ++ optsB m := by simp [optsB]
    rw [e, List.length_append, List.length_cons]
    omega
theorem read_len {s : ByteArray} {M : List Po} (hs : s.size ≤ 40) (h : optsR s = some (M.map Po.op)) : M.length ≤ 65536 := by
  have hl := Lib.size_eq s
  unfold optsR at h
  rw [hl] at h
  have a := (opt_again (by omega) h).1
  have b := len_opts (M.map Po.op)
  rw [List.length_map] at b
  omega

theorem ipList_walk (sv : Value) (L : List Po) (s : ByteArray) (w : World) (hI : OptsAt w.heap.size w sv L) (hL : L.length ≤ 9223372036854775807) (hk : ∀ x ∈ L, x.1 < 256) (hx : ∀ x ∈ L, x.2.size ≤ 140737488355328) (_ : s.size ≤ maxLen) :
    Calls Try.prog 8 #[sv, .string s] w fun e w' => e = .returned (.bool true) ∧ Below w.heap.size w w' := by
  obtain ⟨a, cap, hsv⟩ := hI.slice
  have H1 := hide (options_any sv L w hL hI hx)
  by_cases hm : manyB L
  · rw [decide_eq_true hm] at H1
    exact list_long sv a _ cap L s w hsv hI true (.inl rfl) H1
  rw [decide_eq_false hm] at H1
  by_cases hs : 4096 < s.size
  · exact list_long sv a _ cap L s w hsv hI false (.inr ⟨rfl, hs⟩) H1
  obtain ⟨f1, f2⟩ := few hm
  have hx1 : ∀ x ∈ L, x.2.size ≤ 1048576 := fun x h => Nat.le_trans (f2 x h) (by decide)
  have S2 : ∀ (M : List Po), M.length ≤ 65536 → ∀ w u v, OptsAt w.heap.size w u M → OptsAt w.heap.size w v M → Calls Try.prog 22 #[u, v] w fun e w' => e = .returned (.bool true) ∧ Below w.heap.size w w' := fun M hM w u v h1 h2 => by
    have q := same_any u v M M w hM hM h1 h2
    rw [decide_eq_true rfl] at q
    exact q
  by_cases he : optsE L = 0
  · obtain ⟨b1, b2, b3⟩ := back_opts he hk
    have H2 := hide (fun w (h : OptsAt w.heap.size w sv L) => opts_ok sv L w (by omega) h (fun x h => ⟨hk x h, hx1 x h⟩) he)
    have H3 := hide (fun w => options_of b1 b3 w)
    have H4 := hide (fun w sp sc => S2 L (by omega) w sv (.slice sp L.length sc))
    by_cases hl : 40 < s.size
    · exact list_0_long sv a _ cap L s w hsv hI hs _ _ rfl b1 b2 hl H1 H2 H3 H4 (fun w => (options_long s w hl).mono fun _ _ x => ⟨x.1, x.2 ▸ Below.refl _ _⟩)
    · cases hR : optsR s with
      | none => exact list_0_none sv a _ cap L s w hsv hI hs _ _ rfl b1 b2 (by omega) H1 H2 H3 H4 (fun w => options_none (by omega) hR w)
      | some m =>
        obtain ⟨M, rfl⟩ := lists_map m
        obtain ⟨g1, g2, g3, g4, g5⟩ := again_opts (by omega) hR
        have gl : M.length ≤ 65536 := by
          exact read_len (by omega) hR
        exact list_0_some sv a _ cap L s w hsv hI hs _ _ rfl b1 b2 (by omega) M M.length _ (by omega) H1 H2 H3 H4 (fun w => options_of (by omega) hR w) (fun w sp sc h => opts_ok _ M w gl h g2 g1) (fun w => options_of g4 g5 w) (fun w sp sc sp2 sc2 => S2 M gl w _ _)
  · have H2 := hide (fun w (h : OptsAt w.heap.size w sv L) => opts_no sv L w (by omega) h hx1 _ rfl (by simpa using he))
    by_cases hl : 40 < s.size
    · exact list_1_long sv a _ cap L s w hsv hI hs _ _ (by simpa using he) hl H1 H2 (fun w => (options_long s w hl).mono fun _ _ x => ⟨x.1, x.2 ▸ Below.refl _ _⟩)
    · cases hR : optsR s with
      | none => exact list_1_none sv a _ cap L s w hsv hI hs _ _ (by simpa using he) (by omega) H1 H2 (fun w => options_none (by omega) hR w)
      | some m =>
        obtain ⟨M, rfl⟩ := lists_map m
        obtain ⟨g1, g2, g3, g4, g5⟩ := again_opts (by omega) hR
        have gl : M.length ≤ 65536 := by
          exact read_len (by omega) hR
        exact list_1_some sv a _ cap L s w hsv hI hs _ _ (by simpa using he) (by omega) M M.length _ (by omega) H1 H2 (fun w => options_of (by omega) hR w) (fun w sp sc h => opts_ok _ M w gl h g2 g1) (fun w => options_of g4 g5 w) (fun w sp sc sp2 sc2 => S2 M gl w _ _)

end Go.Proofs.Ytjkoppjikplkeaa
