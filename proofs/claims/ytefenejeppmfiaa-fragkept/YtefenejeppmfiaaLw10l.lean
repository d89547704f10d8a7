/- The statement IpOptions of layer 10, as a contract over the loaded program. -/
import Derived.Test.YtefenejeppmfiaaOs10
import Derived.Test.YtefenejeppmfiaaAlA
namespace Go.Proofs.Ytefenejeppmfiaa
open Go.RowKit

theorem lenOpts : ∀ m : List Opt, m.length ≤ (optsB m).length
  | [] => Nat.le_refl _
  | o :: m => by
    have := lenOpts m
    have hp := optB_pos o
    have e : optsB (o :: m) = optB o ++ optsB m := by simp [optsB]
    rw [e, List.length_append, List.length_cons]
    omega
theorem readLen {s : ByteArray} {M : List Po} (hs : s.size ≤ 40) (h : optsR s = some (M.map Po.op)) : M.length ≤ 65536 := by
  have hl := Lib.size_eq s
  unfold optsR at h
  rw [hl] at h
  have a := (opt_again (by omega) h).1
  have b := lenOpts (M.map Po.op)
  rw [List.length_map] at b
  omega
theorem optsOn {w w' : World} {sv : Value} {L : List Po} (h : OptsAt w.heap.size w sv L) (b : Below w.heap.size w w') : OptsAt w'.heap.size w' sv L := by
  rcases h.below b with q | ⟨g, off, cap, e, hb, hc⟩
  · exact .inl q
  · exact .inr ⟨g, off, cap, e, Nat.lt_of_lt_of_le hb b.size, hc⟩

/-- which options a text's are, and what is told -/
def RO (s : ByteArray) (M : List Po) (e : Int) : Prop := (40 < s.size ∧ M = [] ∧ e = 4) ∨ (s.size ≤ 40 ∧ optsR s = none ∧ M = [] ∧ e = 102) ∨ (s.size ≤ 40 ∧ optsR s = some (M.map Po.op) ∧ e = 0)
theorem ro_ex (s : ByteArray) : ∃ M e, RO s M e ∧ M.length ≤ 65536 := by
  by_cases hl : 40 < s.size
  · exact ⟨[], 4, .inl ⟨hl, rfl, rfl⟩, by decide⟩
  · cases hR : optsR s with
    | none => exact ⟨[], 102, .inr (.inl ⟨by omega, hR, rfl, rfl⟩), by decide⟩
    | some m =>
      obtain ⟨M, rfl⟩ := lists_map m
      exact ⟨M, 0, .inr (.inr ⟨by omega, hR, rfl⟩), readLen (by omega) hR⟩
theorem nilOpts (w : World) : OptsAt w.heap.size w (.slice none ([] : List Po).length 0) [] := .inl ⟨⟨none, 0, rfl⟩, rfl⟩
theorem popt_any {s : ByteArray} {M : List Po} {e0 : Int} (h : RO s M e0) (w : World) :
    Calls Try.prog 15 #[.string s] w fun e w' => ∃ sp sc, e = .returned (.tuple #[.slice sp M.length sc, .int .i64 e0]) ∧ OptsAt w'.heap.size w' (.slice sp M.length sc) M ∧ Below w.heap.size w w' := by
  rcases h with ⟨h1, rfl, rfl⟩ | ⟨h1, h2, rfl, rfl⟩ | ⟨h1, h2, rfl⟩
  · refine (options_long s w h1).mono ?_
    rintro e w' ⟨rfl, rfl⟩
    exact ⟨none, 0, rfl, nilOpts _, Below.refl _ _⟩
  · refine (options_none h1 h2 w).mono ?_
    rintro e w' ⟨rfl, b⟩
    exact ⟨none, 0, rfl, nilOpts _, b⟩
  · exact options_of h1 h2 w
theorem ropt_any {s : ByteArray} {M : List Po} {e0 : Int} (h : RO s M e0) (w : World) :
    Calls Try.prog 21 #[.string s] w fun e w' => ∃ sp sc, e = .returned (.tuple #[.slice sp M.length sc, .int .i64 e0]) ∧ OptsAt w'.heap.size w' (.slice sp M.length sc) M ∧ Below w.heap.size w w' := by
  rcases h with ⟨h1, rfl, rfl⟩ | ⟨h1, h2, rfl, rfl⟩ | ⟨h1, h2, rfl⟩
  · refine (roptions_long s w h1).mono ?_
    rintro e w' ⟨rfl, rfl⟩
    exact ⟨none, 0, rfl, nilOpts _, Below.refl _ _⟩
  · refine (roptions_short s w h1).mono ?_
    rintro e w' (⟨_, rfl, hb⟩ | ⟨N, sp, sc, hN, _⟩)
    · exact ⟨none, 0, rfl, nilOpts _, hb⟩
    · rw [h2] at hN; cases hN
  · refine (roptions_short s w h1).mono ?_
    rintro e w' (⟨hn, _⟩ | ⟨N, sp, sc, hN, _, he, ho, hb⟩)
    · rw [hn] at h2; cases h2
    · have hML : N = M := map_op_inj (Option.some.inj (hN.symm.trans h2))
      rw [hML] at he ho
      exact ⟨sp, sc, he, own_opts ho, hb⟩
/-- what the program's Opts answers, its two ways in one -/
theorem popts_any (sv : Value) (L : List Po) (w : World) (hL : L.length ≤ 65536) (hI : OptsAt w.heap.size w sv L) (hx : ∀ x ∈ L, x.1 < 256 ∧ x.2.size ≤ 1048576) (R : ByteArray) (E : Int) (HE : optsE L = E ∧ (if optsE L = 0 then (⟨(pad4 (optsL L)).toArray⟩ : ByteArray) else ⟨#[]⟩) = R) :
    Calls Try.prog 24 #[sv] w fun e w' => e = .returned (.tuple #[.string R, .int .i64 E]) ∧ Below w.heap.size w w' := by
  obtain ⟨h1, h2⟩ := HE
  by_cases he : optsE L = 0
  · rw [if_pos he] at h2
    rw [he] at h1
    rw [← h1, ← h2]
    exact opts_ok sv L w hL hI hx he
  · rw [if_neg he] at h2
    rw [← h1, ← h2]
    exact opts_no sv L w hL hI (fun x h => (hx x h).2) _ rfl (by simpa using he)

end Go.Proofs.Ytefenejeppmfiaa
