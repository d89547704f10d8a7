/- The statement IpOptions of layer 10, as a contract over the loaded program. -/
import Derived.Test.YtjkoppjikplkeaaOs10
import Derived.Test.YtjkoppjikplkeaaAlA
namespace Go.Proofs.Ytjkoppjikplkeaa
open Go.RowKit

theorem lenOpts : ∀ m : List Opt, m.length ≤ (optsB m).length
  | [] => Nat.le_refl _
  | o :: m => by
    have := lenOpts m
    have hp := optB_pos o
    have e : optsB (o :: m) = optB o ++ optsB m := by simp [optsB]
    rw [e, List.length_append, List.length_cons]
    omega
theorem readLen {s : ByteArray} {M : List Po} (hs : s.size ≤ 40) (h : optsR s = some (M.map Po.op)) : M.length ≤ 65536 := by
  have hl := Lib.size_eq s
  unfold optsR at h
  rw [hl] at h
  have a := (opt_again (by omega) h).1
  have b := lenOpts (M.map Po.op)
  rw [List.length_map] at b
  omega
theorem optsOn {w w' : World} {sv : Value} {L : List Po} (h : OptsAt w.heap.size w sv L) (b : Below w.heap.size w w') : OptsAt w'.heap.size w' sv L := by
  rcases h.below b with q | ⟨g, off, cap, e, hb, hc⟩
  · exact .inl q
  · exact .inr ⟨g, off, cap, e, Nat.lt_of_lt_of_le hb b.size, hc⟩

/-- which options a text's are, and what is told -/
def RO (s : ByteArray) (M : List Po) (e : Int) : Prop := (40 < s.size ∧ M = [] ∧ e = 4) ∨ (s.size ≤ 40 ∧ optsR s = none ∧ M = [] ∧ e = 102) ∨ (s.size ≤ 40 ∧ optsR s = some (M.map Po.op) ∧ e = 0)
theorem ro_ex (s : ByteArray) : ∃ M e, RO s M e ∧ M.length ≤ 65536 := by
  by_cases hl : 40 < s.size
  · exact ⟨[], 4, .inl ⟨hl, rfl, rfl⟩, by decide⟩
  · cases hR : optsR s with
    | none => exact ⟨[], 102, .inr (.inl ⟨by omega, hR, rfl, rfl⟩), by decide⟩
    | some m =>
      obtain ⟨M, rfl⟩ := lists_map m
      exact ⟨M, 0, .inr (.inr ⟨by omega, hR, rfl⟩), readLen (by omega) hR⟩
theorem nilOpts (w : World) : OptsAt w.heap.size w (.slice none ([] : List Po).length 0) [] := .inl ⟨⟨none, 0, rfl⟩, rfl⟩
theorem popt_any {s : ByteArray} {M : List Po} {e0 : Int} (h : RO s M e0) (w : World) :
    Calls Try.prog 20 #[.string s] w fun e w' => ∃ sp sc, e = .returned (.tuple #[.slice sp M.length sc, .int .i64 e0]) ∧ OptsAt w'.heap.size w' (.slice sp M.length sc) M ∧ Below w.heap.size w w' := by
  rcases h with ⟨h1, rfl, rfl⟩ | ⟨h1, h2, rfl, rfl⟩ | ⟨h1, h2, rfl⟩
  · refine (options_long s w h1).mono ?_
    rintro e w' ⟨rfl, rfl⟩
    exact ⟨none, 0, rfl, nilOpts _, Below.refl _ _⟩
  · refine (options_none h1 h2 w).mono ?_
    rintro e w' ⟨rfl, b⟩
    exact ⟨none, 0, rfl, nilOpts _, b⟩
  · exact options_of h1 h2 w
theorem ropt_any {s : ByteArray} {M : List Po} {e0 : Int} (h : RO s M e0) (w : World) :
    Calls Try.prog 21 #[.string s] w fun e w' => ∃ sp sc, e = .returned (.tuple #[.slice sp M.length sc, .int .i64 e0]) ∧ OptsAt w'.heap.size w' (.slice sp M.length sc) M ∧ Below w.heap.size w w' := by
  rcases h with ⟨h1, rfl, rfl⟩ | ⟨h1, h2, rfl, rfl⟩ | ⟨h1, h2, rfl⟩
  · refine (roptions_long s w h1).mono ?_
    rintro e w' ⟨rfl, rfl⟩
    exact ⟨none, 0, rfl, nilOpts _, Below.refl _ _⟩
  · refine (roptions_short s w h1).mono ?_
    rintro e w' (⟨_, rfl, hb⟩ | ⟨N, sp, sc, hN, _⟩)
    · exact ⟨none, 0, rfl, nilOpts _, hb⟩
    · rw [h2] at hN; cases hN
  · refine (roptions_short s w h1).mono ?_
    rintro e w' (⟨hn, _⟩ | ⟨N, sp, sc, hN, _, he, ho, hb⟩)
    · rw [hn] at h2; cases h2
    · have hML : N = M := map_op_inj (Option.some.inj (hN.symm.trans h2))
      rw [hML] at he ho
      exact ⟨sp, sc, he, own_opts ho, hb⟩
/-- what the program's Opts answers, its two ways in one -/
theorem popts_any (sv : Value) (L : List Po) (w : World) (hL : L.length ≤ 65536) (hI : OptsAt w.heap.size w sv L) (hx : ∀ x ∈ L, x.1 < 256 ∧ x.2.size ≤ 1048576) (R : ByteArray) (E : Int) (HE : optsE L = E ∧ (if optsE L = 0 then (⟨(pad4 (optsL L)).toArray⟩ : ByteArray) else ⟨#[]⟩) = R) :
    Calls Try.prog 18 #[sv] w fun e w' => e = .returned (.tuple #[.string R, .int .i64 E]) ∧ Below w.heap.size w w' := by
  obtain ⟨h1, h2⟩ := HE
  by_cases he : optsE L = 0
  · rw [if_pos he] at h2
    rw [he] at h1
    rw [← h1, ← h2]
    exact opts_ok sv L w hL hI hx he
  · rw [if_neg he] at h2
    rw [← h1, ← h2]
    exact opts_no sv L w hL hI (fun x h => (hx x h).2) _ rfl (by simpa using he)

set_option maxRecDepth 100000 in
set_option maxHeartbeats 4000000 in
theorem ipOptions_walk (sv : Value) (L : List Po) (s : ByteArray) (w : World) (hI : OptsAt w.heap.size w sv L) (hL : L.length ≤ 9223372036854775807) (hk : ∀ x ∈ L, x.1 < 256) (hx : ∀ x ∈ L, x.2.size ≤ 140737488355328) (_ : s.size ≤ maxLen) :
    Calls Try.prog 4 #[sv, .string s] w fun e w' => e = .returned (.bool true) ∧ Below w.heap.size w w' := by
  have H1 := options_any sv L w hL hI hx
  have HA := hide alive_any
  by_cases hm : manyB L
  · rw [decide_eq_true hm] at H1
    replace H1 := hide H1
    obtain ⟨a, cap, rfl⟩ := hI.slice
    clear hm hI hx hk
    go_enter Try.func4, Try.ntmps4
    go_wp2_with fail
    refine (unhide H1).mono ?_
    rintro e w1 ⟨rfl, b1⟩
    have B1 := hide b1
    clear b1
    go_wp2_with fail
    refine (unhide HA _).mono ?_
    rintro e wa ⟨rfl, ba⟩
    go_wp2_with fail
    go_ret
    exact ⟨rfl, tr2 (unhide B1) ba⟩
  rw [decide_eq_false hm] at H1
  replace H1 := hide H1
  by_cases hs : 4096 < s.size
  · have d1 : decide ((4096 : Int) < (s.size : Int)) = true := decide_eq_true (by omega)
    obtain ⟨a, cap, rfl⟩ := hI.slice
    clear hm hI hx hk
    go_enter Try.func4, Try.ntmps4
    go_wp2_with fail
    refine (unhide H1).mono ?_
    rintro e w1 ⟨rfl, b1⟩
    have B1 := hide b1
    clear b1
    go_wp2_with fail
    refine (unhide HA _).mono ?_
    rintro e wa ⟨rfl, ba⟩
    go_wp2_with fail
    go_ret
    exact ⟨rfl, tr2 (unhide B1) ba⟩
  have d1 : decide ((4096 : Int) < (s.size : Int)) = false := decide_eq_false (by omega)
  obtain ⟨f1, f2⟩ := few hm
  have hxx : ∀ x ∈ L, x.1 < 256 ∧ x.2.size ≤ 1048576 := fun x h => ⟨hk x h, Nat.le_trans (f2 x h) (by decide)⟩
  obtain ⟨R, E, hRE⟩ : ∃ R E, optsE L = E ∧ (if optsE L = 0 then (⟨(pad4 (optsL L)).toArray⟩ : ByteArray) else ⟨#[]⟩) = R := ⟨_, _, rfl, rfl⟩
  have H2 := hide (fun w (h : OptsAt w.heap.size w sv L) => popts_any sv L w (by omega) h hxx R E hRE)
  have H3 := hide (fun w (h : OptsAt w.heap.size w sv L) => ropts_walk sv L w (by omega) h hxx R E hRE)
  obtain ⟨M, e0, hro, hml⟩ := ro_ex s
  have H4 := hide (fun w => popt_any hro w)
  have H5 := hide (fun w => ropt_any hro w)
  have H6 : Hid (∀ w u v, OptsAt w.heap.size w u M → OptsAt w.heap.size w v M → Calls Try.prog 22 #[u, v] w fun e w' => e = .returned (.bool true) ∧ Below w.heap.size w w') := fun w u v h k => by
    have q := same_any u v M M w hml hml h k
    rw [decide_eq_true rfl] at q
    exact q
  have HI := hide hI
  obtain ⟨a, cap, rfl⟩ := hI.slice
  clear hm hI hx hk hs f1 f2 hxx hRE hro
  go_enter Try.func4, Try.ntmps4
  go_wp2_with fail
  refine (unhide H1).mono ?_
  rintro e w1 ⟨rfl, b1⟩
  have I1 := hide (optsOn (unhide HI) b1)
  have B1 := hide b1
  clear b1 H1 HI
  go_wp2_with fail
  refine (unhide H2 _ (unhide I1)).mono ?_
  rintro e w2 ⟨rfl, b2⟩
  have I2 := hide (optsOn (unhide I1) b2)
  have B2 := hide (tr2 (unhide B1) b2)
  clear b2 H2 I1 B1
  go_wp2_with fail
  refine (unhide H3 _ (unhide I2)).mono ?_
  rintro e w3 ⟨rfl, b3⟩
  have B3 := hide (tr2 (unhide B2) b3)
  clear b3 H3 I2 B2
  go_wp2_with fail
  refine (unhide H4 _).mono ?_
  rintro e w4 ⟨sp1, sc1, rfl, o1, b4⟩
  have O1 := hide o1
  have B4 := hide (tr2 (unhide B3) b4)
  clear o1 b4 H4 B3
  go_wp2_with fail
  refine (unhide H5 _).mono ?_
  rintro e w5 ⟨sp2, sc2, rfl, o2, b5⟩
  have HS := unhide H6 _ _ _ (optsOn (unhide O1) b5) o2
  replace HS := hide HS
  have B5 := hide (tr2 (unhide B4) b5)
  clear o2 b5 H5 H6 O1 B4
  go_wp2_with fail
  refine (unhide HS).mono ?_
  rintro e w6 ⟨rfl, b6⟩
  have B6 := hide (tr2 (unhide B5) b6)
  clear b6 HS B5
  go_wp2_with fail
  refine (unhide HA _).mono ?_
  rintro e wa ⟨rfl, ba⟩
  go_wp2_with fail
  go_ret
  exact ⟨rfl, tr2 (unhide B6) ba⟩
end Go.Proofs.Ytjkoppjikplkeaa
