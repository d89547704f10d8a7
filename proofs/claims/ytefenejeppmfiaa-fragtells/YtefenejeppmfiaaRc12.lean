/- The contract of the document's Cut (layer 12), over the loaded program: what it answers is what the program's does; no memory that was there has turned. Conditions: numbers in their kinds' bounds, texts of bounded length. -/
import Derived.Test.YtefenejeppmfiaaFm12
import Derived.Test.YtefenejeppmfiaaCq12
import Derived.Test.YtefenejeppmfiaaCt12
import Derived.Test.YtefenejeppmfiaaRd12
import Derived.Test.YtefenejeppmfiaaRxi
import Derived.Deep.CutRange
import Derived.Deep.CutBlock
import Derived.Deep.Cut
import Derived.Deep.QuietTactic
namespace Go.Proofs.Ytefenejeppmfiaa
open Go.RowKit

set_option maxHeartbeats 1000000 in
theorem rsame_any (sv tv : Value) (T : List ByteArray) (w : World) (hT : T.length ≤ 65536) (hI : Strs w.heap.size w sv T) (hJ : Strs w.heap.size w tv T) :
    Calls Try.prog 11 #[sv, tv] w fun e w' => e = .returned (.bool true) ∧ Below w.heap.size w w' := by
  have HI := hide hI
  have HJ := hide hJ
  obtain ⟨n, hn⟩ : ∃ n, T.length = n := ⟨_, rfl⟩
  obtain ⟨a1, c1, rfl⟩ : ∃ a c, sv = .slice a n c := by rw [← hn]; rcases hI with ⟨⟨a, c, rfl⟩, rfl⟩ | ⟨b, off, c, rfl, _, _⟩ <;> exact ⟨_, _, rfl⟩
  obtain ⟨a2, c2, rfl⟩ : ∃ a c, tv = .slice a n c := by rw [← hn]; rcases hJ with ⟨⟨a, c, rfl⟩, rfl⟩ | ⟨b, off, c, rfl, _, _⟩ <;> exact ⟨_, _, rfl⟩
  have HN := hide hn
  rw [hn] at hT
  clear hI hJ hn
  go_enter Try.func11, Try.ntmps11
  go_wp2_with fail
  go_loopw [5] (fun s5 wr => ∃ k : Nat, s5 = .int .i64 (k : Int) ∧ k ≤ n ∧ Below w.heap.size w wr) (fun s _ => n - (intOf s).toNat)
  case atStart => exact ⟨0, rfl, Nat.zero_le _, Below.refl _ _⟩
  case round =>
    obtain ⟨k, rfl, hk, hbel⟩ := hrel
    by_cases hlt : k < n
    · obtain ⟨t, ht⟩ : ∃ t, T[k]? = some t := ⟨_, List.getElem?_eq_getElem (by rw [unhide HN]; exact hlt)⟩
      have f1 : ∃ b off, a1 = some ⟨b, off, none⟩ ∧ wr.cell? ⟨b, off + k, none⟩ = some (.string t) := by
        rcases (unhide HI).below hbel with ⟨_, e⟩ | ⟨b, off, c, e, _, hc⟩
        · rw [e] at ht; cases ht
        · injection e with e1 e2 e3
          have h := hc k (by rw [unhide HN]; exact hlt)
          rw [ht] at h
          exact ⟨b, off, e1, h⟩
      have f2 : ∃ b off, a2 = some ⟨b, off, none⟩ ∧ wr.cell? ⟨b, off + k, none⟩ = some (.string t) := by
        rcases (unhide HJ).below hbel with ⟨_, e⟩ | ⟨b, off, c, e, _, hc⟩
        · rw [e] at ht; cases ht
        · injection e with e1 e2 e3
          have h := hc k (by rw [unhide HN]; exact hlt)
          rw [ht] at h
          exact ⟨b, off, e1, h⟩
      obtain ⟨b1, o1, rfl, x1⟩ := f1
      obtain ⟨b2, o2, rfl, x2⟩ := f2
      have hz : (k : Int) < (n : Int) := by omega
      have hD := hide (fun q => hbel.trans ((below_drewN' wr q).mono hbel.size))
      clear ht hbel
      go_wp2_with fail
      go_quiet (fail)
      go_wp2_with fail
      go_roundw
      case rel => exact ⟨k + 1, by go_num, by omega, unhide hD _⟩
      case measure => simp [intOf]; omega
    · obtain rfl : k = n := by omega
      go_wp2_with fail
      go_ret
      exact ⟨rfl, hbel⟩

set_option maxRecDepth 100000 in
set_option maxHeartbeats 4000000 in
theorem rcut_enc (h : Rh) (d : ByteArray) (room : Int) (w : World) (hi : h.In) (hd : d.size ≤ 1073741824) (e0 : Int) (he : encE h d.size = e0) (hne : e0 ≠ 0) :
    Calls Try.prog 10 #[hdV h, .string d, .int .i64 room] w (CutPost w [] e0) := by
  have H1 := hide (fun w => rencode_any h d w hi hd (.inl ⟨by rw [he]; exact hne, rfl, he.symm⟩))
  have BEL := hide (below_one w (.cells (hdL h).toArray 25))
  have hne' : ((e0 : Int) != 0) = true := by simpa using hne
  simp only [hdL] at BEL
  clear hi he hne
  go_enter Try.func10, Try.ntmps10
  go_wp2_with fail
  refine (unhide H1 _).mono ?_
  rintro e w1 ⟨rfl, b1⟩
  have HB := hide (tr2 (unhide BEL) b1)
  clear b1 BEL
  go_wp2_with fail
  go_ret2
  exact cutpost_no (unhide HB)

set_option maxRecDepth 100000 in
set_option maxHeartbeats 4000000 in
theorem rcut_one (h : Rh) (d : ByteArray) (room : Int) (w : World) (hv : HOk h d.size) (hl : ((20 + h.op.size + d.size : Nat) : Int) ≤ room) :
    Calls Try.prog 10 #[hdV h, .string d, .int .i64 room] w (CutPost w [(h, d)] 0) := by
  have hds : d.size ≤ 65535 := by have := hv.r; have := hv.m.1; unfold roomB at *; omega
  have hos : h.op.size ≤ 40 := hv.m.2.2.2.1
  have H1 := hide (fun w => rencode_any h d w hv.i (by omega) (enc_of hv))
  have hs : (pcB (h, d)).size = 20 + h.op.size + d.size := pcB_size (h, d)
  have BEL := hide (below_one w (.cells (hdL h).toArray 25))
  have k := HC.box w h 25
  obtain ⟨S, hS⟩ : ∃ S, pcB (h, d) = S := ⟨_, rfl⟩
  rw [hS] at H1 hs
  simp only [hdL] at BEL k
  have hle : decide (((S.size : Nat) : Int) ≤ room) = true := decide_eq_true (by rw [hs]; omega)
  have HS := hide hS
  clear hv hs hS hl k hos hds
  go_enter Try.func10, Try.ntmps10
  go_wp2_with fail
  refine (unhide H1 _).mono ?_
  rintro e w1 ⟨rfl, b1⟩
  have HB := hide (tr2 (unhide BEL) b1)
  clear b1 BEL
  go_wp2_with fail
  go_ret2
  refine ⟨_, _, rfl, ?_, tr2 (unhide HB) (below_one _ _)⟩
  have := strs1 w1 S
  simp only [List.map_cons, List.map_nil, unhide HS]
  exact this

set_option maxRecDepth 100000 in
set_option maxHeartbeats 4000000 in
theorem rcut_held (h : Rh) (d : ByteArray) (room : Int) (w : World) (hv : HOk h d.size) (hl : room < ((20 + h.op.size + d.size : Nat) : Int)) (hh : h.hold = true) :
    Calls Try.prog 10 #[hdV h, .string d, .int .i64 room] w (CutPost w [] 4) := by
  have hds : d.size ≤ 65535 := by have := hv.r; have := hv.m.1; unfold roomB at *; omega
  have hos : h.op.size ≤ 40 := hv.m.2.2.2.1
  have H1 := hide (fun w => rencode_any h d w hv.i (by omega) (enc_of hv))
  have hs : (pcB (h, d)).size = 20 + h.op.size + d.size := pcB_size (h, d)
  have BEL := hide (below_one w (.cells (hdL h).toArray 25))
  have k := HC.box w h 25
  obtain ⟨S, hS⟩ : ∃ S, pcB (h, d) = S := ⟨_, rfl⟩
  rw [hS] at H1 hs
  simp only [hdL] at BEL k
  have hle : decide (((S.size : Nat) : Int) ≤ room) = false := decide_eq_false (by rw [hs]; omega)
  have HH := hide hh
  clear hv hs hS hl hos hds hh
  go_enter Try.func10, Try.ntmps10
  go_wp2_with fail
  refine (unhide H1 _).mono ?_
  rintro e w1 ⟨rfl, b1⟩
  have c2 := (k.on b1).c2
  rw [unhide HH] at c2
  have HB := hide (tr2 (unhide BEL) b1)
  clear b1 BEL k
  go_wp2_with fail
  go_ret2
  exact cutpost_no (unhide HB)

set_option maxRecDepth 100000 in
set_option maxHeartbeats 4000000 in
theorem rcut_full (h : Rh) (d : ByteArray) (room : Int) (w : World) (hv : HOk h d.size) (hl : room < ((20 + h.op.size + d.size : Nat) : Int)) (hh : h.hold = false) (h3 : room < ((28 + h.op.size : Nat) : Int)) :
    Calls Try.prog 10 #[hdV h, .string d, .int .i64 room] w (CutPost w [] 6) := by
  have hds : d.size ≤ 65535 := by have := hv.r; have := hv.m.1; unfold roomB at *; omega
  have hos : h.op.size ≤ 40 := hv.m.2.2.2.1
  have H1 := hide (fun w => rencode_any h d w hv.i (by omega) (enc_of hv))
  have hs : (pcB (h, d)).size = 20 + h.op.size + d.size := pcB_size (h, d)
  have BEL := hide (below_one w (.cells (hdL h).toArray 25))
  have k := HC.box w h 25
  obtain ⟨S, hS⟩ : ∃ S, pcB (h, d) = S := ⟨_, rfl⟩
  rw [hS] at H1 hs
  simp only [hdL] at BEL k
  have hle : decide (((S.size : Nat) : Int) ≤ room) = false := decide_eq_false (by rw [hs]; omega)
  have HH := hide hh
  have hx : IntKind.i64.wrap (28 + (h.op.size : Int)) = 28 + (h.op.size : Int) := by rw [IntKind.wrap_i64]; omega
  have hlt : decide (room < 28 + (h.op.size : Int)) = true := decide_eq_true (by omega)
  clear hv hs hS hl hos hds hh h3
  go_enter Try.func10, Try.ntmps10
  go_wp2_with fail
  refine (unhide H1 _).mono ?_
  rintro e w1 ⟨rfl, b1⟩
  have c2 := (k.on b1).c2
  have c9 := (k.on b1).c9
  rw [unhide HH] at c2
  have HB := hide (tr2 (unhide BEL) b1)
  clear b1 BEL k
  go_wp2_with fail
  go_ret2
  exact cutpost_no (unhide HB)

set_option maxRecDepth 100000 in
set_option maxHeartbeats 4000000 in
theorem rcut_opts (h : Rh) (d : ByteArray) (room : Int) (w : World) (hv : HOk h d.size) (hl : room < ((20 + h.op.size + d.size : Nat) : Int)) (hh : h.hold = false) (h3 : ((28 + h.op.size : Nat) : Int) ≤ room) (h4 : optsR h.op = none) :
    Calls Try.prog 10 #[hdV h, .string d, .int .i64 room] w (CutPost w [] 2) := by
  have hds : d.size ≤ 65535 := by have := hv.r; have := hv.m.1; unfold roomB at *; omega
  have hos : h.op.size ≤ 40 := hv.m.2.2.2.1
  have H1 := hide (fun w => rencode_any h d w hv.i (by omega) (enc_of hv))
  have hs : (pcB (h, d)).size = 20 + h.op.size + d.size := pcB_size (h, d)
  have BEL := hide (below_one w (.cells (hdL h).toArray 25))
  have k := HC.box w h 25
  obtain ⟨S, hS⟩ : ∃ S, pcB (h, d) = S := ⟨_, rfl⟩
  rw [hS] at H1 hs
  simp only [hdL] at BEL k
  have hle : decide (((S.size : Nat) : Int) ≤ room) = false := decide_eq_false (by rw [hs]; omega)
  have HH := hide hh
  have hx : IntKind.i64.wrap (28 + (h.op.size : Int)) = 28 + (h.op.size : Int) := by rw [IntKind.wrap_i64]; omega
  have hlt : decide (room < 28 + (h.op.size : Int)) = false := decide_eq_false (by omega)
  have H2 := hide (fun w => roptions_short h.op w hos)
  have H4 := hide h4
  clear hv hs hS hl hos hds hh h3 h4
  go_enter Try.func10, Try.ntmps10
  go_wp2_with fail
  refine (unhide H1 _).mono ?_
  rintro e w1 ⟨rfl, b1⟩
  have c2 := (k.on b1).c2
  have c9 := (k.on b1).c9
  rw [unhide HH] at c2
  have HB := hide (tr2 (unhide BEL) b1)
  clear b1 BEL k
  go_wp2_with fail
  refine (unhide H2 _).mono ?_
  rintro e w2 (⟨hr, rfl, b2⟩ | ⟨L, sp, sc, hr, _, _, _, _⟩)
  · have HB2 := hide (tr2 (unhide HB) b2)
    clear b2 hr
    go_wp2_with fail
    go_ret2
    exact cutpost_no (unhide HB2)
  · rw [unhide H4] at hr; cases hr
end Go.Proofs.Ytefenejeppmfiaa
