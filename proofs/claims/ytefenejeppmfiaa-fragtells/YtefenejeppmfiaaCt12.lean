/- The contract of package frag's Cut, over the loaded program; no memory that was there has turned. Conditions: numbers in their kinds' bounds, texts of bounded length. -/
import Derived.Test.YtefenejeppmfiaaCq12
namespace Go.Proofs.Ytefenejeppmfiaa
open Go.RowKit Go.Shelf

attribute [local go_sem] Oper.semAt_some

theorem pcB_size (p : Pc) : (pcB p).size = 20 + p.1.op.size + p.2.size := by
  unfold pcB
  rw [arr_size, raw_len, hdn, Lib.size_eq p.2]
theorem enc_of {h : Rh} {d : ByteArray} (hv : HOk h d.size) : EncIs h d (pcB (h, d)) 0 := .inr ⟨⟨hv.m, hv.w, hv.r⟩, rfl, rfl⟩
/-- what Cut leaves behind -/
def CutPost (w : World) (L : List Pc) (e : Int) (x : Ending) (w' : World) : Prop := ∃ sp sc, x = .returned (.tuple #[.slice sp L.length sc, .int .i64 e]) ∧ Strs w'.heap.size w' (.slice sp L.length sc) (L.map pcB) ∧ Below w.heap.size w w'
theorem cutpost_no {w w' : World} {e : Int} (h : Below w.heap.size w w') : CutPost w [] e (.returned (.tuple #[.slice none 0 0, .int .i64 e])) w' := ⟨none, 0, rfl, .inl ⟨⟨_, _, rfl⟩, rfl⟩, h⟩

set_option maxRecDepth 100000 in
set_option maxHeartbeats 2000000 in
theorem cut_enc (h : Rh) (d : ByteArray) (room : Int) (w : World) (hi : h.In) (hd : d.size ≤ 1073741824) (e0 : Int) (he : encE h d.size = e0) (hne : e0 ≠ 0) :
    CallsIn Fence.wide 3 Try.prog 9 #[hdV h, .string d, .int .i64 room] w (CutPost w [] e0) := by
  have H1 := hide (fun w => encode_any h d w hi hd (.inl ⟨by rw [he]; exact hne, rfl, he.symm⟩))
  have BEL := hide (below_one w (.cells (hdL h).toArray 25))
  have hne' : ((e0 : Int) != 0) = true := by simpa using hne
  simp only [hdL] at BEL
  clear hi he hne
  refine callsIn_of_wp_marks Try.func9 rfl trivial ?_ rfl
  simp only [Try.ntmps9, List.size_toArray, List.length_cons, List.length_nil, Nat.reduceAdd, Nat.reduceSub, Array.replicate_succ, Array.replicate_zero, List.push_toArray, List.append_toArray, List.nil_append, List.cons_append]
  gi_wp2_with fail
  refine ⟨trivial, (callsIn_wide.2 (unhide H1 _)).mono ?_⟩
  rintro e w1 ⟨rfl, b1⟩
  have HB := hide (tr2 (unhide BEL) b1)
  clear b1 BEL
  gi_wp2_with fail
  refine ⟨.tuple #[.slice none 0 0, .int .i64 e0], by simp [results, Try.results9, go_sem], ?_⟩
  exact cutpost_no (unhide HB)

set_option maxRecDepth 100000 in
set_option maxHeartbeats 2000000 in
theorem cut_ref (h : Rh) (d : ByteArray) (room : Int) (w : World) (hv : HOk h d.size) (hl : room < ((20 + h.op.size + d.size : Nat) : Int)) (e0 : Int) (he : refE h room = e0) (hne : e0 ≠ 0) :
    CallsIn Fence.wide 3 Try.prog 9 #[hdV h, .string d, .int .i64 room] w (CutPost w [] e0) := by
  have hd : d.size ≤ 65535 := by have := hv.r; have := hv.m.1; unfold roomB at *; omega
  have H1 := hide (fun w => encode_any h d w hv.i (by omega) (enc_of hv))
  have hs : (pcB (h, d)).size = 20 + h.op.size + d.size := pcB_size (h, d)
  have H2 := hide (fun w => refused_any h room w hv.m.2.2.2.1 e0 he)
  have BEL := hide (below_one w (.cells (hdL h).toArray 25))
  have k := HC.box w h 25
  have hne' : ((e0 : Int) != 0) = true := by simpa using hne
  obtain ⟨S, hS⟩ : ∃ S, pcB (h, d) = S := ⟨_, rfl⟩
  rw [hS] at H1 hs
  have hle : decide (((S.size : Nat) : Int) ≤ room) = false := decide_eq_false (by rw [hs]; omega)
  simp only [hdL] at BEL k
  clear hv he hne hs hS hl
  refine callsIn_of_wp_marks Try.func9 rfl trivial ?_ rfl
  simp only [Try.ntmps9, List.size_toArray, List.length_cons, List.length_nil, Nat.reduceAdd, Nat.reduceSub, Array.replicate_succ, Array.replicate_zero, List.push_toArray, List.append_toArray, List.nil_append, List.cons_append]
  gi_wp2_with fail
  refine ⟨trivial, (callsIn_wide.2 (unhide H1 _)).mono ?_⟩
  rintro e w1 ⟨rfl, b1⟩
  obtain ⟨c0, c1, c2, c3, c4, c5, c6, c7, c8, c9⟩ := k.on b1
  have HB := hide (tr2 (unhide BEL) b1)
  clear b1 BEL k
  gi_wp2_with fail
  refine ⟨trivial, (callsIn_wide.2 (unhide H2 _)).mono ?_⟩
  rintro e w2 ⟨rfl, b2⟩
  have HB2 := hide (tr2 (unhide HB) b2)
  clear b2 HB
  gi_wp2_with fail
  refine ⟨.tuple #[.slice none 0 0, .int .i64 e0], by simp [results, Try.results9, go_sem], ?_⟩
  exact cutpost_no (unhide HB2)

set_option maxRecDepth 100000 in
set_option maxHeartbeats 2000000 in
theorem cut_one (h : Rh) (d : ByteArray) (room : Int) (w : World) (hv : HOk h d.size) (hl : ((20 + h.op.size + d.size : Nat) : Int) ≤ room) :
    CallsIn Fence.wide 3 Try.prog 9 #[hdV h, .string d, .int .i64 room] w (CutPost w [(h, d)] 0) := by
  have hd : d.size ≤ 65535 := by have := hv.r; have := hv.m.1; unfold roomB at *; omega
  have H1 := hide (fun w => encode_any h d w hv.i (by omega) (enc_of hv))
  have hs : (pcB (h, d)).size = 20 + h.op.size + d.size := pcB_size (h, d)
  have BEL := hide (below_one w (.cells (hdL h).toArray 25))
  obtain ⟨S, hS⟩ : ∃ S, pcB (h, d) = S := ⟨_, rfl⟩
  rw [hS] at H1 hs
  have hle : decide (((S.size : Nat) : Int) ≤ room) = true := decide_eq_true (by rw [hs]; omega)
  have HS := hide hS
  simp only [hdL] at BEL
  clear hv hs hS hl
  refine callsIn_of_wp_marks Try.func9 rfl trivial ?_ rfl
  simp only [Try.ntmps9, List.size_toArray, List.length_cons, List.length_nil, Nat.reduceAdd, Nat.reduceSub, Array.replicate_succ, Array.replicate_zero, List.push_toArray, List.append_toArray, List.nil_append, List.cons_append]
  gi_wp2_with fail
  refine ⟨trivial, (callsIn_wide.2 (unhide H1 _)).mono ?_⟩
  rintro e w1 ⟨rfl, b1⟩
  have HB := hide (tr2 (unhide BEL) b1)
  clear b1 BEL
  gi_wp2_with fail
  refine ⟨.tuple #[.slice (some ⟨w1.heap.size, 0, none⟩) 1 1, .int .i64 0], by simp [results, Try.results9, go_sem], ?_⟩
  refine ⟨_, _, rfl, ?_, tr2 (unhide HB) (below_one _ _)⟩
  have := strs1 w1 S
  simp only [List.map_cons, List.map_nil, unhide HS]
  exact this

end Go.Proofs.Ytefenejeppmfiaa
