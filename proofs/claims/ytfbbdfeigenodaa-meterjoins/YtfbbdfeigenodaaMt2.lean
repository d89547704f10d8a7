/- A meter in memory; what Get and Add of package meter answer and leave. -/
import Derived.Test.YtfbbdfeigenodaaMt1
import Derived.Test.YtfbbdfeigenodaaLst
import Derived.Maps.OwnSet
import Derived.Deep.DrawnRows
import Derived.Deep.RegionHeld3
namespace Go.Proofs.Ytfbbdfeigenodaa
open Go.RowKit Go.Maps

/-- all blocks that were there, but those of T, are as they were -/
structure Kp (T : List Nat) (w w' : World) : Prop where
  os : w'.os = w.os
  tape : w'.tape = w.tape
  output : w'.output = w.output
  size : w.heap.size ≤ w'.heap.size
  block : ∀ k, k < w.heap.size → k ∉ T → w'.heap[k]? = w.heap[k]?

theorem Kp.refl (T : List Nat) (w : World) : Kp T w w := ⟨rfl, rfl, rfl, Nat.le_refl _, fun _ _ _ => rfl⟩
theorem Kp.of_below {w w' : World} (T : List Nat) (h : Below w.heap.size w w') : Kp T w w' := ⟨h.os, h.tape, h.output, h.size, fun k hk _ => h.block k hk⟩
theorem Kp.of_grown {w w' : World} {b : Nat} (h : w.grownBy w' (some b)) : Kp [b] w w' := ⟨h.os, h.tape, h.output, h.size, fun k hk hn => h.block k hk (fun e => hn (by cases e; simp))⟩
theorem Kp.trans {T T' : List Nat} {a b c : World} (h : Kp T a b) (k : Kp T' b c) (hT : ∀ i ∈ T', i ∈ T ∨ a.heap.size ≤ i) : Kp T a c :=
  ⟨k.os.trans h.os, k.tape.trans h.tape, k.output.trans h.output, Nat.le_trans h.size k.size, fun i hi hn =>
    (k.block i (Nat.lt_of_lt_of_le hi h.size) (fun hi' => by rcases hT i hi' with g | g; exact hn g; omega)).trans (h.block i hi hn)⟩
theorem Kp.mono {T T' : List Nat} {a b : World} (h : Kp T a b) (hT : ∀ i ∈ T, i ∈ T') : Kp T' a b := ⟨h.os, h.tape, h.output, h.size, fun i hi hn => h.block i hi (fun g => hn (hT i g))⟩
theorem Kp.below {T : List Nat} {w w' : World} {B : Nat} (h : Kp T w w') (hB : B ≤ w.heap.size) (hT : ∀ k ∈ T, B ≤ k) : Below B w w' :=
  ⟨h.os, h.tape, h.output, h.size, fun k hk => h.block k (by omega) (fun g => by have := hT k g; omega)⟩

/-- a meter: its box, its map -/
structure PM (w : World) (p b : Nat) (L : List Ent) : Prop where
  box : w.heap[p]? = some (.cells #[.map (some b)] 64)
  map : w.ownsMap Try.prog 9 cElem b L.length (dm L)

theorem PM.cell {w : World} {p b : Nat} {L : List Ent} (h : PM w p b L) : w.cell? ⟨p, 0, none⟩ = some (.map (some b)) := by simp [World.cell?, h.box]
theorem PM.frozen {w : World} {p b : Nat} {L : List Ent} (h : PM w p b L) : w.frozen? ⟨p, 0, none⟩ = false := by simp [World.frozen?, h.box]
theorem PM.plt {w : World} {p b : Nat} {L : List Ent} (h : PM w p b L) : p < w.heap.size := (Array.getElem?_eq_some_iff.1 h.box).1
theorem PM.blt {w : World} {p b : Nat} {L : List Ent} (h : PM w p b L) : b < w.heap.size := h.map.lt
theorem PM.ne {w : World} {p b : Nat} {L : List Ent} (h : PM w p b L) : p ≠ b := by
  obtain ⟨es, clock, hb, _⟩ := h.map
  intro e
  have := h.box
  rw [e, hb] at this
  cases this
theorem owns_at {w w' : World} {b n : Nat} {D : DataW Unit} (h : w.ownsMap Try.prog 9 cElem b n D) (e : w'.heap[b]? = w.heap[b]?) : w'.ownsMap Try.prog 9 cElem b n D := by
  obtain ⟨es, clock, hb, r⟩ := h
  exact ⟨es, clock, e.trans hb, r⟩
theorem owns_len {w : World} {b n : Nat} {L : List Ent} (h : w.ownsMap Try.prog 9 cElem b n (dm L)) : w.ownsMap Try.prog 9 cElem b L.length (dm L) := by
  obtain ⟨es, clock, hb, F, _, hD⟩ := h
  refine ⟨es, clock, hb, F, ?_, hD⟩
  have := dm_size L
  rw [hD] at this
  simp [Maps.size, length_sorted] at this
  omega
theorem PM.kept {w w' : World} {p b : Nat} {L : List Ent} {T : List Nat} (h : PM w p b L) (k : Kp T w w') (h1 : p ∉ T) (h2 : b ∉ T) : PM w' p b L :=
  ⟨(k.block p h.plt h1).trans h.box, owns_at h.map (k.block b h.blt h2)⟩

theorem law : Keyed Try.prog 9 := string_keyed Try.underlying9
theorem zeroC (w : World) : (zeroValue 32).run Try.prog w = .ok (.complex .f64 0 0) w := by kernel_rfl
theorem key_of {s : ByteArray} (h : s.size ≤ maxLen) : keyOf Try.prog 9 (.string s) = some (.string s.data.toList) := Go.WideMaps.keyOf_string_mk Try.underlying9 h

/-- the count at a name: 0 where there is none -/
def cntE (s : List UInt8) (L : List Ent) : Nat × Nat := (lookE s L).getD (0, 0)

theorem PM.look (c : Bool) {w : World} {p b : Nat} {L : List Ent} (h : PM w p b L) {s : ByteArray} (hs : s.size ≤ maxLen) :
    (Instr.lookup 62 (.map (some b)) (.string s) c).run Try.prog w = .ok (if c then .tuple #[.complex .f64 (F (cntE s.data.toList L).1) (F (cntE s.data.toList L).2), .bool (lookE s.data.toList L).isSome] else .complex .f64 (F (cntE s.data.toList L).1) (F (cntE s.data.toList L).2)) w := by
  have key := key_of hs
  have z : cElem (.complex .f64 0 0) = some (cd 0 0, []) := rfl
  have hat := dm_at s.data.toList (cd 0 0) L
  have fin : ∀ v ps, cElem v = some ((dm L).atKey (.string s.data.toList) (cd 0 0), ps) → v = .complex .f64 (F (cntE s.data.toList L).1) (F (cntE s.data.toList L).2) := by
    intro v ps hv
    obtain ⟨a, b, rfl, hz⟩ := cElem_inv hv
    rw [hat] at hz
    unfold cntE
    cases hl : lookE s.data.toList L with
    | none =>
      rw [hl] at hz
      simp [cd] at hz
      rw [← hz.1.1, ← hz.1.2]
      simp [F_zero]
    | some q =>
      rw [hl] at hz
      simp [cd] at hz
      rw [← hz.1.1, ← hz.1.2]
      rfl
  cases c with
  | false =>
    obtain ⟨v, ps, hrun, hv⟩ := h.map.lookup law Try.underlying62 (zeroC w) z key
    rw [hrun, fin v ps hv]
    rfl
  | true =>
    obtain ⟨v, ps, hrun, hv⟩ := h.map.look_ok law Try.underlying62 (zeroC w) z key
    rw [hrun, fin v ps hv, dm_has]
    rfl

set_option maxRecDepth 100000 in
theorem get_any (p b : Nat) (L : List Ent) (s : ByteArray) (w : World) (h : PM w p b L) (hs : s.size ≤ maxLen) :
    Calls Try.prog 13 #[.pointer (some ⟨p, 0, none⟩), .string s] w fun e w' => e = .returned (.complex .f64 (F (cntE s.data.toList L).1) (F (cntE s.data.toList L).2)) ∧ w' = w := by
  have H := hide (made_ok p b w h.cell)
  have hc := h.cell
  have hl := h.look false hs
  simp only [Bool.false_eq_true, if_false] at hl
  generalize F (cntE s.data.toList L).1 = x at hl ⊢
  generalize F (cntE s.data.toList L).2 = y at hl ⊢
  clear h hs
  go_enter Try.func13, Try.ntmps13
  go_wp2_with fail
  refine (unhide H).mono ?_
  rintro e w1 ⟨rfl, rfl⟩
  go_wp2
  go_ret
  exact ⟨rfl, rfl⟩
theorem get_nil (s : ByteArray) (w : World) :
    Calls Try.prog 13 #[.pointer none, .string s] w fun e w' => e = .returned (.complex .f64 0 0) ∧ w' = w := by
  have H := hide (made_nil w)
  go_enter Try.func13, Try.ntmps13
  go_wp2_with fail
  refine (unhide H).mono ?_
  rintro e w1 ⟨rfl, rfl⟩
  go_wp2
  go_ret
  exact ⟨rfl, rfl⟩

end Go.Proofs.Ytfbbdfeigenodaa
