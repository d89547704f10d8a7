/- The contract of package ip4's Opts, over the loaded program; no memory that was there has turned. Conditions: numbers in their kinds' bounds, texts of bounded length. -/
import Derived.Test.YtekljiakofmhnaaIo0
import Derived.Test.YtekljiakofmhnaaShelf10
namespace Go.Proofs.Ytekljiakofmhnaa
open Go.RowKit Go.Shelf

abbrev IsB (B b : Nat) (l : List UInt8) (w : World) : Prop := Lib.IsBuilder 90 5 B b (Lib.byteCells l) w
theorem heap_lt {w : World} {b : Nat} {o : Obj} (h : w.heap[b]? = some o) : b < w.heap.size := (Array.getElem?_eq_some_iff.1 h).1
theorem at_on {T e : TypeId} {B b : Nat} {p : Value} {bs : List Value} {w w' : World} (h : Lib.BuilderAt T e B b p bs w) (k : Below w.heap.size w w') : Lib.BuilderAt T e B b p bs w' := by
  obtain ⟨h1, v, h2, h3, h4⟩ := h
  refine ⟨h1, v, (k.block b (heap_lt h2)).trans h2, ?_, h4⟩
  obtain ⟨l, r⟩ := h3
  refine ⟨l, ?_⟩
  rcases r with r | ⟨g, cap, cur, e1, e2, e3, e4⟩
  · exact .inl r
  · exact .inr ⟨g, cap, cur, e1, e2, (k.block g (heap_lt e3)).trans e3, e4⟩
theorem isb_on {B b : Nat} {l : List UInt8} {w w' : World} (h : IsB B b l w) (k : Below w.heap.size w w') : IsB B b l w' := by
  rcases h with h | h
  · exact .inl (at_on h k)
  · exact .inr (at_on h k)
theorem isb_new (w : World) : IsB w.heap.size w.heap.size [] (w.alloc (.cells #[.pointer none, .slice none 0 0] 90)) := Lib.fresh_isBuilder _ _ w

theorem bws_any (B b : Nat) (l : List UInt8) (s : ByteArray) (w : World) (h : IsB B b l w) (hl : l.length + s.size ≤ 1048576) (hB : B ≤ w.heap.size) :
    Calls Try.prog 48 #[.pointer (some ⟨b, 0, none⟩), .string s] w fun e w' => e = .returned (.tuple #[.int .i64 s.size, .nilIface]) ∧ IsB B b (l ++ s.data.toList) w' ∧ Below B w w' :=
  (Any.Builder_WriteString Try.wsA Try.bxs B b (Lib.byteCells l) s w h (by rw [Lib.byteCells_length]; omega) hB).mono fun e w' x => ⟨x.1, by
    unfold IsB
    rw [Lib.byteCells_append, ← Lib.strCells_eq]
    exact .inr x.2.1, x.2.2⟩
theorem bstr_any (B b : Nat) (l : List UInt8) (w : World) (h : IsB B b l w) (hB : B ≤ w.heap.size) :
    Calls Try.prog 49 #[.pointer (some ⟨b, 0, none⟩)] w fun e w' => e = .returned (.string ⟨l.toArray⟩) ∧ Below B w w' :=
  Any.Builder_String_any Try.strA Try.bxst B b l w h hB

/-- what Opts tells -/
def optsE (L : List Po) : Int := if anyNot L then 102 else if sumS L ≤ 40 then 0 else 4
def optsL (L : List Po) : List UInt8 := optsB (L.map Po.op)
theorem optsL_nil : optsL [] = [] := rfl
theorem optsL_snoc (L : List Po) (x : Po) : optsL (L ++ [x]) = optsL L ++ (poB x).data.toList := by
  unfold optsL optsB
  rw [List.map_append, List.flatMap_append]
  simp [poB]
theorem optsL_len (L : List Po) (h : ¬ anyNot L) : (optsL L).length = sumS L := by
  induction L with
  | nil => rfl
  | cons x l ih =>
    have e : optsL (x :: l) = optB x.op ++ optsL l := by simp [optsL, optsB]
    rw [e, List.length_append, ih (fun ⟨y, hy, hz⟩ => h ⟨y, by simp [hy], hz⟩)]
    have := poB_size x (may_notB (fun c => h ⟨x, by simp, c⟩))
    unfold poB at this
    rw [arr_size] at this
    simp only [sumS]
    omega

theorem padN_le (n : Nat) : padN n < 4 := by unfold padN; omega
theorem pad_step (l : List UInt8) (k : Nat) (hk : k < padN l.length) : (l.length + k) % 4 ≠ 0 := by unfold padN at hk; omega
theorem pad_end (l : List UInt8) : (l.length + padN l.length) % 4 = 0 := by unfold padN; omega

end Go.Proofs.Ytekljiakofmhnaa
