/- The contracts of the library's functions that package ether calls: strings.Repeat of a byte 0, strings.IndexByte, strings.Join with a colon. Conditions: bounded lengths. -/
import Derived.Test.YtdgjoconppmihaaKit
import Derived.Test.YtdgjoconppmihaaShelf7
namespace Go.Proofs.Ytdgjoconppmihaa
open Go.RowKit Go.Shelf

/-- so many bytes 0 -/
def zs (n : Nat) : ByteArray := ⟨(List.replicate n (0 : UInt8)).toArray⟩
theorem zs_size (n : Nat) : (zs n).size = n := by
  show (List.replicate n (0 : UInt8)).toArray.size = n
  simp
theorem repeatL_zero (n : Nat) : Lib.repeatL [(0 : UInt8)] n = List.replicate n 0 := by
  induction n with
  | zero => rfl
  | succ n ih => simp [Lib.repeatL, ih, List.replicate_succ]

theorem rep_any (n : Nat) (hn : n ≤ 65536) (w : World) :
    Calls Try.prog 22 #[.string ⟨#[0]⟩, .int .i64 (n : Int)] w fun e w' => e = .returned (.string (zs n)) ∧ Below w.heap.size w w' := by
  have h := Any.strings_Repeat Try.repA Try.bxr ⟨#[0]⟩ n w (by omega) (by show 1 * n ≤ _; omega)
  have e : (⟨#[0]⟩ : ByteArray).data.toList = [0] := rfl
  rw [e, repeatL_zero] at h
  exact h

theorem ib_any (s : ByteArray) (c : UInt8) (w : World) :
    Calls Try.prog 54 #[.string s, .int .u8 (c.toNat : Int)] w fun e w' => e = .returned (.int .i64 (Lib.indexByte s.data.toList c)) ∧ w' = w := by
  have h := Any.strings_IndexByte Try.ibA s (c.toNat : Int) w
  have e : ((c.toNat : Int).toNat.toUInt8) = c := by simp
  rw [e] at h
  exact h

theorem join_any (b c : Nat) (xs : List ByteArray) (w : World) (hcells : ∀ (j : Nat) x, xs[j]? = some x → w.cell? ⟨b, 0 + j, none⟩ = some (.string x)) (hb : b < w.heap.size) (hN : xs.length ≤ 140737488355328) (hcap : xs.length ≤ c)
    (hlen : (Lib.join (xs.map (·.data.toList)) [58]).length ≤ 140737488355328) :
    Calls Try.prog 30 #[.slice (some ⟨b, 0, none⟩) xs.length c, .string ⟨#[58]⟩] w fun e w' => e = .returned (.string ⟨(Lib.join (xs.map (·.data.toList)) [58]).toArray⟩) ∧ Below w.heap.size w w' :=
  Any.strings_Join Try.joinA Try.bxj b 0 c xs ⟨#[58]⟩ w hcells hb hN hcap hlen

end Go.Proofs.Ytdgjoconppmihaa
