/- IpNew without the program: what is passed on is written anew, a byte that is another one; a row of bytes that may be written. -/
import Derived.Test.YtjkoppjikplkeaaLw10c
import Derived.Laws.IdiomStrings
namespace Go.Proofs.Ytjkoppjikplkeaa
open Go.RowKit

def encS (h : Rh) (d : ByteArray) : ByteArray := ⟨(rawB h.hd d.data.toList).toArray⟩
def Rh.low (h : Rh) (k : Nat) : Rh := { h with ttl := h.ttl - k }
theorem encS_list (h : Rh) (d : ByteArray) : (encS h d).data.toList = rawB h.hd d.data.toList := rfl
theorem encS_size (h : Rh) (d : ByteArray) : (encS h d).size = 20 + h.op.size + d.size := by rw [← hdn]; exact raw_size
theorem low_hd (h : Rh) (k : Nat) : (h.low k).hd.less = (h.low (k + 1)).hd := rfl
theorem low_in {h : Rh} (hi : h.In) (k : Nat) : (h.low k).In := ⟨hi.tos, hi.id, hi.a1, hi.a2, Nat.lt_of_le_of_lt (Nat.sub_le _ _) hi.ttl, hi.proto, hi.frm, hi.to, hi.op⟩
theorem low_zero (h : Rh) : h.low 0 = h := rfl

/-- a packet that was written, passed on -/
theorem pass_enc {h : Rh} {d : ByteArray} (hi : h.In) (hm : h.MayB) (hw : wholeB h.more d.size) (hr : roomB h d.size) (b : ByteArray) :
    (h.ttl < 2 → passV (encS h d ++ b) = .tuple #[.string ⟨#[]⟩, .int .i64 9]) ∧ (2 ≤ h.ttl → passV (encS h d ++ b) = .tuple #[.string (encS (h.low 1) d), .int .i64 0]) := by
  have l : d.data.toList.length = d.size := (Lib.size_eq d).symm
  have hl : (encS h d ++ b).data.toList = rawB h.hd d.data.toList ++ b.data.toList := by rw [toList_append, encS_list]
  have hl2 : (encS h d ++ b).data.toList = headB h.hd d.data.toList.length ++ (d.data.toList ++ b.data.toList) := by rw [hl, raw_eq, List.append_assoc]
  have k : DecOk (encS h d ++ b).data.toList h.hd d.data.toList := by
    rw [hl]
    exact dec_raw (in_hd hi) (may_hd hm) (by rw [l]; exact hw) (by rw [l]; exact fits_hd hm hr) b.data.toList
  obtain ⟨h0, h1, h2⟩ := decok_val k
  have hlen := head_len h.hd d.data.toList.length
  have hn := hdn h
  obtain ⟨_, _, _, m4, m5⟩ := id hm
  have e8 : byteAt (encS h d ++ b).data.toList 8 = h.ttl := by
    rw [hl2, byteAt_app (by omega)]
    exact hd8 (in_hd hi)
  have eN : hN (encS h d ++ b) = h.hd.n := by
    unfold hN
    rw [hl2, byteAt_app (by omega), hd0 (may_hd hm)]
    omega
  constructor
  · intro ht
    have e : passE (encS h d ++ b) = 9 := by unfold passE; rw [if_pos h0, e8, if_pos (by omega)]
    unfold passV
    rw [e]
    rfl
  · intro ht
    have e : passE (encS h d ++ b) = 0 := by unfold passE; rw [if_pos h0, e8, if_neg (by omega)]
    unfold passV
    rw [if_pos e]
    have eL : passL (encS h d ++ b) = rawB h.hd.less d.data.toList := by
      unfold passL
      rw [h2, eN]
      have t8 : twoAt (encS h d ++ b).data.toList 8 = 256 * h.hd.ttl + h.hd.proto := by rw [hl2]; exact ttl_word (in_hd hi) _
      have t10 : twoAt (encS h d ++ b).data.toList 10 = csum h.hd d.data.toList.length := by rw [hl2]; exact csum_word _
      rw [t8, t10, hl]
      exact pass_raw (in_hd hi) (may_hd hm) ht d.data.toList b.data.toList
    rw [eL]
    rfl

/-- a head in which a byte is another one -/
theorem flip_val {h : Rh} {d : ByteArray} (hm : h.MayB) {k : Nat} (hk : k < 20 + h.op.size) {x : UInt8} (hx : x ≠ (rawB h.hd d.data.toList)[k]'(by rw [raw_len, hdn]; omega)) :
    ∃ (x' : Rh) (c : ByteArray) (e : Int), decV ⟨((rawB h.hd d.data.toList).set k x).toArray⟩ = .tuple #[hdV x', .string c, .int .i64 e] ∧ ((e != 0) = true ∨ (e = 0 ∧ k = 0 ∧ x' ≠ h)) := by
  by_cases h0 : decE ⟨((rawB h.hd d.data.toList).set k x).toArray⟩ = 0
  · have r := dec_ok_of h0
    have f := flip_told (may_hd hm) (by rw [hdn]; exact hk) hx r
    refine ⟨_, _, 0, by unfold decV; rw [if_pos h0], .inr ⟨rfl, f.1, fun e => f.2 ((readR_hd _ _).symm.trans (congrArg Rh.hd e))⟩⟩
  · refine ⟨⟨0, 0, false, false, 0, 0, 0, 0, 0, ⟨#[]⟩⟩, ⟨#[]⟩, decE ⟨((rawB h.hd d.data.toList).set k x).toArray⟩, by unfold decV; rw [if_neg h0]; rfl, .inl (by simpa using h0)⟩
theorem xor_other {a : UInt8} {y : Nat} (hy : y < 256) (h0 : y ≠ 0) : UInt8.ofNat (a.toNat ^^^ y) ≠ a := by
  intro e
  have hlt : a.toNat ^^^ y < 2 ^ 8 := Nat.xor_lt_two_pow a.toNat_lt hy
  have e1 := congrArg UInt8.toNat e
  rw [UInt8.toNat_ofNat', Nat.mod_eq_of_lt hlt] at e1
  have e2 := congrArg (a.toNat ^^^ ·) e1
  simp only [← Nat.xor_assoc, Nat.xor_self, Nat.zero_xor] at e2
  exact h0 e2
theorem xor_nat {a : UInt8} {y : Nat} (hy : y < 256) : ((UInt8.ofNat (a.toNat ^^^ y)).toNat) = a.toNat ^^^ y := by
  have hlt : a.toNat ^^^ y < 2 ^ 8 := Nat.xor_lt_two_pow a.toNat_lt hy
  rw [UInt8.toNat_ofNat', Nat.mod_eq_of_lt hlt]

/-- bytes stand in a block from its beginning on, and may be written -/
structure RowU (w : World) (b : Nat) (l : List UInt8) : Prop where
  cell : ∀ j (hj : j < l.length), w.cell? ⟨b, j, none⟩ = some (.int .u8 (l[j].toNat : Int))
  free : ∀ j, j < l.length → w.frozen? ⟨b, j, none⟩ = false
  lt : b < w.heap.size
theorem RowU.set {w : World} {b : Nat} {l : List UInt8} (h : RowU w b l) (k : Nat) (x : UInt8) : RowU (w.setCell ⟨b, k, none⟩ (.int .u8 (x.toNat : Int))) b (l.set k x) := by
  refine ⟨fun j hj => ?_, fun j hj => by rw [World.frozen?_setCell]; exact h.free j (by simpa using hj), by simpa using h.lt⟩
  rw [List.length_set] at hj
  rw [List.getElem_set]
  by_cases e : k = j
  · subst e
    rw [if_pos rfl]
    exact World.cell?_setCell_same _ _ _ (h.cell k hj)
  · have hne : (⟨b, k, none⟩ : Addr) ≠ ⟨b, j, none⟩ := fun x => e (by simpa using (congrArg Addr.off x))
    rw [if_neg e]
    exact (World.cell?_setCell_other _ _ _ _ hne).trans (h.cell j hj)
theorem RowU.on {w w' : World} {b : Nat} {l : List UInt8} (h : RowU w b l) (k : Below w.heap.size w w') : RowU w' b l :=
  ⟨fun j hj => (k.cell h.lt).trans (h.cell j hj), fun j hj => (k.frozen h.lt).trans (h.free j hj), Nat.lt_of_lt_of_le h.lt k.size⟩
theorem RowU.text (w : World) (s : ByteArray) (c : Nat) (t : TypeId) : RowU (w.alloc (.cells (bytesRow s c) t ((bytesRow s c).size, (bytesRow s c).size + 1))) w.heap.size s.data.toList := by
  have hh := heap_alloc_new w (.cells (bytesRow s c) t ((bytesRow s c).size, (bytesRow s c).size + 1))
  have hl : s.data.toList.length = s.size := (Lib.size_eq s).symm
  have hz : s.size ≤ (bytesRow s c).size := by
    unfold bytesRow
    rw [Array.size_append, Array.size_map]
    exact Nat.le_add_right _ _
  refine ⟨fun j hj => ?_, fun j hj => ?_, by simp⟩
  · have hj' : j < s.size := by omega
    rw [cell_of_row _ _ j _ _ _ hh]
    unfold bytesRow
    rw [Array.getElem?_append_left (by rw [Array.size_map]; exact hj')]
    have : s.data[j]? = some s.data[j] := Array.getElem?_eq_getElem hj'
    rw [Array.getElem?_map, this]
    simp
  · unfold World.frozen?
    rw [hh]
    simp
    omega
theorem conv_rowU {w : World} {b c n : Nat} {l : List UInt8} (h : RowU w b l) (hn : l.length = n) : (convert 54 9 (.slice (some ⟨b, 0, none⟩) n c)).run Try.prog w = .ok (.string ⟨l.toArray⟩) w := by
  subst hn
  refine run_convert_bytes_back (P := Try.prog) w 54 9 5 ⟨b, 0, none⟩ c l Try.underlying54 Try.underlying5 Try.underlying9 (fun j hj => ?_)
  have ha : (⟨b, 0, none⟩ : Addr).add j = ⟨b, j, none⟩ := by unfold Addr.add; split <;> simp_all
  rw [ha]
  exact h.cell j hj

end Go.Proofs.Ytjkoppjikplkeaa
