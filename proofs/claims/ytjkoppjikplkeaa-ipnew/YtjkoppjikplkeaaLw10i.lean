/- The statement IpNew of layer 10, as a contract over the loaded program: its cases brought together. -/
import Derived.Test.YtjkoppjikplkeaaLw10f
import Derived.Test.YtjkoppjikplkeaaLw10g
import Derived.Test.YtjkoppjikplkeaaLw10h
namespace Go.Proofs.Ytjkoppjikplkeaa
open Go.RowKit

theorem app_none (s : ByteArray) : s ++ (⟨#[]⟩ : ByteArray) = s := list_ba (by rw [toList_append]; simp)
theorem encS_is {h : Rh} {d : ByteArray} (hm : h.MayB) (hw : wholeB h.more d.size) (hr : roomB h d.size) : EncIs h d (encS h d) 0 := .inr ⟨⟨hm, hw, hr⟩, rfl, rfl⟩
/-- what a head in which a byte is another one is read as -/
theorem flip_ex {h : Rh} {d : ByteArray} (hm : h.MayB) (hd : d.size ≤ 131072) {k y : Nat} (hk : k < 20 + h.op.size) (hy : y < 256) :
    ∃ (l' : List UInt8) (q : UInt8) (x : Rh) (D : ByteArray) (E2 : Int),
      (y ≠ 0 → bits .xor .u8 (((rawB h.hd d.data.toList)[k]'(by rw [raw_len, hdn]; omega)).toNat : Int) (y : Int) = (q.toNat : Int) ∧ (rawB h.hd d.data.toList).set k q = l') ∧
      ((E2 != 0) = true ∨ (E2 = 0 ∧ k = 0 ∧ ∀ w, (binOp .neq 25 (hdV x) (hdV h)).run Try.prog w = .ok (.bool true) w)) ∧
      ∀ w, Calls Try.prog 13 #[.string ⟨l'.toArray⟩] w fun e w' => e = .returned (.tuple #[hdV x, .string D, .int .i64 E2]) ∧ Below w.heap.size w w' := by
  by_cases h0 : y = 0
  · refine ⟨[], 0, ⟨0, 0, false, false, 0, 0, 0, 0, 0, ⟨#[]⟩⟩, ⟨#[]⟩, 10, fun c => absurd h0 c, .inl rfl, fun w => ?_⟩
    have H := decode_any ⟨[].toArray⟩ w (by decide)
    have e : decE ⟨[].toArray⟩ = 10 := by decide +kernel
    unfold decV at H
    rw [e] at H
    exact H
  · have hlt : k < (rawB h.hd d.data.toList).length := by rw [raw_len, hdn]; omega
    obtain ⟨x, D, E2, e1, e2⟩ := flip_val hm hk (xor_other (a := (rawB h.hd d.data.toList)[k]) hy h0)
    refine ⟨_, UInt8.ofNat (((rawB h.hd d.data.toList)[k]).toNat ^^^ y), x, D, E2, fun _ => ⟨?_, rfl⟩, ?_, fun w => ?_⟩
    · rw [u8_xor_nat _ _ (UInt8.toNat_lt _) hy, xor_nat hy]
    · rcases e2 with e2 | ⟨e2, e3, e4⟩
      · exact .inl e2
      · exact .inr ⟨e2, e3, fun w => by rw [neq_hd, decide_eq_false e4]; rfl⟩
    · have H := decode_any ⟨((rawB h.hd d.data.toList).set k (UInt8.ofNat (((rawB h.hd d.data.toList)[k]).toNat ^^^ y))).toArray⟩ w (by
        obtain ⟨_, _, _, m4, _⟩ := hm
        rw [Lib.size_eq]
        simp only [List.length_set]
        rw [raw_len, hdn, ← Lib.size_eq]
        omega)
      rw [e1] at H
      exact H

theorem ipNew_walk (v : Value) (h : Rh) (d : ByteArray) (a y : Int) (w : World) (hv : IsHead v h) (hd : d.size ≤ maxLen) (ha : (Lit.int .u8 a).wf = true) (hy : (Lit.int .u8 y).wf = true) :
    Calls Try.prog 7 #[v, .string d, .int .u8 a, .int .u8 y] w fun e w' => e = .returned (.bool true) ∧ Below w.heap.size w w' := by
  obtain rfl := hv.eq
  obtain ⟨a, rfl, ha2⟩ := nat8 ha
  obtain ⟨y, rfl, hy2⟩ := nat8 hy
  have H1 := hide (fun w => long_any h d w hv.op hd)
  by_cases l1 : longB h d
  · rw [decide_eq_true l1] at H1
    exact new_long h d a y w H1
  rw [decide_eq_false l1] at H1
  unfold longB at l1
  have hi := hv.in' (by omega)
  obtain ⟨S, E, he⟩ := enc_ex h d
  have H2 := hide (fun w => encode_any h d w hi (by omega) he)
  rcases he with ⟨hz, _, rfl⟩ | ⟨⟨hm, hw, hr⟩, rfl, rfl⟩
  · exact new_no h d _ a y w _ (by simpa using hz) H1 H2
  have hsz := encS_size h d
  have hop : h.op.size ≤ 40 := hm.2.2.2.1
  have hkk : a % (20 + h.op.size) < 20 + h.op.size := Nat.mod_lt _ (by omega)
  have hk : (a : Int) % (20 + (h.op.size : Int)) = ((a % (20 + h.op.size) : Nat) : Int) := by
    rw [show (20 + (h.op.size : Int)) = ((20 + h.op.size : Nat) : Int) by omega]
    exact (Int.natCast_emod _ _).symm
  obtain ⟨l', q, x, D, E2, hq, hE, H4⟩ := flip_ex (d := d) hm (by omega) hkk hy2
  have hln : (rawB h.hd d.data.toList).length = (encS h d).size := by rw [hsz, raw_len, hdn, Lib.size_eq d]
  have P0 := pass_enc hi hm hw hr ⟨#[98, 101, 104, 105, 110, 100]⟩
  have H3 := hide (fun w => pass_any (encS h d ++ ⟨#[98, 101, 104, 105, 110, 100]⟩) w (by rw [ByteArray.size_append]; show (encS h d).size + 6 ≤ _; omega))
  by_cases ht : h.ttl < 2
  · rw [P0.1 ht] at H3
    exact new_over h d (encS h d) _ a y w rfl (by omega) ht (a % (20 + h.op.size)) (rawB h.hd d.data.toList) l' x D E2 q (encS_list h d) hln hk (by omega) hop ha2 hy2 hq hE H1 H2 H3 H4
  · have ht2 : 2 ≤ h.ttl := by omega
    have hlt := hi.ttl
    rw [P0.2 ht2] at H3
    have wt : IntKind.u8.wrap ((h.ttl : Int) - 1) = ((h.ttl - 1 : Nat) : Int) := by rw [IntKind.wrap_u8]; omega
    have H5 := hide (fun w => encode_any (h.low 1) d w (low_in hi 1) (by omega) (encS_is (h := h.low 1) hm hw hr))
    by_cases hz : 512 ≤ (encS h d).size
    · exact new_less_long h d (encS h d) _ a y w rfl (by omega) (h.ttl - 1) (fun j => encS (h.low (j + 1)) d) wt ht2 hlt hz (a % (20 + h.op.size)) (rawB h.hd d.data.toList) l' x D E2 q (encS_list h d) hln hk (by omega) hop ha2 hy2 hq hE H1 H2 H3 H4 H5
    · have PP := fun j => pass_enc (low_in hi (j + 1)) (h := h.low (j + 1)) (d := d) hm hw hr ⟨#[]⟩
      have PA := fun j w => pass_any (encS (h.low (j + 1)) d ++ ⟨#[]⟩) w (by rw [app_none, encS_size]; show 20 + h.op.size + d.size ≤ _; omega)
      refine new_less_loop h d (encS h d) _ a y w rfl (by omega) (h.ttl - 1) (fun j => encS (h.low (j + 1)) d) wt ht2 hlt (by omega) (a % (20 + h.op.size)) (rawB h.hd d.data.toList) l' x D E2 q (encS_list h d) hln hk (by omega) hop ha2 hy2 hq hE H1 H2 H3 H4 ?_ ?_ H5
      · intro j hj w
        have H := PA j w
        rw [(PP j).2 (show 2 ≤ h.ttl - (j + 1) by omega), app_none] at H
        exact H
      · intro j hj w
        have H := PA j w
        rw [(PP j).1 (show h.ttl - (j + 1) < 2 by omega), app_none] at H
        exact H

end Go.Proofs.Ytjkoppjikplkeaa
