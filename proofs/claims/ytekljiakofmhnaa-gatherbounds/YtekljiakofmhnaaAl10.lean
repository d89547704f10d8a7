/- The contracts of the statements' helpers cut, Long and alive, over the loaded program; and what Decode tells, in plain words. Conditions: numbers in their kinds' bounds, texts of bounded length. -/
import Derived.Test.YtekljiakofmhnaaIh6
import Derived.Test.YtekljiakofmhnaaIo1
namespace Go.Proofs.Ytekljiakofmhnaa
open Go.RowKit

def longB (h : Rh) (d : ByteArray) : Prop := 256 < h.op.size ∨ 131072 < d.size
instance (h : Rh) (d : ByteArray) : Decidable (longB h d) := by unfold longB; infer_instance
set_option maxHeartbeats 1000000 in
theorem long_any (h : Rh) (d : ByteArray) (w : World) (h1 : h.op.size ≤ maxLen) (h2 : d.size ≤ maxLen) :
    Calls Try.prog 14 #[hdV h, .string d] w fun e w' => e = .returned (.bool (decide (longB h d))) ∧ Below w.heap.size w w' := by
  have BEL := hide (fun o => below_one w o)
  obtain ⟨r, hr, e⟩ := hidec (longB h d)
  rw [← e]
  clear e
  unfold maxLen at h1 h2
  go_enter Try.func14, Try.ntmps14
  go_wp2
  all_goals
    go_ret
    exact ⟨ret_of hr (by unfold longB; simp; omega), unhide BEL _⟩

theorem DecR.not_ok {s : List UInt8} {e : Nat} {h : Hd} {d : List UInt8} (r : DecR s e) (k : DecOk s h d) : False := by
  obtain ⟨k1, k2, k3, k4, k5, k6, k7, k8, k9, k10, _, _⟩ := k
  cases r with
  | short h => omega
  | version h h1 => exact h1 k2
  | form h h1 h2 => omega
  | short2 h h1 h2 h3 => omega
  | form2 h h1 h2 h3 h4 => omega
  | short3 h h1 h2 h3 h4 h5 => omega
  | sum h h1 h2 h3 h4 h5 h6 => exact h6 k7
  | form3 h h1 h2 h3 h4 h5 h6 h7 => exact h7 ⟨k8, k9, k10⟩
theorem decok_val {s : ByteArray} {h : Hd} {d : List UInt8} (k : DecOk s.data.toList h d) : decE s = 0 ∧ (readR s (hN s)).hd = h ∧ (s.extract (hN s) (pN s)).data.toList = d := by
  have h0 : decE s = 0 := by
    apply Classical.byContradiction
    intro hn
    obtain ⟨e, _, r⟩ := dec_no_of hn
    exact r.not_ok k
  have u := (dec_ok_of h0).unique k
  exact ⟨h0, by rw [readR_hd]; exact u.1, u.2⟩
theorem list_ba {s t : ByteArray} (h : s.data.toList = t.data.toList) : s = t := ByteArray.ext (Array.toList_inj.1 h)
theorem hd_inj {a b : Rh} (h : a.hd = b.hd) (ha : 0 ≤ a.at') (hb : 0 ≤ b.at') : a = b := by
  obtain ⟨a0, a1, a2, a3, a4, a5, a6, a7, a8, a9⟩ := a
  obtain ⟨b0, b1, b2, b3, b4, b5, b6, b7, b8, b9⟩ := b
  unfold Rh.hd at h
  simp only at ha hb h
  injection h with h0 h1 h2 h3 h4 h5 h6 h7 h8 h9
  have h4' := congrArg (Nat.cast (R := Int)) h4
  rw [Int.toNat_of_nonneg ha, Int.toNat_of_nonneg hb] at h4'
  rw [h0, h1, h2, h3, h4', h5, h6, h7, h8, list_ba h9]
theorem readR_at (s : ByteArray) (n : Nat) : 0 ≤ (readR s n).at' := by unfold readR; simp only; omega
theorem in_hd {h : Rh} (hi : h.In) : h.hd.In := ⟨hi.tos, hi.id, hi.ttl, hi.proto, hi.frm, hi.to⟩
theorem may_hd {h : Rh} (hm : h.MayB) : h.hd.May := by
  obtain ⟨m1, m2, m3, m4, m5⟩ := hm
  refine ⟨?_, ?_, ?_, ?_⟩
  · show h.at'.toNat ≤ 65528; omega
  · show h.at'.toNat % 8 = 0; omega
  · show h.op.data.toList.length ≤ 40; rw [← Lib.size_eq]; exact m4
  · show h.op.data.toList.length % 4 = 0; rw [← Lib.size_eq]; exact m5
theorem fits_hd {h : Rh} {n : Nat} (hm : h.MayB) (hr : roomB h n) : h.hd.fits n := by
  obtain ⟨m1, m2, m3, m4, m5⟩ := hm
  unfold roomB at hr
  unfold Hd.fits
  rw [hdn]
  show h.at'.toNat + n + (20 + h.op.size) ≤ 65535
  omega
theorem toList_append (a b : ByteArray) : (a ++ b).data.toList = a.data.toList ++ b.data.toList := by
  rw [ByteArray.data_append, Array.toList_append]
/-- what was written is read, whatever stands behind it -/
theorem dec_enc {h : Rh} {d s : ByteArray} (hi : h.In) (hm : h.MayB) (hw : wholeB h.more d.size) (hr : roomB h d.size) (hs : s = ⟨(rawB h.hd d.data.toList).toArray⟩) (b : ByteArray) : decV (s ++ b) = .tuple #[hdV h, .string d, .int .i64 0] := by
  have l : d.data.toList.length = d.size := (Lib.size_eq d).symm
  have k : DecOk (s ++ b).data.toList h.hd d.data.toList := by
    rw [toList_append, hs]
    exact dec_raw (in_hd hi) (may_hd hm) (by rw [l]; exact hw) (by rw [l]; exact fits_hd hm hr) b.data.toList
  obtain ⟨h0, h1, h2⟩ := decok_val k
  have e1 : readR (s ++ b) (hN (s ++ b)) = h := hd_inj h1 (readR_at _ _) hm.1
  have e2 : (s ++ b).extract (hN (s ++ b)) (pN (s ++ b)) = d := list_ba h2
  unfold decV
  rw [if_pos h0, e1, e2]

abbrev h1R : Rh := ⟨0, 0, false, false, 0, 64, 17, 1, 2, ⟨#[]⟩⟩
abbrev h2R : Rh := ⟨0, 0, false, false, 0, 1, 0, 0, 0, ⟨#[]⟩⟩
abbrev s1B : ByteArray := ⟨#[69, 0, 0, 22, 0, 0, 0, 0, 64, 17, 122, 213, 0, 0, 0, 1, 0, 0, 0, 2, 97, 98]⟩
abbrev s2B : ByteArray := ⟨#[69, 0, 0, 20, 0, 0, 0, 0, 1, 0, 185, 235, 0, 0, 0, 0, 0, 0, 0, 0]⟩
theorem enc1_is : EncIs h1R ⟨#[97, 98]⟩ s1B 0 := .inr ⟨⟨by decide, by decide, by decide⟩, by decide +kernel, rfl⟩
theorem enc2_is : EncIs h2R ⟨#[]⟩ s2B 0 := .inr ⟨⟨by decide, by decide, by decide⟩, by decide +kernel, rfl⟩
theorem h1_in : h1R.In := ⟨by decide, by decide, by decide, by decide, by decide, by decide, by decide, by decide, by decide⟩
theorem h2_in : h2R.In := ⟨by decide, by decide, by decide, by decide, by decide, by decide, by decide, by decide, by decide⟩
theorem pass1 : passV s1B = .tuple #[.string ⟨(passL s1B).toArray⟩, .int .i64 0] := by
  have e : passE s1B = 0 := by decide +kernel
  unfold passV
  rw [if_pos e]
theorem pass1_l : passL s1B = [69, 0, 0, 22, 0, 0, 0, 0, 63, 17, 123, 213, 0, 0, 0, 1, 0, 0, 0, 2, 97, 98] := by decide +kernel
theorem pass2 : passV s2B = .tuple #[.string ⟨#[]⟩, .int .i64 9] := by
  have e : passE s2B = 9 := by decide +kernel
  unfold passV
  rw [e]
  rfl
theorem dec21 : decV (s1B.extract 0 21) = .tuple #[hd0V, .string ⟨#[]⟩, .int .i64 10] := by
  have e : decE (s1B.extract 0 21) = 10 := by decide +kernel
  unfold decV
  rw [e]
  rfl

end Go.Proofs.Ytekljiakofmhnaa
