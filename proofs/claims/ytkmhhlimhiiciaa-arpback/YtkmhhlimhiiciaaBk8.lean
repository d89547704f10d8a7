/- Plain facts on a packet's bytes: what is written is read, whatever stands behind; what is read is written; unlike ones are unlike. No conditions but those that each line bears. -/
import Derived.Test.YtkmhhlimhiiciaaLw8a
namespace Go.Proofs.Ytkmhhlimhiiciaa
open Go.RowKit

theorem cat_list (a b : ByteArray) : (a ++ b).data.toList = a.data.toList ++ b.data.toList := by rw [ByteArray.data_append]; simp
theorem by6_list (x : Nat) : (by6 x).data.toList = ofB x 6 := rfl
theorem by4_list (x : Nat) : (by4 x).data.toList = ofB x 4 := rfl
theorem by2_list (x : Nat) : (by2 x).data.toList = ofB x 2 := rfl
theorem hd_list : hd.data.toList = [0, 1, 8, 0, 6, 4] := rfl
theorem enc_list (o f i t j : Nat) (s : ByteArray) : (encB o f i t j ++ s).data.toList = [0, 1, 8, 0, 6, 4] ++ (ofB o 2 ++ (ofB f 6 ++ (ofB i 4 ++ (ofB t 6 ++ (ofB j 4 ++ s.data.toList))))) := by
  unfold encB
  simp only [cat_list, by6_list, by4_list, by2_list, hd_list, List.append_assoc]
theorem enc_size (o f i t j : Nat) : (encB o f i t j).size = 28 := by
  unfold encB
  simp only [ByteArray.size_append, by6_size, by4_size, by2_size]
  rfl
theorem fld_list {s : ByteArray} (a b c : List UInt8) {k n : Nat} (h : s.data.toList = a ++ (b ++ c)) (hk : a.length = k) (hn : b.length = n) : fld s k n = b := by
  subst hk hn
  unfold fld
  rw [h]
  simp
theorem isHd_fld (s : ByteArray) : isHd s = (fld s 0 6 == [0, 1, 8, 0, 6, 4]) := by
  unfold isHd
  have := extract_fld s 0 6
  rw [Nat.zero_add] at this
  rw [this, Lib.toList_data]
theorem enc_dec {o f i t j : Nat} (s : ByteArray) (ho : kn o = true) (ho2 : o < 65536) (hf : f < 281474976710656) (hi : i < 4294967296) (ht : t < 281474976710656) (hj : j < 4294967296) : DecIs (encB o f i t j ++ s) o f i t j 0 := by
  have hz : (encB o f i t j ++ s).size = 28 + s.size := by rw [ByteArray.size_append, enc_size]
  have e := enc_list o f i t j s
  have e0 : fld (encB o f i t j ++ s) 0 6 = [0, 1, 8, 0, 6, 4] := fld_list [] _ _ (by rw [e]; rfl) rfl rfl
  have e1 : fld (encB o f i t j ++ s) 6 2 = ofB o 2 := fld_list [0, 1, 8, 0, 6, 4] _ _ e rfl (ofB_length _ _)
  have e2 : fld (encB o f i t j ++ s) 8 6 = ofB f 6 := fld_list ([0, 1, 8, 0, 6, 4] ++ ofB o 2) _ (ofB i 4 ++ (ofB t 6 ++ (ofB j 4 ++ s.data.toList))) (e.trans (by simp only [List.append_assoc])) (by simp [ofB_length]) (ofB_length _ _)
  have e3 : fld (encB o f i t j ++ s) 14 4 = ofB i 4 := fld_list ([0, 1, 8, 0, 6, 4] ++ (ofB o 2 ++ ofB f 6)) _ (ofB t 6 ++ (ofB j 4 ++ s.data.toList)) (e.trans (by simp only [List.append_assoc])) (by simp [ofB_length]) (ofB_length _ _)
  have e4 : fld (encB o f i t j ++ s) 18 6 = ofB t 6 := fld_list ([0, 1, 8, 0, 6, 4] ++ (ofB o 2 ++ (ofB f 6 ++ ofB i 4))) _ (ofB j 4 ++ s.data.toList) (e.trans (by simp only [List.append_assoc])) (by simp [ofB_length]) (ofB_length _ _)
  have e5 : fld (encB o f i t j ++ s) 24 4 = ofB j 4 := fld_list ([0, 1, 8, 0, 6, 4] ++ (ofB o 2 ++ (ofB f 6 ++ (ofB i 4 ++ ofB t 6)))) _ s.data.toList (e.trans (by simp only [List.append_assoc])) (by simp [ofB_length]) (ofB_length _ _)
  have n1 : num (ofB o 2) = o := by rw [num_ofB]; exact Nat.mod_eq_of_lt ho2
  have n2 : num (ofB f 6) = f := by rw [num_ofB]; exact Nat.mod_eq_of_lt hf
  have n3 : num (ofB i 4) = i := by rw [num_ofB]; exact Nat.mod_eq_of_lt hi
  have n4 : num (ofB t 6) = t := by rw [num_ofB]; exact Nat.mod_eq_of_lt ht
  have n5 : num (ofB j 4) = j := by rw [num_ofB]; exact Nat.mod_eq_of_lt hj
  refine .inr (.inr (.inr ⟨⟨by omega, by rw [isHd_fld, e0]; rfl, by rw [e1, n1]; exact ho⟩, ?_, ?_, ?_, ?_, ?_, rfl⟩))
  · rw [e1, n1]
  · rw [e2, n2]
  · rw [e3, n3]
  · rw [e4, n4]
  · rw [e5, n5]
theorem ofB_num : ∀ l : List UInt8, ofB (num l) l.length = l
  | [] => rfl
  | c :: l => by
    rw [List.length_cons, ofB]
    have hl := num_lt l
    have hc := c.toNat_lt
    have hn := num_cons c l
    congr 1
    · apply UInt8.toNat_inj.1
      rw [byt_toNat, hn, Nat.add_comm, Nat.add_mul_div_right _ _ (Nat.pos_of_ne_zero (by omega)), Nat.div_eq_of_lt hl]
      omega
    · have : ∀ (n x y : Nat), x % 256 ^ n = y % 256 ^ n → ofB x n = ofB y n := by
        intro n
        induction n with
        | zero => intros; rfl
        | succ n ih =>
          intro x y h
          rw [ofB, ofB]
          congr 1
          · apply UInt8.toNat_inj.1
            rw [byt_toNat, byt_toNat]
            rw [Nat.pow_succ] at h
            have e1 := Nat.mod_mul (x := x) (a := 256 ^ n) (b := 256)
            have e2 := Nat.mod_mul (x := y) (a := 256 ^ n) (b := 256)
            have hp : 0 < 256 ^ n := Nat.pow_pos (by omega)
            have : x / 256 ^ n % 256 = (x % (256 ^ n * 256)) / 256 ^ n := by
              rw [e1, Nat.add_mul_div_left _ _ hp, Nat.div_eq_of_lt (Nat.mod_lt _ hp)]; omega
            have h2 : y / 256 ^ n % 256 = (y % (256 ^ n * 256)) / 256 ^ n := by
              rw [e2, Nat.add_mul_div_left _ _ hp, Nat.div_eq_of_lt (Nat.mod_lt _ hp)]; omega
            rw [this, h2, h]
          · apply ih
            rw [Nat.pow_succ] at h
            have e1 : x % 256 ^ n = (x % (256 ^ n * 256)) % 256 ^ n := (Nat.mod_mul_right_mod x (256 ^ n) 256).symm
            have e2 : y % 256 ^ n = (y % (256 ^ n * 256)) % 256 ^ n := (Nat.mod_mul_right_mod y (256 ^ n) 256).symm
            rw [e1, e2, h]
      have e : ofB (num (c :: l)) l.length = ofB (num l) l.length := this _ _ _ (by rw [hn, Nat.add_comm, Nat.add_mul_mod_self_right])
      rw [e, ofB_num l]
theorem drop_fld (s : ByteArray) (k n : Nat) : s.data.toList.drop k = fld s k n ++ s.data.toList.drop (k + n) := by
  unfold fld
  rw [← List.drop_drop]
  exact (List.take_append_drop n _).symm
theorem dec_enc (s : ByteArray) (h : 28 ≤ s.size) (hh : isHd s = true) : encB (num (fld s 6 2)) (num (fld s 8 6)) (num (fld s 14 4)) (num (fld s 18 6)) (num (fld s 24 4)) = s.extract 0 28 := by
  have e1 := ofB_num (fld s 6 2)
  have e2 := ofB_num (fld s 8 6)
  have e3 := ofB_num (fld s 14 4)
  have e4 := ofB_num (fld s 18 6)
  have e5 := ofB_num (fld s 24 4)
  rw [fld_length (by omega)] at e1 e2 e3 e4 e5
  have e0 : fld s 0 6 = [0, 1, 8, 0, 6, 4] := by rw [isHd_fld] at hh; exact eq_of_beq hh
  have hl := enc_list (num (fld s 6 2)) (num (fld s 8 6)) (num (fld s 14 4)) (num (fld s 18 6)) (num (fld s 24 4)) ⟨(s.data.toList.drop 28).toArray⟩
  rw [e1, e2, e3, e4, e5, ← e0] at hl
  have p0 := drop_fld s 0 6
  have p1 := drop_fld s 6 2
  have p2 := drop_fld s 8 6
  have p3 := drop_fld s 14 4
  have p4 := drop_fld s 18 6
  have p5 := drop_fld s 24 4
  have hs : fld s 0 6 ++ (fld s 6 2 ++ (fld s 8 6 ++ (fld s 14 4 ++ (fld s 18 6 ++ (fld s 24 4 ++ (s.data.toList.drop 28)))))) = s.data.toList := by
    rw [← p5, ← p4, ← p3, ← p2, ← p1, ← p0, List.drop_zero]
  rw [hs] at hl
  have hz := enc_size (num (fld s 6 2)) (num (fld s 8 6)) (num (fld s 14 4)) (num (fld s 18 6)) (num (fld s 24 4))
  rw [cat_list] at hl
  apply ByteArray.ext
  apply Array.toList_inj.1
  rw [Lib.extract_eq, ← hl, List.drop_zero, Nat.sub_zero]
  rw [List.take_left' (by rw [← Lib.size_eq]; exact hz)]
theorem dec_encIs {s : ByteArray} {O F I T J : Nat} (h : DecIs s O F I T J 0) : EncIs O F I T J (s.extract 0 28) 0 ∧ 28 ≤ s.size ∧ O < 65536 ∧ F < 281474976710656 ∧ I < 4294967296 ∧ T < 281474976710656 ∧ J < 4294967296 := by
  rcases h with ⟨_, _, _, _, _, _, h⟩ | ⟨_, _, _, _, _, _, h⟩ | ⟨_, _, _, _, _, _, h⟩ | ⟨⟨h1, h2, h3⟩, rfl, rfl, rfl, rfl, rfl, _⟩
  · cases h
  · cases h
  · cases h
  · have f0 := fld_lt s 6 2
    have f1 := fld_lt s 8 6
    have f2 := fld_lt s 14 4
    have f3 := fld_lt s 18 6
    have f4 := fld_lt s 24 4
    exact ⟨.inr ⟨⟨h3, f1, f3⟩, (dec_enc s h1 h2).symm, rfl⟩, h1, f0, f1, f2, f3, f4⟩
theorem enc_alike {o f i t j o' f' i' t' j' : Nat} (ho : kn o = true) (ho2 : o < 65536) (hf : f < 281474976710656) (hi : i < 4294967296) (ht : t < 281474976710656) (hj : j < 4294967296)
    (go : kn o' = true) (go2 : o' < 65536) (gf : f' < 281474976710656) (gi : i' < 4294967296) (gt : t' < 281474976710656) (gj : j' < 4294967296) :
    ((encB o f i t j).toList == (encB o' f' i' t' j').toList) = eqA o f i t j o' f' i' t' j' := by
  rw [Bool.eq_iff_iff]
  unfold eqA
  rw [decide_eq_true_iff, beq_iff_eq]
  constructor
  · intro h
    have e : encB o f i t j = encB o' f' i' t' j' := by
      rw [Lib.toList_data, Lib.toList_data] at h
      apply ByteArray.ext
      exact Array.toList_inj.1 h
    have d1 := enc_dec ⟨#[]⟩ ho ho2 hf hi ht hj
    have d2 := enc_dec ⟨#[]⟩ go go2 gf gi gt gj
    rw [e] at d1
    rcases d1 with ⟨_, _, _, _, _, _, h⟩ | ⟨_, _, _, _, _, _, h⟩ | ⟨_, _, _, _, _, _, h⟩ | ⟨_, a0, a1, a2, a3, a4, _⟩
    · cases h
    · cases h
    · cases h
    · rcases d2 with ⟨_, _, _, _, _, _, h⟩ | ⟨_, _, _, _, _, _, h⟩ | ⟨_, _, _, _, _, _, h⟩ | ⟨_, b0, b1, b2, b3, b4, _⟩
      · cases h
      · cases h
      · cases h
      · exact ⟨a0.trans b0.symm, a1.trans b1.symm, a2.trans b2.symm, a3.trans b3.symm, a4.trans b4.symm⟩
  · rintro ⟨rfl, rfl, rfl, rfl, rfl⟩
    rfl

end Go.Proofs.Ytkmhhlimhiiciaa
