/- Plain facts on a frame's bytes: what is written is read, what is read is written. No conditions but those that each line bears. -/
import Derived.Test.YtdgjoconppmihaaLw7a
namespace Go.Proofs.Ytdgjoconppmihaa
open Go.RowKit

theorem cat_list (a b : ByteArray) : (a ++ b).data.toList = a.data.toList ++ b.data.toList := by rw [ByteArray.data_append]; simp
theorem zs_list (n : Nat) : (zs n).data.toList = List.replicate n 0 := by unfold zs; simp
theorem by6_list (x : Nat) : (by6 x).data.toList = ofB x 6 := rfl
theorem by2_list (x : Nat) : (by2 x).data.toList = ofB x 2 := rfl
theorem enc_list (t f k : Nat) (d : ByteArray) : (encB t f k d).data.toList = ofB t 6 ++ (ofB f 6 ++ (ofB k 2 ++ (d.data.toList ++ List.replicate (60 - (14 + d.size)) 0))) := by
  unfold encB
  rw [cat_list, cat_list, cat_list, cat_list, by6_list, by6_list, by2_list, zs_list]
  simp only [List.append_assoc]
theorem enc_size (t f k : Nat) (d : ByteArray) : (encB t f k d).size = 14 + d.size + (60 - (14 + d.size)) := by
  rw [Lib.size_eq, enc_list]
  simp only [List.length_append, ofB_length, List.length_replicate, ← Lib.size_eq]
  omega
theorem fld_list {s : ByteArray} {a b c : List UInt8} (h : s.data.toList = a ++ (b ++ c)) : fld s a.length b.length = b := by
  unfold fld
  rw [h]
  simp
theorem rest_list {s : ByteArray} {a b : List UInt8} (h : s.data.toList = a ++ b) : s.extract a.length s.size = ⟨b.toArray⟩ := by
  apply ByteArray.ext
  rw [Lib.extract_eq, h]
  simp only [List.drop_left]
  rw [List.take_of_length_le]
  have := Lib.size_eq s
  rw [h, List.length_append] at this
  omega
theorem enc_to (t f k : Nat) (d : ByteArray) (h : t < 281474976710656) : num (fld (encB t f k d) 0 6) = t := by
  have e := fld_list (s := encB t f k d) (a := []) (b := ofB t 6) (c := ofB f 6 ++ (ofB k 2 ++ (d.data.toList ++ List.replicate (60 - (14 + d.size)) 0))) (by rw [enc_list]; rfl)
  rw [ofB_length] at e
  have e' : fld (encB t f k d) 0 6 = ofB t 6 := e
  rw [e', num_ofB]
  exact Nat.mod_eq_of_lt h
theorem enc_from (t f k : Nat) (d : ByteArray) (h : f < 281474976710656) : num (fld (encB t f k d) 6 6) = f := by
  have e := fld_list (s := encB t f k d) (a := ofB t 6) (b := ofB f 6) (c := ofB k 2 ++ (d.data.toList ++ List.replicate (60 - (14 + d.size)) 0)) (enc_list t f k d)
  rw [ofB_length, ofB_length] at e
  rw [e, num_ofB]
  exact Nat.mod_eq_of_lt h
theorem enc_kind (t f k : Nat) (d : ByteArray) (h : k < 65536) : num (fld (encB t f k d) 12 2) = k := by
  have e := fld_list (s := encB t f k d) (a := ofB t 6 ++ ofB f 6) (b := ofB k 2) (c := d.data.toList ++ List.replicate (60 - (14 + d.size)) 0) (by rw [enc_list]; simp)
  rw [List.length_append, ofB_length, ofB_length, ofB_length] at e
  rw [e, num_ofB]
  exact Nat.mod_eq_of_lt h
theorem enc_rest (t f k : Nat) (d : ByteArray) : (encB t f k d).extract 14 (encB t f k d).size = d ++ zs (60 - (14 + d.size)) := by
  have e := rest_list (s := encB t f k d) (a := ofB t 6 ++ (ofB f 6 ++ ofB k 2)) (b := d.data.toList ++ List.replicate (60 - (14 + d.size)) 0) (by rw [enc_list]; simp)
  rw [List.length_append, List.length_append, ofB_length, ofB_length, ofB_length] at e
  rw [e]
  apply ByteArray.ext
  rw [ByteArray.data_append]
  unfold zs
  apply Array.toList_inj.1
  simp
theorem enc_dec {t f k : Nat} {d : ByteArray} (ht : t < 281474976710656) (hf : f < 281474976710656) (hk : k < 65536) (hg : grp f = false) (hd : d.size ≤ 65535) : DecIs (encB t f k d) t f k (d ++ zs (60 - (14 + d.size))) 0 := by
  have hz := enc_size t f k d
  refine .inr (.inr (.inr ⟨⟨by omega, by omega, by rw [enc_from t f k d hf]; exact hg⟩, (enc_to t f k d ht).symm, (enc_from t f k d hf).symm, (enc_kind t f k d hk).symm, (enc_rest t f k d).symm, rfl⟩))
theorem pre_cat (d z : ByteArray) : (d ++ z).extract 0 d.size = d := by
  apply ByteArray.ext
  rw [Lib.extract_eq]
  apply Array.toList_inj.1
  rw [cat_list, List.drop_zero, Nat.sub_zero, Lib.size_eq d, List.take_left]
theorem suf_cat (d z : ByteArray) : (d ++ z).extract d.size (d ++ z).size = z := by
  have e := rest_list (s := d ++ z) (a := d.data.toList) (b := z.data.toList) (cat_list d z)
  rw [← Lib.size_eq] at e
  rw [e]
theorem ofB_num : ∀ l : List UInt8, ofB (num l) l.length = l
  | [] => rfl
  | c :: l => by
    rw [List.length_cons, ofB]
    have hl := num_lt l
    have hc := c.toNat_lt
    have hn := num_cons c l
    congr 1
    · apply UInt8.toNat_inj.1
      rw [byt_toNat, hn, Nat.add_comm, Nat.add_mul_div_right _ _ (Nat.pos_of_ne_zero (by omega)), Nat.div_eq_of_lt hl]
      omega
    · have : ∀ (n x y : Nat), x % 256 ^ n = y % 256 ^ n → ofB x n = ofB y n := by
        intro n
        induction n with
        | zero => intros; rfl
        | succ n ih =>
          intro x y h
          rw [ofB, ofB]
          congr 1
          · apply UInt8.toNat_inj.1
            rw [byt_toNat, byt_toNat]
            rw [Nat.pow_succ] at h
            have e1 := Nat.mod_mul (x := x) (a := 256 ^ n) (b := 256)
            have e2 := Nat.mod_mul (x := y) (a := 256 ^ n) (b := 256)
            have hp : 0 < 256 ^ n := Nat.pow_pos (by omega)
            have : x / 256 ^ n % 256 = (x % (256 ^ n * 256)) / 256 ^ n := by
              rw [e1, Nat.add_mul_div_left _ _ hp, Nat.div_eq_of_lt (Nat.mod_lt _ hp)]; omega
            have h2 : y / 256 ^ n % 256 = (y % (256 ^ n * 256)) / 256 ^ n := by
              rw [e2, Nat.add_mul_div_left _ _ hp, Nat.div_eq_of_lt (Nat.mod_lt _ hp)]; omega
            rw [this, h2, h]
          · apply ih
            rw [Nat.pow_succ] at h
            have e1 : x % 256 ^ n = (x % (256 ^ n * 256)) % 256 ^ n := (Nat.mod_mul_right_mod x (256 ^ n) 256).symm
            have e2 : y % 256 ^ n = (y % (256 ^ n * 256)) % 256 ^ n := (Nat.mod_mul_right_mod y (256 ^ n) 256).symm
            rw [e1, e2, h]
      have e : ofB (num (c :: l)) l.length = ofB (num l) l.length := this _ _ _ (by rw [hn, Nat.add_comm, Nat.add_mul_mod_self_right])
      rw [e, ofB_num l]
theorem dec_enc (s : ByteArray) (h : 60 ≤ s.size) : encB (num (fld s 0 6)) (num (fld s 6 6)) (num (fld s 12 2)) (s.extract 14 s.size) = s := by
  have hz : (s.extract 14 s.size).size = s.size - 14 := by rw [ByteArray.size_extract]; omega
  have e0 := ofB_num (fld s 0 6)
  have e1 := ofB_num (fld s 6 6)
  have e2 := ofB_num (fld s 12 2)
  rw [fld_length (by omega)] at e0 e1 e2
  apply ByteArray.ext
  apply Array.toList_inj.1
  rw [enc_list, e0, e1, e2, hz, show 60 - (14 + (s.size - 14)) = 0 from by omega, List.replicate_zero, List.append_nil, Lib.extract_eq]
  have hl := Lib.size_eq s
  unfold fld
  rw [List.take_of_length_le (l := s.data.toList.drop 14) (by rw [List.length_drop]; omega)]
  have p1 : s.data.toList = s.data.toList.take 6 ++ s.data.toList.drop 6 := (List.take_append_drop 6 _).symm
  have p2 : s.data.toList.drop 6 = (s.data.toList.drop 6).take 6 ++ s.data.toList.drop 12 := by rw [show (12 : Nat) = 6 + 6 from rfl, ← List.drop_drop]; exact (List.take_append_drop 6 _).symm
  have p3 : s.data.toList.drop 12 = (s.data.toList.drop 12).take 2 ++ s.data.toList.drop 14 := by rw [show (14 : Nat) = 12 + 2 from rfl, ← List.drop_drop]; exact (List.take_append_drop 2 _).symm
  rw [List.drop_zero, ← p3, ← p2, ← p1]

end Go.Proofs.Ytdgjoconppmihaa
