/- The walk of the law AddrOrder, over the loaded program: true; no memory that was there has turned. Condition: Env. -/
import Derived.Test.YtnglkadfnacmcaaDoorOo
namespace Go.Proofs.YtnglkadfnacmcaaDoor
open Go.RowKit

theorem cmpN {a p b q a' p' b' q' : Nat} {r : Int} (ha : a < 4294967296) (hp : p < 65536) (hb : b < 4294967296) (hq : q < 65536) (ha' : a' < 4294967296) (hp' : p' < 65536) (hb' : b' < 4294967296) (hq' : q' < 65536)
    (h : Lib.compareBytes (ptx a p b q).data.toList (ptx a' p' b' q').data.toList = r) (w : World) :
    Calls Tryd.prog 23 #[.agg #[.int .u32 (a : Int), .int .u16 (p : Int), .int .u32 (b : Int), .int .u16 (q : Int)], .agg #[.int .u32 (a' : Int), .int .u16 (p' : Int), .int .u32 (b' : Int), .int .u16 (q' : Int)]] w fun e w' => e = .returned (.int .i64 r) ∧ Below w.heap.size w w' := by
  have := compare_any a p b q a' p' b' q' w ha hp hb hq ha' hp' hb' hq'
  rw [h] at this
  exact this

theorem addrOrder_walk (v : Value) (a p b q : Nat) (v' : Value) (a' p' b' q' : Nat) (v'' : Value) (a'' p'' b'' q'' : Nat) (w : World) (hv : IsPair v a p b q) (hv' : IsPair v' a' p' b' q') (hv'' : IsPair v'' a'' p'' b'' q'') (E : Env w) :
    Calls Tryd.prog 7 #[v, v', v''] w fun e w' => e = .returned (.bool true) ∧ Below w.heap.size w w' := by
  obtain ⟨rfl, ha, hp, hb, hq⟩ := hv
  obtain ⟨rfl, ha', hp', hb', hq'⟩ := hv'
  obtain ⟨rfl, ha'', hp'', hb'', hq''⟩ := hv''
  have hXY := ptx_eqP ha hp hb hq ha' hp' hb' hq'
  have hneg := cmp_neg (ptx a p b q).data.toList (ptx a' p' b' q').data.toList
  have hzero := cmp_zero (ptx a p b q).data.toList (ptx a' p' b' q').data.toList
  have htr := cmp_trans (ptx a p b q).data.toList (ptx a' p' b' q').data.toList (ptx a'' p'' b'' q'').data.toList
  have B1 := fun w => bytes_any a p b q w ha hp hb hq
  have B2 := fun w => bytes_any a' p' b' q' w ha' hp' hb' hq'
  have B3 := fun w => bytes_any b q a p w hb hq ha hp
  have C6 := fun w => compare_any a' p' b' q' a'' p'' b'' q'' w ha' hp' hb' hq' ha'' hp'' hb'' hq''
  have C7 := fun w => compare_any a p b q a'' p'' b'' q'' w ha hp hb hq ha'' hp'' hb'' hq''
  have e2 : eqP a p b q a' p' b' q' = true ↔ Lib.compareBytes (ptx a p b q).data.toList (ptx a' p' b' q').data.toList = 0 := by
    rw [hzero]
    unfold eqP
    rw [decide_eq_true_iff]
    constructor
    · rintro ⟨rfl, rfl, rfl, rfl⟩; rfl
    · exact ptx_inj ha hp hb hq ha' hp' hb' hq'
  rcases cmp_rng (ptx a p b q).data.toList (ptx a' p' b' q').data.toList with h | h | h
  · have hf : eqP a p b q a' p' b' q' = false := by
      apply Bool.eq_false_iff.2
      intro e
      have := e2.1 e
      omega
    rw [hf] at hXY
    rw [h] at hneg htr
    by_cases hbc : 0 < Lib.compareBytes (ptx a' p' b' q').data.toList (ptx a'' p'' b'' q'').data.toList
    · exact order_nt a p b q a' p' b' q' a'' p'' b'' q'' _ _ _ _ _ _ _ _ _ w E (eqP_self a p b q) (eqP_turn a p b q) rfl hf hXY (ptx_size a p b q) (ext1 a p b q) (ext2 a p b q) (ext3 a p b q) (ext4 a p b q) rfl rfl rfl rfl (ptx_cat b q a p) hbc B1 B2 B3 (cmpN ha hp hb hq ha' hp' hb' hq' h) (cmpN ha' hp' hb' hq' ha hp hb hq hneg) C6
    · exact order_nf a p b q a' p' b' q' a'' p'' b'' q'' _ _ _ _ _ _ _ _ _ _ w E (eqP_self a p b q) (eqP_turn a p b q) rfl hf hXY (ptx_size a p b q) (ext1 a p b q) (ext2 a p b q) (ext3 a p b q) (ext4 a p b q) rfl rfl rfl rfl (ptx_cat b q a p) (by omega) (htr (by omega) (by omega)) B1 B2 B3 (cmpN ha hp hb hq ha' hp' hb' hq' h) (cmpN ha' hp' hb' hq' ha hp hb hq hneg) C6 C7
  · have hf : eqP a p b q a' p' b' q' = true := e2.2 h
    rw [hf] at hXY
    rw [h] at hneg htr
    by_cases hbc : 0 < Lib.compareBytes (ptx a' p' b' q').data.toList (ptx a'' p'' b'' q'').data.toList
    · exact order_zt a p b q a' p' b' q' a'' p'' b'' q'' _ _ _ _ _ _ _ _ _ w E (eqP_self a p b q) (eqP_turn a p b q) rfl hf hXY (ptx_size a p b q) (ext1 a p b q) (ext2 a p b q) (ext3 a p b q) (ext4 a p b q) rfl rfl rfl rfl (ptx_cat b q a p) hbc B1 B2 B3 (cmpN ha hp hb hq ha' hp' hb' hq' h) (cmpN ha' hp' hb' hq' ha hp hb hq hneg) C6
    · exact order_zf a p b q a' p' b' q' a'' p'' b'' q'' _ _ _ _ _ _ _ _ _ _ w E (eqP_self a p b q) (eqP_turn a p b q) rfl hf hXY (ptx_size a p b q) (ext1 a p b q) (ext2 a p b q) (ext3 a p b q) (ext4 a p b q) rfl rfl rfl rfl (ptx_cat b q a p) (by omega) (htr (by omega) (by omega)) B1 B2 B3 (cmpN ha hp hb hq ha' hp' hb' hq' h) (cmpN ha' hp' hb' hq' ha hp hb hq hneg) C6 C7
  · have hf : eqP a p b q a' p' b' q' = false := by
      apply Bool.eq_false_iff.2
      intro e
      have := e2.1 e
      omega
    rw [hf] at hXY
    rw [h] at hneg
    exact order_p a p b q a' p' b' q' a'' p'' b'' q'' _ _ _ _ _ _ _ _ w E (eqP_self a p b q) (eqP_turn a p b q) rfl hf hXY (ptx_size a p b q) (ext1 a p b q) (ext2 a p b q) (ext3 a p b q) (ext4 a p b q) rfl rfl rfl rfl (ptx_cat b q a p) B1 B2 B3 (cmpN ha hp hb hq ha' hp' hb' hq' h) (cmpN ha' hp' hb' hq' ha hp hb hq hneg)

end Go.Proofs.YtnglkadfnacmcaaDoor
