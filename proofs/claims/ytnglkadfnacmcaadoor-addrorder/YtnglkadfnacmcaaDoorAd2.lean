/- The contracts of package addr's Text, number and Parse, over the loaded program; no memory that was there has turned. Conditions: Env, numbers in their kinds' bounds, texts of bounded length. -/
import Derived.Test.YtnglkadfnacmcaaDoorAd0
import Derived.Test.YtnglkadfnacmcaaDoorAd1
import Derived.Test.YtnglkadfnacmcaaDoorAdM
namespace Go.Proofs.YtnglkadfnacmcaaDoor
open Go.RowKit

/-- four cells in a block of the call's own, that may be written -/
structure Row4 (base : World) (b : Nat) (f : Nat → Value) (w : World) : Prop where
  bel : Below base.heap.size base w
  ge : base.heap.size ≤ b
  lt : b < w.heap.size
  cell : ∀ j, j < 4 → w.cell? ⟨b, j, none⟩ = some (f j)
  free : ∀ j, j < 4 → w.frozen? ⟨b, j, none⟩ = false
theorem Row4.on {base w w' : World} {b : Nat} {f : Nat → Value} (k : Row4 base b f w) (h : Below w.heap.size w w') : Row4 base b f w' :=
  ⟨tr2 k.bel h, k.ge, Nat.lt_of_lt_of_le k.lt h.size, fun j hj => (h.cell k.lt).trans (k.cell j hj), fun j hj => (h.frozen k.lt).trans (k.free j hj)⟩
theorem Row4.set {base w : World} {b : Nat} {f : Nat → Value} (k : Row4 base b f w) (i : Nat) (hi : i < 4) (v : Value) (g : Nat → Value) (hg : ∀ j, j < 4 → g j = if j = i then v else f j) : Row4 base b g (w.setCell ⟨b, i, none⟩ v) := by
  refine ⟨k.bel.setCell k.ge _, k.ge, by simpa using k.lt, fun j hj => ?_, fun j hj => by rw [World.frozen?_setCell]; exact k.free j hj⟩
  rw [hg j hj]
  by_cases e : j = i
  · subst e
    rw [if_pos rfl]
    exact World.cell?_setCell_same _ _ _ (k.cell j hj)
  · have hne : (⟨b, i, none⟩ : Addr) ≠ ⟨b, j, none⟩ := fun x => e (by simpa using (congrArg Addr.off x).symm)
    rw [if_neg e]
    exact (World.cell?_setCell_other _ _ _ _ hne).trans (k.cell j hj)
theorem Row4.start (w : World) (c0 c1 c2 c3 : Value) (t : TypeId) : Row4 w w.heap.size (fun j => if j = 0 then c0 else if j = 1 then c1 else if j = 2 then c2 else c3) (w.alloc (.cells #[c0, c1, c2, c3] t)) := by
  refine ⟨below_one _ _, Nat.le_refl _, by simp, fun j hj => ?_, fun j _ => ?_⟩
  · rw [cell_of_row _ _ j _ _ _ (heap_alloc_new w _)]
    rcases (by omega : j = 0 ∨ j = 1 ∨ j = 2 ∨ j = 3) with rfl | rfl | rfl | rfl <;> rfl
  · unfold World.frozen?
    rw [heap_alloc_new]
    simp

/-- the strings that stand in the array behind k rounds -/
def dstr (a b c d : Nat) (k j : Nat) : Value := if j < k then (if j = 0 then .string (dig a) else if j = 1 then .string (dig b) else if j = 2 then .string (dig c) else .string (dig d)) else .string ⟨#[]⟩
theorem byt_div3 (x : Nat) (h : x < 4294967296) : (byt x 3).toNat = x / 16777216 := by rw [byt_toNat]; omega
theorem byt_div2 (x : Nat) : (byt x 2).toNat = x / 65536 % 256 := by rw [byt_toNat]
theorem byt_div1 (x : Nat) : (byt x 1).toNat = x / 256 % 256 := by rw [byt_toNat]
theorem byt_div0 (x : Nat) : (byt x 0).toNat = x % 256 := by rw [byt_toNat]; omega
theorem dig_list (n : Nat) (h : n < 256) : (dig n).data.toList = dl n := by unfold dig; rw [← dl_eq n h]
theorem join_dig {a b c d : Nat} (ha : a < 256) (hb : b < 256) (hc : c < 256) (hd : d < 256) : Lib.join ([dig a, dig b, dig c, dig d].map (·.data.toList)) [46] = txt a b c d := by
  show Lib.join [(dig a).data.toList, (dig b).data.toList, (dig c).data.toList, (dig d).data.toList] [46] = _
  rw [dig_list a ha, dig_list b hb, dig_list c hc, dig_list d hd, join4]
  rfl

set_option maxHeartbeats 2000000 in
theorem text_any (x : Nat) (w : World) (hx : x < 4294967296) (E : Env w) :
    Calls Tryd.prog 11 #[.int .u32 (x : Int)] w fun e w' => e = .returned (.string ⟨(txtI x).toArray⟩) ∧ Below w.heap.size w w' := by
  have HS := hide (fun w => aspread_any x w hx)
  unfold B at HS
  rw [byt_div3 x hx, byt_div2, byt_div1, byt_div0] at HS
  unfold txtI
  have ha : x / 16777216 < 256 := by omega
  have hb : x / 65536 % 256 < 256 := by omega
  have hc : x / 256 % 256 < 256 := by omega
  have hd : x % 256 < 256 := by omega
  generalize x / 16777216 = a at *
  generalize x / 65536 % 256 = b at *
  generalize x / 256 % 256 = c at *
  generalize x % 256 = d at *
  have K0 : Hid (Row4 w w.heap.size (dstr a b c d 0) (w.alloc (.cells #[.string ⟨#[]⟩, .string ⟨#[]⟩, .string ⟨#[]⟩, .string ⟨#[]⟩] 53))) := by
    have := Row4.start w (.string ⟨#[]⟩) (.string ⟨#[]⟩) (.string ⟨#[]⟩) (.string ⟨#[]⟩) 53
    refine ⟨this.bel, this.ge, this.lt, fun j hj => (this.cell j hj).trans ?_, this.free⟩
    unfold dstr
    simp
  have HJ : Hid (∀ w', Row4 w w.heap.size (dstr a b c d 4) w' → Calls Tryd.prog 30 #[.slice (some ⟨w.heap.size, 0, none⟩) 4 4, .string ⟨#[46]⟩] w' fun e w'' => e = .returned (.string ⟨(txt a b c d).toArray⟩) ∧ Below w'.heap.size w' w'') := fun w' k => by
    have := join_any w.heap.size 4 [dig a, dig b, dig c, dig d] w' (fun j y hy => by
      have hj : j < 4 := by
        have := (List.getElem?_eq_some_iff.1 hy).1
        simpa using this
      rw [Nat.zero_add, k.cell j hj]
      rcases (by omega : j = 0 ∨ j = 1 ∨ j = 2 ∨ j = 3) with rfl | rfl | rfl | rfl <;> (simp at hy; subst hy; rfl)) k.lt (by simp) (by simp) (by rw [join_dig ha hb hc hd]; have := (txt_len a b c d).2; omega)
    rw [join_dig ha hb hc hd] at this
    exact this
  have H0 := hide (fun w E => itoa_any a ha w E)
  have i0 : ∀ w, (Instr.index 48 (.agg #[.int .u8 (a : Int), .int .u8 (b : Int), .int .u8 (c : Int), .int .u8 (d : Int)]) (.int .i64 0)).run Tryd.prog w = .ok (.int .u8 (a : Int)) w := fun _ => by kernel_rfl
  have H1 := hide (fun w E => itoa_any b hb w E)
  have i1 : ∀ w, (Instr.index 48 (.agg #[.int .u8 (a : Int), .int .u8 (b : Int), .int .u8 (c : Int), .int .u8 (d : Int)]) (.int .i64 1)).run Tryd.prog w = .ok (.int .u8 (b : Int)) w := fun _ => by kernel_rfl
  have H2 := hide (fun w E => itoa_any c hc w E)
  have i2 : ∀ w, (Instr.index 48 (.agg #[.int .u8 (a : Int), .int .u8 (b : Int), .int .u8 (c : Int), .int .u8 (d : Int)]) (.int .i64 2)).run Tryd.prog w = .ok (.int .u8 (c : Int)) w := fun _ => by kernel_rfl
  have H3 := hide (fun w E => itoa_any d hd w E)
  have i3 : ∀ w, (Instr.index 48 (.agg #[.int .u8 (a : Int), .int .u8 (b : Int), .int .u8 (c : Int), .int .u8 (d : Int)]) (.int .i64 3)).run Tryd.prog w = .ok (.int .u8 (d : Int)) w := fun _ => by kernel_rfl
  clear hx
  go_enter Tryd.func11, Tryd.ntmps11
  go_wp2_with fail
  refine (unhide HS _).mono ?_
  rintro e w1 ⟨rfl, b1⟩
  have k1 := (unhide K0).on b1
  have E1 : Env w1 := E.on k1.bel
  clear b1 K0 HS
  go_wp2_with fail
  refine wp_loop_rounds 5 ?_
  rw [rounds_succ]; go_wp2_with fail
  refine (unhide H0 _ E1).mono ?_
  rintro e v0 ⟨rfl, b0⟩
  have q0 := k1.on b0
  have c0 : v0.cell? ⟨w.heap.size, 0, none⟩ = some (.string ⟨#[]⟩) := q0.cell 0 (by omega)
  have f0 := q0.free 0 (by omega)
  have k2 := q0.set 0 (by omega) (.string (dig a)) (dstr a b c d 1) (fun j hj => by rcases (by omega : j = 0 ∨ j = 1 ∨ j = 2 ∨ j = 3) with rfl | rfl | rfl | rfl <;> rfl)
  have E2 : Env _ := E.on k2.bel
  have KK := hide (And.intro k2 E2)
  clear k2 E2 k1 E1 b0 q0 H0
  go_wp2_with fail
  have KK := unhide KK
  clear c0 f0
  generalize v0.setCell ⟨w.heap.size, 0, none⟩ (.string (dig a)) = w2 at *
  obtain ⟨k2, E2⟩ := KK
  rw [rounds_succ]; go_wp2_with fail
  refine (unhide H1 _ E2).mono ?_
  rintro e v1 ⟨rfl, b1⟩
  have q1 := k2.on b1
  have c1 : v1.cell? ⟨w.heap.size, 1, none⟩ = some (.string ⟨#[]⟩) := q1.cell 1 (by omega)
  have f1 := q1.free 1 (by omega)
  have k3 := q1.set 1 (by omega) (.string (dig b)) (dstr a b c d 2) (fun j hj => by rcases (by omega : j = 0 ∨ j = 1 ∨ j = 2 ∨ j = 3) with rfl | rfl | rfl | rfl <;> rfl)
  have E3 : Env _ := E.on k3.bel
  have KK := hide (And.intro k3 E3)
  clear k3 E3 k2 E2 b1 q1 H1
  go_wp2_with fail
  have KK := unhide KK
  clear c1 f1
  generalize v1.setCell ⟨w.heap.size, 1, none⟩ (.string (dig b)) = w3 at *
  obtain ⟨k3, E3⟩ := KK
  rw [rounds_succ]; go_wp2_with fail
  refine (unhide H2 _ E3).mono ?_
  rintro e v2 ⟨rfl, b2⟩
  have q2 := k3.on b2
  have c2 : v2.cell? ⟨w.heap.size, 2, none⟩ = some (.string ⟨#[]⟩) := q2.cell 2 (by omega)
  have f2 := q2.free 2 (by omega)
  have k4 := q2.set 2 (by omega) (.string (dig c)) (dstr a b c d 3) (fun j hj => by rcases (by omega : j = 0 ∨ j = 1 ∨ j = 2 ∨ j = 3) with rfl | rfl | rfl | rfl <;> rfl)
  have E4 : Env _ := E.on k4.bel
  have KK := hide (And.intro k4 E4)
  clear k4 E4 k3 E3 b2 q2 H2
  go_wp2_with fail
  have KK := unhide KK
  clear c2 f2
  generalize v2.setCell ⟨w.heap.size, 2, none⟩ (.string (dig c)) = w4 at *
  obtain ⟨k4, E4⟩ := KK
  rw [rounds_succ]; go_wp2_with fail
  refine (unhide H3 _ E4).mono ?_
  rintro e v3 ⟨rfl, b3⟩
  have q3 := k4.on b3
  have c3 : v3.cell? ⟨w.heap.size, 3, none⟩ = some (.string ⟨#[]⟩) := q3.cell 3 (by omega)
  have f3 := q3.free 3 (by omega)
  have k5 := q3.set 3 (by omega) (.string (dig d)) (dstr a b c d 4) (fun j hj => by rcases (by omega : j = 0 ∨ j = 1 ∨ j = 2 ∨ j = 3) with rfl | rfl | rfl | rfl <;> rfl)
  have E5 : Env _ := E.on k5.bel
  have KK := hide (And.intro k5 E5)
  clear k5 E5 k4 E4 b3 q3 H3
  go_wp2_with fail
  have KK := unhide KK
  clear c3 f3
  generalize v3.setCell ⟨w.heap.size, 3, none⟩ (.string (dig d)) = w5 at *
  obtain ⟨k5, E5⟩ := KK
  rw [rounds_succ]; go_wp2_with fail
  refine (unhide HJ _ k5).mono ?_
  rintro e w6 ⟨rfl, b6⟩
  go_wp2_with fail
  go_ret
  exact ⟨rfl, tr2 k5.bel b6⟩

end Go.Proofs.YtnglkadfnacmcaaDoor
