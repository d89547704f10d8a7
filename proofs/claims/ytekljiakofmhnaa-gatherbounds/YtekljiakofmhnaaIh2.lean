/- The contracts of package ip4's Encode and its closures, over the loaded program; no memory that was there has turned. Conditions: numbers in their kinds' bounds, texts of bounded length. -/
import Derived.Test.YtekljiakofmhnaaIh1
import Derived.Test.YtekljiakofmhnaaRef2K
namespace Go.Proofs.Ytekljiakofmhnaa
open Go.RowKit

theorem below_cell {wA w' : World} {a : Addr} {v : Value} (h : wA.cell? a = some v) (hb : Below wA.heap.size wA w') : w'.cell? a = some v := (hb.cell (cell_lt' h)).trans h
theorem strs1 (w : World) (s : ByteArray) : Strs (w.alloc (.cells #[.string s] 9)).heap.size (w.alloc (.cells #[.string s] 9)) (.slice (some ⟨w.heap.size, 0, none⟩) 1 1) [s] := by
  refine .inr ⟨w.heap.size, 0, 1, rfl, by simp, fun j hj => ?_⟩
  obtain rfl : j = 0 := by simpa using hj
  rw [cell_of_row _ _ 0 _ _ _ (heap_alloc_new w _)]
  rfl
theorem strs2 (w : World) (s t : ByteArray) : Strs (w.alloc (.cells #[.string s, .string t] 9)).heap.size (w.alloc (.cells #[.string s, .string t] 9)) (.slice (some ⟨w.heap.size, 0, none⟩) 2 2) [s, t] := by
  refine .inr ⟨w.heap.size, 0, 2, rfl, by simp, fun j hj => ?_⟩
  have h := heap_alloc_new w (.cells #[.string s, .string t] 9)
  rcases (by simp at hj; omega : j = 0 ∨ j = 1) with e | e <;> subst e
  · rw [cell_of_row _ _ 0 _ _ _ h]; rfl
  · rw [cell_of_row _ _ 1 _ _ _ h]; rfl
theorem skip1 {w w' : World} {o : Obj} (h : Below (w.alloc o).heap.size (w.alloc o) w') : Below w.heap.size w w' := (below_one w o).trans (h.mono (by simp))

theorem enc1_no (h : Rh) (p q : Nat) (w : World) (k : HC w p h) (hi : h.In) (hm : ¬ h.MayB) :
    Calls Try.prog 31 #[.pointer (some ⟨p, 0, none⟩), .pointer (some ⟨q, 0, none⟩)] w fun e w' => e = .returned (.int .i64 2) ∧ Below w.heap.size w w' := by
  have H1 := fun w => may_any h w hi
  rw [decide_eq_false hm] at H1
  have H1 := hide H1
  have H2 := hide (fun w => unless_any false 2 w)
  obtain ⟨c0, c1, c2, c3, c4, c5, c6, c7, c8, c9⟩ := k
  go_enter Try.func31, Try.ntmps31
  go_wp2_with fail
  refine (unhide H1 _).mono ?_
  rintro e w1 ⟨rfl, b1⟩
  clear c0 c1 c2 c3 c4 c5 c6 c7 c8 c9
  go_wp2_with fail
  refine (unhide H2 _).mono ?_
  rintro e w2 ⟨rfl, rfl⟩
  go_wp2_with fail
  go_ret
  exact ⟨rfl, b1⟩

theorem enc1_yes (h : Rh) (n p q : Nat) (w : World) (k : HC w p h) (c : w.cell? ⟨q, 0, none⟩ = some (.int .i64 (n : Int))) (hi : h.In) (hn : n ≤ 1073741824) (hm : h.MayB) :
    Calls Try.prog 31 #[.pointer (some ⟨p, 0, none⟩), .pointer (some ⟨q, 0, none⟩)] w fun e w' => e = .returned (.int .i64 (if wholeB h.more n then 0 else 2)) ∧ Below w.heap.size w w' := by
  have H1 := fun w => may_any h w hi
  rw [decide_eq_true hm] at H1
  have H1 := hide H1
  have H2 := hide (fun w => partmay_any h n w hn)
  obtain ⟨g, hg, hge⟩ := hidec (wholeB h.more n)
  rw [← hge] at H2
  have H3 := hide (fun w => unless_any g 2 w)
  have hE : Hid ((if g = true then (0 : Int) else 2) = if wholeB h.more n then 0 else 2) := by
    rw [hge]
    by_cases x : wholeB h.more n
    · rw [decide_eq_true x, if_pos rfl, if_pos x]; exact rfl
    · rw [decide_eq_false x, if_neg (by decide), if_neg x]; exact rfl
  rw [← unhide hE]
  clear hg hge hE
  obtain ⟨c0, c1, c2, c3, c4, c5, c6, c7, c8, c9⟩ := id k
  go_enter Try.func31, Try.ntmps31
  go_wp2_with fail
  refine (unhide H1 _).mono ?_
  rintro e w1 ⟨rfl, b1⟩
  clear c0 c1 c2 c3 c4 c5 c6 c7 c8 c9
  have c' := below_cell c b1
  obtain ⟨c0, c1, c2, c3, c4, c5, c6, c7, c8, c9⟩ := k.on b1
  clear k
  go_wp2_with fail
  refine (unhide H2 _).mono ?_
  rintro e w2 ⟨rfl, b2⟩
  clear c0 c1 c2 c3 c4 c5 c6 c7 c8 c9 c'
  go_wp2_with fail
  refine (unhide H3 _).mono ?_
  rintro e w2 ⟨rfl, rfl⟩
  go_wp2_with fail
  all_goals
    go_ret
    exact ⟨rfl, tr2 b1 b2⟩

theorem enc2_any (h : Rh) (n p q : Nat) (w : World) (k : HC w p h) (c : w.cell? ⟨q, 0, none⟩ = some (.int .i64 (n : Int))) (hn : n ≤ 1073741824) (hm : h.MayB) :
    Calls Try.prog 35 #[.pointer (some ⟨p, 0, none⟩), .pointer (some ⟨q, 0, none⟩)] w fun e w' => e = .returned (.int .i64 (if roomB h n then 0 else 4)) ∧ Below w.heap.size w w' := by
  have H2 := hide (fun w => hasroom_any h n w hm hn)
  obtain ⟨g, hg, hge⟩ := hidec (roomB h n)
  rw [← hge] at H2
  have H3 := hide (fun w => unless_any g 4 w)
  have hE : Hid ((if g = true then (0 : Int) else 4) = if roomB h n then 0 else 4) := by
    rw [hge]
    by_cases x : roomB h n
    · rw [decide_eq_true x, if_pos rfl, if_pos x]; exact rfl
    · rw [decide_eq_false x, if_neg (by decide), if_neg x]; exact rfl
  rw [← unhide hE]
  clear hg hge hE
  obtain ⟨c0, c1, c2, c3, c4, c5, c6, c7, c8, c9⟩ := id k
  go_enter Try.func35, Try.ntmps35
  go_wp2_with fail
  refine (unhide H2 _).mono ?_
  rintro e w2 ⟨rfl, b2⟩
  clear c0 c1 c2 c3 c4 c5 c6 c7 c8 c9 c
  go_wp2_with fail
  refine (unhide H3 _).mono ?_
  rintro e w2 ⟨rfl, rfl⟩
  go_wp2_with fail
  all_goals
    go_ret
    exact ⟨rfl, b2⟩

/-- what Encode's closures find -/
def encE (h : Rh) (n : Nat) : Int := if h.MayB ∧ wholeB h.more n then if roomB h n then 0 else 4 else 2

theorem fwenc_any (h : Rh) (n p q b : Nat) (w : World) (hi : h.In) (hn : n ≤ 1073741824) (k : HC w p h) (c : w.cell? ⟨q, 0, none⟩ = some (.int .i64 (n : Int)))
    (f0 : w.cell? ⟨b, 0, none⟩ = some (.func (.func 31) #[] #[.pointer (some ⟨p, 0, none⟩), .pointer (some ⟨q, 0, none⟩)]))
    (f1 : w.cell? ⟨b, 1, none⟩ = some (.func (.func 35) #[] #[.pointer (some ⟨p, 0, none⟩), .pointer (some ⟨q, 0, none⟩)])) :
    Calls Try.prog 30 #[.slice (some ⟨b, 0, none⟩) 2 2] w fun e w' => e = .returned (.int .i64 (encE h n)) ∧ Below w.heap.size w w' := by
  by_cases hm : h.MayB
  · by_cases hw : wholeB h.more n
    · by_cases hr : roomB h n
      · have e : encE h n = 0 := by unfold encE; rw [if_pos ⟨hm, hw⟩, if_pos hr]
        rw [e]
        refine fwEnc_ok b p q p q (Below w.heap.size w) (Below w.heap.size w) (Below w.heap.size w) (fun w' hb => below_cell f0 hb) (fun w' hb => ?_) (fun w' hb => below_cell f1 hb) (fun w' hb => ?_) w (Below.refl _ _)
        · have := enc1_yes h n p q w' (k.on hb) (below_cell c hb) hi hn hm
          rw [if_pos hw] at this
          exact this.mono fun e w2 h2 => ⟨h2.1, tr2 hb h2.2⟩
        · have := enc2_any h n p q w' (k.on hb) (below_cell c hb) hn hm
          rw [if_pos hr] at this
          exact this.mono fun e w2 h2 => ⟨h2.1, tr2 hb h2.2⟩
      · have e : encE h n = 4 := by unfold encE; rw [if_pos ⟨hm, hw⟩, if_neg hr]
        rw [e]
        refine fwEnc_1 b p q p q (Below w.heap.size w) (Below w.heap.size w) (Below w.heap.size w) 4 (fun w' hb => below_cell f0 hb) (fun w' hb => ?_) (fun w' hb => below_cell f1 hb) (fun w' hb => ?_) rfl w (Below.refl _ _)
        · have := enc1_yes h n p q w' (k.on hb) (below_cell c hb) hi hn hm
          rw [if_pos hw] at this
          exact this.mono fun e w2 h2 => ⟨h2.1, tr2 hb h2.2⟩
        · have := enc2_any h n p q w' (k.on hb) (below_cell c hb) hn hm
          rw [if_neg hr] at this
          exact this.mono fun e w2 h2 => ⟨h2.1, tr2 hb h2.2⟩
    · have e : encE h n = 2 := by unfold encE; rw [if_neg (fun x => hw x.2)]
      rw [e]
      refine fwEnc_0 b p q (Below w.heap.size w) (Below w.heap.size w) 2 (fun w' hb => below_cell f0 hb) (fun w' hb => ?_) rfl w (Below.refl _ _)
      have := enc1_yes h n p q w' (k.on hb) (below_cell c hb) hi hn hm
      rw [if_neg hw] at this
      exact this.mono fun e w2 h2 => ⟨h2.1, tr2 hb h2.2⟩
  · have e : encE h n = 2 := by unfold encE; rw [if_neg (fun x => hm x.1)]
    rw [e]
    refine fwEnc_0 b p q (Below w.heap.size w) (Below w.heap.size w) 2 (fun w' hb => below_cell f0 hb) (fun w' hb => ?_) rfl w (Below.refl _ _)
    have := enc1_no h p q w' (k.on hb) hi hm
    exact this.mono fun e w2 h2 => ⟨h2.1, tr2 hb h2.2⟩

abbrev encFs (p q : Nat) : List Value := [.func (.func 31) #[] #[.pointer (some ⟨p, 0, none⟩), .pointer (some ⟨q, 0, none⟩)], .func (.func 35) #[] #[.pointer (some ⟨p, 0, none⟩), .pointer (some ⟨q, 0, none⟩)]]
abbrev encW (h : Rh) (n : Nat) (w : World) : World := ((w.alloc (.cells (hdL h).toArray 34)).alloc (.cells #[.int .i64 (n : Int)] 3)).alloc (.cells (encFs w.heap.size (w.heap.size + 1)).toArray 77)
theorem encW_tab (h : Rh) (n : Nat) (w : World) : Tab w 3 (add (add (add (fun _ _ => none) 0 (hdL h)) 1 [.int .i64 (n : Int)]) 2 (encFs w.heap.size (w.heap.size + 1))) (encW h n w) :=
  (((Tab.zero w).alloc rfl (hdL h) _).alloc (by simp) [.int .i64 (n : Int)] _).alloc (by simp) (encFs w.heap.size (w.heap.size + 1)) _
theorem encW_hc {h : Rh} {n : Nat} {w w' : World} (k : Tab w 3 (add (add (add (fun _ _ => none) 0 (hdL h)) 1 [.int .i64 (n : Int)]) 2 (encFs w.heap.size (w.heap.size + 1))) w') : HC w' w.heap.size h :=
  ⟨k.cells 0 0 _ rfl, k.cells 0 1 _ rfl, k.cells 0 2 _ rfl, k.cells 0 3 _ rfl, k.cells 0 4 _ rfl, k.cells 0 5 _ rfl, k.cells 0 6 _ rfl, k.cells 0 7 _ rfl, k.cells 0 8 _ rfl, k.cells 0 9 _ rfl⟩

set_option maxHeartbeats 1000000 in
theorem encode_no (h : Rh) (d : ByteArray) (w : World) (hi : h.In) (hd : d.size ≤ 1073741824) (e0 : Int) (he : encE h d.size = e0) (hne : (e0 != 0) = true) :
    Calls Try.prog 21 #[hdV h, .string d] w fun e w' => e = .returned (.tuple #[.string ⟨#[]⟩, .int .i64 e0]) ∧ Below w.heap.size w w' := by
  have k := encW_tab h d.size w
  have H := hide (fwenc_any h d.size w.heap.size (w.heap.size + 1) (w.heap.size + 2) (encW h d.size w) hi hd (encW_hc k) (k.cells 1 0 _ rfl) (k.cells 2 0 _ rfl) (k.cells 2 1 _ rfl))
  rw [he] at H
  have B := hide k.bel
  clear k he hi
  go_enter Try.func21, Try.ntmps21
  go_wp2_with fail
  simp only [Nat.add_assoc, Nat.reduceAdd]
  refine (unhide H).mono ?_
  rintro e w1 ⟨rfl, b1⟩
  go_wp2_with fail
  go_ret2
  exact ⟨rfl, tr2 (unhide B) b1⟩

/-- a packet's bytes in parts -/
def frontB (h : Rh) (n : Nat) : List UInt8 := preB h.hd n
def backB (h : Rh) : List UInt8 := pstB h.hd
theorem hdn (h : Rh) : h.hd.n = 20 + h.op.size := by unfold Hd.n Rh.hd; simp only; rw [← Lib.size_eq]
theorem or64 (x : Nat) (h : x < 64) : bits .or .u64 64 (x : Int) = ((64 + x : Nat) : Int) := by
  rw [show (64 : Int) = ((64 : Nat) : Int) from rfl, u64_or_nat 64 x (by omega) (by omega), show 64 = 2 ^ 6 * 1 from rfl, ← Nat.two_pow_add_eq_or_of_lt (by omega)]
theorem ck_eq (h : Rh) (n : Nat) : 65535 - sAdd [⟨(frontB h n).toArray⟩, ⟨(backB h).toArray⟩] = csum h.hd n := by
  unfold sAdd csum
  rw [cat_two, S_head0]
  unfold frontB backB
  show 65535 - red (S (preB h.hd n ++ pstB h.hd)) = _
  rw [S_even (by rw [pre_len])]
theorem of_one (x : Nat) : (⟨(ofB x 1).toArray⟩ : ByteArray) = ⟨[byt x 0].toArray⟩ := rfl
theorem front_eq (h : Rh) (n : Nat) :
    (⟨(ofB (64 + (20 + h.op.size) / 4) 1).toArray⟩ : ByteArray) ++ ⟨(ofB h.tos 1).toArray⟩ ++ ⟨(ofB (20 + h.op.size + n) 2).toArray⟩ ++ ⟨(ofB h.id 2).toArray⟩ ++ ⟨(ofB h.hd.flags 2).toArray⟩ ++ ⟨(ofB h.ttl 1).toArray⟩ ++ ⟨(ofB h.proto 1).toArray⟩ = ⟨(frontB h n).toArray⟩ := by
  rw [of_one, of_one, of_one, of_one, str_append, str_append, str_append, str_append, str_append, str_append]
  unfold frontB preB
  rw [hdn]
  simp only [List.append_assoc, List.cons_append, List.nil_append]
  rfl
theorem back_eq (h : Rh) : (⟨(ofB h.frm 4).toArray⟩ : ByteArray) ++ ⟨(ofB h.to 4).toArray⟩ ++ h.op = ⟨(backB h).toArray⟩ := by
  have e : h.op = ⟨h.op.data.toList.toArray⟩ := by simp
  rw [e, str_append, str_append]
  rfl
theorem whole_eq (h : Rh) (d : ByteArray) : (⟨(frontB h d.size).toArray⟩ : ByteArray) ++ ⟨(ofB (csum h.hd d.size) 2).toArray⟩ ++ ⟨(backB h).toArray⟩ ++ d = ⟨(rawB h.hd d.data.toList).toArray⟩ := by
  have e : d = ⟨d.data.toList.toArray⟩ := by simp
  have l : d.data.toList.length = d.size := (Lib.size_eq d).symm
  rw [show (⟨(frontB h d.size).toArray⟩ : ByteArray) ++ ⟨(ofB (csum h.hd d.size) 2).toArray⟩ ++ ⟨(backB h).toArray⟩ ++ d = (⟨(frontB h d.size).toArray⟩ : ByteArray) ++ ⟨(ofB (csum h.hd d.size) 2).toArray⟩ ++ ⟨(backB h).toArray⟩ ++ ⟨d.data.toList.toArray⟩ by rw [← e], str_append, str_append, str_append]
  unfold rawB
  rw [l]
  rfl

set_option maxRecDepth 20000 in
set_option maxHeartbeats 2000000 in
theorem encode_walk (h : Rh) (d : ByteArray) (w : World) (M n F ck X1 : Nat) (A1 A2 A3 A4 A5 A6 A7 C1 C2 K : ByteArray) (fr bk : ByteArray) (hd : d.size ≤ 1073741824) (hop : h.op.size ≤ 40)
    (z1 : A1.size ≤ 1) (z2 : A2.size ≤ 1) (z3 : A3.size ≤ 2) (z4 : A4.size ≤ 2) (z5 : A5.size ≤ 2) (z6 : A6.size ≤ 1) (z7 : A7.size ≤ 1) (y1 : C1.size ≤ 4) (y2 : C2.size ≤ 4) (yk : K.size ≤ 2)
    (hn : n = d.size) (efr : Hid (A1 ++ A2 ++ A3 ++ A4 ++ A5 ++ A6 ++ A7 = fr)) (ebk : Hid (C1 ++ C2 ++ h.op = bk)) (zf : fr.size ≤ 10) (zb : bk.size ≤ 48)
    (H0 : Hid (Calls Try.prog 30 #[.slice (some ⟨w.heap.size + 2, 0, none⟩) 2 2] (encW h n w) fun e w' => e = .returned (.int .i64 0) ∧ Below (encW h n w).heap.size (encW h n w) w'))
    (HM : Hid (∀ w, Calls Try.prog 38 #[hdV h] w fun e w' => e = .returned (.int .i64 (M : Int)) ∧ Below w.heap.size w w'))
    (HF : Hid (∀ w, Calls Try.prog 39 #[hdV h] w fun e w' => e = .returned (.int .u64 (F : Int)) ∧ Below w.heap.size w w'))
    (H1 : Hid (∀ w, Calls Try.prog 37 #[.int .u64 (X1 : Int), .int .i64 1] w fun e w' => e = .returned (.string A1) ∧ Below w.heap.size w w'))
    (H2 : Hid (∀ w, Calls Try.prog 37 #[.int .u64 (h.tos : Int), .int .i64 1] w fun e w' => e = .returned (.string A2) ∧ Below w.heap.size w w'))
    (H3 : Hid (∀ w, Calls Try.prog 37 #[.int .u64 ((M : Int) + (n : Int)), .int .i64 2] w fun e w' => e = .returned (.string A3) ∧ Below w.heap.size w w'))
    (H4 : Hid (∀ w, Calls Try.prog 37 #[.int .u64 (h.id : Int), .int .i64 2] w fun e w' => e = .returned (.string A4) ∧ Below w.heap.size w w'))
    (H5 : Hid (∀ w, Calls Try.prog 37 #[.int .u64 (F : Int), .int .i64 2] w fun e w' => e = .returned (.string A5) ∧ Below w.heap.size w w'))
    (H6 : Hid (∀ w, Calls Try.prog 37 #[.int .u64 (h.ttl : Int), .int .i64 1] w fun e w' => e = .returned (.string A6) ∧ Below w.heap.size w w'))
    (H7 : Hid (∀ w, Calls Try.prog 37 #[.int .u64 (h.proto : Int), .int .i64 1] w fun e w' => e = .returned (.string A7) ∧ Below w.heap.size w w'))
    (G1 : Hid (∀ w, Calls Try.prog 37 #[.int .u64 (h.frm : Int), .int .i64 4] w fun e w' => e = .returned (.string C1) ∧ Below w.heap.size w w'))
    (G2 : Hid (∀ w, Calls Try.prog 37 #[.int .u64 (h.to : Int), .int .i64 4] w fun e w' => e = .returned (.string C2) ∧ Below w.heap.size w w'))
    (HS : Hid (∀ w, Calls Try.prog 40 #[.slice (some ⟨w.heap.size, 0, none⟩) 2 2] (w.alloc (.cells #[.string fr, .string bk] 9)) fun e w' => e = .returned (.int .u16 (ck : Int)) ∧ Below w.heap.size w w'))
    (HK : Hid (∀ w, Calls Try.prog 37 #[.int .u64 (ck : Int), .int .i64 2] w fun e w' => e = .returned (.string K) ∧ Below w.heap.size w w'))
    (o1 : bits .or .u64 64 ((M : Int) / 4) = (X1 : Int)) (x1 : IntKind.u64.wrap ((M : Int) / 4) = (M : Int) / 4) (x2 : IntKind.u64.wrap (h.tos : Int) = (h.tos : Int)) (x3 : IntKind.u64.wrap ((M : Int) + (n : Int)) = (M : Int) + (n : Int)) (x3' : wrap64 ((M : Int) + (n : Int)) = (M : Int) + (n : Int)) (x0 : wrap64 ((M : Int) / 4) = (M : Int) / 4)
    (x4 : IntKind.u64.wrap (h.id : Int) = (h.id : Int)) (x6 : IntKind.u64.wrap (h.ttl : Int) = (h.ttl : Int)) (x7 : IntKind.u64.wrap (h.proto : Int) = (h.proto : Int)) (x8 : IntKind.u64.wrap (h.frm : Int) = (h.frm : Int)) (x9 : IntKind.u64.wrap (h.to : Int) = (h.to : Int)) (xk : IntKind.u64.wrap (ck : Int) = (ck : Int)) :
    Calls Try.prog 21 #[hdV h, .string d] w fun e w' => e = .returned (.tuple #[.string (fr ++ K ++ bk ++ d), .int .i64 0]) ∧ Below w.heap.size w w' := by
  have TT := hide (encW_tab h n w)
  have q1 := unhide efr
  have q2 := unhide ebk
  obtain ⟨P1, g1⟩ : ∃ P, A1 ++ A2 = P := ⟨_, rfl⟩
  rw [g1] at q1
  have t1 : P1.size ≤ 2 := by rw [← g1, ByteArray.size_append]; omega
  obtain ⟨P2, g2⟩ : ∃ P, P1 ++ A3 = P := ⟨_, rfl⟩
  rw [g2] at q1
  have t2 : P2.size ≤ 4 := by rw [← g2, ByteArray.size_append]; omega
  obtain ⟨P3, g3⟩ : ∃ P, P2 ++ A4 = P := ⟨_, rfl⟩
  rw [g3] at q1
  have t3 : P3.size ≤ 6 := by rw [← g3, ByteArray.size_append]; omega
  obtain ⟨P4, g4⟩ : ∃ P, P3 ++ A5 = P := ⟨_, rfl⟩
  rw [g4] at q1
  have t4 : P4.size ≤ 8 := by rw [← g4, ByteArray.size_append]; omega
  obtain ⟨P5, g5⟩ : ∃ P, P4 ++ A6 = P := ⟨_, rfl⟩
  rw [g5] at q1
  have t5 : P5.size ≤ 9 := by rw [← g5, ByteArray.size_append]; omega
  obtain ⟨Q1, g6⟩ : ∃ P, C1 ++ C2 = P := ⟨_, rfl⟩
  rw [g6] at q2
  have t6 : Q1.size ≤ 8 := by rw [← g6, ByteArray.size_append]; omega
  obtain ⟨R1, g7⟩ : ∃ P, fr ++ K = P := ⟨_, rfl⟩
  have t7 : R1.size ≤ 12 := by rw [← g7, ByteArray.size_append]; omega
  obtain ⟨R2, g8⟩ : ∃ P, R1 ++ bk = P := ⟨_, rfl⟩
  have t8 : R2.size ≤ 60 := by rw [← g8, ByteArray.size_append]; omega
  rw [g7, g8]
  have n1 : ¬ 9223372036854775807 < A1.size + A2.size := by omega
  have n2 : ¬ 9223372036854775807 < P1.size + A3.size := by omega
  have n3 : ¬ 9223372036854775807 < P2.size + A4.size := by omega
  have n4 : ¬ 9223372036854775807 < P3.size + A5.size := by omega
  have n5 : ¬ 9223372036854775807 < P4.size + A6.size := by omega
  have n6 : ¬ 9223372036854775807 < P5.size + A7.size := by omega
  have n7 : ¬ 9223372036854775807 < C1.size + C2.size := by omega
  have n8 : ¬ 9223372036854775807 < Q1.size + h.op.size := by omega
  have n9 : ¬ 9223372036854775807 < fr.size + K.size := by omega
  have n10 : ¬ 9223372036854775807 < R1.size + bk.size := by omega
  have n11 : ¬ 9223372036854775807 < R2.size + d.size := Nat.not_lt.2 (Nat.le_trans (Nat.add_le_add t8 hd) (by decide))
  have DN := hide hn
  rw [hn] at TT H0
  clear hn t1 t2 t3 t4 t5 t6 t7 t8 z1 z2 z3 z4 z5 z6 z7 y1 y2 yk zf zb efr ebk hop
  go_enter Try.func21, Try.ntmps21
  go_wp2_with fail
  simp only [Nat.add_assoc, Nat.reduceAdd]
  refine (unhide H0).mono ?_
  rintro e w1 ⟨rfl, b1⟩
  go_wp2_with fail
  have k := (unhide TT).on b1
  have B1 := hide k.bel
  obtain ⟨c0, c1, c2, c3, c4, c5, c6, c7, c8, c9⟩ := encW_hc k
  have cn : w1.cell? ⟨w.heap.size + 1, 0, none⟩ = some (.int .i64 (n : Int)) := by rw [unhide DN]; exact k.cells 1 0 _ rfl
  have d0 := cell_regrown c0
  have d1 := cell_regrown c1
  have d2 := cell_regrown c2
  have d3 := cell_regrown c3
  have d4 := cell_regrown c4
  have d5 := cell_regrown c5
  have d6 := cell_regrown c6
  have d7 := cell_regrown c7
  have d8 := cell_regrown c8
  have d9 := cell_regrown c9
  have dn := cell_regrown cn
  have KK := hide k
  clear c0 c1 c2 c3 c4 c5 c6 c7 c8 c9 cn k H0 TT b1
  have qM := rgB (w := w1) (unhide HM)
  have qF := rgB (w := w1) (unhide HF)
  have q1' := rgB (w := w1) (unhide H1)
  have q2' := rgB (w := w1) (unhide H2)
  have q3' := rgB (w := w1) (unhide H3)
  have q4' := rgB (w := w1) (unhide H4)
  have q5' := rgB (w := w1) (unhide H5)
  have q6' := rgB (w := w1) (unhide H6)
  have q7' := rgB (w := w1) (unhide H7)
  refine wp_region_quiet_below (by kernel_rfl) (by kernel_rfl) ?_
  repeat (go_big_quiet_step (fail))
  go_big_quiet_step (exact qM _ _)
  repeat (go_big_quiet_step (fail))
  go_big_quiet_step (exact q1' _ _)
  repeat (go_big_quiet_step (fail))
  go_big_quiet_step (exact q2' _ _)
  repeat (go_big_quiet_step (fail))
  go_big_quiet_step (exact qM _ _)
  repeat (go_big_quiet_step (fail))
  go_big_quiet_step (exact q3' _ _)
  repeat (go_big_quiet_step (fail))
  go_big_quiet_step (exact q4' _ _)
  repeat (go_big_quiet_step (fail))
  go_big_quiet_step (exact qF _ _)
  repeat (go_big_quiet_step (fail))
  go_big_quiet_step (exact q5' _ _)
  repeat (go_big_quiet_step (fail))
  go_big_quiet_step (exact q6' _ _)
  repeat (go_big_quiet_step (fail))
  go_big_quiet_step (exact q7' _ _)
  repeat (go_big_quiet_step (fail))
  refine wpQuiet_nil ?_
  intro _ hw'
  obtain ⟨⟨dq, osq⟩, hw''⟩ := hw'
  subst hw''
  have B2 := hide (tr2 (unhide B1) (below_regrown w1 dq osq))
  have k := (unhide KK).on (below_regrown w1 dq osq)
  clear d0 d1 d2 d3 d4 d5 d6 d7 d8 d9 dn qM qF q1' q2' q3' q4' q5' q6' q7' KK B1
  generalize Sort.grow (redrawn w1 dq) osq = w2 at *
  go_wp2_with fail
  obtain ⟨c0, c1, c2, c3, c4, c5, c6, c7, c8, c9⟩ := encW_hc k
  have d7 := cell_regrown c7
  have d8 := cell_regrown c8
  have d9 := cell_regrown c9
  clear c0 c1 c2 c3 c4 c5 c6 c7 c8 c9 k
  have r1' := rgB (w := w2) (unhide G1)
  have r2' := rgB (w := w2) (unhide G2)
  refine wp_region_quiet_below (by kernel_rfl) (by kernel_rfl) ?_
  repeat (go_big_quiet_step (fail))
  go_big_quiet_step (exact r1' _ _)
  repeat (go_big_quiet_step (fail))
  go_big_quiet_step (exact r2' _ _)
  repeat (go_big_quiet_step (fail))
  refine wpQuiet_nil ?_
  intro _ hw'
  obtain ⟨⟨dq2, osq2⟩, hw''⟩ := hw'
  subst hw''
  have B3 := hide (tr2 (unhide B2) (below_regrown w2 dq2 osq2))
  clear d7 d8 d9 r1' r2' B2
  generalize Sort.grow (redrawn w2 dq2) osq2 = w3 at *
  go_wp2_with fail
  refine (unhide HS _).mono ?_
  rintro e w4 ⟨rfl, b4⟩
  go_wp2_with fail
  refine (unhide HK _).mono ?_
  rintro e w5 ⟨rfl, b5⟩
  go_wp2_with fail
  go_ret2
  exact ⟨rfl, tr2 (tr2 (unhide B3) b4) b5⟩

/-- what Encode answers -/
def EncIs (h : Rh) (d s : ByteArray) (e : Int) : Prop :=
  (encE h d.size ≠ 0 ∧ s = ⟨#[]⟩ ∧ e = encE h d.size) ∨ ((h.MayB ∧ wholeB h.more d.size ∧ roomB h d.size) ∧ s = ⟨(rawB h.hd d.data.toList).toArray⟩ ∧ e = 0)
theorem encE_zero {h : Rh} {n : Nat} (hz : encE h n = 0) : h.MayB ∧ wholeB h.more n ∧ roomB h n := by
  unfold encE at hz
  split at hz
  · rename_i x
    split at hz
    · rename_i y; exact ⟨x.1, x.2, y⟩
    · cases hz
  · cases hz
theorem encE_ok {h : Rh} {n : Nat} (a : h.MayB ∧ wholeB h.more n ∧ roomB h n) : encE h n = 0 := by unfold encE; rw [if_pos ⟨a.1, a.2.1⟩, if_pos a.2.2]
theorem enc_ex (h : Rh) (d : ByteArray) : ∃ s e, EncIs h d s e := by
  by_cases hz : encE h d.size = 0
  · exact ⟨_, _, .inr ⟨encE_zero hz, rfl, rfl⟩⟩
  · exact ⟨_, _, .inl ⟨hz, rfl, rfl⟩⟩
theorem u64w {x : Nat} (h : x < 18446744073709551616) : IntKind.u64.wrap (x : Int) = (x : Int) := by rw [IntKind.wrap_u64]; omega
theorem arr_size (l : List UInt8) : (⟨l.toArray⟩ : ByteArray).size = l.length := by show l.toArray.size = _; simp
theorem of_size (x n : Nat) : (⟨(ofB x n).toArray⟩ : ByteArray).size ≤ n := by rw [arr_size, ofB_length]; exact Nat.le_refl _
theorem flags_lt16 {h : Rh} (hm : h.MayB) : h.hd.flags < 32768 := by
  obtain ⟨m1, m2, m3, m4, m5⟩ := hm
  unfold Hd.flags Rh.hd
  simp only
  split <;> split <;> omega

theorem encode_any (h : Rh) (d : ByteArray) (w : World) (hi : h.In) (hd : d.size ≤ 1073741824) {s : ByteArray} {e : Int} (he : EncIs h d s e) :
    Calls Try.prog 21 #[hdV h, .string d] w fun x w' => x = .returned (.tuple #[.string s, .int .i64 e]) ∧ Below w.heap.size w w' := by
  rcases he with ⟨hz, rfl, rfl⟩ | ⟨⟨hm, hw, hr⟩, rfl, rfl⟩
  · exact encode_no h d w hi hd _ rfl (by simpa using hz)
  · have hm' := hm
    obtain ⟨m1, m2, m3, m4, m5⟩ := hm'
    have hF := flags_lt16 hm
    have i1 := hi.tos; have i2 := hi.id; have i3 := hi.ttl; have i4 := hi.proto; have i5 := hi.frm; have i6 := hi.to
    have k := encW_tab h d.size w
    have hck : csum h.hd d.size < 65536 := csum_lt _ _
    rw [← whole_eq]
    refine encode_walk h d w (20 + h.op.size) d.size h.hd.flags (csum h.hd d.size) (64 + (20 + h.op.size) / 4) ⟨(ofB (64 + (20 + h.op.size) / 4) 1).toArray⟩ ⟨(ofB h.tos 1).toArray⟩ ⟨(ofB (20 + h.op.size + d.size) 2).toArray⟩ ⟨(ofB h.id 2).toArray⟩ ⟨(ofB h.hd.flags 2).toArray⟩ ⟨(ofB h.ttl 1).toArray⟩ ⟨(ofB h.proto 1).toArray⟩
      ⟨(ofB h.frm 4).toArray⟩ ⟨(ofB h.to 4).toArray⟩ ⟨(ofB (csum h.hd d.size) 2).toArray⟩ ⟨(frontB h d.size).toArray⟩ ⟨(backB h).toArray⟩ hd m4
      (of_size _ _) (of_size _ _) (of_size _ _) (of_size _ _) (of_size _ _) (of_size _ _) (of_size _ _) (of_size _ _) (of_size _ _) (of_size _ _) rfl (front_eq h d.size) (back_eq h) ?_ ?_ ?_ ?_ ?_ ?_ ?_ ?_ ?_ ?_ ?_ ?_ ?_ ?_ ?_ ?_ ?_ ?_ (u64w (by omega)) ?_ ?_ ?_ (u64w (by omega)) (u64w (by omega)) (u64w (by omega)) (u64w (by omega)) (u64w (by omega)) (u64w (by omega))
    · rw [arr_size]; exact Nat.le_of_eq (pre_len _ _)
    · rw [arr_size]; unfold backB; rw [pst_len]; show 8 + h.op.data.toList.length ≤ 48; rw [← Lib.size_eq]; omega
    · have q := fwenc_any h d.size w.heap.size (w.heap.size + 1) (w.heap.size + 2) (encW h d.size w) hi hd (encW_hc k) (k.cells 1 0 _ rfl) (k.cells 2 0 _ rfl) (k.cells 2 1 _ rfl)
      rw [encE_ok ⟨hm, hw, hr⟩] at q
      exact q
    · exact fun w => headsize_any h w (by omega)
    · exact fun w => partfield_any h w hm
    · exact fun w => of_1 _ w (by omega)
    · exact fun w => of_1 _ w (by omega)
    · exact fun w => of_2 (20 + h.op.size + d.size) w (by omega)
    · exact fun w => of_2 _ w (by omega)
    · exact fun w => of_2 _ w (by omega)
    · exact fun w => of_1 _ w (by omega)
    · exact fun w => of_1 _ w (by omega)
    · exact fun w => of_4 _ w (by omega)
    · exact fun w => of_4 _ w (by omega)
    · intro w
      have q := of_sum [⟨(frontB h d.size).toArray⟩, ⟨(backB h).toArray⟩] _ _ (by rw [cat_two]; show (frontB h d.size ++ backB h).length ≤ _; rw [List.length_append]; unfold frontB backB; rw [pre_len, pst_len]; show 10 + (8 + h.op.data.toList.length) ≤ _; rw [← Lib.size_eq]; omega) (by simp) (strs2 w ⟨(frontB h d.size).toArray⟩ ⟨(backB h).toArray⟩)
      rw [ck_eq] at q
      exact q.mono fun e w' x => ⟨x.1, skip1 x.2⟩
    · exact fun w => of_2 _ w (by omega)
    · rw [show ((20 + h.op.size : Nat) : Int) / 4 = (((20 + h.op.size) / 4 : Nat) : Int) by omega]
      exact or64 _ (by omega)
    · rw [IntKind.wrap_u64]; omega
    · rw [IntKind.wrap_u64]; unfold roomB at hr; omega
    · unfold roomB at hr; unfold wrap64; omega
    · unfold wrap64; omega

end Go.Proofs.Ytekljiakofmhnaa
