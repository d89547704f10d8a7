/- The contracts of package addr's number and Parse, over the loaded program; no memory that was there has turned. Conditions: Env, texts of bounded length. -/
import Derived.Test.YtnglkadfnacmcaaDoorAd2
namespace Go.Proofs.YtnglkadfnacmcaaDoor
open Go.RowKit

theorem str_of {s : ByteArray} {l : List UInt8} (h : s.data.toList = l) : s = ⟨l.toArray⟩ := by
  apply ByteArray.ext
  rw [← h]

set_option maxHeartbeats 1000000 in
theorem number_ok (s : ByteArray) (hs : s.size ≤ 281474976710656) (n : Nat) (h : numL s.data.toList = some n) (w : World) (E : Env w) :
    Calls Tryd.prog 26 #[.string s] w fun e w' => e = .returned (.tuple #[.int .u8 (n : Int), .bool true]) ∧ Below w.heap.size w w' := by
  obtain ⟨hn, hl, hp⟩ := numL_some h
  have H1 := hide (fun w => pu_ok s (by omega) n hp w)
  have H2 := hide (fun w E => fu_any n hn w E)
  have e : s = dig n := by
    apply ByteArray.ext
    have := dig_list n hn
    rw [← hl] at this
    exact (Array.toList_inj.1 this).symm
  rw [← e] at H2
  clear h hl hp e
  go_enter Tryd.func26, Tryd.ntmps26
  go_wp2_with fail
  refine (unhide H1 _).mono ?_
  rintro e w1 ⟨rfl, b1⟩
  go_wp2_with fail
  refine (unhide H2 _ (E.on b1)).mono ?_
  rintro e w2 ⟨rfl, b2⟩
  go_wp2_with fail
  go_ret2
  exact ⟨rfl, tr2 b1 b2⟩

set_option maxHeartbeats 1000000 in
theorem number_no (s : ByteArray) (hs : s.size ≤ 281474976710656) (h : numL s.data.toList = none) (w : World) (E : Env w) :
    Calls Tryd.prog 26 #[.string s] w fun e w' => e = .returned (.tuple #[.int .u8 0, .bool false]) ∧ Below w.heap.size w w' := by
  rcases numL_none h with ⟨n, hn, hp, hne⟩ | hno
  · have H1 := hide (fun w => pu_ok s (by omega) n hp w)
    have H2 := hide (fun w E => fu_any n hn w E)
    have e : ((dig n).toList == s.toList) = false := by
      rw [Lib.toList_data, Lib.toList_data, dig_list n hn]
      simpa using hne
    clear h hp hne
    generalize dig n = t at *
    go_enter Tryd.func26, Tryd.ntmps26
    go_wp2_with fail
    refine (unhide H1 _).mono ?_
    rintro e w1 ⟨rfl, b1⟩
    go_wp2_with fail
    refine (unhide H2 _ (E.on b1)).mono ?_
    rintro e w2 ⟨rfl, b2⟩
    go_wp2_with fail
    go_ret2
    exact ⟨rfl, tr2 b1 b2⟩
  · have H1 := hide (fun w E => pu_no s hs hno w E)
    clear h hno
    go_enter Tryd.func26, Tryd.ntmps26
    go_wp2_with fail
    refine (unhide H1 _ E).mono ?_
    rintro e w1 ⟨v, t, p, rfl, b1⟩
    go_wp2_with fail
    go_ret2
    exact ⟨rfl, b1⟩

/-- what stands while a text is read: its pieces, the bytes so far, the variables -/
structure PS (w : World) (xs : Nat → ByteArray) (f : Nat → Nat) (w' : World) : Prop where
  row : Row4 w (w.heap.size + 1) (fun j => .int .u8 (f j : Int)) w'
  pcs : ∀ j, j < 4 → w'.cell? ⟨w.heap.size, j, none⟩ = some (.string (xs j))
  env : Env w'
theorem PS.on {w w1 w2 : World} {xs : Nat → ByteArray} {f : Nat → Nat} (k : PS w xs f w1) (h : Below w1.heap.size w1 w2) : PS w xs f w2 :=
  ⟨k.row.on h, fun j hj => (h.cell (Nat.lt_of_le_of_lt (Nat.le_succ _) k.row.lt)).trans (k.pcs j hj), k.env.on h⟩
theorem PS.set {w w1 : World} {xs : Nat → ByteArray} {f : Nat → Nat} (k : PS w xs f w1) (E : Env w) (i : Nat) (hi : i < 4) (v : Nat) (g : Nat → Nat) (hg : ∀ j, j < 4 → g j = if j = i then v else f j) : PS w xs g (w1.setCell ⟨w.heap.size + 1, i, none⟩ (.int .u8 (v : Int))) := by
  have r := k.row.set i hi (.int .u8 (v : Int)) (fun j => .int .u8 (g j : Int)) (fun j hj => by
    show Value.int .u8 (g j : Int) = if j = i then .int .u8 (v : Int) else .int .u8 (f j : Int)
    rw [hg j hj]
    split <;> rfl)
  refine ⟨r, fun j hj => ?_, E.on r.bel⟩
  have hne : (⟨w.heap.size + 1, i, none⟩ : Addr) ≠ ⟨w.heap.size, j, none⟩ := fun x => by
    have := congrArg Addr.block x
    simp at this
  exact (World.cell?_setCell_other _ _ _ _ hne).trans (k.pcs j hj)

def cut (f : Nat → Nat) (k j : Nat) : Nat := if j < k then f j else 0

theorem list4B {α : Type} (l : List α) (h : l.length = 4) : ∃ a b c d, l = [a, b, c, d] := match l, h with
  | [a, b, c, d], _ => ⟨a, b, c, d, rfl⟩
def at4 (a b c d : ByteArray) (j : Nat) : ByteArray := if j = 0 then a else if j = 1 then b else if j = 2 then c else d

theorem PS.start (w : World) (a b c d : ByteArray) (N : Nat) (_ : 4 ≤ N) (E : Env w) (t : TypeId) :
    PS w (at4 a b c d) (cut (fun _ => 0) 0) ((w.alloc (.cells (Lib.cellsOf [a, b, c, d] N) t)).alloc (.cells #[.int .u8 0, .int .u8 0, .int .u8 0, .int .u8 0] 48)) := by
  have k := Row4.start (w.alloc (.cells (Lib.cellsOf [a, b, c, d] N) t)) (.int .u8 0) (.int .u8 0) (.int .u8 0) (.int .u8 0) 48
  have hz : (w.alloc (.cells (Lib.cellsOf [a, b, c, d] N) t)).heap.size = w.heap.size + 1 := by simp
  rw [hz] at k
  have bel := ((below_one w (.cells (Lib.cellsOf [a, b, c, d] N) t)).trans (k.bel.mono (by omega)))
  refine ⟨⟨bel, by omega, k.lt, fun j hj => (k.cell j hj).trans ?_, k.free⟩, fun j hj => ?_, E.on bel⟩
  · rcases (by omega : j = 0 ∨ j = 1 ∨ j = 2 ∨ j = 3) with rfl | rfl | rfl | rfl <;> rfl
  · rw [k.bel.cell (show w.heap.size < _ by omega), cell_of_row _ _ j _ _ _ (heap_alloc_new w _)]
    unfold Lib.cellsOf
    rcases (by omega : j = 0 ∨ j = 1 ∨ j = 2 ∨ j = 3) with rfl | rfl | rfl | rfl <;> simp [at4]

theorem num4 (a b c d : UInt8) : num [a, b, c, d] = ipn a.toNat b.toNat c.toNat d.toNat := by
  simp only [num, List.foldl_cons, List.foldl_nil]
  unfold ipn
  omega

set_option maxHeartbeats 2000000 in
theorem parse_few (s : ByteArray) (hs : s.size ≤ 65536) (w : World) (E : Env w) (h : (Lib.splitB ⟨#[46]⟩ 0 (min 5 (s.size + 1) - 1) s).length ≠ 4) :
    Calls Tryd.prog 9 #[.string s] w fun e w' => e = .returned (.tuple #[.int .u32 0, .int .i64 8]) ∧ Below w.heap.size w w' := by
  have H1 := hide (fun w E => split_any s (by omega) w E)
  generalize Lib.splitB ⟨#[46]⟩ 0 (min 5 (s.size + 1) - 1) s = ps at *
  generalize min 5 (s.size + 1) = N at *
  go_enter Tryd.func9, Tryd.ntmps9
  go_wp2_with fail
  refine (unhide H1 _ E).mono ?_
  rintro e w1 ⟨rfl, rfl⟩
  go_wp2_with fail
  go_ret2
  exact ⟨rfl, below_one _ _⟩

set_option maxHeartbeats 4000000 in
theorem parse_four (s : ByteArray) (hs : s.size ≤ 65536) (w : World) (E : Env w) (a b c d : ByteArray) (h : Lib.splitB ⟨#[46]⟩ 0 (min 5 (s.size + 1) - 1) s = [a, b, c, d]) (q : Nat) (hq : q ≤ 4) (f : Nat → Nat)
    (hN : 4 ≤ min 5 (s.size + 1)) (hsz : ∀ j, j < 4 → (at4 a b c d j).size ≤ 65536)
    (hok : ∀ j, j < q → numL (at4 a b c d j).data.toList = some (f j)) (hno : q < 4 → numL (at4 a b c d q).data.toList = none) :
    Calls Tryd.prog 9 #[.string s] w fun e w' => e = .returned (.tuple #[.int .u32 ((if q = 4 then ipn (f 0) (f 1) (f 2) (f 3) else 0 : Nat) : Int), .int .i64 (if q = 4 then 0 else 8)]) ∧ Below w.heap.size w w' := by
  generalize hri : (if q = 4 then ipn (f 0) (f 1) (f 2) (f 3) else 0 : Nat) = ri
  generalize hre : (if q = 4 then 0 else 8 : Int) = re
  have HRI := hide hri
  have HRE := hide hre
  clear hri hre
  have H1 := hide (fun w E => split_any s (by omega) w E)
  rw [h] at H1
  have K0 := hide (fun N (h : 4 ≤ N) t => PS.start w a b c d N h E t)
  generalize min 5 (s.size + 1) = N at *
  have HOK : Hid (∀ j, j < q → ∀ w, Env w → Calls Tryd.prog 26 #[.string (at4 a b c d j)] w fun e w' => e = .returned (.tuple #[.int .u8 (f j : Int), .bool true]) ∧ Below w.heap.size w w') := fun j hj w E => number_ok _ (by have := hsz j (by omega); omega) _ (hok j hj) w E
  have HNO : Hid (q < 4 → ∀ w, Env w → Calls Tryd.prog 26 #[.string (at4 a b c d q)] w fun e w' => e = .returned (.tuple #[.int .u8 0, .bool false]) ∧ Below w.heap.size w w') := fun hj w E => number_no _ (by have := hsz q hj; omega) (hno hj) w E
  have hfb : ∀ j, j < q → f j < 256 := fun j hj => (numL_some (hok j hj)).1
  have HFB := hide hfb
  clear hok hno hsz hfb
  generalize at4 a b c d = xs at *
  have hcl : [a, b, c, d].length = 4 := rfl
  go_enter Tryd.func9, Tryd.ntmps9
  go_wp2_with fail
  refine (unhide H1 _ E).mono ?_
  rintro e w1 ⟨rfl, rfl⟩
  go_wp2_with fail
  have k0 := unhide K0 N hN 9
  clear K0 H1
  generalize (w.alloc (.cells (Lib.cellsOf [a, b, c, d] N) 9)).alloc (.cells #[.int .u8 0, .int .u8 0, .int .u8 0, .int .u8 0] 48) = w2 at *
  have HJ : Hid (∀ w', PS w xs (cut f 4) w' → q = 4 → Calls Tryd.prog 27 #[.agg #[.int .u8 (f 0 : Int), .int .u8 (f 1 : Int), .int .u8 (f 2 : Int), .int .u8 (f 3 : Int)]] w' fun e w'' => e = .returned (.int .u32 ((ipn (f 0) (f 1) (f 2) (f 3) : Nat) : Int)) ∧ Below w'.heap.size w' w'') := fun w' _ e => by
    subst e
    have g : ∀ j, j < 4 → (UInt8.ofNat (f j)).toNat = f j := fun j hj => by
      rw [UInt8.toNat_ofNat']
      have := unhide HFB j hj
      omega
    have := ajoined_any (UInt8.ofNat (f 0)) (UInt8.ofNat (f 1)) (UInt8.ofNat (f 2)) (UInt8.ofNat (f 3)) w'
    rw [num4, g 0 (by omega), g 1 (by omega), g 2 (by omega), g 3 (by omega)] at this
    exact this
  go_loopw [17] (fun i wr => ∃ k : Nat, k ≤ q ∧ i = .int .i64 (k : Int) ∧ PS w xs (cut f k) wr) (fun i _ => 4 - (intOf i).toNat)
  case atStart => exact ⟨0, Nat.zero_le _, rfl, k0⟩
  case round =>
    obtain ⟨k, hk, rfl, kk⟩ := hrel
    clear k0
    by_cases h4 : k < 4
    · have cx := kk.pcs k h4
      by_cases hkq : k < q
      · have HC := hide (unhide HOK k hkq)
        have hfk := unhide HFB k hkq
        have KK := hide kk
        clear kk
        go_wp2_with fail
        refine (unhide HC _ (unhide KK).env).mono ?_
        rintro e w3 ⟨rfl, b3⟩
        have k3 := (unhide KK).on b3
        have c3 := k3.row.cell k h4
        have f3 := k3.row.free k h4
        have k4 := k3.set E k h4 (f k) (cut f (k + 1)) (fun j hj => by
          unfold cut
          by_cases e1 : j = k
          · subst e1
            rw [if_pos (by omega), if_pos rfl]
          · rw [if_neg e1]
            by_cases e2 : j < k
            · rw [if_pos (by omega), if_pos e2]
            · rw [if_neg (by omega), if_neg e2])
        have K4 := hide k4
        clear k3 k4 KK b3 cx
        go_wp2_with fail
        go_roundw
        case rel => exact ⟨k + 1, by omega, by go_num, unhide K4⟩
        case measure => simp [intOf]; omega
      · have e : k = q := by omega
        subst e
        have HC := hide (unhide HNO h4)
        have KK := hide kk
        clear kk
        go_wp2_with fail
        refine (unhide HC _ (unhide KK).env).mono ?_
        rintro e w3 ⟨rfl, b3⟩
        go_wp2_with fail
        go_ret2
        have e1 := unhide HRI
        have e2 := unhide HRE
        rw [if_neg (by omega)] at e1 e2
        subst e1
        subst e2
        exact ⟨rfl, ((unhide KK).on b3).row.bel⟩
    · have e : k = 4 := by omega
      have e2 : q = 4 := by omega
      subst e
      subst e2
      have c0 : wr.cell? ⟨w.heap.size + 1, 0, none⟩ = some (.int .u8 (f 0 : Int)) := kk.row.cell 0 (by omega)
      have c1 : wr.cell? ⟨w.heap.size + 1, 1, none⟩ = some (.int .u8 (f 1 : Int)) := kk.row.cell 1 (by omega)
      have c2 : wr.cell? ⟨w.heap.size + 1, 2, none⟩ = some (.int .u8 (f 2 : Int)) := kk.row.cell 2 (by omega)
      have c3 : wr.cell? ⟨w.heap.size + 1, 3, none⟩ = some (.int .u8 (f 3 : Int)) := kk.row.cell 3 (by omega)
      have HC := hide (unhide HJ _ kk rfl)
      have KK := hide kk
      clear kk
      go_wp2_with fail
      refine (unhide HC).mono ?_
      rintro e w3 ⟨rfl, b3⟩
      go_wp2_with fail
      go_ret2
      have e1 := unhide HRI
      have e2 := unhide HRE
      rw [if_pos (by trivial)] at e1 e2
      subst e1
      subst e2
      exact ⟨rfl, tr2 (unhide KK).row.bel b3⟩

theorem pieces_sizes {s a b c d : ByteArray} (h : Lib.splitB ⟨#[46]⟩ 0 (min 5 (s.size + 1) - 1) s = [a, b, c, d]) : pcs s.data.toList = [a.data.toList, b.data.toList, c.data.toList, d.data.toList] ∧ a.size ≤ s.size ∧ b.size ≤ s.size ∧ c.size ≤ s.size ∧ d.size ≤ s.size := by
  have hd := Lib.splitB_data ⟨#[46]⟩ 0 (min 5 (s.size + 1) - 1) s
  rw [h] at hd
  have hp : pcs s.data.toList = [a.data.toList, b.data.toList, c.data.toList, d.data.toList] := by
    unfold pcs
    rw [← Lib.size_eq s]
    exact hd.symm
  refine ⟨hp, ?_⟩
  have hj := splitK_join (min 5 (s.data.toList.length + 1) - 1) s.data.toList
  rw [show Lib.splitK [46] 0 (min 5 (s.data.toList.length + 1) - 1) s.data.toList = _ from hp, join4] at hj
  have hl := congrArg List.length hj
  simp only [List.length_append, List.length_cons, ← Lib.size_eq] at hl
  omega

theorem addrOf_pcs {l a b c d : List UInt8} (h : pcs l = [a, b, c, d]) : addrOf l = match numL a, numL b, numL c, numL d with
    | some x, some y, some z, some u => some (ipn x y z u)
    | _, _, _, _ => none := by
  unfold addrOf parseL
  rw [h]
  simp only
  cases numL a <;> cases numL b <;> cases numL c <;> cases numL d <;> rfl
theorem addrOf_few {l : List UInt8} (h : (pcs l).length ≠ 4) : addrOf l = none := by
  unfold addrOf parseL
  split
  · rename_i e
    rw [e] at h
    exact absurd rfl h
  · rfl

theorem parse_ok (s : ByteArray) (hs : s.size ≤ 65536) (ip : Nat) (h : addrOf s.data.toList = some ip) (w : World) (E : Env w) :
    Calls Tryd.prog 9 #[.string s] w fun e w' => e = .returned (.tuple #[.int .u32 (ip : Int), .int .i64 0]) ∧ Below w.heap.size w w' := by
  have hd := Lib.splitB_data ⟨#[46]⟩ 0 (min 5 (s.size + 1) - 1) s
  by_cases h4 : (Lib.splitB ⟨#[46]⟩ 0 (min 5 (s.size + 1) - 1) s).length = 4
  · obtain ⟨a, b, c, d, e⟩ := list4B _ h4
    obtain ⟨hp, sa, sb, sc, sd⟩ := pieces_sizes e
    have hle := Lib.splitB_length_le ⟨#[46]⟩ 0 (min 5 (s.size + 1) - 1) s
    rw [addrOf_pcs hp] at h
    split at h
    · rename_i x y z u e1 e2 e3 e4
      have hi := Option.some.inj h
      subst hi
      have := parse_four s hs w E a b c d e 4 (Nat.le_refl _) (fun j => if j = 0 then x else if j = 1 then y else if j = 2 then z else u) (by omega) (fun j hj => by
        rcases (by omega : j = 0 ∨ j = 1 ∨ j = 2 ∨ j = 3) with rfl | rfl | rfl | rfl
        · exact (show a.size ≤ 65536 by omega)
        · exact (show b.size ≤ 65536 by omega)
        · exact (show c.size ≤ 65536 by omega)
        · exact (show d.size ≤ 65536 by omega)) (fun j hj => by
        rcases (by omega : j = 0 ∨ j = 1 ∨ j = 2 ∨ j = 3) with rfl | rfl | rfl | rfl
        · exact e1
        · exact e2
        · exact e3
        · exact e4) (fun h => absurd h (by omega))
      exact this
    · simp at h
  · rw [addrOf_few (by
      have : (pcs s.data.toList).length = (Lib.splitB ⟨#[46]⟩ 0 (min 5 (s.size + 1) - 1) s).length := by
        rw [← List.length_map (f := fun x : ByteArray => x.data.toList), hd]
        unfold pcs
        rw [← Lib.size_eq s]
      omega)] at h
    simp at h

theorem parse_no (s : ByteArray) (hs : s.size ≤ 65536) (h : addrOf s.data.toList = none) (w : World) (E : Env w) :
    Calls Tryd.prog 9 #[.string s] w fun e w' => e = .returned (.tuple #[.int .u32 0, .int .i64 8]) ∧ Below w.heap.size w w' := by
  by_cases h4 : (Lib.splitB ⟨#[46]⟩ 0 (min 5 (s.size + 1) - 1) s).length = 4
  · obtain ⟨a, b, c, d, e⟩ := list4B _ h4
    obtain ⟨hp, sa, sb, sc, sd⟩ := pieces_sizes e
    have hle := Lib.splitB_length_le ⟨#[46]⟩ 0 (min 5 (s.size + 1) - 1) s
    rw [addrOf_pcs hp] at h
    have hsz : ∀ j, j < 4 → (at4 a b c d j).size ≤ 65536 := fun j hj => by
      rcases (by omega : j = 0 ∨ j = 1 ∨ j = 2 ∨ j = 3) with rfl | rfl | rfl | rfl
      · exact (show a.size ≤ 65536 by omega)
      · exact (show b.size ≤ 65536 by omega)
      · exact (show c.size ≤ 65536 by omega)
      · exact (show d.size ≤ 65536 by omega)
    have P := fun q hq (hq4 : q ≠ 4) hok hno => parse_four s hs w E a b c d e q hq (fun j => (numL (at4 a b c d j).data.toList).getD 0) (by omega) hsz hok hno
    have fin : ∀ q, q < 4 → (∀ j, j < q → (numL (at4 a b c d j).data.toList).isSome = true) → numL (at4 a b c d q).data.toList = none → Calls Tryd.prog 9 #[.string s] w fun e w' => e = .returned (.tuple #[.int .u32 0, .int .i64 8]) ∧ Below w.heap.size w w' := fun q hq hok hno => by
      have := P q (by omega) (by omega) (fun j hj => by
        obtain ⟨v, hv⟩ := Option.isSome_iff_exists.1 (hok j hj)
        simp [hv]) (fun _ => hno)
      rw [if_neg (by omega), if_neg (by omega)] at this
      exact this
    cases e1 : numL a.data.toList with
    | none => exact fin 0 (by omega) (fun j hj => absurd hj (by omega)) e1
    | some x =>
      cases e2 : numL b.data.toList with
      | none => exact fin 1 (by omega) (fun j hj => by obtain rfl : j = 0 := (by omega); exact Option.isSome_of_eq_some e1) e2
      | some y =>
        cases e3 : numL c.data.toList with
        | none => exact fin 2 (by omega) (fun j hj => by
            rcases (by omega : j = 0 ∨ j = 1) with rfl | rfl
            · exact Option.isSome_of_eq_some e1
            · exact Option.isSome_of_eq_some e2) e3
        | some z =>
          cases e4 : numL d.data.toList with
          | none => exact fin 3 (by omega) (fun j hj => by
              rcases (by omega : j = 0 ∨ j = 1 ∨ j = 2) with rfl | rfl | rfl
              · exact Option.isSome_of_eq_some e1
              · exact Option.isSome_of_eq_some e2
              · exact Option.isSome_of_eq_some e3) e4
          | some u => rw [e1, e2, e3, e4] at h; simp at h
  · exact parse_few s hs w E h4

end Go.Proofs.YtnglkadfnacmcaaDoor
