/- The contract of package ether's Parse, over the loaded program; no memory that was there has turned. Conditions: texts of bounded length. -/
import Derived.Test.YtdgjoconppmihaaEt4
namespace Go.Proofs.Ytdgjoconppmihaa
open Go.RowKit Go.Shelf

attribute [local go_sem] Oper.semAt_some

/-- the number of bytes that came -/
def mN (l : List Ob) : Nat := l.foldl (fun m x => m * 256 + x.1.1) 0
theorem mN_snoc (l : List Ob) (x : Ob) : mN (l ++ [x]) = mN l * 256 + x.1.1 := by simp [mN, List.foldl_append]
theorem mN_step (l : List Ob) (x : Ob) (h : mN l < 256 ^ l.length) : mN (l ++ [x]) < 256 ^ (l.length + 1) := by
  rw [mN_snoc, Nat.pow_succ]
  have := x.1.2
  omega
theorem or8 (m b : Nat) (hm : m < 1099511627776) (hb : b < 256) : bits .or .u64 ((m : Int) * 256) (b : Int) = ((m * 256 + b : Nat) : Int) := by
  rw [show (m : Int) * 256 = ((m * 256 : Nat) : Int) from by omega, u64_or_nat (m * 256) b (by omega) (by omega), nat_join 8 (m * 256) b (by omega) (by omega)]

/-- what stands between two rounds -/
structure PI (b : Nat) (pre : List Ob) (W : World) : Prop where
  ok : ∀ y ∈ pre, y.2 = true
  lt : mN pre < 256 ^ pre.length
  c0 : W.cell? ⟨b, 0, none⟩ = some (.int .u64 0)
  f0 : W.frozen? ⟨b, 0, none⟩ = false
  c1 : W.cell? ⟨b + 1, 0, none⟩ = some (.int .i64 0)
  f1 : W.frozen? ⟨b + 1, 0, none⟩ = false
  c2 : W.cell? ⟨b + 2, 0, none⟩ = some (.int .u64 (mN pre : Nat))
  f2 : W.frozen? ⟨b + 2, 0, none⟩ = false

/-- a round has left: a byte stood otherwise than it must -/
structure PX (b : Nat) (pre : List Ob) (W : World) : Prop where
  no : ∃ y ∈ pre, y.2 = false
  c0 : W.cell? ⟨b, 0, none⟩ = some (.int .u64 0)
  c1 : W.cell? ⟨b + 1, 0, none⟩ = some (.int .i64 8)
theorem ne_addr {a b : Nat} (h : a ≠ b) : (⟨a, 0, none⟩ : Addr) ≠ ⟨b, 0, none⟩ := fun x => h (congrArg Addr.block x)

set_option maxRecDepth 100000 in
set_option maxHeartbeats 2000000 in
theorem parse_in (s : ByteArray) (l : List UInt8) (hl : l.length = 18) (hs : s ++ ⟨#[58]⟩ = rk l 0) (hz : s.size = 17) (V : Nat) (E : Int) (w : World)
    (hall : ((∀ y ∈ upto (obk l) 6, y.2 = true) ∧ V = mN (upto (obk l) 6) ∧ E = 0) ∨ ((∃ y ∈ upto (obk l) 6, y.2 = false) ∧ V = 0 ∧ E = 8)) :
    CallsIn Fence.wide 3 Try.prog 14 #[.string s] w fun e W' => e = .returned (.tuple #[.int .u64 (V : Int), .int .i64 E]) ∧ Below w.heap.size w W' := by
  have HALL := hide hall
  clear hall
  refine callsIn_of_wp_marks Try.func14 rfl trivial ?_ rfl
  simp only [Try.ntmps14, List.size_toArray, List.length_cons, List.length_nil, Nat.reduceAdd, Nat.reduceSub, Array.replicate_succ, Array.replicate_zero, List.push_toArray, List.append_toArray, List.nil_append, List.cons_append]
  have HO := hide (fun w n => octets_in s w n)
  gi_wp2
  refine ⟨trivial, (unhide HO _ _).mono ?_⟩
  rintro e w' ⟨rfl, rfl⟩
  gi_wp2
  have k0 := ((((Tab.zero w).alloc rfl [.int .u64 0] 23).alloc (by simp) [.int .i64 0] 29).alloc (by simp) [.int .u64 0] 23).alloc (by simp) [.string s] 9
  have hsz : ((((w.alloc (.cells #[.int .u64 0] 23)).alloc (.cells #[.int .i64 0] 29)).alloc (.cells #[.int .u64 0] 23)).alloc (.cells #[.string s] 9)).heap.size = w.heap.size + 4 := by simp
  simp only [Nat.add_assoc, Nat.reduceAdd]
  generalize (((w.alloc (.cells #[.int .u64 0] 23)).alloc (.cells #[.int .i64 0] 29)).alloc (.cells #[.int .u64 0] 23)).alloc (.cells #[.string s] 9) = w4 at *
  have HSZ := hide hsz
  have hle : w.heap.size + 3 < w4.heap.size := by omega
  have hge : w.heap.size ≤ w4.heap.size := by omega
  have HSEQ := octets_stops (3 - 1) (by decide) (w.heap.size + 3) w.heap.size s l hl hs hz w4 hle (k0.cells 3 0 _ rfl)
  have hB0 := k0.bel
  have h00 : PI w.heap.size [] w4 := ⟨by simp, by simp [mN], k0.cells 0 0 _ rfl, k0.free 0 0 _ rfl, k0.cells 1 0 _ rfl, k0.free 1 0 _ rfl, k0.cells 2 0 _ rfl, k0.free 2 0 _ rfl⟩
  clear hsz
  refine wpIn_rangeFunc_ownF rfl (by decide) (gf := 44) (lb := #[.pointer (some ⟨w.heap.size + 3, 0, none⟩)]) rfl trivial (enters_of Try.func44 (by kernel_rfl) rfl)
    HSEQ belowK_t (belowK_b hge) (Below.refl _ _) (fun _ => rfl)
    (fun pre W => PI w.heap.size pre W ∧ Below w.heap.size w W)
    (fun c pre W => (c = .ret ∧ PX w.heap.size pre W) ∧ Below w.heap.size w W)
    (OwnFrom.and (Own.from (fun s A B row hs hg hr => ⟨hs.ok, hs.lt, cell_kept hs.c0 hg hr, (frozen_kept hs.c0 hg hr).trans hs.f0, cell_kept hs.c1 hg hr, (frozen_kept hs.c1 hg hr).trans hs.f1, cell_kept hs.c2 hg hr, (frozen_kept hs.c2 hg hr).trans hs.f2⟩) _) (ownFrom_below (Nat.le_refl _) hge))
    (fun c => OwnFrom.and (Own.from (fun s A B row hs hg hr => ⟨hs.1, hs.2.no, cell_kept hs.2.c0 hg hr, cell_kept hs.2.c1 hg hr⟩) _) (ownFrom_below (Nat.le_refl _) hge))
    ⟨h00, hB0⟩
    (fun x => { tmps := #[.string s, undef, .pointer (some ⟨w.heap.size, 0, none⟩), .pointer (some ⟨w.heap.size + 1, 0, none⟩), .pointer (some ⟨w.heap.size + 2, 0, none⟩), .int .u8 (x.1.1 : Int), .bool x.2, .string s, .int .i64 17, .bool false, .string s, .func (.func 44) #[] #[.pointer (some ⟨w.heap.size + 3, 0, none⟩)], .int .u8 (x.1.1 : Int), .bool x.2, undef, undef, undef, undef, undef, undef, undef, undef], defers := [] }) ?assign ?body ?done ?stop
  case assign =>
    intro l x W K hK
    gi_wp2
    exact hK
  case body =>
    rintro lp pre x W ⟨hP, hB⟩ hpl
    obtain ⟨⟨v, hv⟩, t⟩ := x
    obtain ⟨hok, hlt, c0, f0, c1, f1, c2, f2⟩ := hP
    have hp : 256 ^ pre.length ≤ 256 ^ 5 := Nat.pow_le_pow_right (by omega) (by omega)
    have hm : mN pre < 1099511627776 := by simp at hp; omega
    have HS := hide (mN_snoc pre (⟨v, hv⟩, t))
    have HT := hide (mN_step pre (⟨v, hv⟩, t) hlt)
    have hor := or8 (mN pre) v hm hv
    clear hp hlt
    cases t
    · gi_wp2
      have d0 := World.cell?_setCell_same' W ⟨w.heap.size, 0, none⟩ (.int .u64 0) (by rw [c0]; rfl)
      have d1 : (W.setCell ⟨w.heap.size, 0, none⟩ (.int .u64 0)).cell? ⟨w.heap.size + 1, 0, none⟩ = some (.int .i64 0) := (World.cell?_setCell_other _ _ _ _ (ne_addr (by omega))).trans c1
      exact ⟨(KeepsOthers.setCell _ _ _).trans (KeepsOthers.setCell _ _ _), ⟨rfl, ⟨⟨_, List.mem_append.2 (.inr (List.mem_singleton.2 rfl)), rfl⟩, (World.cell?_setCell_other _ _ _ _ (ne_addr (by omega))).trans d0, World.cell?_setCell_same' _ _ _ (by rw [d1]; rfl)⟩⟩,
        (hB.setCell (p := ⟨w.heap.size, 0, none⟩) (Nat.le_refl _) _).setCell (p := ⟨w.heap.size + 1, 0, none⟩) (show w.heap.size ≤ w.heap.size + 1 by omega) _⟩
    · gi_wp2
      have e : (mN pre : Int) * 256 + (v : Int) = ((mN (pre ++ [(⟨v, hv⟩, true)]) : Nat) : Int) := by rw [unhide HS]; omega
      rw [e]
      refine ⟨KeepsOthers.setCell _ _ _, (Below.refl w.heap.size W).setCell (p := ⟨w.heap.size + 2, 0, none⟩) (show w.heap.size ≤ w.heap.size + 2 by omega) _, ⟨?_, ?_, ?_, ?_, ?_, ?_, ?_, ?_⟩, hB.setCell (p := ⟨w.heap.size + 2, 0, none⟩) (show w.heap.size ≤ w.heap.size + 2 by omega) _⟩
      · intro y hy
        rcases List.mem_append.1 hy with h | h
        · exact hok y h
        · rw [List.mem_singleton.1 h]
      · rw [List.length_append]; exact unhide HT
      · exact (World.cell?_setCell_other _ _ _ _ (ne_addr (by omega))).trans c0
      · rw [World.frozen?_setCell]; exact f0
      · exact (World.cell?_setCell_other _ _ _ _ (ne_addr (by omega))).trans c1
      · rw [World.frozen?_setCell]; exact f1
      · exact World.cell?_setCell_same' _ _ _ (by rw [c2]; rfl)
      · rw [World.frozen?_setCell]; exact f2
  case done =>
    rintro D ys W hD rfl ⟨hP, hB⟩ hK
    obtain ⟨hok, hlt, c0, f0, c1, f1, c2, f2⟩ := hP
    have hV : V = mN (upto (obk l) 6) ∧ E = 0 := by
      rcases unhide HALL with h | ⟨⟨y, hy, e⟩, _⟩
      · exact h.2
      · rw [hok y hy] at e; cases e
    obtain ⟨hV, rfl⟩ := hV
    rw [← hV] at c2 hlt
    clear HALL hok HSEQ hV
    gi_wp2
    have d0 := World.cell?_setCell_same' W ⟨w.heap.size, 0, none⟩ (.int .u64 (V : Int)) (by rw [c0]; rfl)
    have d1 : (W.setCell ⟨w.heap.size, 0, none⟩ (.int .u64 (V : Int))).cell? ⟨w.heap.size + 1, 0, none⟩ = some (.int .i64 0) := (World.cell?_setCell_other _ _ _ _ (ne_addr (by omega))).trans c1
    have g0 : ((W.setCell ⟨w.heap.size, 0, none⟩ (.int .u64 (V : Int))).setCell ⟨w.heap.size + 1, 0, none⟩ (.int .i64 0)).cell? ⟨w.heap.size, 0, none⟩ = some (.int .u64 (V : Int)) := (World.cell?_setCell_other _ _ _ _ (ne_addr (by omega))).trans d0
    have g1 := World.cell?_setCell_same' (W.setCell ⟨w.heap.size, 0, none⟩ (.int .u64 (V : Int))) ⟨w.heap.size + 1, 0, none⟩ (.int .i64 0) (by rw [d1]; rfl)
    have hK' := ((KeepsOthers.setCell W ⟨w.heap.size, 0, none⟩ (.int .u64 (V : Int))).trans (KeepsOthers.setCell _ ⟨w.heap.size + 1, 0, none⟩ (.int .i64 0))).same D _ hK rfl
    refine ⟨by simp, .inl ⟨_, _, rfl, run_takeDeferred hK', ?_⟩⟩
    have h0 := cell_kept g0 (grownBy_putObj' _ D (.deferred none)) (fun r e => by cases e; exact ⟨_, hK', rfl⟩)
    have h1 := cell_kept g1 (grownBy_putObj' _ D (.deferred none)) (fun r e => by cases e; exact ⟨_, hK', rfl⟩)
    refine ⟨.tuple #[.int .u64 (V : Int), .int .i64 0], ?_, rfl, (((hB.setCell (p := ⟨w.heap.size, 0, none⟩) (Nat.le_refl _) _).setCell (p := ⟨w.heap.size + 1, 0, none⟩) (show w.heap.size ≤ w.heap.size + 1 by omega) _)).trans (belowK_b (w := w) (Nat.le_refl _) _ D _ _ (by omega) hK' rfl rfl)⟩
    simp [results, Try.results14, go_sem, h0, h1]
  case stop =>
    rintro D c pre W hD hpre ⟨⟨rfl, hX⟩, hB⟩ hK
    have hV : V = 0 ∧ E = 8 := by
      rcases unhide HALL with h | h
      · obtain ⟨y, hy, e⟩ := hX.no
        rw [h.1 y (hpre.subset hy)] at e; cases e
      · exact h.2
    obtain ⟨rfl, rfl⟩ := hV
    obtain ⟨_, c0, c1⟩ := hX
    clear HALL
    gi_wp2
    refine ⟨by simp, .inl ⟨_, _, rfl, run_takeDeferred hK, ?_⟩⟩
    have h0 := cell_kept c0 (grownBy_putObj' _ D (.deferred none)) (fun r e => by cases e; exact ⟨_, hK, rfl⟩)
    have h1 := cell_kept c1 (grownBy_putObj' _ D (.deferred none)) (fun r e => by cases e; exact ⟨_, hK, rfl⟩)
    refine ⟨.tuple #[.int .u64 0, .int .i64 8], ?_, rfl, hB.trans (belowK_b (w := w) (Nat.le_refl _) W D _ _ (by omega) hK rfl rfl)⟩
    simp [results, Try.results14, go_sem, h0, h1]

theorem list17 (l : List UInt8) (h : l.length = 17) : ∃ a0 b0 c0 a1 b1 c1 a2 b2 c2 a3 b3 c3 a4 b4 c4 a5 b5, l = [a0, b0, c0, a1, b1, c1, a2, b2, c2, a3, b3, c3, a4, b4, c4, a5, b5] := match l, h with
  | [a0, b0, c0, a1, b1, c1, a2, b2, c2, a3, b3, c3, a4, b4, c4, a5, b5], _ => ⟨a0, b0, c0, a1, b1, c1, a2, b2, c2, a3, b3, c3, a4, b4, c4, a5, b5, rfl⟩
theorem obs17 (a0 b0 c0 a1 b1 c1 a2 b2 c2 a3 b3 c3 a4 b4 c4 a5 b5 : UInt8) : upto (obk [a0, b0, c0, a1, b1, c1, a2, b2, c2, a3, b3, c3, a4, b4, c4, a5, b5, 58]) 6 = [ob a0 b0 c0, ob a1 b1 c1, ob a2 b2 c2, ob a3 b3 c3, ob a4 b4 c4, ob a5 b5 58] := rfl
theorem ofNat_oct (a b : UInt8) : (UInt8.ofNat (oct a b)).toNat = oct a b := by
  rw [UInt8.toNat_ofNat']
  have := oct_lt a b
  omega
/-- a text of 17 signs all of whose bytes stand as they must is an address's -/
theorem all_ok {a0 b0 c0 a1 b1 c1 a2 b2 c2 a3 b3 c3 a4 b4 c4 a5 b5 : UInt8} (h : ∀ y ∈ [ob a0 b0 c0, ob a1 b1 c1, ob a2 b2 c2, ob a3 b3 c3, ob a4 b4 c4, ob a5 b5 58], y.2 = true) :
    [a0, b0, c0, a1, b1, c1, a2, b2, c2, a3, b3, c3, a4, b4, c4, a5, b5] = mtxt (mN [ob a0 b0 c0, ob a1 b1 c1, ob a2 b2 c2, ob a3 b3 c3, ob a4 b4 c4, ob a5 b5 58]) ∧ mN [ob a0 b0 c0, ob a1 b1 c1, ob a2 b2 c2, ob a3 b3 c3, ob a4 b4 c4, ob a5 b5 58] < 281474976710656 := by
  obtain ⟨e0, f0⟩ := isOct_iff (show isOct a0 b0 c0 = true from h (ob a0 b0 c0) (by simp))
  obtain ⟨e1, f1⟩ := isOct_iff (show isOct a1 b1 c1 = true from h (ob a1 b1 c1) (by simp))
  obtain ⟨e2, f2⟩ := isOct_iff (show isOct a2 b2 c2 = true from h (ob a2 b2 c2) (by simp))
  obtain ⟨e3, f3⟩ := isOct_iff (show isOct a3 b3 c3 = true from h (ob a3 b3 c3) (by simp))
  obtain ⟨e4, f4⟩ := isOct_iff (show isOct a4 b4 c4 = true from h (ob a4 b4 c4) (by simp))
  obtain ⟨e5, _⟩ := isOct_iff (show isOct a5 b5 58 = true from h (ob a5 b5 58) (by simp))
  have hm : mN [ob a0 b0 c0, ob a1 b1 c1, ob a2 b2 c2, ob a3 b3 c3, ob a4 b4 c4, ob a5 b5 58] = num [UInt8.ofNat (oct a0 b0), UInt8.ofNat (oct a1 b1), UInt8.ofNat (oct a2 b2), UInt8.ofNat (oct a3 b3), UInt8.ofNat (oct a4 b4), UInt8.ofNat (oct a5 b5)] := by
    rw [num6, ofNat_oct, ofNat_oct, ofNat_oct, ofNat_oct, ofNat_oct, ofNat_oct]
    show (((((0 * 256 + oct a0 b0) * 256 + oct a1 b1) * 256 + oct a2 b2) * 256 + oct a3 b3) * 256 + oct a4 b4) * 256 + oct a5 b5 = _
    omega
  rw [hm]
  constructor
  · rw [mtxt_num6]
    unfold tx6
    rw [← e0, ← e1, ← e2, ← e3, ← e4, ← e5, f0, f1, f2, f3, f4]
    rfl
  · have hl := num_lt [UInt8.ofNat (oct a0 b0), UInt8.ofNat (oct a1 b1), UInt8.ofNat (oct a2 b2), UInt8.ofNat (oct a3 b3), UInt8.ofNat (oct a4 b4), UInt8.ofNat (oct a5 b5)]
    simp only [List.length_cons, List.length_nil, Nat.reduceAdd, Nat.reducePow] at hl
    exact hl
theorem some_no (l : List Ob) : (∀ y ∈ l, y.2 = true) ∨ ∃ y ∈ l, y.2 = false := by
  by_cases h : ∃ y ∈ l, y.2 = false
  · exact .inr h
  · refine .inl (fun y hy => ?_)
    cases e : y.2 with
    | true => rfl
    | false => exact absurd ⟨y, hy, e⟩ h
theorem cat58 (l : List UInt8) : (⟨l.toArray⟩ : ByteArray) ++ ⟨#[58]⟩ = rk (l ++ [58]) 0 := by
  apply ByteArray.ext
  rw [ByteArray.data_append]
  unfold rk
  simp
theorem mk_list (s : ByteArray) : s = ⟨s.data.toList.toArray⟩ := ByteArray.ext (by simp)

theorem parse_txt (x : Nat) (hlt : x < 281474976710656) (w : World) :
    Calls Try.prog 14 #[.string ⟨(mtxt x).toArray⟩] w fun e w' => e = .returned (.tuple #[.int .u64 (x : Int), .int .i64 0]) ∧ Below w.heap.size w w' := by
  refine callsIn_wide.1 (parse_in ⟨(mtxt x).toArray⟩ (mtxt x ++ [58]) rfl (cat58 _) rfl x 0 w ?_)
  left
  have hall : ∀ y ∈ upto (obk (mtxt x ++ [58])) 6, y.2 = true := by
    intro y hy
    have e : upto (obk (mtxt x ++ [58])) 6 = [ob (hx ((byt x 5).toNat / 16)) (hx ((byt x 5).toNat % 16)) 58, ob (hx ((byt x 4).toNat / 16)) (hx ((byt x 4).toNat % 16)) 58, ob (hx ((byt x 3).toNat / 16)) (hx ((byt x 3).toNat % 16)) 58, ob (hx ((byt x 2).toNat / 16)) (hx ((byt x 2).toNat % 16)) 58, ob (hx ((byt x 1).toNat / 16)) (hx ((byt x 1).toNat % 16)) 58, ob (hx ((byt x 0).toNat / 16)) (hx ((byt x 0).toNat % 16)) 58] := rfl
    rw [e] at hy
    simp only [List.mem_cons, List.not_mem_nil, or_false] at hy
    rcases hy with rfl | rfl | rfl | rfl | rfl | rfl <;> exact isOct_pr _
  have hm := (all_ok (a0 := hx ((byt x 5).toNat / 16)) (b0 := hx ((byt x 5).toNat % 16)) (c0 := 58) (a1 := hx ((byt x 4).toNat / 16)) (b1 := hx ((byt x 4).toNat % 16)) (c1 := 58) (a2 := hx ((byt x 3).toNat / 16)) (b2 := hx ((byt x 3).toNat % 16)) (c2 := 58) (a3 := hx ((byt x 2).toNat / 16)) (b3 := hx ((byt x 2).toNat % 16)) (c3 := 58) (a4 := hx ((byt x 1).toNat / 16)) (b4 := hx ((byt x 1).toNat % 16)) (c4 := 58) (a5 := hx ((byt x 0).toNat / 16)) (b5 := hx ((byt x 0).toNat % 16)) hall)
  exact ⟨hall, mtxt_inj hlt hm.2 hm.1, rfl⟩

set_option maxHeartbeats 400000 in
theorem parse_len (s : ByteArray) (h : s.size ≠ 17) (w : World) :
    Calls Try.prog 14 #[.string s] w fun e w' => e = .returned (.tuple #[.int .u64 0, .int .i64 8]) ∧ Below w.heap.size w w' := by
  have hne : ((s.size : Int) == 17) = false := by
    apply Bool.eq_false_iff.2
    intro e
    rw [beq_iff_eq] at e
    omega
  go_enter Try.func14, Try.ntmps14
  go_wp2
  refine bodyPost_ret (v := .tuple #[.int .u64 0, .int .i64 8]) (by simp [results, Try.results14, go_sem]) rfl ⟨rfl, ?_⟩
  exact ((Below.refl _ _).alloc (Nat.le_refl _) _).alloc (by simp) _

theorem parse_no (s : ByteArray) (h : ∀ x, x < 281474976710656 → s.data.toList ≠ mtxt x) (w : World) :
    Calls Try.prog 14 #[.string s] w fun e w' => e = .returned (.tuple #[.int .u64 0, .int .i64 8]) ∧ Below w.heap.size w w' := by
  by_cases hz : s.size = 17
  · obtain ⟨a0, b0, c0, a1, b1, c1, a2, b2, c2, a3, b3, c3, a4, b4, c4, a5, b5, hl⟩ := list17 s.data.toList (by rw [← Lib.size_eq]; exact hz)
    have hs := mk_list s
    rw [hl] at hs h
    subst hs
    refine callsIn_wide.1 (parse_in _ ([a0, b0, c0, a1, b1, c1, a2, b2, c2, a3, b3, c3, a4, b4, c4, a5, b5] ++ [58]) rfl (cat58 _) rfl 0 8 w ?_)
    right
    refine ⟨?_, rfl, rfl⟩
    rcases some_no (upto (obk ([a0, b0, c0, a1, b1, c1, a2, b2, c2, a3, b3, c3, a4, b4, c4, a5, b5] ++ [58])) 6) with h1 | h1
    · obtain ⟨g1, g2⟩ := all_ok h1
      exact absurd g1 (h _ g2)
    · exact h1
  · exact parse_len s hz w

end Go.Proofs.Ytdgjoconppmihaa
