/- The statement SteerMixed's walk: the hash of what two texts differ in. -/
import Derived.Test.YtkhkobdbbffkbaaLm0
namespace Go.Proofs.Ytkhkobdbbffkbaa
open Go.RowKit

/-- a text's bytes, and as many zeros, each in a block of its own -/
structure Two (w : World) (n : Nat) (i j : Nat) (f g : Nat → Nat) (wx : World) : Prop where
  b : RowB wx i n f
  d : RowB wx j n g
  ne : i ≠ j
  li : w.heap.size ≤ i
  lj : w.heap.size ≤ j
  bel : Below w.heap.size w wx
theorem bel2 {w wx : World} (h : Below w.heap.size w wx) : Below w.heap.size w wx.drew.drew := h.drew.drew
theorem Two.one (w : World) (s : ByteArray) (c : Nat) (t : TypeId) : Two w s.size w.heap.size (w.heap.size + 1) (bt s) (fun _ => 0)
    ((w.alloc (.cells (bytesRow s c) t ((bytesRow s c).size, (bytesRow s c).size + 1))).alloc (.cells (Array.replicate s.size (.int .u8 0)) t)).drew.drew := by
  have h1 := RowB.text w s c t
  have h2 := RowB.zero (w.alloc (.cells (bytesRow s c) t ((bytesRow s c).size, (bytesRow s c).size + 1))) s.size t
  rw [World.size_alloc] at h2
  exact ⟨h1.on ((below_one _ _).drew.drew), h2.on ((Below.refl _ _).drew.drew), by omega, Nat.le_refl _, Nat.le_succ _, ((below_one w _).alloc (by simp) _).drew.drew⟩
theorem Two.other (w : World) (s : ByteArray) (c : Nat) (t : TypeId) : Two w s.size (w.heap.size + 1) w.heap.size (bt s) (fun _ => 0)
    ((w.alloc (.cells (Array.replicate s.size (.int .u8 0)) t)).alloc (.cells (bytesRow s c) t ((bytesRow s c).size, (bytesRow s c).size + 1))).drew.drew := by
  have h1 := RowB.text (w.alloc (.cells (Array.replicate s.size (.int .u8 0)) t)) s c t
  have h2 := RowB.zero w s.size t
  rw [World.size_alloc] at h1
  exact ⟨h1.on ((Below.refl _ _).drew.drew), h2.on ((below_one _ _).drew.drew), by omega, Nat.le_succ _, Nat.le_refl _, ((below_one w _).alloc (by simp) _).drew.drew⟩

theorem Two.on {w wx wy : World} {n i j : Nat} {f g : Nat → Nat} (h : Two w n i j f g wx) (k : Below wx.heap.size wx wy) : Two w n i j f g wy :=
  ⟨h.b.on k, h.d.on k, h.ne, h.li, h.lj, tr2 h.bel k⟩

/-- the first k bytes turned -/
def fB (s : ByteArray) (Y : Nat → Nat) (k j : Nat) : Nat := if j < k then bt s j ^^^ Y j else bt s j
def fD (Y : Nat → Nat) (k j : Nat) : Nat := if j < k then Y j else 0
theorem fB_lt (s : ByteArray) {Y : Nat → Nat} (hY : ∀ j, Y j < 256) (k j : Nat) : fB s Y k j < 256 := by
  unfold fB
  split
  · exact Nat.xor_lt_two_pow (n := 8) (bt_lt s j) (hY j)
  · exact bt_lt s j
theorem fD_lt {Y : Nat → Nat} (hY : ∀ j, Y j < 256) (k j : Nat) : fD Y k j < 256 := by
  unfold fD
  split
  · exact hY j
  · decide
theorem fD_eq (s : ByteArray) (Y : Nat → Nat) (k j : Nat) : fD Y k j = bt s j ^^^ fB s Y k j := by
  unfold fD fB
  split
  · rw [← Nat.xor_assoc, Nat.xor_self, Nat.zero_xor]
  · rw [Nat.xor_self]
/-- the hash of what the two texts differ in -/
theorem mixed_hash (key s : ByteArray) {Y : Nat → Nat} (hY : ∀ j, Y j < 256) (k : Nat) :
    hsh key s ^^^ hsh key (strOf (fB s Y k) s.size) = hsh key (strOf (fD Y k) s.size) := by
  refine hsh_xor (by rw [strOf_size]) (by rw [strOf_size, strOf_size]) (fun j hj => ?_)
  rw [strOf_size] at hj
  rw [strOf_bt _ _ _ hj (fD_lt hY k j), strOf_bt _ _ _ hj (fB_lt s hY k j)]
  exact fD_eq s Y k j
theorem Two.step {w wx : World} {s : ByteArray} {Y : Nat → Nat} {k i j : Nat} (h : Two w s.size i j (fB s Y k) (fD Y k) wx) (hk : k < s.size) :
    Two w s.size i j (fB s Y (k + 1)) (fD Y (k + 1)) ((wx.setCell ⟨i, k, none⟩ (.int .u8 ((bt s k ^^^ Y k : Nat) : Int))).setCell ⟨j, k, none⟩ (.int .u8 ((Y k : Nat) : Int))) := by
  have hb := (h.b.set (g := fB s Y (k + 1)) k hk (bt s k ^^^ Y k) (fun m _ => by
    unfold fB
    by_cases e : m = k
    · subst e; simp
    · simp only [e, if_false]
      by_cases e2 : m < k
      · rw [if_pos (by omega), if_pos e2]
      · rw [if_neg (by omega), if_neg e2]))
  have hd := ((h.d.far (k := k) h.ne (.int .u8 ((bt s k ^^^ Y k : Nat) : Int))).set (g := fD Y (k + 1)) k hk (Y k) (fun m _ => by
    unfold fD
    by_cases e : m = k
    · subst e; simp
    · simp only [e, if_false]
      by_cases e2 : m < k
      · rw [if_pos (by omega), if_pos e2]
      · rw [if_neg (by omega), if_neg e2]))
  exact ⟨hb.far h.ne.symm _, hd, h.ne, h.li, h.lj, (h.bel.setCell (p := ⟨i, k, none⟩) h.li _).setCell (p := ⟨j, k, none⟩) h.lj _⟩

set_option maxRecDepth 100000 in
set_option maxHeartbeats 1000000 in
theorem mixed_in (key text : ByteArray) (by_ : Value) (l : List Int) (w : World) (hk : key.size = 40) (ht : text.size ≤ 36) (hl : l.length ≤ 1024) (a : Option Addr) (cap : Nat) (hb : by_ = .slice a l.length cap)
    (Y : Nat → Nat) (hY : ∀ j, Y j < 256) (hc : ∀ j, j < l.length → ∃ b off, a = some ⟨b, off, none⟩ ∧ b < w.heap.size ∧ w.cell? ⟨b, off + j, none⟩ = some (.int .u8 (Y j : Nat))) :
    Calls Try.prog 4 #[.string key, .string text, by_] w fun e w' => e = .returned (.bool true) ∧ Below w.heap.size w w' := by
  subst hb
  have HC := hide hc
  have HW := hide works_any
  have HY := hide hY
  clear hc hY
  have hcv := fun w => run_bytes_of_string (P := Try.prog) w 9 36 5 text Try.underlying9 Try.underlying36 Try.underlying5
  have hmk := fun w => make_bytes text.size (by omega) w
  go_enter Try.func4, Try.ntmps4
  go_upto_region 3 with fail
  go_cut [7, 8] from 30 to 34 (fun vb vd wx => ∃ (i j c : Nat), vb = .slice (some ⟨i, 0, none⟩) text.size c ∧ vd = .slice (some ⟨j, 0, none⟩) text.size text.size ∧ Two w text.size i j (bt text) (fun _ => 0) wx)
  case first =>
    go_region
    · go_wp2_with fail
      go_meet
      exact ⟨_, _, _, rfl, rfl, Two.one _ _ _ _⟩
    · go_wp2_with fail
      go_meet
      exact ⟨_, _, _, rfl, rfl, Two.other _ _ _ _⟩
  case rest =>
    obtain ⟨i, j, c, rfl, rfl, hT⟩ := hcut
    have HT := hide hT
    clear hcv hmk hT
    go_wp2
    go_loopw [9] (fun x wr => ∃ k : Nat, k ≤ text.size ∧ k ≤ l.length ∧ x = .int .i64 (k : Int) ∧ Two w text.size i j (fB text Y k) (fD Y k) wr) (fun x _ => text.size - (intOf x).toNat)
    case atStart => exact ⟨0, Nat.zero_le _, Nat.zero_le _, rfl, unhide HT⟩
    case round =>
      obtain ⟨k, hk1, hk2, rfl, hR⟩ := hrel
      by_cases hlt : k < text.size ∧ k < l.length
      · obtain ⟨b, off, rfl, hbl, hc0⟩ := unhide HC k hlt.2
        have hYk := unhide HY k
        have hbk := bt_lt text k
        have q0 : wr.cell? ⟨b, off + k, none⟩ = some (.int .u8 (Y k : Nat)) := (hR.bel.cell hbl).trans hc0
        have q1 : wr.cell? ⟨i, k, none⟩ = some (.int .u8 (bt text k : Nat)) := by
          have := hR.b.cell k hlt.1
          unfold fB at this
          rw [if_neg (Nat.lt_irrefl k)] at this
          exact this
        have q2 : wr.cell? ⟨j, k, none⟩ = some (.int .u8 0) := by
          have := hR.d.cell k hlt.1
          unfold fD at this
          rw [if_neg (Nat.lt_irrefl k)] at this
          exact this
        have f1 := hR.b.free k hlt.1
        have f2 := hR.d.free k hlt.1
        have n1 : b ≠ i := by have := hR.li; omega
        have n2 : b ≠ j := by have := hR.lj; omega
        have n3 : i ≠ j := hR.ne
        have HX := hide (u8_xor_nat (bt text k) (Y k) hbk hYk)
        have HS := hide (hR.step hlt.1)
        have hi1 : (k : Int) < (text.size : Int) := by omega
        have hi2 : (k : Int) < (l.length : Int) := by omega
        clear hc0 hR
        generalize bt text k = x0 at *
        generalize Y k = y0 at *
        go_wp2
        go_region
        go_wp2
        rw [unhide HX]
        go_roundw
        case rel => exact ⟨k + 1, by omega, by omega, by go_num, (unhide HS).on ((Below.refl _ _).drew)⟩
        case measure => simp [intOf]; omega
      · have H1 := hide (fun w => hash_ok key text w hk ht)
        have H2 := hide (fun w => hash_ok key (strOf (fB text Y k) text.size) w hk (by rw [strOf_size]; exact ht))
        have H3 := hide (fun w => hash_ok key (strOf (fD Y k) text.size) w hk (by rw [strOf_size]; exact ht))
        have hE := mixed_hash key text (unhide HY) k
        have hX := u32_xor_nat (hsh key text) (hsh key (strOf (fB text Y k) text.size)) (hsh_lt _ _) (hsh_lt _ _)
        rw [hE] at hX
        have hv1 : ∀ n, (convert 36 9 (.slice (some ⟨i, 0, none⟩) text.size c)).run Try.prog (wr.drewN n) = .ok (.string (strOf (fB text Y k) text.size)) (wr.drewN n) := fun n => conv_rowB (hR.on (below_draw (Below.refl _ _) n)).b
        have hv2 : ∀ n, (convert 36 9 (.slice (some ⟨j, 0, none⟩) text.size text.size)).run Try.prog (wr.drewN n) = .ok (.string (strOf (fD Y k) text.size)) (wr.drewN n) := fun n => conv_rowB (hR.on (below_draw (Below.refl _ _) n)).d
        have HB := hide hR.bel
        have hout : ∀ (P : Prop), (¬ (k : Int) < (text.size : Int) → P) → ((k : Int) < (text.size : Int) → ¬ (k : Int) < (l.length : Int) → P) → P := fun P g1 g2 => by
          by_cases g : (k : Int) < (text.size : Int)
          · exact g2 g (by omega)
          · exact g1 g
        clear hE hlt hk1 hk2 hR HT HC HY
        generalize strOf (fB text Y k) text.size = SB at *
        generalize strOf (fD Y k) text.size = SD at *
        generalize hsh key text = x at *
        generalize hsh key SB = y at *
        generalize hsh key SD = z at *
        refine hout _ (fun g1 => ?_) (fun g1 g2 => ?_)
        · go_wp2_with fail
          refine (unhide H1 _).mono ?_
          rintro e w1 ⟨rfl, n1, rfl⟩
          go_wp2_with fail
          refine (unhide H2 _).mono ?_
          rintro e w2 ⟨rfl, n2, rfl⟩
          go_wp2_with fail
          refine (unhide H3 _).mono ?_
          rintro e w3 ⟨rfl, n3, rfl⟩
          go_wp2_with fail
          refine (unhide HW _).mono ?_
          rintro e w4 ⟨rfl, b4⟩
          go_wp2
          go_ret
          exact ⟨rfl, tr2 (below_draw (unhide HB) _) b4⟩
        · go_wp2_with fail
          refine (unhide H1 _).mono ?_
          rintro e w1 ⟨rfl, n1, rfl⟩
          go_wp2_with fail
          refine (unhide H2 _).mono ?_
          rintro e w2 ⟨rfl, n2, rfl⟩
          go_wp2_with fail
          refine (unhide H3 _).mono ?_
          rintro e w3 ⟨rfl, n3, rfl⟩
          go_wp2_with fail
          refine (unhide HW _).mono ?_
          rintro e w4 ⟨rfl, b4⟩
          go_wp2
          go_ret
          exact ⟨rfl, tr2 (below_draw (unhide HB) _) b4⟩

set_option maxRecDepth 100000 in
set_option maxHeartbeats 1000000 in
theorem mixed_out (key text : ByteArray) (a : Option Addr) (n cap : Nat) (w : World) (ht : text.size ≤ maxLen) (hn : n ≤ maxLen) (h : key.size ≠ 40 ∨ 36 < text.size ∨ 1024 < n) :
    Calls Try.prog 4 #[.string key, .string text, .slice a n cap] w fun e w' => e = .returned (.bool true) ∧ Below w.heap.size w w' := by
  have HW := hide works_any
  unfold maxLen at ht hn
  by_cases h1 : key.size = 40
  · by_cases h2 : 36 < text.size
    · go_enter Try.func4, Try.ntmps4
      go_wp2_with fail
      refine (unhide HW _).mono ?_
      rintro e w4 ⟨rfl, b4⟩
      go_wp2
      go_ret
      exact ⟨rfl, b4⟩
    · have h3 : 1024 < n := by omega
      go_enter Try.func4, Try.ntmps4
      go_wp2_with fail
      refine (unhide HW _).mono ?_
      rintro e w4 ⟨rfl, b4⟩
      go_wp2
      go_ret
      exact ⟨rfl, b4⟩
  · go_enter Try.func4, Try.ntmps4
    go_wp2_with fail
    refine (unhide HW _).mono ?_
    rintro e w4 ⟨rfl, b4⟩
    go_wp2
    go_ret
    exact ⟨rfl, b4⟩

theorem steerMixed_walk (key text : ByteArray) (v : Value) (l : List Int) (w : World) (_ : key.size ≤ maxLen) (ht : text.size ≤ maxLen) (hv : IsNums .u8 w v l) :
    Calls Try.prog 4 #[.string key, .string text, v] w fun e w' => e = .returned (.bool true) ∧ Below w.heap.size w w' := by
  obtain ⟨hs, hmax, hwf⟩ := hv
  have hsl : ∃ a c, v = .slice a l.length c := by
    rcases hs with ⟨⟨a, c, rfl⟩, rfl⟩ | ⟨b, off, c, rfl, _⟩
    · exact ⟨a, c, rfl⟩
    · exact ⟨_, c, rfl⟩
  obtain ⟨a, c, rfl⟩ := hsl
  by_cases h : key.size ≠ 40 ∨ 36 < text.size ∨ 1024 < l.length
  · exact mixed_out key text a l.length c w ht hmax h
  · have hY : ∀ j, (l.getD j 0).toNat < 256 := fun j => by
      by_cases hj : j < l.length
      · have hm : l.getD j 0 ∈ l := by
          rw [List.getD_eq_getElem?_getD, List.getElem?_eq_getElem hj]
          exact List.getElem_mem hj
        have := bounds_u8 (hwf _ hm)
        omega
      · rw [List.getD_eq_getElem?_getD, List.getElem?_eq_none (by omega)]
        decide
    refine mixed_in key text _ l w (by omega) (by omega) (by omega) a c rfl (fun j => (l.getD j 0).toNat) hY (fun j hj => ?_)
    rcases hs with ⟨_, rfl⟩ | ⟨b, off, c', e, _, hlt, hc⟩
    · simp at hj
    · simp at e
      refine ⟨b, off, e.1, hlt, ?_⟩
      rw [hc j hj]
      have hm : l.getD j 0 ∈ l := by
        rw [List.getD_eq_getElem?_getD, List.getElem?_eq_getElem hj]
        exact List.getElem_mem hj
      have := bounds_u8 (hwf _ hm)
      rw [Int.toNat_of_nonneg (by omega)]

end Go.Proofs.Ytkhkobdbbffkbaa
