/- The contract of package ether's Text, over the loaded program; no memory that was there has turned. Conditions: numbers in their kinds' bounds. -/
import Derived.Test.YtdgjoconppmihaaEt2
namespace Go.Proofs.Ytdgjoconppmihaa
open Go.RowKit

/-- a byte's two digits as a text -/
def prS (c : UInt8) : ByteArray := ⟨#[hx (c.toNat / 16), hx (c.toNat % 16)]⟩
/-- the j-th byte of an address, the highest first -/
def bj (x j : Nat) : UInt8 := byt x (5 - j)
/-- the texts that stand in the array behind k rounds -/
def pstr (x k j : Nat) : Value := if j < k then .string (prS (bj x j)) else .string ⟨#[]⟩

theorem dig_ix (d : Nat) (h : d < 16) (k : IntKind) (w : World) : (Instr.index 9 (.string ⟨#[48, 49, 50, 51, 52, 53, 54, 55, 56, 57, 97, 98, 99, 100, 101, 102]⟩) (.int k (d : Int))).run Try.prog w = .ok (.int .u8 ((hx d).toNat : Int)) w := by
  rcases (by omega : d = 0 ∨ d = 1 ∨ d = 2 ∨ d = 3 ∨ d = 4 ∨ d = 5 ∨ d = 6 ∨ d = 7 ∨ d = 8 ∨ d = 9 ∨ d = 10 ∨ d = 11 ∨ d = 12 ∨ d = 13 ∨ d = 14 ∨ d = 15) with rfl | rfl | rfl | rfl | rfl | rfl | rfl | rfl | rfl | rfl | rfl | rfl | rfl | rfl | rfl | rfl <;> kernel_rfl

theorem dig_iz (d : Nat) (h : d < 16) (k : IntKind) (z : Int) (hz : z = (d : Int)) (w : World) : (Instr.index 9 (.string ⟨#[48, 49, 50, 51, 52, 53, 54, 55, 56, 57, 97, 98, 99, 100, 101, 102]⟩) (.int k z)).run Try.prog w = .ok (.int .u8 ((hx d).toNat : Int)) w := by
  rw [hz]
  exact dig_ix d h k w

theorem conv2 (a b : UInt8) (W : World) :
    (convert 46 9 (.slice (some ⟨W.heap.size, 0, none⟩) 2 2)).run Try.prog (W.alloc (.cells #[.int .u8 (a.toNat : Int), .int .u8 (b.toNat : Int)] 5)) = .ok (.string ⟨#[a, b]⟩) (W.alloc (.cells #[.int .u8 (a.toNat : Int), .int .u8 (b.toNat : Int)] 5)) :=
  run_convert_bytes_back (P := Try.prog) (W.alloc (.cells #[.int .u8 (a.toNat : Int), .int .u8 (b.toNat : Int)] 5)) 46 9 5 ⟨W.heap.size, 0, none⟩ 2 [a, b] Try.underlying46 Try.underlying5 Try.underlying9 (fun j hj => by
    have ha : (⟨W.heap.size, 0, none⟩ : Addr).add j = ⟨W.heap.size, j, none⟩ := by unfold Addr.add; split <;> simp_all
    rw [ha, cell_of_row _ _ j _ _ _ (heap_alloc_new W _)]
    have hj' : j < 2 := hj
    rcases (by omega : j = 0 ∨ j = 1) with rfl | rfl <;> rfl)
theorem conv2d (a b : UInt8) (W : World) :
    (convert 46 9 (.slice (some ⟨W.heap.size, 0, none⟩) 2 2)).run Try.prog (W.alloc (.cells #[.int .u8 (a.toNat : Int), .int .u8 (b.toNat : Int)] 5)).drew = .ok (.string ⟨#[a, b]⟩) (W.alloc (.cells #[.int .u8 (a.toNat : Int), .int .u8 (b.toNat : Int)] 5)).drew :=
  conv2 a b W.drew
theorem and15 (c : Nat) (h : c < 256) : bits .and .u8 (c : Int) 15 = ((c % 16 : Nat) : Int) := by
  rw [show (15 : Int) = ((15 : Nat) : Int) from rfl, u8_and_nat c 15 (by omega) (by omega), show (15 : Nat) = 2 ^ 4 - 1 from rfl, Nat.and_two_pow_sub_one_eq_mod]

/-- what stands while a text is made: the texts of the bytes so far, the bytes -/
structure TS (w : World) (R x k : Nat) (w' : World) : Prop where
  bel : Below w.heap.size w w'
  lp : w.heap.size < w'.heap.size
  lr : R < w'.heap.size
  ne : w.heap.size < R
  pc : ∀ j, j < 6 → w'.cell? ⟨w.heap.size, j, none⟩ = some (pstr x k j)
  pf : ∀ j, j < 6 → w'.frozen? ⟨w.heap.size, j, none⟩ = false
  bc : ∀ j, j < 6 → w'.cell? ⟨R, j, none⟩ = some (.int .u8 ((bj x j).toNat : Int))

theorem below_drew (w : World) : Below w.heap.size w w.drew := ⟨rfl, rfl, rfl, Nat.le_refl _, fun _ _ => rfl⟩
theorem TS.on {w w1 w2 : World} {R x k : Nat} (h : TS w R x k w1) (b : Below w1.heap.size w1 w2) : TS w R x k w2 :=
  ⟨tr2 h.bel b, Nat.lt_of_lt_of_le h.lp b.size, Nat.lt_of_lt_of_le h.lr b.size, h.ne, fun j hj => (b.cell h.lp).trans (h.pc j hj), fun j hj => (b.frozen (p := ⟨w.heap.size, j, none⟩) h.lp).trans (h.pf j hj), fun j hj => (b.cell h.lr).trans (h.bc j hj)⟩
theorem TS.set {w w1 : World} {R x k : Nat} (h : TS w R x k w1) (hk : k < 6) : TS w R x (k + 1) (w1.setCell ⟨w.heap.size, k, none⟩ (.string (prS (bj x k)))) := by
  refine ⟨h.bel.setCell (p := ⟨w.heap.size, k, none⟩) (Nat.le_refl _) _, by simpa using h.lp, by simpa using h.lr, h.ne, fun j hj => ?_, fun j hj => by rw [World.frozen?_setCell]; exact h.pf j hj, fun j hj => ?_⟩
  · by_cases e : j = k
    · subst e
      rw [show pstr x (j + 1) j = .string (prS (bj x j)) from by unfold pstr; rw [if_pos (by omega)]]
      exact World.cell?_setCell_same _ _ _ (h.pc j hj)
    · have hne : (⟨w.heap.size, k, none⟩ : Addr) ≠ ⟨w.heap.size, j, none⟩ := fun z => e (by simpa using (congrArg Addr.off z).symm)
      rw [show pstr x (k + 1) j = pstr x k j from by
        unfold pstr
        by_cases h2 : j < k
        · rw [if_pos (by omega), if_pos h2]
        · rw [if_neg (by omega), if_neg h2]]
      exact (World.cell?_setCell_other _ _ _ _ hne).trans (h.pc j hj)
  · have hne : (⟨w.heap.size, k, none⟩ : Addr) ≠ ⟨R, j, none⟩ := fun z => by
      have := h.ne
      have hb : w.heap.size = R := congrArg Addr.block z
      omega
    exact (World.cell?_setCell_other _ _ _ _ hne).trans (h.bc j hj)
theorem by6_at (x j : Nat) (hj : j < 6) : (by6 x).data[j]? = some (bj x j) := by
  rcases (by omega : j = 0 ∨ j = 1 ∨ j = 2 ∨ j = 3 ∨ j = 4 ∨ j = 5) with rfl | rfl | rfl | rfl | rfl | rfl <;> rfl
theorem TS.start (w w1 : World) (x c : Nat) (t : TypeId) (b1 : Below (w.heap.size + 1) (w.alloc (.cells #[.string ⟨#[]⟩, .string ⟨#[]⟩, .string ⟨#[]⟩, .string ⟨#[]⟩, .string ⟨#[]⟩, .string ⟨#[]⟩] t)) w1) (t2 : TypeId) (rng : Nat × Nat) :
    TS w w1.heap.size x 0 (w1.alloc (.cells (bytesRow (by6 x) c) t2 rng)).drew := by
  have hz := b1.size
  simp at hz
  have h0 : (w1.alloc (.cells (bytesRow (by6 x) c) t2 rng)).heap[w.heap.size]? = some (.cells #[.string ⟨#[]⟩, .string ⟨#[]⟩, .string ⟨#[]⟩, .string ⟨#[]⟩, .string ⟨#[]⟩, .string ⟨#[]⟩] t) := by
    rw [Below.heap_alloc _ _ _ (by omega), b1.block _ (by omega)]
    exact heap_alloc_new _ _
  refine ⟨?_, by show w.heap.size < (w1.alloc _).heap.size; simp; omega, by show w1.heap.size < (w1.alloc _).heap.size; simp, by omega, fun j hj => ?_, fun j hj => ?_, fun j hj => ?_⟩
  · exact (((below_one w _).trans (b1.mono (by omega))).alloc (by omega) _).drew
  · rw [show pstr x 0 j = .string ⟨#[]⟩ from rfl]
    show (w1.alloc _).cell? _ = _
    rw [cell_of_row _ _ j _ _ _ h0]
    rcases (by omega : j = 0 ∨ j = 1 ∨ j = 2 ∨ j = 3 ∨ j = 4 ∨ j = 5) with rfl | rfl | rfl | rfl | rfl | rfl <;> rfl
  · show (w1.alloc _).frozen? _ = _
    unfold World.frozen?
    rw [h0]
    simp
  · show (w1.alloc _).cell? _ = _
    rw [cell_of_row _ _ j _ _ _ (heap_alloc_new w1 _)]
    unfold bytesRow
    rw [Array.getElem?_append_left (by rw [Array.size_map]; exact hj), Array.getElem?_map, by6_at x j hj]
    rfl
theorem join_mtxt (x : Nat) : Lib.join ([prS (bj x 0), prS (bj x 1), prS (bj x 2), prS (bj x 3), prS (bj x 4), prS (bj x 5)].map (·.data.toList)) [58] = mtxt x := by
  show Lib.join [pr (bj x 0), pr (bj x 1), pr (bj x 2), pr (bj x 3), pr (bj x 4), pr (bj x 5)] [58] = _
  rw [join6]
  rfl

set_option maxRecDepth 20000 in
set_option maxHeartbeats 2000000 in
theorem text_any (x : Nat) (w : World) (hlt : x < 18446744073709551616) :
    Calls Try.prog 16 #[.int .u64 (x : Int)] w fun e w' => e = .returned (.string ⟨(mtxt x).toArray⟩) ∧ Below w.heap.size w w' := by
  have HC := hide (fun w => card_any x w hlt)
  have hcv := fun w => run_bytes_of_string (P := Try.prog) w 9 46 5 (by6 x) Try.underlying9 Try.underlying46 Try.underlying5
  have HJ : Hid (∀ R w', TS w R x 6 w' → Calls Try.prog 30 #[.slice (some ⟨w.heap.size, 0, none⟩) 6 6, .string ⟨#[58]⟩] w' fun e w'' => e = .returned (.string ⟨(mtxt x).toArray⟩) ∧ Below w'.heap.size w' w'') := fun R w' k => by
    have h := join_any w.heap.size 6 [prS (bj x 0), prS (bj x 1), prS (bj x 2), prS (bj x 3), prS (bj x 4), prS (bj x 5)] w' (fun j y hy => by
      have hj : j < 6 := by
        have := (List.getElem?_eq_some_iff.1 hy).1
        simpa using this
      rw [Nat.zero_add, k.pc j hj]
      rcases (by omega : j = 0 ∨ j = 1 ∨ j = 2 ∨ j = 3 ∨ j = 4 ∨ j = 5) with rfl | rfl | rfl | rfl | rfl | rfl <;> (obtain rfl := Option.some.inj hy; rfl)) k.lp (show 6 ≤ 140737488355328 by omega) (show 6 ≤ 6 by omega) (by rw [join_mtxt, mtxt_length]; decide)
    rw [join_mtxt] at h
    exact h
  have HB := hide (fun (c : UInt8) => conv2d (hx (c.toNat / 16)) (hx (c.toNat % 16)))
  go_enter Try.func16, Try.ntmps16
  go_wp2_with fail
  refine (unhide HC _).mono ?_
  rintro e w1 ⟨rfl, b1⟩
  go_wp2_with fail
  clear hcv HC
  have k0 := TS.start w w1 x (grownCap w1 (by6 x).size 0 5) 61 (b1.mono (by simp)) 5 ((bytesRow (by6 x) (grownCap w1 (by6 x).size 0 5)).size, (bytesRow (by6 x) (grownCap w1 (by6 x).size 0 5)).size + 1)
  clear b1
  generalize (w1.alloc (.cells (bytesRow (by6 x) (grownCap w1 (by6 x).size 0 5)) 5 ((bytesRow (by6 x) (grownCap w1 (by6 x).size 0 5)).size, (bytesRow (by6 x) (grownCap w1 (by6 x).size 0 5)).size + 1))).drew = w2 at *
  generalize grownCap w1 (by6 x).size 0 5 = cp at *
  generalize w1.heap.size = R at *
  simp only [by6_size]
  go_loopw [10] (fun i wr => ∃ k : Nat, k ≤ 6 ∧ i = .int .i64 (k : Int) ∧ TS w R x k wr) (fun i _ => 6 - (intOf i).toNat)
  case atStart => exact ⟨0, by omega, rfl, k0⟩
  case round =>
    obtain ⟨k, hk, rfl, kk⟩ := hrel
    clear k0
    by_cases h6 : k < 6
    · have cb := kk.bc k h6
      have cp' := kk.pc k h6
      rw [show pstr x k k = .string ⟨#[]⟩ from by unfold pstr; rw [if_neg (by omega)]] at cp'
      have fp := kk.pf k h6
      have hc := (bj x k).toNat_lt
      have i1 := fun w => dig_iz ((bj x k).toNat / 16) (by omega) .u8 (((bj x k).toNat : Int) / 16) (by omega) w
      have i2 := fun w => dig_iz ((bj x k).toNat % 16) (by omega) .u8 (((bj x k).toNat : Int) % 16) (by omega) w
      have e2 := and15 (bj x k).toNat hc
      have hbk := unhide HB (bj x k)
      have lp := kk.lp
      have K4 := hide (fun o => ((kk.set h6).on (below_one _ o)).on (below_drew _))
      unfold prS at K4
      clear kk HJ HB
      generalize bj x k = c at *
      generalize hx (c.toNat / 16) = a at *
      generalize hx (c.toNat % 16) = b at *
      go_wp2_with fail
      go_region
      go_wp2_with fail
      go_roundw
      case rel => exact ⟨k + 1, by omega, by go_num, unhide K4 _⟩
      case measure => simp [intOf]; omega
    · obtain rfl : k = 6 := by omega
      have H := hide (unhide HJ R _ kk)
      have BEL := hide kk.bel
      clear kk HJ HB
      go_wp2_with fail
      refine (unhide H).mono ?_
      rintro e w3 ⟨rfl, b3⟩
      go_wp2_with fail
      go_ret
      exact ⟨rfl, tr2 (unhide BEL) b3⟩

end Go.Proofs.Ytdgjoconppmihaa
