/- The law's options, the document's SameOpts, over the loaded program; no memory that was there has turned. -/
import Derived.Test.YtjkoppjikplkeaaIo1
import Derived.Test.YtjkoppjikplkeaaAl10
import Derived.Laws.StructEq
import Derived.Deep.QuietTactic
namespace Go.Proofs.Ytjkoppjikplkeaa
open Go.RowKit

/-- how long options are, as the law reckons -/
def sumN : List Po → Nat
  | [] => 0
  | x :: l => 2 + x.2.size + sumN l
theorem sumN_snoc (l : List Po) (x : Po) : sumN (l ++ [x]) = sumN l + 2 + x.2.size := by
  induction l with
  | nil => simp [sumN]
  | cons y l ih => simp only [List.cons_append, sumN, ih]; omega
theorem sumN_le {l : List Po} {x : Po} (h : x ∈ l) : x.2.size ≤ sumN l := by
  induction l with
  | nil => cases h
  | cons y l ih =>
    rcases List.mem_cons.1 h with rfl | h
    · simp only [sumN]; omega
    · have := ih h; simp only [sumN]; omega
def manyB (L : List Po) : Prop := 60 < L.length ∨ 4096 < sumN (L.take 100)
instance (L : List Po) : Decidable (manyB L) := by unfold manyB; infer_instance
theorem few {L : List Po} (h : ¬ manyB L) : L.length ≤ 60 ∧ ∀ x ∈ L, x.2.size ≤ 4096 := by
  unfold manyB at h
  refine ⟨by omega, fun x hx => ?_⟩
  rw [List.take_of_length_le (by omega)] at h
  have := sumN_le hx
  omega

set_option maxHeartbeats 2000000 in
theorem options_any (sv : Value) (L : List Po) (w : World) (hL : L.length ≤ 9223372036854775807) (hI : OptsAt w.heap.size w sv L) (hx : ∀ x ∈ L, x.2.size ≤ 140737488355328) :
    Calls Try.prog 17 #[sv] w fun e w' => e = .returned (.bool (decide (manyB L))) ∧ Below w.heap.size w w' := by
  have hbound : ∀ k, k ≤ L.length → sumN (L.take k) ≤ k * 140737488355330 := by
    intro k
    induction k with
    | zero => intro _; simp [sumN]
    | succ k ih =>
      intro hk
      rw [take_snoc' L k hk, sumN_snoc]
      have := ih (by omega)
      have := hx L[k] (List.getElem_mem _)
      omega
  obtain ⟨r, hr, he⟩ := hidec (manyB L)
  rw [← he]
  clear he
  rcases hI with ⟨⟨a, cap, rfl⟩, rfl⟩ | ⟨b, off, cap, rfl, hb, hc⟩
  · obtain rfl : r = false := by rw [unhide hr]; rfl
    go_enter Try.func17, Try.ntmps17
    go_wp2
    go_loopw [3, 4] (fun n i wr => n = .int .i64 0 ∧ i = .int .i64 0 ∧ wr = w) (fun _ _ _ => 0)
    case atStart => exact ⟨rfl, rfl, rfl⟩
    case round =>
      obtain ⟨rfl, rfl, rfl⟩ := hrel
      go_wp2
      go_ret
      exact ⟨rfl, Below.refl _ _⟩
  · go_enter Try.func17, Try.ntmps17
    go_wp2
    go_loopw [3, 4] (fun n i wr => ∃ k : Nat, k ≤ L.length ∧ k ≤ 100 ∧ n = .int .i64 (sumN (L.take k) : Nat) ∧ i = .int .i64 (k : Int) ∧ wr = w) (fun _ i _ => 100 - (intOf i).toNat)
    case atStart => exact ⟨0, Nat.zero_le _, Nat.zero_le _, rfl, rfl, rfl⟩
    case round =>
      obtain ⟨k, hk, hk2, rfl, rfl, rfl⟩ := hrel
      by_cases hlt : k < L.length ∧ k < 100
      · obtain ⟨hl1, hl2⟩ := hlt
        obtain ⟨c1, c2⟩ := hc k L[k] (List.getElem?_eq_getElem hl1)
        have HS := hide (sumN_snoc (L.take k) L[k])
        rw [← take_snoc' L k hl1] at HS
        have hb1 := hbound k hk
        have h2 := hx L[k] (List.getElem_mem _)
        obtain ⟨y, hy⟩ : ∃ y, y = L[k] := ⟨_, rfl⟩
        rw [← hy] at c1 c2 HS h2
        clear hy hr
        obtain ⟨y1, y2⟩ := y
        simp only at c1 c2 HS h2
        obtain ⟨m, hm⟩ : ∃ m, sumN (L.take k) = m := ⟨_, rfl⟩
        rw [hm] at HS hb1 ⊢
        clear hm hx hbound hc
        go_wp2
        go_roundw
        case rel => exact ⟨k + 1, by omega, by omega, by rw [unhide HS]; exact vint (by omega), by go_num, trivial⟩
        case measure => simp [intOf]; omega
      · have hb1 := hbound k hk
        clear hx hbound hc
        have hfin : manyB L ↔ (60 < L.length ∨ 4096 < sumN (L.take k)) := by
          unfold manyB
          by_cases h60 : 60 < L.length
          · simp [h60]
          · have : L.take k = L.take 100 := by rw [List.take_of_length_le (by omega), List.take_of_length_le (by omega)]
            rw [this]
        have hfin := hide hfin
        generalize sumN (L.take k) = m at *
        by_cases hk3 : k < L.length
        · have : ¬ k < 100 := fun c => hlt ⟨hk3, c⟩
          clear hlt
          go_wp2
          all_goals
            go_ret
            exact ⟨ret_of hr (by rw [unhide hfin]; simp; omega), Below.refl _ _⟩
        · clear hlt
          go_wp2
          all_goals
            go_ret
            exact ⟨ret_of hr (by rw [unhide hfin]; simp; omega), Below.refl _ _⟩

theorem po_stood : Try.prog.stoodInHeld 57 = false := by kernel_rfl
theorem po_str : Try.prog.underlying 57 = some (.struct (Try.prog.fieldsOf 57)) := by
  unfold Program.fieldsOf
  rw [Try.underlying57]
theorem po_eq (a b : Po) : (((a.1 : Int) == (b.1 : Int)) && (a.2.toList == b.2.toList)) = decide (a = b) := by
  obtain ⟨a1, a2⟩ := a
  obtain ⟨b1, b2⟩ := b
  rw [Bool.eq_iff_iff, decide_eq_true_iff]
  simp only [Bool.and_eq_true, beq_iff_eq, Int.natCast_inj, Prod.mk.injEq]
  have hs : a2.toList = b2.toList ↔ a2 = b2 := ⟨fun h => by rw [ByteArray.toList_eq, ByteArray.toList_eq] at h; exact list_ba h, fun h => by rw [h]⟩
  rw [hs]
set_option maxRecDepth 100000 in
theorem in_po (d : Nat) (a b : Po) (w : World) : (Op.equalIn (d + 2) 57 (poV a) (poV b)).run Try.prog w = .ok (decide (a = b)) w := by
  rw [run_equalIn_struct w (d + 1) 57 _ _ po_str po_stood]
  unfold Program.fieldsOf
  rw [Try.underlying57]
  have u8 := fun (x y : Int) (w : World) => run_equalIn_int w d 5 .u8 .u8 x y Try.underlying5
  have us := fun (x y : ByteArray) (w : World) => run_equalIn_string w d 9 x y Try.underlying9
  have g8 := Try.isAgg5
  have gs := Try.isAgg9
  rw [← po_eq]
  simp only [Op.eqFields]
  simp [part, u8, us, g8, gs]
  by_cases h1 : (a.1 : Int) = (b.1 : Int)
  case neg => simp [h1]
  simp only [h1, if_true, beq_self_eq_true, Bool.true_and]
  by_cases h9 : a.2.toList = b.2.toList <;> simp [h9]
theorem neq_po (a b : Po) (w : World) : (binOp .neq 57 (poV a) (poV b)).run Try.prog w = .ok (.bool (!decide (a = b))) w := by
  rw [run_neq_struct, in_po 9998 a b w]
  rfl

end Go.Proofs.Ytjkoppjikplkeaa
