/- The contract of package ether's iterator over a text's bytes, over the loaded program; no memory that was there has turned. Conditions: a text of 17 bytes. -/
import Derived.Test.YtdgjoconppmihaaEt3
import Derived.RangeFuncNested
import Derived.RangeFuncBound
import Derived.RangeFuncCalls
import Derived.RangeFuncLeaves
import Derived.Shelf.Abstract
import Derived.Shelf.RegionOpen
import Derived.OwnWalkIn
import Derived.TacticsInMore
import Derived.LoopNIn
import Derived.LoopIn
namespace Go.Proofs.Ytdgjoconppmihaa
open Go.RowKit Go.Shelf

attribute [local go_sem] Oper.semAt_some

/-- what the iterator hands on: a byte, and whether it stands as it must -/
abbrev Ob := { n : Nat // n < 256 } × Bool
abbrev encO (x : Ob) : Array Value := #[.int .u8 (x.1.1 : Int), .bool x.2]
def ob (a b c : UInt8) : Ob := (⟨oct a b, oct_lt a b⟩, isOct a b c)

set_option maxHeartbeats 1000000 in
theorem octets_in (s : ByteArray) (w : World) (n : Nat) :
    CallsIn Fence.wide n Try.prog 29 #[.string s] w fun e w' => e = .returned (.func (.func 44) #[] #[.pointer (some ⟨w.heap.size, 0, none⟩)]) ∧ w' = w.alloc (.cells #[.string s] 9) := by
  refine callsIn_of_wp Try.func29 rfl trivial ?_ rfl
  simp only [Try.ntmps29, List.size_toArray, List.length_cons, List.length_nil, Nat.reduceAdd, Nat.reduceSub, Array.replicate_succ, Array.replicate_zero, List.push_toArray, List.append_toArray, List.nil_append, List.cons_append]
  gi_wp2
  go_ret
  exact ⟨rfl, rfl⟩

def slen : Value → Nat
  | .string s => s.size
  | _ => 0
/-- what is left behind k rounds -/
def rk (l : List UInt8) (k : Nat) : ByteArray := ⟨(l.drop (3 * k)).toArray⟩
def at0 (l : List UInt8) (j : Nat) : UInt8 := l[j]?.getD 0
def obk (l : List UInt8) (k : Nat) : Ob := ob (at0 l (3 * k)) (at0 l (3 * k + 1)) (at0 l (3 * k + 2))
def upto {α : Type} (f : Nat → α) (k : Nat) : List α := (List.range k).map f
theorem upto_succ {α : Type} (f : Nat → α) (k : Nat) : upto f (k + 1) = upto f k ++ [f k] := by simp [upto, List.range_succ]
theorem upto_length {α : Type} (f : Nat → α) (k : Nat) : (upto f k).length = k := by simp [upto]
theorem rk_size (l : List UInt8) (k : Nat) : (rk l k).size = l.length - 3 * k := by
  show (l.drop (3 * k)).toArray.size = _
  simp
theorem str_ix (R : ByteArray) (j : Nat) (h : j < R.size) (w : World) : (Instr.index 9 (.string R) (.int .i64 (j : Int))).run Try.prog w = .ok (.int .u8 (R[j].toNat : Int)) w := by
  have hu := run_underlying Try.underlying9
  simp [Instr.index, hu, go_sem, h]
theorem rk_ix (l : List UInt8) (k j : Nat) (h : 3 * k + j < l.length) (w : World) : (Instr.index 9 (.string (rk l k)) (.int .i64 (j : Int))).run Try.prog w = .ok (.int .u8 ((at0 l (3 * k + j)).toNat : Int)) w := by
  rw [str_ix (rk l k) j (by rw [rk_size]; omega) w]
  have hz : j < (rk l k).data.size := by have := rk_size l k; show j < (rk l k).size; omega
  have h1 : (rk l k).data[j]? = l[3 * k + j]? := by
    show (l.drop (3 * k)).toArray[j]? = _
    rw [List.getElem?_toArray, List.getElem?_drop]
  rw [Array.getElem?_eq_getElem hz] at h1
  have e : (rk l k)[j]'hz = at0 l (3 * k + j) := by
    unfold at0
    rw [← h1]
    rfl
  rw [e]
theorem rk_next (l : List UInt8) (k : Nat) : (rk l k).extract 3 (rk l k).size = rk l (k + 1) := by
  have hz := rk_size l k
  rw [Lib.extract_eq]
  unfold rk
  rw [List.take_of_length_le (by rw [List.length_drop]; exact Nat.le_refl _)]
  show (⟨(List.drop 3 (l.drop (3 * k))).toArray⟩ : ByteArray) = _
  rw [List.drop_drop, show 3 * k + 3 = 3 * (k + 1) from by omega]
theorem rk_full (l : List UInt8) (k : Nat) (h : 3 * k < l.length) : (rk l k).toList.isEmpty = false := by
  rw [Lib.toList_data]
  show (l.drop (3 * k)).isEmpty = false
  cases e : l.drop (3 * k) with
  | nil => have := congrArg List.length e; simp at this; omega
  | cons a b => rfl
theorem rk_empty (l : List UInt8) (k : Nat) (h : l.length ≤ 3 * k) : (rk l k).toList.isEmpty = true := by
  rw [Lib.toList_data]
  show (l.drop (3 * k)).isEmpty = true
  rw [List.drop_of_length_le h]
  rfl
theorem pre_upto (l : List UInt8) (k : Nat) (h : k < 6) : upto (obk l) k ++ [obk l k] <+: upto (obk l) 6 := by
  rw [← upto_succ]
  unfold upto
  rcases (by omega : k = 0 ∨ k = 1 ∨ k = 2 ∨ k = 3 ∨ k = 4 ∨ k = 5) with rfl | rfl | rfl | rfl | rfl | rfl
  · exact ⟨[obk l 1, obk l 2, obk l 3, obk l 4, obk l 5], rfl⟩
  · exact ⟨[obk l 2, obk l 3, obk l 4, obk l 5], rfl⟩
  · exact ⟨[obk l 3, obk l 4, obk l 5], rfl⟩
  · exact ⟨[obk l 4, obk l 5], rfl⟩
  · exact ⟨[obk l 5], rfl⟩
  · exact ⟨[], rfl⟩
theorem or4 (a b : Nat) (ha : a < 16) (hb : b < 16) : bits .or .u8 ((a : Int) * 16) (b : Int) = ((a * 16 + b : Nat) : Int) := by
  rw [show (a : Int) * 16 = ((a * 16 : Nat) : Int) from by omega, u8_or_nat (a * 16) b (by omega) (by omega), nat_join 4 (a * 16) b (by omega) (by omega)]

set_option maxRecDepth 100000 in
set_option maxHeartbeats 2000000 in
theorem octets1_in (n : Nat) (hn : 1 ≤ n) (lp Bs n₀ : Nat) (s : ByteArray) (l : List UInt8) (hl : l.length = 18) (hs : s ++ ⟨#[58]⟩ = rk l 0) (hz : s.size = 17) (J Jx : List Ob → World → Prop)
    (hY : ∀ pre x W, J pre W → pre.length < 6 → YieldAt Fence.wide (n - 1) Try.prog lp (encO x) W fun e W' =>
      (e = .returned (.bool true) ∧ J (pre ++ [x]) W' ∧ Below n₀ W W') ∨ (e = .returned (.bool false) ∧ Jx (pre ++ [x]) W'))
    (W : World) (hBs : W.cell? ⟨Bs, 0, none⟩ = some (.string s)) (h0 : J [] W) :
    CallsIn Fence.wide n Try.prog 44 #[.func (.yield lp) #[] #[], .pointer (some ⟨Bs, 0, none⟩)] W fun e W' => (∃ v, e = .returned v) ∧
      ((∃ ys, ys = upto (obk l) 6 ∧ J ys W') ∨ (∃ pre, pre <+: upto (obk l) 6 ∧ Jx pre W')) := by
  refine callsIn_of_wp Try.func44 rfl trivial ?_ rfl
  simp only [Try.ntmps44, List.size_toArray, List.length_cons, List.length_nil, Nat.reduceAdd, Nat.reduceSub, Array.replicate_succ, Array.replicate_zero, List.push_toArray, List.append_toArray, List.nil_append, List.cons_append]
  have hz' : ¬ 9223372036854775807 < s.size + 1 := by omega
  gi_wp2
  gi_loopw [3] (fun r wr => ∃ k : Nat, k ≤ 6 ∧ r = .string (rk l k) ∧ J (upto (obk l) k) wr)
    (fun r _ => slen r)
  case atStart => exact ⟨0, Nat.zero_le _, by rw [← hs], h0⟩
  case round =>
    obtain ⟨k, hk, rfl, hJs⟩ := hrel
    by_cases hlt : k < 6
    · obtain ⟨fn, tmps, assign, body, hy, hR⟩ := hY _ (obk l k) wr hJs (by rw [upto_length]; exact hlt)
      have hsz := rk_size l k
      have hne := rk_full l k (by omega)
      have ia : ∀ w, (Instr.index 9 (.string (rk l k)) (.int .i64 0)).run Try.prog w = .ok (.int .u8 ((at0 l (3 * k)).toNat : Int)) w := fun w => rk_ix l k 0 (by omega) w
      have ib : ∀ w, (Instr.index 9 (.string (rk l k)) (.int .i64 1)).run Try.prog w = .ok (.int .u8 ((at0 l (3 * k + 1)).toNat : Int)) w := fun w => rk_ix l k 1 (by omega) w
      have ic : ∀ w, (Instr.index 9 (.string (rk l k)) (.int .i64 2)).run Try.prog w = .ok (.int .u8 ((at0 l (3 * k + 2)).toNat : Int)) w := fun w => rk_ix l k 2 (by omega) w
      have HN := hide (rk_next l k)
      have HS := hide (upto_succ (obk l) k)
      have HP := hide (pre_upto l k hlt)
      have hsz3 : 3 ≤ (rk l k).size := by omega
      have hy' : (Instr.yield lp #[.int .u8 ((oct (at0 l (3 * k)) (at0 l (3 * k + 1)) : Nat) : Int), .bool (isOct (at0 l (3 * k)) (at0 l (3 * k + 1)) (at0 l (3 * k + 2)))]).run Try.prog wr = .ok (.round lp fn tmps assign body) wr := hy
      clear hy
      have hso : isOct (at0 l (3 * k)) (at0 l (3 * k + 1)) (at0 l (3 * k + 2)) = ((hv (at0 l (3 * k))).isSome && (hv (at0 l (3 * k + 1))).isSome && at0 l (3 * k + 2) == 58) := rfl
      rw [hso] at hy'
      clear hso hsz
      have hor := or4 _ _ (val_lt (at0 l (3 * k))) (val_lt (at0 l (3 * k + 1)))
      have ho : oct (at0 l (3 * k)) (at0 l (3 * k + 1)) = val (at0 l (3 * k)) * 16 + val (at0 l (3 * k + 1)) := rfl
      rw [← ho] at hor
      clear ho
      have hva := val_lt (at0 l (3 * k))
      have DA := hide (fun n => callsIn_wide (n := n).2 (digit_any (at0 l (3 * k)) wr))
      have DB := hide (fun n => callsIn_wide (n := n).2 (digit_any (at0 l (3 * k + 1)) wr))
      generalize oct (at0 l (3 * k)) (at0 l (3 * k + 1)) = V at *
      have h58 : (((at0 l (3 * k + 2)).toNat : Int) == 58) = (at0 l (3 * k + 2) == 58) := by
        by_cases e : at0 l (3 * k + 2) = 58
        · rw [e]; rfl
        · rw [beq_eq_false_iff_ne.2 e]
          apply Bool.eq_false_iff.2
          intro e2
          rw [beq_iff_eq] at e2
          apply e
          apply UInt8.toNat_inj.1
          have : (58 : UInt8).toNat = 58 := rfl
          omega
      generalize (hv (at0 l (3 * k))).isSome = p at *
      generalize (hv (at0 l (3 * k + 1))).isSome = q at *
      generalize val (at0 l (3 * k)) = va at *
      generalize val (at0 l (3 * k + 1)) = vb at *
      generalize at0 l (3 * k) = a at *
      generalize at0 l (3 * k + 1) = b at *
      generalize at0 l (3 * k + 2) = c at *
      generalize (c == 58) = t at *
      generalize rk l k = R at *
      gi_wp2
      refine ⟨trivial, (unhide DA _).mono ?_⟩
      rintro e w1 ⟨rfl, rfl⟩
      gi_wp2
      refine ⟨trivial, (unhide DB _).mono ?_⟩
      rintro e w1 ⟨rfl, rfl⟩
      clear DA DB ia ib
      cases p
      · rw [Bool.false_and, Bool.false_and] at hy'
        gi_wp2
        refine hR.mono ?_
        rintro e W3 (⟨rfl, hJ3, hk3⟩ | ⟨rfl, hJx3⟩)
        · gi_wp2
          refine ⟨⟨k + 1, by omega, by rw [unhide HN], by rw [unhide HS]; exact hJ3⟩, ?_⟩
          show (R.extract 3 R.size).size < R.size
          rw [ByteArray.size_extract]
          omega
        · gi_wp2
          refine bodyPost_ret (results_none rfl _ _ _) rfl ?_
          exact ⟨⟨_, rfl⟩, .inr ⟨_, unhide HP, hJx3⟩⟩
      · cases q
        · rw [Bool.true_and, Bool.false_and] at hy'
          gi_wp2
          refine hR.mono ?_
          rintro e W3 (⟨rfl, hJ3, hk3⟩ | ⟨rfl, hJx3⟩)
          · gi_wp2
            refine ⟨⟨k + 1, by omega, by rw [unhide HN], by rw [unhide HS]; exact hJ3⟩, ?_⟩
            show (R.extract 3 R.size).size < R.size
            rw [ByteArray.size_extract]
            omega
          · gi_wp2
            refine bodyPost_ret (results_none rfl _ _ _) rfl ?_
            exact ⟨⟨_, rfl⟩, .inr ⟨_, unhide HP, hJx3⟩⟩
        · rw [Bool.true_and, Bool.true_and] at hy'
          gi_wp2
          refine hR.mono ?_
          rintro e W3 (⟨rfl, hJ3, hk3⟩ | ⟨rfl, hJx3⟩)
          · gi_wp2
            refine ⟨⟨k + 1, by omega, by rw [unhide HN], by rw [unhide HS]; exact hJ3⟩, ?_⟩
            show (R.extract 3 R.size).size < R.size
            rw [ByteArray.size_extract]
            omega
          · gi_wp2
            refine bodyPost_ret (results_none rfl _ _ _) rfl ?_
            exact ⟨⟨_, rfl⟩, .inr ⟨_, unhide HP, hJx3⟩⟩
    · have he := rk_empty l k (by omega)
      obtain rfl : k = 6 := by omega
      gi_wp2
      go_end0
      exact ⟨⟨_, rfl⟩, .inl ⟨_, rfl, hJs⟩⟩

theorem octets_stops (n : Nat) (hn : 1 ≤ n) (Bs n₀ : Nat) (s : ByteArray) (l : List UInt8) (hl : l.length = 18) (hs : s ++ ⟨#[58]⟩ = rk l 0) (hz : s.size = 17) (w : World) (hBs : Bs < w.heap.size)
    (hc : w.cell? ⟨Bs, 0, none⟩ = some (.string s)) :
    SeqStopsK Fence.wide n Try.prog 44 #[.pointer (some ⟨Bs, 0, none⟩)] encO (Below n₀) (fun ys => ys = upto (obk l) 6) (fun pre => pre <+: upto (obk l) 6) 6 w := fun l' J Jx W hW _ _ hY h0 =>
  octets1_in n hn l' Bs n₀ s l hl hs hz J Jx hY W ((hW.cell (p := ⟨Bs, 0, none⟩) hBs).trans hc) h0

end Go.Proofs.Ytdgjoconppmihaa
