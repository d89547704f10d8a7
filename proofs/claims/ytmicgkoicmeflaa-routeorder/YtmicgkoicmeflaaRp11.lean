/- The prefixes that an address is in, as package route's iterator gives them, over the loaded program. -/
import Derived.Test.YtmicgkoicmeflaaRn12
import Derived.Test.YtmicgkoicmeflaaRxo
import Derived.RangeFuncNested
import Derived.RangeFuncBound
import Derived.RangeFuncCalls
import Derived.RangeFuncLeaves
import Derived.Shelf.Abstract
import Derived.Shelf.RegionOpen
import Derived.OwnWalkIn
import Derived.TacticsInMore
import Derived.LoopNIn
import Derived.LoopIn
import Derived.Stop.RegionWithIn
namespace Go.Proofs.Ytmicgkoicmeflaa
open Go.RowKit Go.Shelf

attribute [local go_sem] Oper.semAt_some

abbrev Pf := Fin 33
def upto {α : Type} (f : Nat → α) (k : Nat) : List α := (List.range k).map f
theorem upto_succ {α : Type} (f : Nat → α) (k : Nat) : upto f (k + 1) = upto f k ++ [f k] := by simp [upto, List.range_succ]
theorem upto_length {α : Type} (f : Nat → α) (k : Nat) : (upto f k).length = k := by simp [upto]
/-- the i-th prefix's bits -/
def pfk (i : Nat) : Pf := ⟨32 - i, by omega⟩
theorem pre_upto (k : Nat) (h : k < 33) : upto pfk k ++ [pfk k] <+: upto pfk 33 := by
  rw [← upto_succ]
  unfold upto
  have e : List.range 33 = List.range (k + 1) ++ (List.range (33 - (k + 1))).map (fun x => k + 1 + x) := by
    rw [← List.range_add, show k + 1 + (33 - (k + 1)) = 33 by omega]
  rw [e, List.map_append]
  exact ⟨_, rfl⟩
abbrev encP (ip : Nat) (x : Pf) : Array Value := #[kyV (ip &&& mk x.1) (x.1 : Int)]

set_option maxHeartbeats 1000000 in
theorem prefixes_in (ip : Nat) (w : World) (n : Nat) :
    CallsIn Fence.wide n Try.prog 24 #[.int .u32 (ip : Int)] w fun e w' => e = .returned (.func (.func 30) #[] #[.pointer (some ⟨w.heap.size, 0, none⟩)]) ∧ w' = w.alloc (.cells #[.int .u32 (ip : Int)] 30) := by
  refine callsIn_of_wp Try.func24 rfl trivial ?_ rfl
  simp only [Try.ntmps24, List.size_toArray, List.length_cons, List.length_nil, Nat.reduceAdd, Nat.reduceSub, Array.replicate_succ, Array.replicate_zero, List.push_toArray, List.append_toArray, List.nil_append, List.cons_append]
  gi_wp2
  go_ret
  exact ⟨rfl, rfl⟩

theorem mask_at (k : Nat) (hk : k ≤ 32) (w : World) : Calls Try.prog 29 #[.int .i64 (k : Int)] w fun e w' => e = .returned (.int .u32 ((mk k : Nat) : Int)) ∧ w' = w := by
  have := mask_any (k : Int) w
  have e : clip (k : Int) = k := by unfold clip; split <;> (try split) <;> omega
  rwa [e] at this

/-- what a round has left behind -/
structure YP (J Jx : List Pf → World → Prop) (n₀ : Nat) (W : World) (l : List Pf) (t : Bool) (W' : World) : Prop where
  yes : t = true → J l W' ∧ Below n₀ W W'
  no : t = false → Jx l W'

set_option maxRecDepth 100000 in
set_option maxHeartbeats 2000000 in
theorem prefixes1_in (n : Nat) (hn : 1 ≤ n) (lp Bs n₀ ip : Nat) (hip : ip < 4294967296) (hBs : Bs < n₀) (J Jx : List Pf → World → Prop)
    (hY : ∀ pre x W, J pre W → pre.length < 33 → YieldAt Fence.wide (n - 1) Try.prog lp (encP ip x) W fun e W' =>
      (e = .returned (.bool true) ∧ J (pre ++ [x]) W' ∧ Below n₀ W W') ∨ (e = .returned (.bool false) ∧ Jx (pre ++ [x]) W'))
    (W : World) (hJ : AbidesFrom W.heap.size J) (hc : W.cell? ⟨Bs, 0, none⟩ = some (.int .u32 (ip : Int))) (h0 : J [] W) :
    CallsIn Fence.wide n Try.prog 30 #[.func (.yield lp) #[] #[], .pointer (some ⟨Bs, 0, none⟩)] W fun e W' => (∃ v, e = .returned v) ∧
      ((∃ ys, ys = upto pfk 33 ∧ J ys W') ∨ (∃ pre, pre <+: upto pfk 33 ∧ Jx pre W')) := by
  have HJ := hide hJ
  refine callsIn_of_wp Try.func30 rfl trivial ?_ rfl
  simp only [Try.ntmps30, List.size_toArray, List.length_cons, List.length_nil, Nat.reduceAdd, Nat.reduceSub, Array.replicate_succ, Array.replicate_zero, List.push_toArray, List.append_toArray, List.nil_append, List.cons_append]
  clear hJ
  gi_wp2
  gi_loopw [3] (fun b wr => ∃ k : Nat, k ≤ 33 ∧ b = .int .i64 (32 - (k : Int)) ∧ J (upto pfk k) wr ∧ wr.cell? ⟨Bs, 0, none⟩ = some (.int .u32 (ip : Int)) ∧ Hid (W.heap.size ≤ wr.heap.size))
    (fun b _ => (intOf b + 1).toNat)
  case atStart => exact ⟨0, Nat.zero_le _, rfl, h0, hc, Nat.le_refl _⟩
  case round =>
    obtain ⟨k, hk, rfl, hJs, hcr, hsz⟩ := hrel
    by_cases hlt : k < 33
    · have hJd : J (upto pfk k) wr.drew := unhide HJ _ wr wr.drew none hJs ⟨rfl, rfl, rfl, Nat.le_refl _, fun _ _ _ => rfl⟩ (fun r e => by cases e)
      obtain ⟨fn, tmps, assign, body, hy, hR⟩ := hY _ (pfk k) wr.drew hJd (by rw [upto_length]; exact hlt)
      have hM := mask_at (32 - k) (by omega)
      have e1 : ((32 - k : Nat) : Int) = 32 - (k : Int) := by omega
      have hml := mk_lt (32 - k)
      have han := u32_and_nat ip (mk (32 - k)) hip hml
      have hy' : (Instr.yield lp #[kyV (ip &&& mk (32 - k)) ((32 - k : Nat) : Int)]).run Try.prog wr.drew = .ok (.round lp fn tmps assign body) wr.drew := hy
      rw [e1] at hM hy'
      clear hy
      have HM := hide (fun n w => callsIn_wide (n := n).2 (hM w))
      have HS := hide (upto_succ pfk k)
      have HP := hide (pre_upto k hlt)
      clear hM hJs
      have hR : RoundIn Fence.wide (n - 1) Try.prog lp fn tmps assign body wr.drew fun e W' => ∃ t : Bool, e = .returned (.bool t) ∧ YP J Jx n₀ wr.drew (upto pfk k ++ [pfk k]) t W' := hR.mono fun e W' h => by
        rcases h with ⟨h1, h2, h3⟩ | ⟨h1, h2⟩
        · exact ⟨true, h1, fun _ => ⟨h2, h3⟩, fun h => by cases h⟩
        · exact ⟨false, h1, fun h => (by cases h), fun _ => h2⟩
      generalize ip &&& mk (32 - k) = a at *
      generalize mk (32 - k) = m at *
      have hBs' := hide hBs
      clear e1 hml hJd hY hBs hip h0 hc
      gi_wp2
      gi_region_with (first
        | (refine ⟨trivial, ?_⟩; gi_at_call 29; refine (unhide HM _ _).mono ?_; rintro e w3 ⟨rfl, rfl⟩)
        | (refine hR.mono ?_; rintro e W3 ⟨t, rfl, hp⟩))
      all_goals
        cases t
        · have hx := hp.no rfl
          clear hp hR hy' han HM
          go_simp
          gi_wp2
          refine bodyPost_ret (results_none rfl _ _ _) rfl ?_
          exact ⟨⟨_, rfl⟩, .inr ⟨_, unhide HP, hx⟩⟩
        · obtain ⟨hj3, hb3⟩ := hp.yes rfl
          have hc3 := (hb3.cell (p := ⟨Bs, 0, none⟩) (unhide hBs')).trans hcr
          have hz3 : Hid (W.heap.size ≤ W3.heap.size) := Nat.le_trans (unhide hsz) hb3.size
          have HJ3 := hide hj3
          clear hp hR hy' han HM hb3 hcr hj3
          go_simp
          gi_wp2
          refine ⟨⟨k + 1, by omega, ?_, by rw [unhide HS]; exact unhide HJ3, hc3, hz3⟩, ?_⟩
          · exact vint (by omega)
          · simp [intOf]
            omega
    · obtain rfl : k = 33 := by omega
      gi_wp2
      go_end0
      exact ⟨⟨_, rfl⟩, .inl ⟨_, rfl, hJs⟩⟩

theorem prefixes_stops (n : Nat) (hn : 1 ≤ n) (Bs n₀ ip : Nat) (hip : ip < 4294967296) (w : World) (hB : Bs < n₀) (hBs : Bs < w.heap.size)
    (hc : w.cell? ⟨Bs, 0, none⟩ = some (.int .u32 (ip : Int))) :
    SeqStopsK Fence.wide n Try.prog 30 #[.pointer (some ⟨Bs, 0, none⟩)] (encP ip) (Below n₀) (fun ys => ys = upto pfk 33) (fun pre => pre <+: upto pfk 33) 33 w := fun l' J Jx W hW hJ _ hY h0 =>
  prefixes1_in n hn l' Bs n₀ ip hip hB J Jx hY W hJ ((hW.cell (p := ⟨Bs, 0, none⟩) hBs).trans hc) h0
end Go.Proofs.Ytmicgkoicmeflaa
