/- maps.Keys of the entries' map, slices.AppendSeq and slices.Collect of what it gives, over the loaded program. -/
import Derived.Test.YtjcigoojlmalnaaNr10
import Derived.RangeFuncNested
import Derived.RangeFuncBound
import Derived.RangeFuncCalls
import Derived.RangeFuncLeaves
import Derived.RangeFuncBox
import Derived.RangeFuncWrites
import Derived.Shelf.Abstract
import Derived.Shelf.RegionOpen
import Derived.OwnWalkIn
import Derived.TacticsInMore
import Derived.LoopNIn
import Derived.LoopIn
import Derived.Maps.OwnIn
import Derived.Maps.AppendAt
namespace Go.Proofs.Ytjcigoojlmalnaa
open Go.RowKit Go.Shelf Go.Maps

attribute [local go_sem] Oper.semAt_some

abbrev enc32 (x : Nat) : Array Value := #[.int .u32 (x : Int)]
def v32 (x : Nat) : Value := .int .u32 (x : Int)
def keysN {β : Type} (L : List (Nat × β)) : List Nat := L.map (·.1)
theorem mem_keys {β : Type} {L : List (Nat × β)} {k : Nat} : k ∈ keysN L ↔ (lookN k L).isSome = true := by
  constructor
  · intro h
    obtain ⟨x, hx, rfl⟩ := List.mem_map.1 h
    cases e : lookN x.1 L with
    | none => exact absurd rfl (lookN_none.1 e x hx)
    | some v => rfl
  · intro h
    cases e : lookN k L with
    | none => rw [e] at h; simp at h
    | some v => exact List.mem_map.2 ⟨_, lookN_some e, rfl⟩
theorem nodup_keys {β : Type} {L : List (Nat × β)} (h : SrtN L) : (keysN L).Nodup := by
  unfold keysN List.Nodup
  rw [List.pairwise_map]
  exact h.imp (fun h e => by omega)

/-- what has come of the keys, and what is left -/
structure Came {β : Type} (L : List (Nat × β)) (left : Lit → Bool) (ss : List Nat) : Prop where
  nd : ss.Nodup
  mem : ∀ k, k ∈ ss ↔ k ∈ keysN L ∧ left (.int .u32 (k : Int)) = false

theorem Came.step {β : Type} {L : List (Nat × β)} {left : Lit → Bool} {ss : List Nat} (h : Came L left ss) {k : Nat} (hk : k ∈ keysN L) (hl : left (.int .u32 (k : Int)) = true) :
    Came L (fun y => left y && !y.sameKey (.int .u32 (k : Int))) (ss ++ [k]) := by
  refine ⟨?_, fun j => ?_⟩
  · rw [List.nodup_append]
    refine ⟨h.nd, by simp, fun a ha b hb e => ?_⟩
    simp at hb
    have := (h.mem a).1 ha
    rw [e, hb, hl] at this
    exact absurd this.2 (by simp)
  · simp only [List.mem_append, List.mem_singleton, same_int, h.mem j]
    by_cases e : j = k
    · subst e; simp [hk]
    · simp [e]

set_option maxRecDepth 100000 in
set_option maxHeartbeats 1000000 in
theorem keys1_in (n : Nat) (hn : 1 ≤ n) (l Bm b nn : Nat) {f : Nat → Value} {L : Ens} (hS : SrtN L) (hk12 : ∀ x ∈ L, x.1 < 12) (J Jx : List Nat → World → Prop)
    (hY : ∀ pre x W, J pre W → pre.length < L.length → YieldAt Fence.wide (n - 1) Try.prog l (enc32 x) W fun e W' =>
      (e = .returned (.bool true) ∧ J (pre ++ [x]) W' ∧ KeepsWalks W W') ∨ (e = .returned (.bool false) ∧ Jx (pre ++ [x]) W'))
    (W : World) (hJ : AbidesFrom W.heap.size J) (hm : W.cell? ⟨Bm, 0, none⟩ = some (.map (some b))) (hown : W.ownsMap Try.prog 35 vE b nn (dmN .u32 (evE f) L)) (h0 : J [] W) :
    CallsIn Fence.wide n Try.prog 32 #[.func (.yield l) #[] #[], .pointer (some ⟨Bm, 0, none⟩)] W fun e W' => (∃ v, e = .returned v) ∧
      ((∃ ss : List Nat, ss.Perm (keysN L) ∧ J ss W') ∨ (∃ pre : List Nat, True ∧ Jx pre W')) := by
  have HS := hide hS
  have HK := hide hk12
  clear hS hk12
  refine callsIn_of_wp Try.func32 rfl trivial ?_ rfl
  simp only [Try.ntmps32, List.size_toArray, List.length_cons, List.length_nil, Nat.reduceAdd, Nat.reduceSub, Array.replicate_succ, Array.replicate_zero, List.push_toArray, List.append_toArray, List.nil_append, List.cons_append]
  gi_wp2_with (first
    | (gi_at_range; refine wpListIn_range_own _ rfl _ 53 rfl 35 58 law32 Try.underlying53 _ b nn _ rfl hown ?_; intro w0 hrg0 hg0 hs0)
    | gi_in)
  go_frame
  gi_loopw [3] (fun _ wr => ∃ (left : Lit → Bool) (cnt : Nat) (ss : List Nat), wr.ranges Try.prog 35 vE b W.heap.size nn (dmN .u32 (evE f) L) left cnt ∧ Hid (ss.length + cnt ≤ L.length ∧ Came L left ss) ∧ J ss wr)
    (fun _ wr => wr.rangeLeft b W.heap.size)
  case atStart =>
    refine ⟨_, _, [], hrg0, hide ⟨by simp [dmN_size], ⟨List.nodup_nil, fun k => ?_⟩⟩, hJ [] W w0 none h0 hg0 (fun r e => by cases e)⟩
    rw [dmN_has, mem_keys]
    cases lookN k L <;> simp
  case round =>
    obtain ⟨left, cnt, ss, hrg, hC, hJs⟩ := hrel
    gi_wp2_with (first
      | (gi_at_next; refine wpListIn_next_ranges _ rfl _ rfl 35 law32 vE (Value.int .u32) id invK invV b W.heap.size nn _ _ _ rfl hrg ?_ ?_)
      | gi_in)
    · intro hc0 hl0
      have HP : Hid (ss.Perm (keysN L)) := by
        obtain ⟨_, h2⟩ := unhide hC
        refine (List.perm_ext_iff_of_nodup h2.nd (nodup_keys (unhide HS))).2 fun a => ?_
        rw [h2.mem a, hl0]
        simp
      gi_wp2
      go_end0
      exact ⟨⟨_, rfl⟩, .inl ⟨ss, unhide HP, hJs⟩⟩
    · intro x v kl yd yp w2 cnt2 hkey hlk hv hat hrg2 hlt hg2 hs2 hen
      obtain ⟨x', ex, rfl, hwf⟩ := Maps.keyOf_int_inv Try.underlying35 hkey
      obtain rfl : x = x' := by simpa using ex
      have hyd : yd = .held v := by
        have : vE v = some (.held v, []) := rfl
        rw [this] at hv
        simp at hv
        exact hv.1.symm
      subst hyd
      obtain ⟨k, q, rfl, hq, rfl⟩ := at_entry hwf hat
      have hJ2 : J ss w2 := hJ ss wr w2 (some W.heap.size) hJs hg2 (fun r e => by cases e; exact ⟨Nat.le_refl _, hrg.iter_walk⟩)
      have HX : Hid (ss.length < L.length ∧ (ss ++ [k]).length + cnt2 ≤ L.length ∧ Came L (fun y => left y && !y.sameKey (.int .u32 (k : Int))) (ss ++ [k])) := by
        obtain ⟨h1, h2⟩ := unhide hC
        refine ⟨by omega, by simp; omega, h2.step (mem_keys.2 (by rw [hq]; rfl)) hlk⟩
      obtain ⟨fn, tmps, assign, body, hy, hR⟩ := hY ss k w2 hJ2 (unhide HX).1
      clear hs2 hat hv hkey hq hwf hs0 hY hC
      gi_wp2
      refine hR.mono ?_
      rintro e W3 (⟨rfl, hJ3, hk3⟩ | ⟨rfl, hJx3⟩)
      · gi_wp2
        have hrg3 := hrg2.of_walks hk3
        go_roundw
        case rel => exact ⟨_, cnt2, ss ++ [k], hrg3, (unhide HX).2, hJ3⟩
        case measure => rw [hrg3.left_eq, hrg.left_eq]; exact hlt
      · gi_wp2
        refine bodyPost_ret (results_none rfl _ _ _) rfl ?_
        exact ⟨⟨_, rfl⟩, .inr ⟨ss ++ [k], trivial, hJx3⟩⟩

/-- the keys of the entries, as an iterator gives them -/
theorem keys_stops (n : Nat) (hn : 1 ≤ n) (Bm b nn : Nat) {f : Nat → Value} {L : Ens} (hS : SrtN L) (hk12 : ∀ x ∈ L, x.1 < 12) (w : World) (hBm : Bm < w.heap.size) (hm : w.cell? ⟨Bm, 0, none⟩ = some (.map (some b))) (hown : w.ownsMap Try.prog 35 vE b nn (dmN .u32 (evE f) L)) :
    SeqStopsK Fence.wide n Try.prog 32 #[.pointer (some ⟨Bm, 0, none⟩)] enc32 KeepsWalks (fun ss => ss.Perm (keysN L)) (fun _ => True) L.length w := fun l J Jx W hW hJ _ hY h0 =>
  keys1_in n hn l Bm b nn hS hk12 J Jx hY W hJ ((hW.cell (p := ⟨Bm, 0, none⟩) hBm).trans hm) (owns_at hown (hW.block b hown.lt)) h0

set_option maxHeartbeats 1000000 in
theorem keys_any (m' : Nat) (w : World) :
    Calls Try.prog 29 #[.map (some m')] w fun e w' => e = .returned (.func (.func 32) #[] #[.pointer (some ⟨w.heap.size, 0, none⟩)]) ∧ w' = w.alloc (.cells #[.map (some m')] 53) := by
  go_enter Try.func29, Try.ntmps29
  go_wp2
  go_ret
  exact ⟨rfl, rfl⟩
end Go.Proofs.Ytjcigoojlmalnaa
