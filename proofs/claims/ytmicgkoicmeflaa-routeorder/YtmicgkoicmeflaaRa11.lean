/- maps.Values of a table's map, slices.AppendSeq and slices.Collect of what it gives, over the loaded program. -/
import Derived.Test.YtmicgkoicmeflaaRq11
import Derived.RangeFuncWrites
import Derived.Maps.OwnIn
import Derived.Maps.AppendAt
namespace Go.Proofs.Ytmicgkoicmeflaa
open Go.RowKit Go.Shelf Go.Maps

attribute [local go_sem] Oper.semAt_some

abbrev encR (r : Rt) : Array Value := #[rtV r]
theorem same_key (a b : Lit) (hb : WideAt.IsKeyLit b) : a.sameKey b = true ↔ a = b := by
  constructor
  · intro h
    apply Classical.byContradiction
    intro hn
    rw [sameKey_ne hn] at h
    cases h
  · rintro rfl
    exact WideAt.sameKey_self hb

theorem nodup_srt {L : List Rt} (h : Srt L) : L.Nodup := List.Pairwise.imp (fun {a b} (h : ahd a b) (e : a = b) => ahd_irrefl b (e ▸ h)) h

/-- what has come of the routes, and what is left -/
structure Came (L : List Rt) (left : Lit → Bool) (ss : List Rt) : Prop where
  nd : ss.Nodup
  mem : ∀ r, r ∈ ss ↔ r ∈ L ∧ left (kb r.n r.b) = false
theorem Came.step {L : List Rt} (hL : OkL L) {left : Lit → Bool} {ss : List Rt} (h : Came L left ss) {r : Rt} (hr : r ∈ L) (hl : left (kb r.n r.b) = true) :
    Came L (fun y => left y && !y.sameKey (kb r.n r.b)) (ss ++ [r]) := by
  refine ⟨?_, fun y => ?_⟩
  · rw [List.nodup_append]
    refine ⟨h.nd, by simp, fun a ha b hb e => ?_⟩
    simp at hb
    have := (h.mem a).1 ha
    rw [e, hb, hl] at this
    exact absurd this.2 (by simp)
  · rw [List.mem_append, List.mem_singleton, h.mem y]
    by_cases e : y = r
    · subst e
      have := (same_key (kb y.n y.b) (kb y.n y.b) (kb_key _ _)).2 rfl
      simp [this, hr]
    · simp only [e, or_false]
      constructor
      · rintro ⟨h1, h2⟩
        exact ⟨h1, by rw [h2]; rfl⟩
      · rintro ⟨h1, h2⟩
        refine ⟨h1, ?_⟩
        cases h3 : left (kb y.n y.b) with
        | false => rfl
        | true =>
          rw [h3] at h2
          simp only [Bool.true_and, Bool.not_eq_false'] at h2
          have h4 := (same_key _ _ (kb_key _ _)).1 h2
          have h5 := kb_inj (hL.fit y h1).key (hL.fit r hr).key h4
          exact absurd (srt_uniq hL.srt h1 hr h5) e

theorem invKv : ∀ (key : Value) (kl : Lit), keyOf Try.prog 57 key = some kl → ∃ x : Value, key = id x := fun key _ _ => ⟨key, rfl⟩
theorem invVv : ∀ (v : Value) (y : DataW Value × List MemPlace), vE v = some y → ∃ c : Value, v = id c := fun v _ _ => ⟨v, rfl⟩

set_option maxRecDepth 100000 in
set_option maxHeartbeats 1000000 in
theorem values1_in (n : Nat) (hn : 1 ≤ n) (l Bm b nn : Nat) {L : List Rt} (hL : OkL L) {D : DataW Value} (hD : Rep D L) (J Jx : List Rt → World → Prop)
    (hY : ∀ pre x W, J pre W → pre.length < L.length → YieldAt Fence.wide (n - 1) Try.prog l (encR x) W fun e W' =>
      (e = .returned (.bool true) ∧ J (pre ++ [x]) W' ∧ KeepsWalks W W') ∨ (e = .returned (.bool false) ∧ Jx (pre ++ [x]) W'))
    (W : World) (hJ : AbidesFrom W.heap.size J) (hm : W.cell? ⟨Bm, 0, none⟩ = some (.map (some b))) (hown : W.ownsMap Try.prog 57 vE b nn D) (h0 : J [] W) :
    CallsIn Fence.wide n Try.prog 33 #[.func (.yield l) #[] #[], .pointer (some ⟨Bm, 0, none⟩)] W fun e W' => (∃ v, e = .returned v) ∧
      ((∃ ss : List Rt, ss.Perm L ∧ J ss W') ∨ (∃ pre : List Rt, True ∧ Jx pre W')) := by
  have HL := hide hL
  have HD := hide hD
  clear hL hD
  refine callsIn_of_wp Try.func33 rfl trivial ?_ rfl
  simp only [Try.ntmps33, List.size_toArray, List.length_cons, List.length_nil, Nat.reduceAdd, Nat.reduceSub, Array.replicate_succ, Array.replicate_zero, List.push_toArray, List.append_toArray, List.nil_append, List.cons_append]
  gi_wp2_with (first
    | (gi_at_range; refine wpListIn_range_own _ rfl _ 53 rfl 57 32 lawP Try.underlying53 _ b nn _ rfl hown ?_; intro w0 hrg0 hg0 hs0)
    | gi_in)
  go_frame
  gi_loopw [4] (fun _ wr => ∃ (left : Lit → Bool) (cnt : Nat) (ss : List Rt), wr.ranges Try.prog 57 vE b W.heap.size nn D left cnt ∧ Hid (ss.length + cnt ≤ L.length ∧ Came L left ss) ∧ J ss wr)
    (fun _ wr => wr.rangeLeft b W.heap.size)
  case atStart =>
    refine ⟨_, _, [], hrg0, hide ⟨by simp [(unhide HD).size], ⟨List.nodup_nil, fun r => ?_⟩⟩, hJ [] W w0 none h0 hg0 (fun r e => by cases e)⟩
    constructor
    · intro h; simp at h
    · rintro ⟨h1, h2⟩
      rw [(unhide HD).has _ _ ((unhide HL).fit r h1).key, look_mem (unhide HL).srt h1] at h2
      cases h2
  case round =>
    obtain ⟨left, cnt, ss, hrg, hC, hJs⟩ := hrel
    gi_wp2_with (first
      | (gi_at_next; refine wpListIn_next_ranges _ rfl _ rfl 57 lawP vE (id : Value → Value) (id : Value → Value) invKv invVv b W.heap.size nn _ _ _ rfl hrg ?_ ?_)
      | gi_in)
    · intro hc0 hl0
      have HP : Hid (ss.Perm L) := by
        obtain ⟨_, h2⟩ := unhide hC
        refine (List.perm_ext_iff_of_nodup h2.nd ?_).2 fun a => ?_
        · exact nodup_srt (unhide HL).srt
        · rw [h2.mem a, hl0]
          simp
      gi_wp2
      go_end0
      exact ⟨⟨_, rfl⟩, .inl ⟨ss, unhide HP, hJs⟩⟩
    · intro x v kl yd yp w2 cnt2 hkey hlk hv hat hrg2 hlt hg2 hs2 hen
      have hyd : yd = .held v := by
        have : vE v = some (.held v, []) := rfl
        change vE v = _ at hv
        rw [this] at hv
        simp at hv
        exact hv.1.symm
      subst hyd
      obtain ⟨r, hr, rfl⟩ := (unhide HD).keys kl (has_true_of_atKey hat)
      have hvr : v = rtV r := by
        have h1 := hat (.held v)
        rw [(unhide HD).look _ _ _ ((unhide HL).fit r hr).key, look_mem (unhide HL).srt hr] at h1
        simp only [Option.elim_some, DataW.held.injEq] at h1
        exact h1.symm
      have hkx : id x = kyV r.n r.b := lawP.inj hkey (key_of ((unhide HL).fit r hr).key)
      have hkx : x = kyV r.n r.b := hkx
      subst hvr
      subst hkx
      try simp only [id] at hen
      try simp only [id]
      have hJ2 : J ss w2 := hJ ss wr w2 (some W.heap.size) hJs hg2 (fun r e => by cases e; exact ⟨Nat.le_refl _, hrg.iter_walk⟩)
      have hJ3 : J ss (w2.alloc (.cells (rtCs r) 32)) := hJ ss w2 _ none hJ2 (World.grownBy_alloc w2 _ none) (fun r e => by cases e)
      have HX : Hid (ss.length < L.length ∧ (ss ++ [r]).length + cnt2 ≤ L.length ∧ Came L (fun y => left y && !y.sameKey (kb r.n r.b)) (ss ++ [r])) := by
        obtain ⟨h1, h2⟩ := unhide hC
        refine ⟨by omega, by simp; omega, h2.step (unhide HL) hr hlk⟩
      obtain ⟨fn, tmps, assign, body, hy, hR⟩ := hY ss r (w2.alloc (.cells (rtCs r) 32)) hJ3 (unhide HX).1
      have hrg2' := hrg2.alloc (.cells (rtCs r) 32)
      clear hs2 hat hv hkey hY hC hJ3
      gi_wp2
      refine hR.mono ?_
      rintro e W3 (⟨rfl, hJ3, hk3⟩ | ⟨rfl, hJx3⟩)
      · gi_wp2
        have hrg3 := hrg2'.of_walks hk3
        go_roundw
        case rel => exact ⟨_, cnt2, ss ++ [r], hrg3, (unhide HX).2, hJ3⟩
        case measure => rw [hrg3.left_eq, hrg.left_eq]; exact hlt
      · gi_wp2
        refine bodyPost_ret (results_none rfl _ _ _) rfl ?_
        exact ⟨⟨_, rfl⟩, .inr ⟨ss ++ [r], trivial, hJx3⟩⟩

theorem values_stops (n : Nat) (hn : 1 ≤ n) (Bm b nn : Nat) {L : List Rt} (hL : OkL L) {D : DataW Value} (hD : Rep D L) (w : World) (hBm : Bm < w.heap.size) (hm : w.cell? ⟨Bm, 0, none⟩ = some (.map (some b))) (hown : w.ownsMap Try.prog 57 vE b nn D) :
    SeqStopsK Fence.wide n Try.prog 33 #[.pointer (some ⟨Bm, 0, none⟩)] encR KeepsWalks (fun ss => ss.Perm L) (fun _ => True) L.length w := fun l J Jx W hW hJ _ hY h0 =>
  values1_in n hn l Bm b nn hL hD J Jx hY W hJ ((hW.cell (p := ⟨Bm, 0, none⟩) hBm).trans hm) (owns_at hown (hW.block b hown.lt)) h0

set_option maxHeartbeats 1000000 in
theorem values_any (m' : Nat) (w : World) :
    Calls Try.prog 26 #[.map (some m')] w fun e w' => e = .returned (.func (.func 33) #[] #[.pointer (some ⟨w.heap.size, 0, none⟩)]) ∧ w' = w.alloc (.cells #[.map (some m')] 53) := by
  go_enter Try.func26, Try.ntmps26
  go_wp2
  go_ret
  exact ⟨rfl, rfl⟩
end Go.Proofs.Ytmicgkoicmeflaa
