/- A loop over a function whose body goes through all that comes, and may turn whatever its own invariant says, while the function writes its own new blocks: the law of the statement. -/
import Derived.Test.YtefenejeppmfiaaKit
import Derived.RangeFuncNested
import Derived.RangeFuncBound
import Derived.RangeFuncCalls
import Derived.RangeFuncLeaves
import Derived.RangeFuncBox
import Derived.RangeFuncWrites
import Derived.Shelf.Abstract
import Derived.Shelf.RegionOpen
import Derived.OwnWalkIn
import Derived.TacticsInMore
import Derived.LoopNIn
import Derived.LoopIn
namespace Go.Proofs.Ytefenejeppmfiaa
open Go.RowKit Go.Shelf

/-- all blocks that were there and are of No are as they were -/
structure Ks (No : Nat → Prop) (w w' : World) : Prop where
  os : w'.os = w.os
  tape : w'.tape = w.tape
  output : w'.output = w.output
  size : w.heap.size ≤ w'.heap.size
  block : ∀ k, k < w.heap.size → No k → w'.heap[k]? = w.heap[k]?
section
variable {No : Nat → Prop} {a b c w w' : World}
theorem Ks.refl (No : Nat → Prop) (w : World) : Ks No w w := ⟨rfl, rfl, rfl, Nat.le_refl _, fun _ _ _ => rfl⟩
theorem Ks.trans (h : Ks No a b) (k : Ks No b c) : Ks No a c :=
  ⟨k.os.trans h.os, k.tape.trans h.tape, k.output.trans h.output, Nat.le_trans h.size k.size, fun i hi hn => (k.block i (Nat.lt_of_lt_of_le hi h.size) hn).trans (h.block i hi hn)⟩
theorem Ks.of_below (h : Below w.heap.size w w') : Ks No w w' := ⟨h.os, h.tape, h.output, h.size, fun k hk _ => h.block k hk⟩
theorem Ks.of_grown {r : Option Nat} (h : w.grownBy w' r) (hr : ∀ j, r = some j → ¬ No j) : Ks No w w' := ⟨h.os, h.tape, h.output, h.size, fun k hk hn => h.block k hk (fun e => hr k e.symm hn)⟩
theorem Ks.setCell (w : World) (p : Addr) (v : Value) (hp : ¬ No p.block) : Ks No w (w.setCell p v) :=
  ⟨rfl, rfl, rfl, by simp, fun k _ hn => heap_setCell_other w p k v (fun e => hp (e ▸ hn))⟩
theorem Ks.below {B : Nat} (h : Ks No w w') (hB : B ≤ w.heap.size) (hN : ∀ k, k < B → No k) : Below B w w' := ⟨h.os, h.tape, h.output, h.size, fun k hk => h.block k (by omega) (hN k hk)⟩
theorem Ks.mono {No' : Nat → Prop} (h : Ks No a b) (hN : ∀ i, No' i → No i) : Ks No' a b := ⟨h.os, h.tape, h.output, h.size, fun i hi hn => h.block i hi (hN i hn)⟩
theorem Ks.cell (h : Ks No w w') {p : Addr} {v : Value} (hc : w.cell? p = some v) (hp : No p.block) : w'.cell? p = some v :=
  (World.cell?_of_block (h.block p.block (World.block_lt_of_cell? w p hc) hp)).trans hc
theorem undrew {w w1 : World} (h : Below w.drew.heap.size w.drew w1) : Below w.heap.size w w1 := (Below.refl _ w).drew.trans h
end

theorem range_all {α : Type} {F : Fence} {n : Nat} {P : Program} {g : Operand} {ps : Array Tmp} {assign body : Code} {Q : Exit → Act → World → Prop} {a : Act} {w : World} {No : Nat → Prop}
    (hro : F.round = none) (h1 : 1 ≤ n) {gf : Nat} {lb : Array Value} (hg : a.eval g = .func (.func gf) #[] lb) (hFg : F.fn gf) (eg : ∀ args w, (callFunc gf args).run P w = .ok (.enter gf args) w)
    {encs : α → Array Value} (hps : ∀ x, (encs x).size = ps.size)
    (I : (Nat → Prop) → List α → World → Prop) (J : (Nat → Prop) → List α → α → World → Prop) (J1 : (Nat → Prop) → List α → α → Act → World → Prop) (S : List α → Prop)
    (h0 : ∀ r, I (fun i => No i ∨ i = w.heap.size ∨ i = w.heap.size + 1) [] ((w.alloc (.deferred (some []))).alloc (.loop r)))
    (hIn : ∀ No' pre W, I No' pre W → ∀ r o', W.heap[w.heap.size + 1]? = some (.loop r) → I No' pre (W.putObj (w.heap.size + 1) o'))
    (hJn : ∀ No' pre x a₁ W, J1 No' pre x a₁ W → ∀ r o', W.heap[w.heap.size + 1]? = some (.loop r) → J1 No' pre x a₁ (W.putObj (w.heap.size + 1) o'))
    (hseq : ∀ (R : World → Prop) (W1 : World), (∀ W W', R W → Below (w.heap.size + 2) W W' → R W') → w.heap.size + 2 ≤ W1.heap.size →
      (∀ No' pre x W, No' w.heap.size → No' (w.heap.size + 1) → J No' pre x W → R W → YieldAt F (n - 1 - 1) P (w.heap.size + 1) (encs x) W fun e W' => e = .returned (.bool true) ∧ I No' (pre ++ [x]) W' ∧ Ks No' W W' ∧ R W') →
      I (fun i => No i ∨ i = w.heap.size ∨ i = w.heap.size + 1) [] W1 → R W1 →
      CallsIn F (n - 1) P gf (#[.func (.yield (w.heap.size + 1)) #[] #[]] ++ lb) W1 fun e W' => (∃ v, e = .returned v) ∧ ∃ No' xs, S xs ∧ I No' xs W' ∧ R W')
    (hassign : ∀ l No' pre x W, J No' pre x W → assign.wpIn (F.inRound l) (n - 1 - 1) P (Exit.then (fun a₁ W₁ => Below W.heap.size W W₁ ∧ J1 No' pre x a₁ W₁) (fun _ _ _ => False)) { tmps := (ps.zip (encs x)).foldl (fun t (p, v) => t.setIfInBounds p v) a.tmps, defers := [] } W)
    (hbody : ∀ l No' pre x a₁ W, J1 No' pre x a₁ W → body.wpIn (F.inRound l) (n - 1 - 1) P (fun e _ W' => e = .normal ∧ Ks No' W W' ∧ I No' (pre ++ [x]) W') a₁ W)
    (hdone : ∀ (No' : Nat → Prop) (xs : List α) (W : World), S xs → I No' xs W → W.heap[w.heap.size]? = some (.deferred (some [])) → Q .normal { a with defers := { target := .collected w.heap.size, args := #[] } :: a.defers } W) :
    (Code.rangeFunc g ps assign body).wpIn F n P Q a w := by
  refine wpIn_rangeFunc fun fn hfn => ?_
  rw [hro]
  obtain ⟨rec, hrec⟩ : ∃ rec : LoopState → Loop, rec = fun st => { state := st, pending := none, fn := fn, tmps := a.tmps, params := ps, assign := assign, body := body, defers := w.heap.size } := ⟨_, rfl⟩
  have hL1 : ((w.alloc (.deferred (some []))).alloc (.loop (rec .ready))).heap[w.heap.size + 1]? = some (.loop (rec .ready)) := by
    have := World.alloc_heap_new (w.alloc (.deferred (some []))) (.loop (rec .ready))
    rwa [World.size_alloc] at this
  have hD1 : ((w.alloc (.deferred (some []))).alloc (.loop (rec .ready))).heap[w.heap.size]? = some (.deferred (some [])) :=
    (Below.heap_alloc _ _ _ (by simp)).trans (World.alloc_heap_new w _)
  refine ⟨w.heap.size + 1, [{ target := .collected w.heap.size, args := #[] }], (w.alloc (.deferred (some []))).alloc (.loop (rec .ready)), { target := .fn (.func gf) lb, args := #[.func (.yield (w.heap.size + 1)) #[] #[]] },
    (w.alloc (.deferred (some []))).alloc (.loop (rec .ready)), gf, #[.func (.yield (w.heap.size + 1)) #[] #[]] ++ lb, (w.alloc (.deferred (some []))).alloc (.loop (rec .ready)), ?_, ?_, ?_, ?_, fun _ => h1, ?_⟩
  · rw [hrec]; exact run_enterLoop_outer _ _ _ _ _
  · simp only [resolve, hg]
    simp [go_sem]
  · intro f' hf'
    simp [Target.leads] at hf'
    subst hf'
    exact hFg
  · simp [invoke, go_sem, eg]
  have hst : ∀ W W' : World, (W.heap[w.heap.size + 1]? = some (.loop (rec .ready)) ∧ W.heap[w.heap.size]? = some (.deferred (some []))) → Below (w.heap.size + 2) W W' → (W'.heap[w.heap.size + 1]? = some (.loop (rec .ready)) ∧ W'.heap[w.heap.size]? = some (.deferred (some []))) := fun W W' h k =>
    ⟨(k.block _ (by omega)).trans h.1, (k.block _ (by omega)).trans h.2⟩
  refine (hseq (fun W => W.heap[w.heap.size + 1]? = some (.loop (rec .ready)) ∧ W.heap[w.heap.size]? = some (.deferred (some []))) _ hst (by simp) ?_ (h0 _) ⟨hL1, hD1⟩).mono ?_
  · rintro No' pre x W hD hL hJ ⟨hl, hd⟩
    have hy := run_yield (P := P) (args := encs x) hl (by rw [hrec]; exact hps x)
    rw [hrec] at hy
    refine ⟨fn, _, assign, body, hy, roundIn_of_wpIn hfn (wpIn_mono (hassign (w.heap.size + 1) No' pre x W hJ) ?_)⟩
    rintro e a₁ W₁ hq
    cases e with
    | normal =>
      obtain ⟨hB, hJ1⟩ := hq
      have hl1 : W₁.heap[w.heap.size + 1]? = some (.loop (rec .ready)) := (hB.block _ (Array.getElem?_eq_some_iff.1 hl).1).trans hl
      have hlt1 := (Array.getElem?_eq_some_iff.1 hl1).1
      refine ⟨_, run_beginRound hl1 (by rw [hrec]), wpIn_mono (hbody _ No' pre x a₁ _ (hJn No' pre x a₁ W₁ hJ1 _ _ hl1)) ?_⟩
      rintro e a₂ W₃ ⟨rfl, hK, hI⟩
      have hb2 : (W₁.putObj (w.heap.size + 1) (.loop { rec .ready with state := .busy })).heap[w.heap.size + 1]? = some (.loop { rec .ready with state := .busy }) := World.putObj_heap_same hlt1
      have hl3 : W₃.heap[w.heap.size + 1]? = some (.loop { rec .ready with state := .busy }) := (hK.block _ (by simpa using hlt1) hL).trans hb2
      have hd3 : W₃.heap[w.heap.size]? = some (.deferred (some [])) := by
        rw [hK.block _ (by simp; omega) hD, World.putObj_heap_other (by omega), hB.block _ (Array.getElem?_eq_some_iff.1 hd).1]
        exact hd
      refine ⟨_, _, run_endRound none hl3, ?_, hIn No' _ W₃ hI _ _ hl3, ?_, ?_, ?_⟩
      · rfl
      · have hsz : W.heap.size ≤ W₃.heap.size := Nat.le_trans hB.size (by have := hK.size; simpa using this)
        refine ⟨hK.os.trans hB.os, hK.tape.trans hB.tape, hK.output.trans hB.output, by simpa using hsz, fun k hk hn => ?_⟩
        by_cases e : k = w.heap.size + 1
        · subst e
          rw [World.putObj_heap_same (Array.getElem?_eq_some_iff.1 hl3).1, hl, hrec]
          rfl
        · rw [World.putObj_heap_other e, hK.block k (by have := hB.size; simp; omega) hn, World.putObj_heap_other e]
          exact hB.block k hk
      · rw [World.putObj_heap_same (Array.getElem?_eq_some_iff.1 hl3).1, hrec]
        rfl
      · rw [World.putObj_heap_other (by omega)]
        exact hd3
    | exit id => exact hq.elim
    | goto t => exact hq.elim
    | ret => exact hq.elim
    | panic c => exact hq.elim
    | outgrown => exact hq.elim
  · rintro e W2 ⟨⟨v, rfl⟩, No', xs, hS, hI, hl, hd⟩
    refine ⟨none, _, by have := run_endLoop (P := P) hl (by rw [hrec]; simp); rw [hrec] at this; exact this, ?_⟩
    exact hdone No' xs _ hS (hIn No' xs W2 hI _ _ hl) ((World.putObj_heap_other (by omega)).trans hd)
end Go.Proofs.Ytefenejeppmfiaa
