/- Tick of package near, over the loaded program. -/
import Derived.Test.YtjcigoojlmalnaaNb1
namespace Go.Proofs.Ytjcigoojlmalnaa
open Go.RowKit Go.Shelf Go.Maps Go.Sort

attribute [local go_sem] Oper.semAt_some

theorem then_only {C : Code} {F : Fence} {n : Nat} {P : Program} {K : Act → World → Prop} {Q : Exit → Act → World → Prop} {a : Act} {w : World} (h : C.wpIn F n P (Exit.then K (fun _ _ _ => False)) a w) : C.wpIn F n P (Exit.then K Q) a w :=
  wpIn_mono h (fun e _ _ hq => by cases e <;> first | exact hq | exact hq.elim)

theorem then_at {C : Code} {F : Fence} {n : Nat} {P : Program} {K : Act → World → Prop} {Q : Exit → Act → World → Prop} {a : Act} {w : World} (A : Act) (W : World) (h : C.wpIn F n P (Exit.then (fun a' w' => a' = A ∧ w' = W) (fun _ _ _ => False)) a w) (hk : K A W) : C.wpIn F n P (Exit.then K Q) a w :=
  wpIn_mono h (fun e _ _ hq => by
    cases e with
    | normal => obtain ⟨rfl, rfl⟩ := hq; exact hk
    | exit id => exact hq.elim
    | goto t => exact hq.elim
    | ret => exact hq.elim
    | panic c => exact hq.elim
    | outgrown => exact hq.elim)

theorem due_any (p : Nat) (w : World) :
    Calls Try.prog 23 #[.pointer (some ⟨p, 0, none⟩)] w fun e w' => e = .returned (.func (.func 27) #[] #[.pointer (some ⟨w.heap.size, 0, none⟩)]) ∧ w' = w.alloc (.cells #[.pointer (some ⟨p, 0, none⟩)] 25) := by
  go_enter Try.func23, Try.ntmps23
  go_wp2
  go_ret
  exact ⟨rfl, rfl⟩

section
variable {Ba Bl p b : Nat} {c : Cf} {t : Nat} {L D : Ens} {No : Nat → Prop} {f : Nat → Value} {va vl : Value} {W W' : World}
theorem TI.put (h : TI Ba Bl p b c t L No D f va vl W) {l : Nat} {r : Loop} (o : Obj) (hl : W.heap[l]? = some (.loop r)) : TI Ba Bl p b c t L No D f va vl (W.putObj l o) := by
  have hc : ∀ (k : Nat) (cur : Array Value) (ty : TypeId), W.heap[k]? = some (Obj.cells cur ty (0, 0)) → (W.putObj l o).heap[k]? = W.heap[k]? := fun k cur ty hk => World.putObj_heap_other (fun e => by rw [e, hl] at hk; cases hk)
  have hb : (W.putObj l o).heap[b]? = W.heap[b]? := World.putObj_heap_other (fun e => by
    obtain ⟨es, clock, hb, _⟩ := h.pn.map
    rw [e, hl] at hb
    cases hb)
  have hr : ∀ {e n : Nat} {v : Value} {xs : List Value}, W.ownsRow 0 e 1 v n xs → (W.putObj l o).ownsRow 0 e 1 v n xs := fun hv => row_at hv (fun g hg => by obtain ⟨cur, q⟩ := row_cells hv hg; exact hc _ _ _ q)
  refine ⟨h.pn.at (by simp) (hc _ _ _ h.pn.box) hb (fun x hx g hg => by obtain ⟨cur, q⟩ := row_cells (h.pn.row x hx) hg; exact hc _ _ _ q), (hc _ _ _ h.ba).trans h.ba, (hc _ _ _ h.bl).trans h.bl, hr h.ra, hr h.rl, h.na, h.nl, h.nra, h.nrl⟩
end

section
variable {Ba Bl p b : Nat} {c : Cf} {t : Nat} {L D : Ens} {No : Nat → Prop} {f : Nat → Value} {va vl : Value} {W W' : World}
theorem TI.putD (h : TI Ba Bl p b c t L No D f va vl W) {l : Nat} {r : Option (List Deferred)} (o : Obj) (hl : W.heap[l]? = some (.deferred r)) : TI Ba Bl p b c t L No D f va vl (W.putObj l o) := by
  have hc : ∀ (k : Nat) (cur : Array Value) (ty : TypeId), W.heap[k]? = some (Obj.cells cur ty (0, 0)) → (W.putObj l o).heap[k]? = W.heap[k]? := fun k cur ty hk => World.putObj_heap_other (fun e => by rw [e, hl] at hk; cases hk)
  have hb : (W.putObj l o).heap[b]? = W.heap[b]? := World.putObj_heap_other (fun e => by
    obtain ⟨es, clock, hb, _⟩ := h.pn.map
    rw [e, hl] at hb
    cases hb)
  have hr : ∀ {e n : Nat} {v : Value} {xs : List Value}, W.ownsRow 0 e 1 v n xs → (W.putObj l o).ownsRow 0 e 1 v n xs := fun hv => row_at hv (fun g hg => by obtain ⟨cur, q⟩ := row_cells hv hg; exact hc _ _ _ q)
  refine ⟨h.pn.at (by simp) (hc _ _ _ h.pn.box) hb (fun x hx g hg => by obtain ⟨cur, q⟩ := row_cells (h.pn.row x hx) hg; exact hc _ _ _ q), (hc _ _ _ h.ba).trans h.ba, (hc _ _ _ h.bl).trans h.bl, hr h.ra, hr h.rl, h.na, h.nl, h.nra, h.nrl⟩
end
/-- what Tick answers, and leaves -/
structure TickEnd (No : Nat → Prop) (w : World) (p b : Nat) (c : Cf) (T : Nat) (L : Ens) (va vl : Value) (w' : World) : Prop where
  ra : w'.ownsRow 0 35 1 va (asksN c (dueN T L)).length ((asksN c (dueN T L)).map v32)
  rl : w'.ownsRow 0 31 1 vl (lostN c (dueN T L)).length (u64s (lostN c (dueN T L)))
  pn : PN (fun i => No i ∨ va.ownBlock = some i ∨ vl.ownBlock = some i) w' p b c T (tickN c T L)
  ks : Ks No w w'
  nra : ∀ g, va.ownBlock = some g → ¬ No g
  nrl : ∀ g, vl.ownBlock = some g → ¬ No g
def TickPost (No : Nat → Prop) (w : World) (p b : Nat) (c : Cf) (T : Nat) (L : Ens) (e : Ending) (w' : World) : Prop := ∃ va vl, e = .returned (.tuple #[va, vl]) ∧ TickEnd No w p b c T L va vl w'
theorem setCell_id {w : World} {B : Nat} {v : Value} {ty : TypeId} (h : w.heap[B]? = some (.cells #[v] ty (0, 0))) : w.setCell ⟨B, 0, none⟩ v = w := by
  have hh : (w.setCell ⟨B, 0, none⟩ v).heap = w.heap := Array.ext_getElem? (fun k => by
    by_cases e : k = B
    · subst e
      rw [heap_setCell_same w k 0 _ _ _ h, h]
      rfl
    · exact heap_setCell_other w _ k v e)
  have h2 : w.setCell ⟨B, 0, none⟩ v = { w with heap := (w.setCell ⟨B, 0, none⟩ v).heap } := rfl
  rw [h2, hh]
/-- what stands beside, from the beginning on -/
structure TE (No0 : Nat → Prop) (w0 : World) (Bn Bm p : Nat) (No : Nat → Prop) (W : World) : Prop where
  sub : ∀ i, No0 i → No i
  ks : Ks No0 w0 W
  nb : No Bn
  nm : No Bm
  box : W.heap[Bn]? = some (.cells #[.pointer (some ⟨p, 0, none⟩)] 25 (0, 0))
  bom : W.heap[Bm]? = some (.cells #[.pointer (some ⟨p, 0, none⟩)] 25 (0, 0))
/-- an entry has come, and lies in a box -/
def TB (No0 : Nat → Prop) (w0 : World) (Bn Ba Bl Bm p b now : Nat) (c : Cf) (T : Nat) (L : Ens) (No : Nat → Prop) (pre : List Du) (x : Du) (a₁ : Act) (W : World) : Prop :=
  ∃ B1, a₁ = { tmps := #[.pointer (some ⟨p, 0, none⟩), .int .i64 (now : Int), .pointer (some ⟨Bn, 0, none⟩), undef, .pointer (some ⟨Ba, 0, none⟩), .pointer (some ⟨Bl, 0, none⟩), .int .u32 (x.1.1 : Int), .pointer (some ⟨B1, 0, none⟩), .pointer (some ⟨p, 0, none⟩), .bool true, .bool false, .pointer (some ⟨p, 0, none⟩), .pointer (some ⟨p, 0, none⟩), .int .i64 (now : Int), .int .i64 (T : Int), .pointer (some ⟨p, 0, none⟩), .pointer (some ⟨p, 7, none⟩), .pointer (some ⟨p, 0, none⟩), .func (.func 27) #[] #[.pointer (some ⟨Bm, 0, none⟩)], .int .u32 (x.1.1 : Int), dvE x, undef, undef, undef, undef, undef, undef, undef, undef, undef, undef, undef, undef, undef, undef, undef, undef, undef, undef, undef, undef, undef, undef, undef, undef, undef, undef, undef, undef, undef, undef, undef, undef, undef, undef, undef, undef, undef, undef, undef, undef, undef, undef, undef, undef, undef, undef, undef, undef, undef, undef, undef, undef, undef, undef, undef, undef, undef, undef, undef], defers := [] } ∧ W.heap[B1]? = some (.cells #[.int .u8 (x.1.2.st : Int), .int .u64 (x.1.2.mac : Int), .int .i64 (x.1.2.tm : Int), .int .i64 (x.1.2.asked : Int), x.2] 58 (0, 0)) ∧
    TJ Ba Bl p b c T L (fun i => No i ∨ i = B1) pre x W ∧ TE No0 w0 Bn Bm p No W
section
variable {No0 No : Nat → Prop} {w0 W W' : World} {Bn Bm p : Nat}
theorem TE.keep (h : TE No0 w0 Bn Bm p No W) (k : Ks No W W') : TE No0 w0 Bn Bm p No W' :=
  ⟨h.sub, h.ks.trans (k.mono h.sub), h.nb, h.nm, (k.block _ (Array.getElem?_eq_some_iff.1 h.box).1 h.nb).trans h.box, (k.block _ (Array.getElem?_eq_some_iff.1 h.bom).1 h.nm).trans h.bom⟩
theorem TE.more (h : TE No0 w0 Bn Bm p No W) {No' : Nat → Prop} (hN : ∀ i, No i → No' i) : TE No0 w0 Bn Bm p No' W := ⟨fun i hi => hN i (h.sub i hi), h.ks, hN _ h.nb, hN _ h.nm, h.box, h.bom⟩
theorem TE.put (h : TE No0 w0 Bn Bm p No W) {l : Nat} {r : Loop} (o : Obj) (hl : W.heap[l]? = some (.loop r)) (hlt : w0.heap.size ≤ l) : TE No0 w0 Bn Bm p No (W.putObj l o) :=
  ⟨h.sub, ⟨h.ks.os, h.ks.tape, h.ks.output, by simpa using h.ks.size, fun k hk hn => (World.putObj_heap_other (by omega)).trans (h.ks.block k hk hn)⟩, h.nb, h.nm,
   (World.putObj_heap_other (fun e => by have := h.box; rw [e, hl] at this; cases this)).trans h.box, (World.putObj_heap_other (fun e => by have := h.bom; rw [e, hl] at this; cases this)).trans h.bom⟩
end

theorem row_new1 (w2 : World) (ip : Nat) : (w2.alloc (.cells #[.int .u32 (ip : Int)] 35)).ownsRow 0 35 1 (.slice (some ⟨w2.heap.size, 0, none⟩) 1 1) 1 [v32 ip] := by
  refine ⟨rfl, .inr ⟨w2.heap.size, 1, #[.int .u32 (ip : Int)], rfl, Nat.zero_le _, heap_alloc_new w2 _, ?_⟩⟩
  exact ⟨Nat.le_refl _, by decide, rfl, rfl⟩
section
variable {No : Nat → Prop} {w : World} {p b : Nat} {c : Cf} {last : Nat} {L : Ens}
/-- memory at the loop's beginning -/
theorem tick_start (h : PN No w p b c last L) {now : Nat} (hn : now ≤ 17592186044416) {W3 : World} (hB3 : Below w.heap.size w W3)
    (b0 : W3.heap[w.heap.size]? = some (.cells #[.pointer (some ⟨p, 0, none⟩)] 25 (0, 0))) (b1 : W3.heap[w.heap.size + 1]? = some (.cells #[.slice none 0 0] 40 (0, 0))) (b2 : W3.heap[w.heap.size + 1 + 1]? = some (.cells #[.slice none 0 0] 36 (0, 0))) :
    ∃ W4, W4 = (W3.setCell ⟨p, 7, none⟩ (.int .i64 ((max last now : Nat) : Int))).drew ∧ W4.heap.size = W3.heap.size ∧
      TX (w.heap.size + 1) (w.heap.size + 1 + 1) p b c (max last now) L (fun i => No i ∨ i = w.heap.size ∨ i = W4.heap.size) [] (W4.alloc (.cells #[.pointer (some ⟨p, 0, none⟩)] 25)) ∧
      TE No w w.heap.size W4.heap.size p (fun i => No i ∨ i = w.heap.size ∨ i = W4.heap.size) (W4.alloc (.cells #[.pointer (some ⟨p, 0, none⟩)] 25)) := by
  obtain ⟨f0, h0⟩ := h
  have hp := h0.plt
  have hNlt := h0.nlt
  have h3 := h0.no hB3 (No' := fun i => No i ∨ i = w.heap.size ∨ i = w.heap.size + 1 ∨ i = w.heap.size + 1 + 1) (fun i hi => by
    have l0 := (Array.getElem?_eq_some_iff.1 b0).1
    have l1 := (Array.getElem?_eq_some_iff.1 b1).1
    have l2 := (Array.getElem?_eq_some_iff.1 b2).1
    have := hB3.size
    rcases hi with hi | rfl | rfl | rfl
    · exact ⟨by have := hNlt i hi; omega, .inl hi⟩
    · exact ⟨l0, .inr (Nat.le_refl _)⟩
    · exact ⟨l1, .inr (by omega)⟩
    · exact ⟨l2, .inr (by omega)⟩)
  have hlst := h0.wl.lst
  have h4 := (h3.setLast (t := max last now) (h0.wl.time (Nat.le_max_left _ _) (by omega))).below (Below.refl _ _).drew
  have hz : ((W3.setCell ⟨p, 7, none⟩ (.int .i64 ((max last now : Nat) : Int))).drew).heap.size = W3.heap.size := by show (W3.setCell _ _).heap.size = _; simp
  have hblk : ∀ k, k ≠ p → ((W3.setCell ⟨p, 7, none⟩ (.int .i64 ((max last now : Nat) : Int))).drew).heap[k]? = W3.heap[k]? := fun k hk => heap_setCell_other W3 _ k _ hk
  have hKs : Ks No w ((W3.setCell ⟨p, 7, none⟩ (.int .i64 ((max last now : Nat) : Int))).drew) := (Ks.of_below hB3).trans ((Ks.setCell W3 _ _ h0.shp).trans (Ks.of_below (Below.refl _ _).drew))
  refine ⟨_, rfl, hz, ?_⟩
  generalize (W3.setCell ⟨p, 7, none⟩ (.int .i64 ((max last now : Nat) : Int))).drew = W4 at *
  have hB5 := below_one W4 (.cells #[.pointer (some ⟨p, 0, none⟩)] 25)
  have hz3 : w.heap.size + 3 ≤ W3.heap.size := by have := (Array.getElem?_eq_some_iff.1 b2).1; omega
  have q0 : (W4.alloc (.cells #[.pointer (some ⟨p, 0, none⟩)] 25)).heap[w.heap.size]? = some (.cells #[.pointer (some ⟨p, 0, none⟩)] 25 (0, 0)) := by rw [hB5.block _ (by omega), hblk _ (by omega)]; exact b0
  have q1 : (W4.alloc (.cells #[.pointer (some ⟨p, 0, none⟩)] 25)).heap[w.heap.size + 1]? = some (.cells #[.slice none 0 0] 40 (0, 0)) := by rw [hB5.block _ (by omega), hblk _ (by omega)]; exact b1
  have q2 : (W4.alloc (.cells #[.pointer (some ⟨p, 0, none⟩)] 25)).heap[w.heap.size + 1 + 1]? = some (.cells #[.slice none 0 0] 36 (0, 0)) := by rw [hB5.block _ (by omega), hblk _ (by omega)]; exact b2
  refine ⟨⟨f0, .slice none 0 0, .slice none 0 0, ⟨?_, q1, q2, World.ownsRow_nil _ _ _ _, World.ownsRow_nil _ _ _ _, fun k => ?_, fun k => ?_, fun g hg => by simp [Value.ownBlock] at hg, fun g hg => by simp [Value.ownBlock] at hg⟩⟩, ⟨fun i hi => .inl hi, hKs.trans (Ks.of_below hB5), .inr (.inl rfl), .inr (.inr rfl), q0, heap_alloc_new W4 _⟩⟩
  · refine (show PNf _ W4 p b c (max last now) L f0 from h4).no hB5 (fun i hi => ?_)
    have hs5 : (W4.alloc (.cells #[.pointer (some ⟨p, 0, none⟩)] 25)).heap.size = W4.heap.size + 1 := by simp
    rcases hi with (hi | hi | hi) | hi | hi | hi | hi
    · exact ⟨by have := hNlt i hi; omega, .inl (.inl hi)⟩
    · exact ⟨by omega, .inl (.inr (.inl hi))⟩
    · exact ⟨by omega, .inr (by omega)⟩
    · exact ⟨by omega, .inl (.inr (.inr (.inl hi)))⟩
    · exact ⟨by omega, .inl (.inr (.inr (.inr hi)))⟩
    · simp [Value.ownBlock] at hi
    · simp [Value.ownBlock] at hi
  · rcases k with k | k | k
    · have := hNlt _ k; omega
    · omega
    · omega
  · rcases k with k | k | k
    · have := hNlt _ k; omega
    · omega
    · omega

set_option maxRecDepth 100000 in
set_option maxHeartbeats 2000000 in
theorem tick_in (h : PN No w p b c last L) {now : Nat} (hn : now ≤ 17592186044416) :
    CallsIn Fence.wide 3 Try.prog 10 #[.pointer (some ⟨p, 0, none⟩), .int .i64 (now : Int)] w (TickPost No w p b c (max last now) L) := by
  obtain ⟨c6, c7, _, hp, _⟩ := h.facts
  have HM := hide (fun W hW => made_ok p b W hW)
  have HC := hide (fun W (hW : PN No W p b c last L) => counted_any p last now W hW.facts.2.1 hn)
  have HD := hide (due_any p)
  refine callsIn_of_wp_marks Try.func10 rfl trivial ?_ rfl
  simp only [Try.ntmps10, List.size_toArray, List.length_cons, List.length_nil, Nat.reduceAdd, Nat.reduceSub, Array.replicate_succ, Array.replicate_zero, List.push_toArray, List.append_toArray, List.nil_append, List.cons_append]
  have hB1 := below_one w (.cells #[.pointer (some ⟨p, 0, none⟩)] 25)
  have hB2 := tr2 hB1 (below_one _ (.cells #[.slice none 0 0] 40))
  have hB3 := tr2 hB2 (below_one _ (.cells #[.slice none 0 0] 36))
  have P3 := h.below hB3
  have b0 : (((w.alloc (.cells #[.pointer (some ⟨p, 0, none⟩)] 25)).alloc (.cells #[.slice none 0 0] 40)).alloc (.cells #[.slice none 0 0] 36)).heap[w.heap.size]? = some (.cells #[.pointer (some ⟨p, 0, none⟩)] 25 (0, 0)) :=
    (Below.heap_alloc _ _ _ (by simp; omega)).trans ((Below.heap_alloc _ _ _ (by simp)).trans (heap_alloc_new w _))
  have b1 : (((w.alloc (.cells #[.pointer (some ⟨p, 0, none⟩)] 25)).alloc (.cells #[.slice none 0 0] 40)).alloc (.cells #[.slice none 0 0] 36)).heap[w.heap.size + 1]? = some (.cells #[.slice none 0 0] 40 (0, 0)) := by
    have := heap_alloc_new (w.alloc (.cells #[.pointer (some ⟨p, 0, none⟩)] 25)) (.cells #[.slice none 0 0] 40)
    rw [World.size_alloc] at this
    exact (Below.heap_alloc _ _ _ (by simp)).trans this
  have b2 : (((w.alloc (.cells #[.pointer (some ⟨p, 0, none⟩)] 25)).alloc (.cells #[.slice none 0 0] 40)).alloc (.cells #[.slice none 0 0] 36)).heap[w.heap.size + 1 + 1]? = some (.cells #[.slice none 0 0] 36 (0, 0)) := by
    have := heap_alloc_new ((w.alloc (.cells #[.pointer (some ⟨p, 0, none⟩)] 25)).alloc (.cells #[.slice none 0 0] 40)) (.cells #[.slice none 0 0] 36)
    rw [World.size_alloc, World.size_alloc] at this
    exact this
  gi_wp2
  refine ⟨trivial, (callsIn_wide.2 (unhide HM _ P3.facts.1)).mono ?_⟩
  rintro e w1 ⟨rfl, rfl⟩
  clear HM hB1 hB2 c6 c7
  generalize ((w.alloc (.cells #[.pointer (some ⟨p, 0, none⟩)] 25)).alloc (.cells #[.slice none 0 0] 40)).alloc (.cells #[.slice none 0 0] 36) = W3 at *
  obtain ⟨d6, d7, df, dp, cs, dbx⟩ := P3.facts
  obtain ⟨e0, _⟩ := box_cell b0 (j := 0) (v := .pointer (some ⟨p, 0, none⟩)) rfl
  have HP3 := hide (P3.below (Below.refl _ W3).drew)
  clear P3
  gi_wp2_with fail
  refine then_at { tmps := #[.pointer (some ⟨p, 0, none⟩), .int .i64 (now : Int), .pointer (some ⟨w.heap.size, 0, none⟩), undef, .pointer (some ⟨w.heap.size + 1, 0, none⟩), .pointer (some ⟨w.heap.size + 1 + 1, 0, none⟩), undef, undef, .pointer (some ⟨p, 0, none⟩), .bool true, .bool false, .pointer (some ⟨p, 0, none⟩), .pointer (some ⟨p, 0, none⟩), .int .i64 (now : Int), .int .i64 ((max last now : Nat) : Int), .pointer (some ⟨p, 0, none⟩), .pointer (some ⟨p, 7, none⟩), undef, undef, undef, undef, undef, undef, undef, undef, undef, undef, undef, undef, undef, undef, undef, undef, undef, undef, undef, undef, undef, undef, undef, undef, undef, undef, undef, undef, undef, undef, undef, undef, undef, undef, undef, undef, undef, undef, undef, undef, undef, undef, undef, undef, undef, undef, undef, undef, undef, undef, undef, undef, undef, undef, undef, undef, undef, undef, undef, undef, undef, undef, undef], defers := [] } (W3.setCell ⟨p, 7, none⟩ (.int .i64 ((max last now : Nat) : Int))).drew ?_ ?_
  · gi_region_with (refine ⟨trivial, (callsIn_wide.2 (unhide HC _ (unhide HP3))).mono ?_⟩; rintro e w4 ⟨rfl, rfl⟩)
    all_goals exact ⟨rfl, rfl⟩
  gi_wp2
  refine ⟨trivial, (callsIn_wide.2 (unhide HD _)).mono ?_⟩
  rintro e w5 ⟨rfl, rfl⟩
  obtain ⟨W4, hW4, hz4, hT4, hE4⟩ := tick_start h hn hB3 b0 b1 b2
  rw [← hW4]
  clear hW4 HC HD HP3 d6 d7 df dp dbx e0 b0 b1 b2
  have hz3 := hB3.size
  have hS : SrtN L := by obtain ⟨f, h⟩ := h; exact h.wl.srt
  obtain ⟨Bn, hBn⟩ : ∃ Bn, Bn = w.heap.size := ⟨_, rfl⟩
  obtain ⟨Ba, hBa⟩ : ∃ Ba, Ba = w.heap.size + 1 := ⟨_, rfl⟩
  obtain ⟨Bl, hBl⟩ : ∃ Bl, Bl = w.heap.size + 1 + 1 := ⟨_, rfl⟩
  obtain ⟨T, hT⟩ : ∃ T, T = max last now := ⟨_, rfl⟩
  obtain ⟨Bm, hBm⟩ : ∃ Bm, Bm = W4.heap.size := ⟨_, rfl⟩
  rw [← hBl] at hT4 ⊢
  rw [← hBa] at hT4 ⊢
  rw [← hBn, ← hBm] at hE4 hT4
  rw [← hBn, ← hBm, ← hT]
  rw [← hT] at hT4
  have HX := hide (And.intro hBn (And.intro hBa (And.intro hBl (And.intro hT hBm))))
  clear hBn hBa hBl hT hBm
  gi_wp2
  generalize (W4.alloc (.cells #[.pointer (some ⟨p, 0, none⟩)] 25)) = W5 at *
  have hz5 := hE4.ks.size
  refine range_all (No := fun i => No i ∨ i = Bn ∨ i = Bm) rfl (by decide) (gf := 27) (lb := #[.pointer (some ⟨Bm, 0, none⟩)]) rfl trivial (fun _ _ => rfl) (encs := encD) (fun _ => rfl)
    (fun No' pre W => TX Ba Bl p b c T L No' pre W ∧ TE No w Bn Bm p No' W)
    (fun No' pre x W => TJ Ba Bl p b c T L No' pre x W ∧ TE No w Bn Bm p No' W)
    (TB No w Bn Ba Bl Bm p b now c T L)
    (fun xs => fst xs = dueN T L)
    ?h0 ?hIn ?hJn ?hseq ?assign ?body ?done
  case h0 =>
    intro r
    have hb2 := tr2 (below_one W5 (.deferred (some []))) (below_one _ (.loop r))
    obtain ⟨f, va, vl, hTI⟩ := hT4
    refine ⟨⟨f, va, vl, hTI.no hb2 (fun i hi => ?_)⟩, (hE4.keep (Ks.of_below hb2)).more (fun i hi => .inl hi)⟩
    have hs2 : ((W5.alloc (.deferred (some []))).alloc (.loop r)).heap.size = W5.heap.size + 2 := by simp
    rcases hi with hi | hi | hi
    · exact ⟨by have := hTI.pn.nlt i (.inl hi); omega, .inl hi⟩
    · exact ⟨by omega, .inr (by omega)⟩
    · exact ⟨by omega, .inr (by omega)⟩
  case hIn =>
    rintro No' pre W ⟨⟨f, va, vl, hTI⟩, hE⟩ r o' hl
    exact ⟨⟨f, va, vl, hTI.put o' hl⟩, hE.put o' hl (by omega)⟩
  case hJn =>
    rintro No' pre x a₁ W ⟨B1, rfl, hb, ⟨f, va, vl, hTI, h2, h3⟩, hE⟩ r o' hl
    exact ⟨B1, rfl, (World.putObj_heap_other (fun e => by rw [e, hl] at hb; cases hb)).trans hb, ⟨f, va, vl, hTI.put o' hl, h2, h3⟩, hE.put o' hl (by omega)⟩
  case hseq =>
    rintro R W1 hR hY ⟨h0, hE0⟩ hR1
    refine (due1_in 2 (by decide) (W5.heap.size + 1) Bm Ba Bl p b c T L hS (fun W => R W ∧ Ks No w W ∧ W.heap[Bn]? = some (.cells #[.pointer (some ⟨p, 0, none⟩)] 25 (0, 0)) ∧ W.heap[Bm]? = some (.cells #[.pointer (some ⟨p, 0, none⟩)] 25 (0, 0))) ?_ _ hE0.nm ?_ W1 ?_ h0 ⟨hR1, hE0.ks, hE0.box, hE0.bom⟩).mono ?_
    · rintro A B ⟨r1, r2, r3, r4⟩ k
      exact ⟨hR _ _ r1 k, r2.trans (Ks.of_below k), (k.block _ (Array.getElem?_eq_some_iff.1 r3).1).trans r3, (k.block _ (Array.getElem?_eq_some_iff.1 r4).1).trans r4⟩
    · rintro No' pre x W hsub hJ ⟨r1, r2, r3, r4⟩
      obtain ⟨fn, tmps, assign, body, hy, hRo⟩ := hY No' pre x W (hsub _ (.inr (.inl rfl))) (hsub _ (.inr (.inr rfl))) ⟨hJ, ⟨fun i hi => hsub i (.inl (.inl hi)), r2, hsub _ hE0.nb, hsub _ hE0.nm, r3, r4⟩⟩ r1
      refine ⟨fn, tmps, assign, body, hy, hRo.mono ?_⟩
      rintro e W' ⟨rfl, ⟨hT, hE⟩, hK, hr⟩
      exact ⟨rfl, hT, hK, hr, hE.ks, hE.box, hE.bom⟩
    · simp [World.cell?, hE0.bom]
    · rintro e W' ⟨hv, No', xs, hsub, hxs, hT, hr, r2, r3, r4⟩
      exact ⟨hv, No', xs, hxs, ⟨hT, ⟨fun i hi => hsub i (.inl (.inl hi)), r2, hsub _ hE0.nb, hsub _ hE0.nm, r3, r4⟩⟩, hr⟩
  case assign =>
    rintro l No' pre x W ⟨⟨f, va, vl, hTI, hlook, h3, hbd⟩, hE⟩
    obtain ⟨sq, sc, hsl⟩ := row_shape (hTI.pn.row _ (lookN_some hlook))
    obtain ⟨⟨ip, ⟨s, mc, tm, a, ws⟩⟩, v⟩ := x
    simp only at hsl h3 hlook
    rw [hsl] at h3
    subst h3
    simp only [encD, dvE]
    generalize ws.length = wn at *
    gi_wp2
    have hb1 := below_one W (.cells #[.int .u8 (s : Int), .int .u64 (mc : Int), .int .i64 (tm : Int), .int .i64 (a : Int), .slice sq wn sc] 58)
    refine ⟨hb1, W.heap.size, rfl, heap_alloc_new _ _, ⟨f, va, vl, hTI.no hb1 (fun i hi => ?_), hlook, hsl.symm, hbd⟩, hE.keep (Ks.of_below hb1)⟩
    rcases hi with hi | hi
    · exact ⟨by have := hTI.pn.nlt i (.inl hi); simp; omega, .inl hi⟩
    · exact ⟨by simp; omega, .inr (by omega)⟩
  case body =>
    rintro l No' pre x a₁ W ⟨B1, rfl, hb, ⟨f, va, vl, hTI, hlook, h3, hba, hbo⟩, hE⟩
    obtain ⟨sq, sc, hsl⟩ := row_shape (hTI.pn.row _ (lookN_some hlook))
    obtain ⟨⟨ip, ⟨s, mc, tm, a, ws⟩⟩, v⟩ := x
    simp only at hsl h3 hlook hb
    rw [hsl] at h3
    subst h3
    simp only [dvE]
    have hTG := hTI.tg
    obtain ⟨c6, c7, _, _, _⟩ := (show PN _ W p b c T _ from ⟨f, hTI.pn⟩).facts
    have c3 : W.cell? ⟨p, 3, none⟩ = some (.int .i64 (c.known : Int)) := hTI.pn.cell rfl
    have c4 : W.cell? ⟨p, 4, none⟩ = some (.int .i64 (c.asks : Int)) := hTI.pn.cell rfl
    have hlim : (T : Int) + (c.known : Int) ≤ 18691697672192 := by have h1 := hTI.pn.wl.lst; have h2 := hTI.pn.ok.k2; omega
    have hwr : IntKind.i64.wrap ((T : Int) + (c.known : Int)) = (T : Int) + (c.known : Int) := by rw [IntKind.wrap_i64]; omega
    have hip : ip < 12 := hTI.pn.wl.key _ (lookN_some hlook)
    obtain ⟨e0, _⟩ := box_cell hb (j := 0) (v := .int .u8 (s : Int)) rfl
    obtain ⟨e1, _⟩ := box_cell hb (j := 1) (v := .int .u64 (mc : Int)) rfl
    obtain ⟨e2, _⟩ := box_cell hb (j := 2) (v := .int .i64 (tm : Int)) rfl
    obtain ⟨e3, _⟩ := box_cell hb (j := 3) (v := .int .i64 (a : Int)) rfl
    obtain ⟨e4, _⟩ := box_cell hb (j := 4) (v := .slice sq ws.length sc) rfl
    obtain ⟨en, _⟩ := box_cell hE.box (j := 0) (v := .pointer (some ⟨p, 0, none⟩)) rfl
    by_cases hs2 : s = 2
    · subst hs2
      refine body_stale c3 c6 c7 e0 e1 en hwr ?_
      intro W1 hB1
      obtain ⟨w2, hrun, ⟨f', hT2⟩, hK2⟩ := (hTG.below hB1).stale hlook
      refine ⟨w2, hrun, fun _ => ⟨rfl, ?_⟩⟩
      have hk : Ks No' W w2 := (Ks.of_below hB1).trans (hK2.mono (fun i hi => .inl hi))
      refine ⟨hk, ⟨f', va, vl, ?_⟩, hE.keep hk⟩
      rw [fst_snoc]
      refine TG.ti ?_
      rw [steps_snoc, asks_snoc, lost_snoc]
      have g1 : asksE c (⟨2, mc, tm, a, ws⟩ : En) = false := by simp [asksE]
      have g2 : goesE c (⟨2, mc, tm, a, ws⟩ : En) = false := by simp [goesE]
      simp only [g1, g2, Bool.false_eq_true, if_false]
      have g3 : stepN c T (stepsN c T L (fst pre)) (ip, ⟨2, mc, tm, a, ws⟩) = insN (ip, ⟨3, mc, T + c.known, 0, []⟩) (stepsN c T L (fst pre)) := by simp [stepN, stepE]
      rw [g3]
      exact hT2.less (fun i hi => .inl hi)
    · have hs2' : ((s : Int) == 2) = false := beq_eq_false_iff_ne.2 (by omega)
      have hwl : ws.length ≤ 1024 := Nat.le_trans (tot_mem (lookN_some hlook)) (Nat.le_trans hTI.pn.wl.tot hTI.pn.ok.w)
      obtain ⟨sa, ca, hva⟩ := row_shape hTI.ra
      obtain ⟨sb, cb, hvl⟩ := row_shape hTI.rl
      have HG : (a = 0 ∨ a = c.asks) → ∀ W1, Below W.heap.size W W1 → ∃ w2, (Builtin.delete_ #[53, 35] 0 #[.map (some b), .int .u32 (ip : Int)]).run Try.prog W1 = .ok (.tuple #[]) w2 ∧ w2.cell? ⟨Bl, 0, none⟩ = some (.slice sb (lostN c (fst pre)).length cb) ∧ w2.cell? ⟨B1, 4, none⟩ = some (.slice sq ws.length sc) ∧
            ∃ sp cap w3, (Builtin.append_ #[36, 36] 36 #[.slice sb (lostN c (fst pre)).length cb, .slice sq ws.length sc]).run Try.prog w2 = .ok (.slice sp ((lostN c (fst pre)).length + ws.length) cap) w3 ∧ w3.cell? ⟨Bl, 0, none⟩ = some (.slice sb (lostN c (fst pre)).length cb) ∧ w3.frozen? ⟨Bl, 0, none⟩ = false ∧
            (Ks No' W (w3.setCell ⟨Bl, 0, none⟩ (.slice sp ((lostN c (fst pre)).length + ws.length) cap)) ∧ TX Ba Bl p b c T L No' (pre ++ [((ip, ⟨s, mc, tm, a, ws⟩), .slice sq ws.length sc)]) (w3.setCell ⟨Bl, 0, none⟩ (.slice sp ((lostN c (fst pre)).length + ws.length) cap)) ∧ TE No w Bn Bm p No' (w3.setCell ⟨Bl, 0, none⟩ (.slice sp ((lostN c (fst pre)).length + ws.length) cap))) := by
        intro hg W1 hB1
        rw [← hvl]
        obtain ⟨w2, hrun, hT2, hK2, hr2⟩ := (hTG.below hB1).go hlook
        rw [hsl] at hr2
        obtain ⟨sp, cap, w3, hrun3, q1, q2, hT3, hK3⟩ := hT2.lose hr2 (by show _ + ws.length ≤ _; omega)
        obtain ⟨eb2, _⟩ := box_cell hT2.bl (j := 0) (v := vl) rfl
        have e42 := hK2.cell (p := ⟨B1, 4, none⟩) (v := .slice sq ws.length sc) ((hB1.cell (p := ⟨B1, 4, none⟩) (World.block_lt_of_cell? W _ e4)).trans e4) (.inr rfl)
        refine ⟨w2, hrun, eb2, e42, sp, cap, w3, hrun3, q1, q2, ?_⟩
        have hk : Ks No' W (w3.setCell ⟨Bl, 0, none⟩ (.slice sp ((lostN c (fst pre)).length + ws.length) cap)) := (Ks.of_below hB1).trans ((hK2.trans hK3).mono (fun i hi => .inl hi))
        refine ⟨hk, ⟨f, va, .slice sp ((lostN c (fst pre)).length + ws.length) cap, ?_⟩, hE.keep hk⟩
        rw [fst_snoc]
        refine TG.ti ?_
        rw [steps_snoc, asks_snoc, lost_snoc]
        have g1 : asksE c (⟨s, mc, tm, a, ws⟩ : En) = false := by simp [asksE, hs2]; omega
        have g2 : goesE c (⟨s, mc, tm, a, ws⟩ : En) = true := by simp [goesE, hs2, hg]
        simp only [g1, g2, Bool.false_eq_true, if_false, if_true]
        have g3 : stepN c T (stepsN c T L (fst pre)) (ip, ⟨s, mc, tm, a, ws⟩) = delN ip (stepsN c T L (fst pre)) := by simp [stepN, stepE, hs2, hg]
        rw [g3]
        exact hT3.less (fun i hi => .inl hi)
      by_cases ha0 : a = 0
      · subst ha0
        refine body_gone0 (sb := sb) (on := (lostN c (fst pre)).length) (cb := cb) c4 c6 e0 e3 en hs2' ?_
        intro W1 hB1
        obtain ⟨w2, hrun, q1, q2, sp, cap, w3, hrun3, q3, q4, HZ⟩ := HG (.inl rfl) W1 hB1
        exact ⟨w2, hrun, q1, q2, sp, cap, w3, hrun3, q3, q4, fun _ => ⟨rfl, HZ⟩⟩
      · have ha0' : ((a : Int) == 0) = false := beq_eq_false_iff_ne.2 (by omega)
        by_cases ha1 : a = c.asks
        · refine body_gone1 (asks := a) (sb := sb) (on := (lostN c (fst pre)).length) (cb := cb) (by rw [ha1]; exact c4) c6 e0 e3 en hs2' ha0' ?_
          intro W1 hB1
          obtain ⟨w2, hrun, q1, q2, sp, cap, w3, hrun3, q3, q4, HZ⟩ := HG (.inr ha1) W1 hB1
          exact ⟨w2, hrun, q1, q2, sp, cap, w3, hrun3, q3, q4, fun _ => ⟨rfl, HZ⟩⟩
        · have ha1' : ((a : Int) == (c.asks : Int)) = false := beq_eq_false_iff_ne.2 (by omega)
          have hask : a ≤ 1048576 := by have h1 := (hTI.pn.wl.look hlook).asked; have h2 := hTI.pn.ok.a2; simp only at h1; omega
          have hng : ¬ (a = 0 ∨ a = c.asks) := by omega
          refine body_again (a2 := a + 1) (pz := T + c.pause) (sa := sa) (an := (asksN c (fst pre)).length) (ca := ca) c4 c6 e0 e1 e2 e3 e4 en hs2' ha0' ha1' ?_ ?_
          · intro W1 hB1
            exact again_any (PN.below ⟨f, hTI.pn⟩ hB1) s mc tm a sq ws.length sc hask
          · intro W1 hB1
            rw [← hva]
            obtain ⟨w2, hrun, ⟨f', hT2⟩, hK2⟩ := (hTG.below hB1).again hlook hng
            rw [hsl] at hrun
            obtain ⟨ea2, _⟩ := box_cell hT2.ba (j := 0) (v := va) rfl
            have hb2 := below_one w2 (.cells #[.int .u32 (ip : Int)] 35)
            have hu : (w2.alloc (.cells #[.int .u32 (ip : Int)] 35)).ownsRow 0 35 1 (.slice (some ⟨w2.heap.size, 0, none⟩) 1 1) 1 [v32 ip] := row_new1 w2 ip
            obtain ⟨sp, cap, w3, hrun3, q1, q2, hT3, hK3⟩ := (hT2.below hb2).ask hu (by omega)
            refine ⟨w2, hrun, ea2, sp, cap, w3, hrun3, q1, q2, fun _ => ⟨rfl, ?_⟩⟩
            have hk : Ks No' W (w3.setCell ⟨Ba, 0, none⟩ (.slice sp ((asksN c (fst pre)).length + 1) cap)) := (Ks.of_below hB1).trans ((hK2.trans ((Ks.of_below hb2).trans hK3)).mono (fun i hi => .inl hi))
            refine ⟨hk, ⟨f', .slice sp ((asksN c (fst pre)).length + 1) cap, vl, ?_⟩, hE.keep hk⟩
            rw [fst_snoc]
            refine TG.ti ?_
            rw [steps_snoc, asks_snoc, lost_snoc]
            have g1 : asksE c (⟨s, mc, tm, a, ws⟩ : En) = true := by simp [asksE, hs2, ha0, ha1]
            have g2 : goesE c (⟨s, mc, tm, a, ws⟩ : En) = false := by simp [goesE, hs2, ha0, ha1]
            simp only [g1, g2, Bool.false_eq_true, if_false, if_true]
            have g3 : stepN c T (stepsN c T L (fst pre)) (ip, ⟨s, mc, tm, a, ws⟩) = insN (ip, ⟨s, mc, T + c.pause, a + 1, ws⟩) (stepsN c T L (fst pre)) := by simp [stepN, stepE, hs2, ha0, ha1]
            rw [g3]
            exact hT3.less (fun i hi => .inl hi)
  case done =>
    rintro No' xs W hxs ⟨⟨f, va, vl, hTI⟩, hE⟩ hK
    obtain ⟨sa, ca, hva⟩ := row_shape hTI.ra
    obtain ⟨sb, cb, hvl⟩ := row_shape hTI.rl
    have hTD := hTI.below (Below.refl _ W).drew
    have hkd : Ks No w W.drew := hE.ks.trans (Ks.of_below (Below.refl _ W).drew)
    have HD := hide (And.intro hTD (And.intro hkd (And.intro hE.sub hxs)))
    obtain ⟨ea, fa⟩ := box_cell hTI.ba (j := 0) (v := va) rfl
    obtain ⟨eb, fb⟩ := box_cell hTI.bl (j := 0) (v := vl) rfl
    have hsA := setCell_id hTD.ba
    have hsB := setCell_id hTD.bl
    have hKd : W.drew.heap[W5.heap.size]? = some (.deferred (some [])) := hK
    have hlt5 : w.heap.size ≤ W5.heap.size := hz5
    clear hTI hTD hkd hE hK hxs
    rw [hva] at ea hsA
    rw [hvl] at eb hsB
    have HV := hide (And.intro hva hvl)
    clear hva hvl
    generalize (asksN c (fst xs)).length = an at *
    generalize (lostN c (fst xs)).length = bn at *
    gi_wp2_with fail
    refine then_at { tmps := #[.pointer (some ⟨p, 0, none⟩), .int .i64 (now : Int), .pointer (some ⟨Bn, 0, none⟩), undef, .pointer (some ⟨Ba, 0, none⟩), .pointer (some ⟨Bl, 0, none⟩), undef, undef, .pointer (some ⟨p, 0, none⟩), .bool true, .bool false, .pointer (some ⟨p, 0, none⟩), .pointer (some ⟨p, 0, none⟩), .int .i64 (now : Int), .int .i64 (T : Int), .pointer (some ⟨p, 0, none⟩), .pointer (some ⟨p, 7, none⟩), .pointer (some ⟨p, 0, none⟩), .func (.func 27) #[] #[.pointer (some ⟨Bm, 0, none⟩)], undef, undef, undef, undef, undef, undef, undef, undef, undef, undef, undef, undef, undef, undef, undef, undef, undef, undef, undef, undef, undef, undef, undef, undef, undef, undef, undef, undef, undef, undef, undef, undef, undef, undef, undef, undef, undef, undef, undef, undef, undef, undef, undef, undef, undef, undef, undef, undef, undef, undef, undef, undef, undef, undef, undef, undef, undef, undef, undef, .slice sa an ca, .slice sb bn cb], defers := [{ target := Target.collected W5.heap.size, args := #[] }] } W.drew ?_ ?_
    · gi_region
      all_goals exact ⟨rfl, rfl⟩
    have ea' : W.drew.cell? ⟨Ba, 0, none⟩ = some (.slice sa an ca) := ea
    have eb' : W.drew.cell? ⟨Bl, 0, none⟩ = some (.slice sb bn cb) := eb
    generalize W.drew = W6 at *
    clear hsA hsB fa fb ea eb
    gi_wp2
    refine ⟨by simp, .inl ⟨_, _, rfl, run_takeDeferred hKd, ?_⟩⟩
    have h0 := cell_kept ea' (grownBy_putObj' _ W5.heap.size (.deferred none)) (fun r e => by cases e; exact ⟨_, hKd, rfl⟩)
    have h1 := cell_kept eb' (grownBy_putObj' _ W5.heap.size (.deferred none)) (fun r e => by cases e; exact ⟨_, hKd, rfl⟩)
    refine ⟨.tuple #[.slice sa an ca, .slice sb bn cb], ?_, ?_⟩
    · simp [results, Try.results10, go_sem, h0, h1]
    · obtain ⟨hTD, hkd, hsub, hxs⟩ := unhide HD
      obtain ⟨hva, hvl⟩ := unhide HV
      have hTP := hTD.putD (.deferred none) hKd
      rw [← hva, ← hvl]
      rw [hxs] at hTP
      obtain ⟨_, _, _, hT, _⟩ := unhide HX
      rw [← hT]
      refine ⟨va, vl, rfl, hTP.ra, hTP.rl, ⟨f, ?_⟩, ⟨hkd.os, hkd.tape, hkd.output, by simpa using hkd.size, fun k hk hn => (World.putObj_heap_other (by omega)).trans (hkd.block k hk hn)⟩, fun g hg k => hTP.nra g hg (hsub g k), fun g hg k => hTP.nrl g hg (hsub g k)⟩
      have hpn := hTP.pn
      rw [steps_tick c T hS] at hpn
      exact hpn.less (fun i hi => by
        rcases hi with hi | hi | hi
        · exact .inl (hsub i hi)
        · exact .inr (.inr (.inr (.inl hi)))
        · exact .inr (.inr (.inr (.inr hi))))
theorem tick_any (h : PN No w p b c last L) {now : Nat} (hn : now ≤ 17592186044416) :
    Calls Try.prog 10 #[.pointer (some ⟨p, 0, none⟩), .int .i64 (now : Int)] w (TickPost No w p b c (max last now) L) := callsIn_wide.1 (tick_in h hn)
end
end Go.Proofs.Ytjcigoojlmalnaa
