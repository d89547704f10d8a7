/- The contract of package route's Find, over the loaded program; no memory that was there has turned. -/
import Derived.Test.YtmicgkoicmeflaaRp11
namespace Go.Proofs.Ytmicgkoicmeflaa
open Go.RowKit Go.Shelf

attribute [local go_sem] Oper.semAt_some

/-- no route of any of these prefixes -/
def NoneOf (ip : Nat) (L : List Rt) (pre : List Pf) : Prop := ∀ x ∈ pre, lookR (ip &&& mk x.1) (x.1 : Int) L = none
/-- the last of these prefixes is the first of which there is a route -/
def Hit (ip : Nat) (L : List Rt) (pre : List Pf) (y : Rt) : Prop := ∃ pre' x, pre = pre' ++ [x] ∧ NoneOf ip L pre' ∧ lookR (ip &&& mk x.1) (x.1 : Int) L = some y
theorem none_all {ip : Nat} {L : List Rt} (hL : OkL L) (hip : ip < 4294967296) (h : NoneOf ip L (upto pfk 33)) : findR ip L = none :=
  find_no hL hip (fun j hj => by
    have := h (pfk (32 - j)) (List.mem_map.2 ⟨32 - j, List.mem_range.2 (by omega), rfl⟩)
    have e : (pfk (32 - j)).1 = j := by show 32 - (32 - j) = j; omega
    rwa [e] at this)
theorem hit_find {ip : Nat} {L : List Rt} (hL : OkL L) (hip : ip < 4294967296) {pre : List Pf} {y : Rt} (hp : pre <+: upto pfk 33) (h : Hit ip L pre y) : findR ip L = some y := by
  obtain ⟨pre', x, rfl, hn, hl⟩ := h
  obtain ⟨t, ht⟩ := hp
  have hlen : pre'.length < 33 := by
    have := congrArg List.length ht
    simp [upto_length] at this
    omega
  have hx : x = pfk pre'.length := by
    have := congrArg (fun l => l[pre'.length]?) ht
    simp only [List.append_assoc, List.getElem?_append_right (Nat.le_refl _), Nat.sub_self, List.singleton_append, List.getElem?_cons_zero, upto] at this
    rw [List.getElem?_map, List.getElem?_range hlen] at this
    simpa using this
  have hj : ∀ i, i < pre'.length → pfk i ∈ pre' := fun i hi => by
    have := congrArg (fun l => l[i]?) ht
    simp only [List.append_assoc, List.getElem?_append_left hi, upto] at this
    rw [List.getElem?_map, List.getElem?_range (by omega)] at this
    exact List.mem_of_getElem? this
  have hxk : x.1 = 32 - pre'.length := by rw [hx]; rfl
  refine find_at hL hip hl (fun j h1 h2 => ?_)
  have := hn _ (hj (32 - j) (by omega))
  have e : (pfk (32 - j)).1 = j := by show 32 - (32 - j) = j; omega
  rwa [e] at this

/-- what memory holds while a route is looked up: w0 of the beginning, i the variable's making, j its writing -/
structure RW (w0 : World) (cs : Array Value) (l : Array Bool) (w : World) : Prop where
  bel : Below w0.heap.size w0 w
  z0 : l.getD 9 false = false → w.heap.size = w0.heap.size
  z1 : l.getD 9 false = true → l.getD 10 false = false → w.heap[w0.heap.size]? = some (.cells zCs 32 (0, 0))
  z2 : l.getD 10 false = true → w.heap[w0.heap.size]? = some (.cells cs 32 (0, 0))
  z3 : l.getD 10 false = true → l.getD 9 false = true
theorem RW.start (w0 : World) (cs : Array Value) (n : Nat) : RW w0 cs (Array.replicate n false) { w0 with drawn := w0.drawn + 1 } :=
  ⟨⟨rfl, rfl, rfl, Nat.le_refl _, fun _ _ => rfl⟩, fun _ => rfl, (fun a => by rw [getD_rep] at a; cases a), (fun a => by rw [getD_rep] at a; cases a), (fun a => by rw [getD_rep] at a; cases a)⟩
theorem RW.same {w0 w : World} {cs : Array Value} {l : Array Bool} (h : RW w0 cs l w) {i : Nat} (h1 : i ≠ 9) (h2 : i ≠ 10) : RW w0 cs (l.setIfInBounds i true) w :=
  ⟨h.bel, fun a => h.z0 (by rwa [getD_upd h1] at a), fun a b => h.z1 (by rwa [getD_upd h1] at a) (by rwa [getD_upd h2] at b), fun a => h.z2 (by rwa [getD_upd h2] at a), fun a => by rw [getD_upd h1]; exact h.z3 (by rwa [getD_upd h2] at a)⟩
theorem getD_ft {l : Array Bool} {i : Nat} (h : l.getD i true = false) : l.getD i false = false := by
  simp only [Array.getD_eq_getD_getElem?] at *
  cases e : l[i]? <;> simp_all
theorem getD_set_t {l : Array Bool} {i : Nat} (h : l.getD i true = false) : (l.setIfInBounds i true).getD i false = true := by
  simp only [Array.getD_eq_getD_getElem?] at *
  cases e : l[i]? with
  | none => rw [e] at h; cases h
  | some b =>
    have hi : i < l.size := (Array.getElem?_eq_some_iff.1 e).1
    simp [hi]
theorem RW.alloc {w0 w : World} {cs : Array Value} {l : Array Bool} (h : RW w0 cs l w) (hu : l.getD 9 true = false) : RW w0 cs (l.setIfInBounds 9 true) (w.alloc (.cells zCs 32)) := by
  have hz := h.z0 (getD_ft hu)
  have h10 : l.getD 10 false = false := by
    cases e : l.getD 10 false with
    | false => rfl
    | true => have := h.z3 e; rw [getD_ft hu] at this; cases this
  refine ⟨h.bel.alloc h.bel.size _, fun a => ?_, fun _ _ => ?_, fun a => ?_, fun a => ?_⟩
  · rw [getD_set_t hu] at a; cases a
  · rw [← hz]; exact heap_alloc_new w _
  · rw [getD_upd (by decide), h10] at a; cases a
  · rw [getD_upd (by decide), h10] at a; cases a
theorem RW.wrote {w0 w w' : World} {cs : Array Value} {l : Array Bool} (h : RW w0 cs l w) (hu : l.getD 10 true = false) (h9 : l.getD 9 false = true) (hb : Below w0.heap.size w w') (hc : w'.heap[w0.heap.size]? = some (.cells cs 32 (0, 0))) : RW w0 cs (l.setIfInBounds 10 true) w' := by
  refine ⟨h.bel.trans hb, fun a => ?_, fun _ a => ?_, fun _ => hc, fun _ => ?_⟩
  · rw [getD_upd (by decide), h9] at a; cases a
  · rw [getD_set_t hu] at a; cases a
  · rw [getD_upd (by decide)]; exact h9

theorem heap_lt {w : World} {b : Nat} {o : Obj} (h : w.heap[b]? = some o) : b < w.heap.size := (Array.getElem?_eq_some_iff.1 h).1
theorem five_store (w : World) (g : Nat) (x0 x1 x2 x3 x4 v0 v1 v2 v3 v4 : Value) (t : TypeId) (hc : w.heap[g]? = some (.cells #[x0, x1, x2, x3, x4] t (0, 0))) (B : Nat) (hB : B ≤ g) :
    ∃ w2, w2 = ((((w.setCell ⟨g, 0, none⟩ v0).setCell ⟨g, 1, none⟩ v1).setCell ⟨g, 2, none⟩ v2).setCell ⟨g, 3, none⟩ v3).setCell ⟨g, 4, none⟩ v4 ∧ Below B w w2 ∧ w2.heap[g]? = some (.cells #[v0, v1, v2, v3, v4] t (0, 0)) := by
  refine ⟨_, rfl, ?_, ?_⟩
  · exact (((((Below.refl _ _).setCell (p := ⟨g, 0, none⟩) hB _).setCell (p := ⟨g, 1, none⟩) hB _).setCell (p := ⟨g, 2, none⟩) hB _).setCell (p := ⟨g, 3, none⟩) hB _).setCell (p := ⟨g, 4, none⟩) hB _
  · rw [heap_setCell_same _ g 4 _ _ _ (heap_setCell_same _ g 3 _ _ _ (heap_setCell_same _ g 2 _ _ _ (heap_setCell_same _ g 1 _ _ _ (heap_setCell_same w g 0 _ _ _ hc))))]
    rfl
theorem rt_store {w : World} {g : Nat} (ρ : Operand → Value) (o : Oper) (x y : Operand) (n0 n1 n2 n3 n4 : Int) {x0 x1 x2 x3 x4 : Value} (ho : o.op = .store 32 x y) (ex : ρ x = .pointer (some ⟨g, 0, none⟩)) (ey : ρ y = .agg #[.int .u32 n0, .int .i64 n1, .int .u32 n2, .int .i64 n3, .int .u32 n4])
    (hc : w.heap[g]? = some (.cells #[x0, x1, x2, x3, x4] 32 (0, 0))) :
    ∃ w2, (execOp ρ o).run Try.prog w = .ok .skip w2 ∧ Below g w w2 ∧ w2.heap[g]? = some (.cells #[.int .u32 n0, .int .i64 n1, .int .u32 n2, .int .i64 n3, .int .u32 n4] 32 (0, 0)) := by
  obtain ⟨w2, e, h1, h2⟩ := five_store w g x0 x1 x2 x3 x4 (.int .u32 n0) (.int .i64 n1) (.int .u32 n2) (.int .i64 n3) (.int .u32 n4) _ hc g (Nat.le_refl _)
  refine ⟨w2, ?_, h1, h2⟩
  rw [e]
  have f : ∀ j, w.frozen? ⟨g, j, none⟩ = false := fun j => by simp [World.frozen?, hc]
  have c0 : w.cell? ⟨g, 0, none⟩ = some x0 := by simp [World.cell?, hc]
  have c1 : w.cell? ⟨g, 1, none⟩ = some x1 := by simp [World.cell?, hc]
  have c2 : w.cell? ⟨g, 2, none⟩ = some x2 := by simp [World.cell?, hc]
  have c3 : w.cell? ⟨g, 3, none⟩ = some x3 := by simp [World.cell?, hc]
  have c4 : w.cell? ⟨g, 4, none⟩ = some x4 := by simp [World.cell?, hc]
  simp [execOp, ho, go_sem, ex, ey, f, c0, c1, c2, c3, c4]
theorem rw_store {w0 w : World} {l : Array Bool} (ρ : Operand → Value) (o : Oper) (x y : Operand) (n0 n1 n2 n3 n4 : Int) (h : RW w0 #[.int .u32 n0, .int .i64 n1, .int .u32 n2, .int .i64 n3, .int .u32 n4] l w) (hu : l.getD 10 true = false) (h9 : l.getD 9 false = true) (ho : o.op = .store 32 x y) (ex : ρ x = .pointer (some ⟨w0.heap.size, 0, none⟩)) (ey : ρ y = .agg #[.int .u32 n0, .int .i64 n1, .int .u32 n2, .int .i64 n3, .int .u32 n4])
    (hc : w.heap[w0.heap.size]? = some (.cells zCs 32 (0, 0))) : ∃ w2, (execOp ρ o).run Try.prog w = .ok .skip w2 ∧ RW w0 #[.int .u32 n0, .int .i64 n1, .int .u32 n2, .int .i64 n3, .int .u32 n4] (l.setIfInBounds 10 true) w2 := by
  obtain ⟨w2, h1, h2, h3⟩ := rt_store ρ o x y n0 n1 n2 n3 n4 ho ex ey hc
  exact ⟨w2, h1, h.wrote hu h9 h2 h3⟩
theorem keeps_below {B : Nat} {W W' : World} (h : Below W.heap.size W W') : KeepsFrom B W W' := ⟨h.size, fun k _ _ hk _ => (h.block k (Array.getElem?_eq_some_iff.1 hk).1).trans hk⟩

section
variable {w : World} {p b : Nat} {L : List Rt}
set_option maxRecDepth 100000 in
set_option maxHeartbeats 2000000 in
theorem find_in (h : PT w p b L) (ip : Nat) (hip : ip < 4294967296) (V : Value) (tt : Bool) (HV : Hid (V = (findR ip L).elim rtZ rtV ∧ tt = (findR ip L).isSome)) :
    CallsIn Fence.wide 3 Try.prog 14 #[.pointer (some ⟨p, 0, none⟩), .int .u32 (ip : Int)] w fun e w' => e = .returned (.tuple #[V, .bool tt]) ∧ Below w.heap.size w w' := by
  have HP := hide h
  have k0 := (((Tab.zero w).alloc rfl [.pointer (some ⟨p, 0, none⟩)] 24).alloc (by simp) zCs.toList 32).alloc (by simp) [.bool false] 4
  have HM := hide (fun W hc => callsIn_wide (n := 3 - 1).2 (made_ok p b W hc))
  have HX := hide (fun w n => prefixes_in ip w n)
  refine callsIn_of_wp_marks Try.func14 rfl trivial ?_ rfl
  simp only [Try.ntmps14, List.size_toArray, List.length_cons, List.length_nil, Nat.reduceAdd, Nat.reduceSub, Array.replicate_succ, Array.replicate_zero, List.push_toArray, List.append_toArray, List.nil_append, List.cons_append]
  have P3 := h.below k0.bel
  have cp := P3.cell
  clear h
  gi_wp2
  refine ⟨trivial, (unhide HM _ cp).mono ?_⟩
  rintro e w' ⟨rfl, rfl⟩
  gi_wp2
  refine ⟨trivial, (unhide HX _ _).mono ?_⟩
  rintro e w' ⟨rfl, rfl⟩
  gi_wp2
  have k4 := k0.alloc (by simp) [.int .u32 (ip : Int)] 30
  have P4 := (unhide HP).below k4.bel
  simp only [Nat.add_assoc, Nat.reduceAdd]
  have hsz : ((((w.alloc (.cells #[.pointer (some ⟨p, 0, none⟩)] 24)).alloc (.cells zCs 32)).alloc (.cells #[.bool false] 4)).alloc (.cells #[.int .u32 (ip : Int)] 30)).heap.size = w.heap.size + 4 := by simp
  have E1 : ((((w.alloc (.cells #[.pointer (some ⟨p, 0, none⟩)] 24)).alloc (.cells zCs 32)).alloc (.cells #[.bool false] 4)).alloc (.cells #[.int .u32 (ip : Int)] 30)).heap[w.heap.size + 1]? = some (.cells zCs 32 (0, 0)) := by
    refine ((Below.heap_alloc _ _ _ (by simp)).trans (Below.heap_alloc _ _ _ (by simp))).trans ?_
    have := heap_alloc_new (w.alloc (.cells #[.pointer (some ⟨p, 0, none⟩)] 24)) (.cells zCs 32)
    rwa [World.size_alloc] at this
  have E2 : ((((w.alloc (.cells #[.pointer (some ⟨p, 0, none⟩)] 24)).alloc (.cells zCs 32)).alloc (.cells #[.bool false] 4)).alloc (.cells #[.int .u32 (ip : Int)] 30)).heap[w.heap.size + 2]? = some (.cells #[.bool false] 4 (0, 0)) := by
    refine (Below.heap_alloc _ _ _ (by simp)).trans ?_
    have := heap_alloc_new ((w.alloc (.cells #[.pointer (some ⟨p, 0, none⟩)] 24)).alloc (.cells zCs 32)) (.cells #[.bool false] 4)
    rwa [World.size_alloc, World.size_alloc] at this
  have E1 := hide E1
  have E2 := hide E2
  clear k0 cp P3
  generalize (((w.alloc (.cells #[.pointer (some ⟨p, 0, none⟩)] 24)).alloc (.cells zCs 32)).alloc (.cells #[.bool false] 4)).alloc (.cells #[.int .u32 (ip : Int)] 30) = w4 at *
  have HSZ := hide hsz
  have hle : w.heap.size + 3 < w4.heap.size := by omega
  have hge : w.heap.size ≤ w4.heap.size := by omega
  have HSEQ := prefixes_stops (3 - 1) (by decide) (w.heap.size + 3) w4.heap.size ip hip w4 hle hle (k4.cells 3 0 _ rfl)
  have hB0 := k4.bel
  clear hsz
  refine wpIn_rangeFunc_ownH rfl (by decide) (gf := 30) (lb := #[.pointer (some ⟨w.heap.size + 3, 0, none⟩)]) rfl trivial (enters_of Try.func30 (by kernel_rfl) rfl)
    HSEQ belowK_t (belowK_b (Nat.le_refl _)) (Below.refl _ _) (fun _ => rfl)
    (fun pre W => NoneOf ip L pre ∧ Below w4.heap.size w4 W)
    (fun c pre W => c = .ret ∧ ∃ y, Hit ip L pre y ∧ W.heap[w.heap.size + 1]? = some (.cells (rtCs y) 32 (0, 0)) ∧ W.heap[w.heap.size + 2]? = some (.cells #[.bool true] 4 (0, 0)) ∧ Below w.heap.size w W)
    ?hI ?hIx ⟨(fun x hx => by simp at hx), Below.refl _ _⟩
    (fun x a' W => ∃ Bx, w4.heap.size ≤ Bx ∧ W.heap[Bx]? = some (.cells #[.int .u32 ((ip &&& mk x.1 : Nat) : Int), .int .i64 (x.1 : Int)] 57 (0, 0)) ∧
      a' = { tmps := #[.pointer (some ⟨p, 0, none⟩), .int .u32 (ip : Int), .pointer (some ⟨w.heap.size, 0, none⟩), undef, .pointer (some ⟨w.heap.size + 1, 0, none⟩), .pointer (some ⟨w.heap.size + 2, 0, none⟩), .pointer (some ⟨Bx, 0, none⟩), undef, undef, .pointer (some ⟨p, 0, none⟩), .bool true, .bool false, undef, .int .u32 (ip : Int), .func (.func 30) #[] #[.pointer (some ⟨w.heap.size + 3, 0, none⟩)], kyV (ip &&& mk x.1) (x.1 : Int), undef, undef, undef, undef, undef, undef, undef, undef, undef, undef, undef, undef], defers := [] })
    ?hAx ?assign ?body ?done ?stop
  case hI => exact OwnFrom.and (fun _ _ _ _ hs _ _ => hs) (ownFrom_below (Nat.le_refl _) (Nat.le_refl _))
  case hIx =>
    intro c s A B row hs hg hr
    obtain ⟨rfl, y, h1, h2, h3, h4⟩ := hs
    have hlt : ∀ i, i < w4.heap.size → i < A.heap.size → B.heap[i]? = A.heap[i]? := fun i hi hA => hg.block i hA (fun e => by have := (hr i e.symm).1; omega)
    have ho := unhide HSZ
    refine ⟨rfl, y, h1, (hlt _ (by omega) (Array.getElem?_eq_some_iff.1 h2).1).trans h2, (hlt _ (by omega) (Array.getElem?_eq_some_iff.1 h3).1).trans h3, h4.grown hg h4.size (fun k e => by have := (hr k e).1; omega)⟩
  case hAx =>
    rintro x a' s A B row ⟨Bx, h1, h2, h3⟩ hg hr
    refine ⟨Bx, h1, (hg.block Bx (Array.getElem?_eq_some_iff.1 h2).1 (fun e => ?_)).trans h2, h3⟩
    obtain ⟨_, o, ho, hc⟩ := hr Bx e.symm
    rw [h2] at ho
    cases ho
    cases hc
  case assign =>
    rintro l pre x W K ⟨hN, hB⟩ hK
    gi_wp2
    exact hK _ _ ((KeepsOthers.alloc _ _).from _) ((Below.refl _ W).alloc hB.size _) ⟨hN, hB.alloc hB.size _⟩ ⟨W.heap.size, hB.size, heap_alloc_new W _, rfl⟩
  case body =>
    rintro l pre x a' W hl ⟨r, hr⟩ ⟨hN, hB⟩ ⟨Bx, hBx, hX, rfl⟩ hpl
    have ho := unhide HSZ
    have k5 := k4.on hB
    have PW := P4.below hB
    obtain ⟨B, hBB⟩ : ∃ B, B = w.heap.size := ⟨_, rfl⟩
    have cB : W.cell? ⟨B, 0, none⟩ = some (.pointer (some ⟨p, 0, none⟩)) := by rw [hBB]; exact k5.cells 0 0 _ rfl
    have cp := PW.cell
    have cx0 : W.cell? ⟨Bx, 0, none⟩ = some (.int .u32 ((ip &&& mk x.1 : Nat) : Int)) := cell_of_row _ _ 0 _ _ _ hX
    have cx1 : W.cell? ⟨Bx, 1, none⟩ = some (.int .i64 (x.1 : Int)) := cell_of_row _ _ 1 _ _ _ hX
    have hkk : Kin (ip &&& mk x.1) (x.1 : Int) := ⟨Nat.lt_of_le_of_lt Nat.and_le_left hip, by omega, by have := x.2; omega⟩
    have HH : Hid (∀ y, lookR (ip &&& mk x.1) (x.1 : Int) L = some y → Hit ip L (pre ++ [x]) y) := fun y h => ⟨pre, x, rfl, hN, h⟩
    have HN : Hid (lookR (ip &&& mk x.1) (x.1 : Int) L = none → NoneOf ip L (pre ++ [x])) := fun h z hz => by
      rcases List.mem_append.1 hz with g | g
      · exact hN z g
      · rw [List.mem_singleton.1 g]; exact h
    rw [← hBB]
    cases hy : lookR (ip &&& mk x.1) (x.1 : Int) L with
    | none =>
      have HN2 := hide (unhide HN hy)
      clear HN HH HSEQ hX
      generalize ip &&& mk x.1 = A at *
      generalize (x.1 : Int) = K at *
      have hl : ∀ w', Below W.heap.size W w' → (Instr.lookup 53 (.map (some b)) (kyV A K) true).run Try.prog w' = .ok (.tuple #[rtZ, .bool false]) w' := fun w' hb => (PW.below hb).look_none hkk hy
      gi_wp2
      have nq : uniqB [some 17, some 18, some 19, some 20, some 21, some 22, some 16, some 23, some 24, some 7, none, some 8] = true := by kernel_rfl
      have hs : ∀ d, some d ∈ [some 17, some 18, some 19, some 20, some 21, some 22, some 16, some 23, some 24, some 7, none, some 8] → d < 28 := by
        intro d hd
        simp at hd
        omega
      refine round_fo [some 17, some 18, some 19, some 20, some 21, some 22, some 16, some 23, some 24, some 7, none, some 8] [.pointer (some ⟨p, 0, none⟩), .pointer (some ⟨p, 0, none⟩), .pointer (some ⟨p, 0, none⟩), .map (some b), kyV A K, .tuple #[rtZ, .bool false], .tuple #[rtZ, .bool false], rtZ, .bool false, .pointer (some ⟨W.heap.size, 0, none⟩), undef, .bool false] (RW W zCs) (by kernel_rfl) (by kernel_rfl) (by kernel_rfl) nq rfl hs rfl (RW.start _ _ _)
        ⟨stepO_val (.pointer (some ⟨p, 0, none⟩)) nq hs rfl rfl rfl (fun l a w hd hu k hW => by
          have cc := below_cell cB hW.bel
          have e2 := k.evalOut 2 (by decide) (v := .pointer (some ⟨B, 0, none⟩)) rfl
          generalize a.eval = ρ at *
          exact ⟨w, by simp [execOp, go_sem, e2, cc], hW.same (i := 0) (by decide) (by decide)⟩),
        stepO_val (.pointer (some ⟨p, 0, none⟩)) nq hs rfl rfl rfl (fun l a w hd hu k hW => by
          have e17 := k.eval 0 rfl (hd ⟨0, .data⟩ (by simp) rfl) (v := .pointer (some ⟨p, 0, none⟩)) rfl
          generalize a.eval = ρ at *
          exact ⟨w, by simp [execOp, go_sem, e17], hW.same (i := 1) (by decide) (by decide)⟩),
        stepO_val (.pointer (some ⟨p, 0, none⟩)) nq hs rfl rfl rfl (fun l a w hd hu k hW => by
          have e18 := k.eval 1 rfl (hd ⟨1, .data⟩ (by simp) rfl) (v := .pointer (some ⟨p, 0, none⟩)) rfl
          generalize a.eval = ρ at *
          exact ⟨w, by simp [execOp, go_sem, e18], hW.same (i := 2) (by decide) (by decide)⟩),
        stepO_val (.map (some b)) nq hs rfl rfl rfl (fun l a w hd hu k hW => by
          have cc := below_cell cp hW.bel
          have e19 := k.eval 2 rfl (hd ⟨2, .data⟩ (by simp) rfl) (v := .pointer (some ⟨p, 0, none⟩)) rfl
          generalize a.eval = ρ at *
          exact ⟨w, by simp [execOp, go_sem, e19, cc], hW.same (i := 3) (by decide) (by decide)⟩),
        stepO_val (kyV A K) nq hs rfl rfl rfl (fun l a w hd hu k hW => by
          have cc := below_cell cx0 hW.bel
          have cd := below_cell cx1 hW.bel
          have e6 := k.evalOut 6 (by decide) (v := .pointer (some ⟨Bx, 0, none⟩)) rfl
          generalize a.eval = ρ at *
          exact ⟨w, by simp [execOp, go_sem, e6, cc, cd], hW.same (i := 4) (by decide) (by decide)⟩),
        stepO_val (.tuple #[rtZ, .bool false]) nq hs rfl rfl rfl (fun l a w hd hu k hW => by
          have hrn := hl w hW.bel
          have e20 := k.eval 3 rfl (hd ⟨3, .data⟩ (by simp) rfl) (v := .map (some b)) rfl; have e21 := k.eval 4 rfl (hd ⟨4, .data⟩ (by simp) rfl) (v := kyV A K) rfl
          generalize a.eval = ρ at *
          exact ⟨w, by simp [execOp, go_sem, e20, e21, hrn], hW.same (i := 5) (by decide) (by decide)⟩),
        stepO_val (.tuple #[rtZ, .bool false]) nq hs rfl rfl rfl (fun l a w hd hu k hW => by
          have e22 := k.eval 5 rfl (hd ⟨5, .data⟩ (by simp) rfl) (v := .tuple #[rtZ, .bool false]) rfl
          generalize a.eval = ρ at *
          exact ⟨w, by simp [execOp, go_sem, e22], hW.same (i := 6) (by decide) (by decide)⟩),
        stepO_val (rtZ) nq hs rfl rfl rfl (fun l a w hd hu k hW => by
          have e16 := k.eval 6 rfl (hd ⟨6, .data⟩ (by simp) rfl) (v := .tuple #[rtZ, .bool false]) rfl
          generalize a.eval = ρ at *
          exact ⟨w, by simp [execOp, go_sem, e16], hW.same (i := 7) (by decide) (by decide)⟩),
        stepO_val (.bool false) nq hs rfl rfl rfl (fun l a w hd hu k hW => by
          have e16 := k.eval 6 rfl (hd ⟨6, .data⟩ (by simp) rfl) (v := .tuple #[rtZ, .bool false]) rfl
          generalize a.eval = ρ at *
          exact ⟨w, by simp [execOp, go_sem, e16], hW.same (i := 8) (by decide) (by decide)⟩),
        stepO_val (.pointer (some ⟨W.heap.size, 0, none⟩)) nq hs rfl rfl rfl (fun l a w hd hu k hW => by
          have hz := hW.z0 (getD_ft hu)
          generalize a.eval = ρ at *
          exact ⟨_, by simp [execOp, go_sem, ← hz], hW.alloc hu⟩),
        stepO_none rfl rfl (fun l a w hd hu k hW => by
          have e7 := k.eval 9 rfl (hd ⟨9, .data⟩ (by simp) rfl) (v := .pointer (some ⟨W.heap.size, 0, none⟩)) rfl; have e23 := k.eval 7 rfl (hd ⟨7, .data⟩ (by simp) rfl) (v := rtZ) rfl
          have h9 : l.getD 9 false = true := hd ⟨9, .data⟩ (by simp) rfl
          have hz := hW.z1 h9 (getD_ft hu)
          have b0 := hW.bel.size
          exact rw_store a.eval _ _ _ 0 0 0 0 0 hW hu h9 rfl e7 e23 hz),
        stepO_val (.bool false) nq hs rfl rfl rfl (fun l a w hd hu k hW => by
          have e24 := k.eval 8 rfl (hd ⟨8, .data⟩ (by simp) rfl) (v := .bool false) rfl
          generalize a.eval = ρ at *
          exact ⟨w, by simp [execOp, go_sem, e24], hW.same (i := 11) (by decide) (by decide)⟩), trivial⟩ ?_
      intro l2 w5 hal hW5
      have hc5 := hW5.z2 (hal 10 (by decide))
      have hb5 := hW5.bel
      simp only [fillO, List.setIfInBounds_toArray, List.set_cons_succ, List.set_cons_zero]
      gi_wp2
      exact ⟨keeps_below hb5, hb5.mono hB.size, unhide HN2, hB.trans (hb5.mono hB.size)⟩
    | some y =>
      have HH2 := hide (unhide HH y hy)
      clear HN HH HSEQ hX
      generalize ip &&& mk x.1 = A at *
      generalize (x.1 : Int) = K at *
      have hl : ∀ w', Below W.heap.size W w' → (Instr.lookup 53 (.map (some b)) (kyV A K) true).run Try.prog w' = .ok (.tuple #[rtV y, .bool true]) w' := fun w' hb => (PW.below hb).look_some hkk hy
      gi_wp2
      have nq : uniqB [some 17, some 18, some 19, some 20, some 21, some 22, some 16, some 23, some 24, some 7, none, some 8] = true := by kernel_rfl
      have hs : ∀ d, some d ∈ [some 17, some 18, some 19, some 20, some 21, some 22, some 16, some 23, some 24, some 7, none, some 8] → d < 28 := by
        intro d hd
        simp at hd
        omega
      refine round_fo [some 17, some 18, some 19, some 20, some 21, some 22, some 16, some 23, some 24, some 7, none, some 8] [.pointer (some ⟨p, 0, none⟩), .pointer (some ⟨p, 0, none⟩), .pointer (some ⟨p, 0, none⟩), .map (some b), kyV A K, .tuple #[rtV y, .bool true], .tuple #[rtV y, .bool true], rtV y, .bool true, .pointer (some ⟨W.heap.size, 0, none⟩), undef, .bool true] (RW W (rtCs y)) (by kernel_rfl) (by kernel_rfl) (by kernel_rfl) nq rfl hs rfl (RW.start _ _ _)
        ⟨stepO_val (.pointer (some ⟨p, 0, none⟩)) nq hs rfl rfl rfl (fun l a w hd hu k hW => by
          have cc := below_cell cB hW.bel
          have e2 := k.evalOut 2 (by decide) (v := .pointer (some ⟨B, 0, none⟩)) rfl
          generalize a.eval = ρ at *
          exact ⟨w, by simp [execOp, go_sem, e2, cc], hW.same (i := 0) (by decide) (by decide)⟩),
        stepO_val (.pointer (some ⟨p, 0, none⟩)) nq hs rfl rfl rfl (fun l a w hd hu k hW => by
          have e17 := k.eval 0 rfl (hd ⟨0, .data⟩ (by simp) rfl) (v := .pointer (some ⟨p, 0, none⟩)) rfl
          generalize a.eval = ρ at *
          exact ⟨w, by simp [execOp, go_sem, e17], hW.same (i := 1) (by decide) (by decide)⟩),
        stepO_val (.pointer (some ⟨p, 0, none⟩)) nq hs rfl rfl rfl (fun l a w hd hu k hW => by
          have e18 := k.eval 1 rfl (hd ⟨1, .data⟩ (by simp) rfl) (v := .pointer (some ⟨p, 0, none⟩)) rfl
          generalize a.eval = ρ at *
          exact ⟨w, by simp [execOp, go_sem, e18], hW.same (i := 2) (by decide) (by decide)⟩),
        stepO_val (.map (some b)) nq hs rfl rfl rfl (fun l a w hd hu k hW => by
          have cc := below_cell cp hW.bel
          have e19 := k.eval 2 rfl (hd ⟨2, .data⟩ (by simp) rfl) (v := .pointer (some ⟨p, 0, none⟩)) rfl
          generalize a.eval = ρ at *
          exact ⟨w, by simp [execOp, go_sem, e19, cc], hW.same (i := 3) (by decide) (by decide)⟩),
        stepO_val (kyV A K) nq hs rfl rfl rfl (fun l a w hd hu k hW => by
          have cc := below_cell cx0 hW.bel
          have cd := below_cell cx1 hW.bel
          have e6 := k.evalOut 6 (by decide) (v := .pointer (some ⟨Bx, 0, none⟩)) rfl
          generalize a.eval = ρ at *
          exact ⟨w, by simp [execOp, go_sem, e6, cc, cd], hW.same (i := 4) (by decide) (by decide)⟩),
        stepO_val (.tuple #[rtV y, .bool true]) nq hs rfl rfl rfl (fun l a w hd hu k hW => by
          have hrn := hl w hW.bel
          have e20 := k.eval 3 rfl (hd ⟨3, .data⟩ (by simp) rfl) (v := .map (some b)) rfl; have e21 := k.eval 4 rfl (hd ⟨4, .data⟩ (by simp) rfl) (v := kyV A K) rfl
          generalize a.eval = ρ at *
          exact ⟨w, by simp [execOp, go_sem, e20, e21, hrn], hW.same (i := 5) (by decide) (by decide)⟩),
        stepO_val (.tuple #[rtV y, .bool true]) nq hs rfl rfl rfl (fun l a w hd hu k hW => by
          have e22 := k.eval 5 rfl (hd ⟨5, .data⟩ (by simp) rfl) (v := .tuple #[rtV y, .bool true]) rfl
          generalize a.eval = ρ at *
          exact ⟨w, by simp [execOp, go_sem, e22], hW.same (i := 6) (by decide) (by decide)⟩),
        stepO_val (rtV y) nq hs rfl rfl rfl (fun l a w hd hu k hW => by
          have e16 := k.eval 6 rfl (hd ⟨6, .data⟩ (by simp) rfl) (v := .tuple #[rtV y, .bool true]) rfl
          generalize a.eval = ρ at *
          exact ⟨w, by simp [execOp, go_sem, e16], hW.same (i := 7) (by decide) (by decide)⟩),
        stepO_val (.bool true) nq hs rfl rfl rfl (fun l a w hd hu k hW => by
          have e16 := k.eval 6 rfl (hd ⟨6, .data⟩ (by simp) rfl) (v := .tuple #[rtV y, .bool true]) rfl
          generalize a.eval = ρ at *
          exact ⟨w, by simp [execOp, go_sem, e16], hW.same (i := 8) (by decide) (by decide)⟩),
        stepO_val (.pointer (some ⟨W.heap.size, 0, none⟩)) nq hs rfl rfl rfl (fun l a w hd hu k hW => by
          have hz := hW.z0 (getD_ft hu)
          generalize a.eval = ρ at *
          exact ⟨_, by simp [execOp, go_sem, ← hz], hW.alloc hu⟩),
        stepO_none rfl rfl (fun l a w hd hu k hW => by
          have e7 := k.eval 9 rfl (hd ⟨9, .data⟩ (by simp) rfl) (v := .pointer (some ⟨W.heap.size, 0, none⟩)) rfl; have e23 := k.eval 7 rfl (hd ⟨7, .data⟩ (by simp) rfl) (v := rtV y) rfl
          have h9 : l.getD 9 false = true := hd ⟨9, .data⟩ (by simp) rfl
          have hz := hW.z1 h9 (getD_ft hu)
          have b0 := hW.bel.size
          exact rw_store a.eval _ _ _ (y.n : Int) y.b (y.v : Int) y.c (y.s : Int) hW hu h9 rfl e7 e23 hz),
        stepO_val (.bool true) nq hs rfl rfl rfl (fun l a w hd hu k hW => by
          have e24 := k.eval 8 rfl (hd ⟨8, .data⟩ (by simp) rfl) (v := .bool true) rfl
          generalize a.eval = ρ at *
          exact ⟨w, by simp [execOp, go_sem, e24], hW.same (i := 11) (by decide) (by decide)⟩), trivial⟩ ?_
      intro l2 w5 hal hW5
      have hc5 := hW5.z2 (hal 10 (by decide))
      have hb5 := hW5.bel
      simp only [fillO, List.setIfInBounds_toArray, List.set_cons_succ, List.set_cons_zero]
      have k6 := k5.on hb5
      obtain ⟨r0, r1, r2, r3, r4⟩ := k6.five 1 rfl rfl rfl rfl rfl
      obtain ⟨f0, f1, f2, f3, f4⟩ := k6.free5 1 rfl rfl rfl rfl rfl
      have r5 := k6.cells 2 0 _ rfl
      have f5 := k6.free 2 0 _ rfl
      have n0 := cell_of_row _ _ 0 _ _ _ hc5
      have n1 := cell_of_row _ _ 1 _ _ _ hc5
      have n2 := cell_of_row _ _ 2 _ _ _ hc5
      have n3 := cell_of_row _ _ 3 _ _ _ hc5
      have n4 := cell_of_row _ _ 4 _ _ _ hc5
      rw [← hBB] at r0 r1 r2 r3 r4 f0 f1 f2 f3 f4 r5 f5
      have HBB := hide hBB
      clear hBB k6
      have E1' : w5.heap[B + 1]? = some (.cells zCs 32 (0, 0)) := by
        rw [unhide HBB]
        exact (hb5.block _ (by have := hB.size; omega)).trans ((hB.block _ (by omega)).trans (unhide E1))
      have E2' : w5.heap[B + 2]? = some (.cells #[.bool false] 4 (0, 0)) := by
        rw [unhide HBB]
        exact (hb5.block _ (by have := hB.size; omega)).trans ((hB.block _ (by omega)).trans (unhide E2))
      obtain ⟨w6, e6, b6, h6⟩ := five_store w5 (B + 1) _ _ _ _ _ (.int .u32 (y.n : Int)) (.int .i64 y.b) (.int .u32 (y.v : Int)) (.int .i64 y.c) (.int .u32 (y.s : Int)) _ E1' B (by omega)
      have HE := hide (And.intro h6 (And.intro E2' (And.intro e6 (hB0.trans ((hB.mono hge).trans (hb5.mono (Nat.le_trans hge hB.size)))))))
      have hn12 : ¬ B + 2 = B + 1 := by omega
      clear h6 E1' E2' e6
      gi_wp2
      obtain ⟨h6, E2', e6, hb⟩ := unhide HE
      rw [← unhide HBB] at hb
      rw [← e6]
      have hne : w6.heap[B + 2]? = some (.cells #[.bool false] 4 (0, 0)) := by
        rw [e6]
        rw [heap_setCell_other _ _ _ _ hn12, heap_setCell_other _ _ _ _ hn12, heap_setCell_other _ _ _ _ hn12, heap_setCell_other _ _ _ _ hn12, heap_setCell_other _ _ _ _ hn12]
        exact E2'
      refine ⟨(keeps_below hb5).trans ?_, rfl, y, unhide HH2, ?_, ?_, ?_⟩
      · rw [e6]
        exact ((((((KeepsOthers.setCell _ _ _).trans (KeepsOthers.setCell _ _ _)).trans (KeepsOthers.setCell _ _ _)).trans (KeepsOthers.setCell _ _ _)).trans (KeepsOthers.setCell _ _ _)).trans (KeepsOthers.setCell _ _ _)).from _
      · exact (heap_setCell_other w6 ⟨B + 2, 0, none⟩ (B + 1) _ (show B + 1 ≠ B + 2 by omega)).trans h6
      · exact heap_setCell_same _ _ _ _ _ _ hne
      · exact (hb.trans b6).setCell (p := ⟨B + 2, 0, none⟩) (show B ≤ B + 2 by omega) _
  case done =>
    rintro D ys W hD rfl ⟨hN, hB⟩ hK
    have hF := none_all (unhide HP).ok hip hN
    obtain ⟨hv1, hv2⟩ := unhide HV
    rw [hF] at hv1 hv2
    obtain rfl : V = rtZ := hv1
    obtain rfl : tt = false := hv2
    have hz4 := unhide HSZ
    have k5 := k4.on hB
    obtain ⟨r0, r1, r2, r3, r4⟩ := k5.five 1 rfl rfl rfl rfl rfl
    obtain ⟨f0, f1, f2, f3, f4⟩ := k5.free5 1 rfl rfl rfl rfl rfl
    have r5 := k5.cells 2 0 _ rfl
    have f5 := k5.free 2 0 _ rfl
    have E1' : W.heap[w.heap.size + 1]? = some (.cells zCs 32 (0, 0)) := (hB.block _ (by omega)).trans (unhide E1)
    have E2' : W.heap[w.heap.size + 2]? = some (.cells #[.bool false] 4 (0, 0)) := (hB.block _ (by omega)).trans (unhide E2)
    obtain ⟨w6, e6, b6, h6⟩ := five_store W (w.heap.size + 1) _ _ _ _ _ (.int .u32 0) (.int .i64 0) (.int .u32 0) (.int .i64 0) (.int .u32 0) _ E1' w.heap.size (by omega)
    have hne : w6.heap[w.heap.size + 2]? = some (.cells #[.bool false] 4 (0, 0)) := by
      have hn12 : ¬ w.heap.size + 2 = w.heap.size + 1 := by omega
      rw [e6]
      rw [heap_setCell_other _ _ _ _ hn12, heap_setCell_other _ _ _ _ hn12, heap_setCell_other _ _ _ _ hn12, heap_setCell_other _ _ _ _ hn12, heap_setCell_other _ _ _ _ hn12]
      exact E2'
    have g1 := (heap_setCell_other w6 ⟨w.heap.size + 2, 0, none⟩ (w.heap.size + 1) (.bool false) (show w.heap.size + 1 ≠ w.heap.size + 2 by omega)).trans h6
    have g2 := heap_setCell_same w6 (w.heap.size + 2) 0 _ _ (.bool false) hne
    have hBW : Below w.heap.size w (w6.setCell ⟨w.heap.size + 2, 0, none⟩ (.bool false)) := ((hB0.trans (hB.mono hge)).trans b6).setCell (p := ⟨w.heap.size + 2, 0, none⟩) (show w.heap.size ≤ w.heap.size + 2 by omega) _
    have hK' : (w6.setCell ⟨w.heap.size + 2, 0, none⟩ (.bool false)).heap[D]? = some (.deferred (some [])) := by
      rw [e6]
      exact ((((((KeepsOthers.setCell _ _ _).trans (KeepsOthers.setCell _ _ _)).trans (KeepsOthers.setCell _ _ _)).trans (KeepsOthers.setCell _ _ _)).trans (KeepsOthers.setCell _ _ _)).trans (KeepsOthers.setCell _ _ _)).same D _ hK rfl
    have HE := hide (And.intro e6 (And.intro g1 (And.intro g2 (And.intro hBW hK'))))
    clear HSEQ hN k5 k4 P4 e6 g1 g2 hBW hK' hne h6 b6 E1' E2'
    gi_wp2
    obtain ⟨e6, g1, g2, hBW, hK'⟩ := unhide HE
    rw [← e6]
    refine ⟨by simp, .inl ⟨_, _, rfl, run_takeDeferred hK', ?_⟩⟩
    have KK : ∀ {a : Addr} {v : Value}, (w6.setCell ⟨w.heap.size + 2, 0, none⟩ (.bool false)).cell? a = some v → _ := fun h => cell_kept h (grownBy_putObj' _ D (.deferred none)) (fun r e => by cases e; exact ⟨_, hK', rfl⟩)
    have q0 := KK (cell_of_row _ _ 0 _ _ _ g1)
    have q1 := KK (cell_of_row _ _ 1 _ _ _ g1)
    have q2 := KK (cell_of_row _ _ 2 _ _ _ g1)
    have q3 := KK (cell_of_row _ _ 3 _ _ _ g1)
    have q4 := KK (cell_of_row _ _ 4 _ _ _ g1)
    have q5 := KK (cell_of_row _ _ 0 _ _ _ g2)
    refine ⟨.tuple #[rtZ, .bool false], ?_, rfl, hBW.trans (belowK_b (w := w) (Nat.le_refl _) _ D _ _ (by omega) hK' rfl rfl)⟩
    simp [results, Try.results14, go_sem, q0, q1, q2, q3, q4, q5]
  case stop =>
    rintro D c pre W hD hpre ⟨rfl, y, hH, h1, h2, hB⟩ hK
    have hF := hit_find (unhide HP).ok hip hpre hH
    obtain ⟨hv1, hv2⟩ := unhide HV
    rw [hF] at hv1 hv2
    obtain rfl : V = rtV y := hv1
    obtain rfl : tt = true := hv2
    have r0 := cell_of_row _ _ 0 _ _ _ h1
    have r1 := cell_of_row _ _ 1 _ _ _ h1
    have r2 := cell_of_row _ _ 2 _ _ _ h1
    have r3 := cell_of_row _ _ 3 _ _ _ h1
    have r4 := cell_of_row _ _ 4 _ _ _ h1
    have r5 := cell_of_row _ _ 0 _ _ _ h2
    clear HSEQ hH k4 P4
    gi_wp2
    refine ⟨by simp, .inl ⟨_, _, rfl, run_takeDeferred hK, ?_⟩⟩
    have KK : ∀ {a : Addr} {v : Value}, W.cell? a = some v → _ := fun h => cell_kept h (grownBy_putObj' _ D (.deferred none)) (fun r e => by cases e; exact ⟨_, hK, rfl⟩)
    have q0 := KK r0
    have q1 := KK r1
    have q2 := KK r2
    have q3 := KK r3
    have q4 := KK r4
    have q5 := KK r5
    refine ⟨.tuple #[rtV y, .bool true], ?_, rfl, hB.trans (belowK_b (w := w) (Nat.le_refl _) W D _ _ (by omega) hK rfl rfl)⟩
    simp [results, Try.results14, go_sem, q0, q1, q2, q3, q4, q5]

theorem find_any (h : PT w p b L) (ip : Nat) (hip : ip < 4294967296) :
    Calls Try.prog 14 #[.pointer (some ⟨p, 0, none⟩), .int .u32 (ip : Int)] w fun e w' => e = .returned (.tuple #[(findR ip L).elim rtZ rtV, .bool (findR ip L).isSome]) ∧ Below w.heap.size w w' :=
  callsIn_wide.1 (find_in h ip hip _ _ ⟨rfl, rfl⟩)
end
end Go.Proofs.Ytmicgkoicmeflaa
