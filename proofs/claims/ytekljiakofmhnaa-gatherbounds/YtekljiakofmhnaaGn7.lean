/- The contracts of gathering.size, isWhole, hasHead, isTooLong, over the loaded program; no memory that was there has turned. Conditions: numbers in their bounds. -/
import Derived.Test.YtekljiakofmhnaaGn3
namespace Go.Proofs.Ytekljiakofmhnaa
open Go.RowKit

def sumP : List Pt → Nat
  | [] => 0
  | p :: r => p.pd.size + sumP r
theorem sumP_app (l r : List Pt) : sumP (l ++ r) = sumP l + sumP r := by
  induction l with
  | nil => simp [sumP]
  | cons p l ih => simp only [List.cons_append, sumP, ih]; omega
theorem sumP_snoc (l : List Pt) (k : Nat) (p : Pt) (h : l[k]? = some p) : sumP (l.take (k + 1)) = sumP (l.take k) + p.pd.size := by
  obtain ⟨hlt, he⟩ := List.getElem?_eq_some_iff.1 h
  rw [take_snoc' l k hlt, sumP_app, he]
  simp [sumP]
theorem sumP_le {l : List Pt} (h : ∀ q ∈ l, q.In) : sumP l ≤ l.length * 65535 := by
  induction l with
  | nil => simp [sumP]
  | cons p l ih =>
    have h1 := ih (fun q hq => h q (by simp [hq]))
    have h2 := (h p (by simp)).sz
    simp only [sumP, List.length_cons]
    omega
theorem in_take {l : List Pt} (h : ∀ q ∈ l, q.In) (k : Nat) : ∀ q ∈ l.take k, q.In := fun q hq => h q (List.mem_of_mem_take hq)
def wholeF : Int → Bool → List Pt → Bool
  | _, m, [] => !m
  | n, _, p :: r => if p.pa = n then wholeF p.fin p.pm r else false
def head0 : List Pt → Bool
  | [] => false
  | p :: _ => decide (p.pa = 0)
def longG (x : Ga) : Bool := wholeF 0 true x.ps && decide (65535 < 20 + x.hd.op.size + sumP x.ps)

/-- a gathering's box -/
structure GC (w : World) (b : Nat) (x : Ga) (v : Value) : Prop where
  c0 : w.cell? ⟨b, 0, none⟩ = some (.int .u8 (x.hd.tos : Int))
  c1 : w.cell? ⟨b, 1, none⟩ = some (.int .u16 (x.hd.id : Int))
  c2 : w.cell? ⟨b, 2, none⟩ = some (.bool x.hd.hold)
  c3 : w.cell? ⟨b, 3, none⟩ = some (.bool x.hd.more)
  c4 : w.cell? ⟨b, 4, none⟩ = some (.int .i64 x.hd.at')
  c5 : w.cell? ⟨b, 5, none⟩ = some (.int .u8 (x.hd.ttl : Int))
  c6 : w.cell? ⟨b, 6, none⟩ = some (.int .u8 (x.hd.proto : Int))
  c7 : w.cell? ⟨b, 7, none⟩ = some (.int .u32 (x.hd.frm : Int))
  c8 : w.cell? ⟨b, 8, none⟩ = some (.int .u32 (x.hd.to : Int))
  c9 : w.cell? ⟨b, 9, none⟩ = some (.string x.hd.op)
  c10 : w.cell? ⟨b, 10, none⟩ = some (v)
  c11 : w.cell? ⟨b, 11, none⟩ = some (.int .i64 x.ov)
  c12 : w.cell? ⟨b, 12, none⟩ = some (.bool x.sp)
theorem GC.box (w : World) (x : Ga) (v : Value) (t : TypeId) : GC (w.alloc (.cells (gaC x v) t)) w.heap.size x v := by
  have e := heap_alloc_new w (.cells (gaC x v) t)
  exact ⟨cell_of_row _ _ 0 _ _ _ e, cell_of_row _ _ 1 _ _ _ e, cell_of_row _ _ 2 _ _ _ e, cell_of_row _ _ 3 _ _ _ e, cell_of_row _ _ 4 _ _ _ e, cell_of_row _ _ 5 _ _ _ e, cell_of_row _ _ 6 _ _ _ e, cell_of_row _ _ 7 _ _ _ e, cell_of_row _ _ 8 _ _ _ e, cell_of_row _ _ 9 _ _ _ e, cell_of_row _ _ 10 _ _ _ e, cell_of_row _ _ 11 _ _ _ e, cell_of_row _ _ 12 _ _ _ e⟩
theorem GC.lt {w : World} {b : Nat} {x : Ga} {v : Value} (k : GC w b x v) : b < w.heap.size := cell_lt' k.c0
theorem GC.on {w w' : World} {b : Nat} {x : Ga} {v : Value} (k : GC w b x v) (q : Below w.heap.size w w') : GC w' b x v :=
  have l := k.lt
  ⟨(q.cell (p := ⟨b, 0, none⟩) l).trans k.c0, (q.cell (p := ⟨b, 1, none⟩) l).trans k.c1, (q.cell (p := ⟨b, 2, none⟩) l).trans k.c2, (q.cell (p := ⟨b, 3, none⟩) l).trans k.c3, (q.cell (p := ⟨b, 4, none⟩) l).trans k.c4, (q.cell (p := ⟨b, 5, none⟩) l).trans k.c5, (q.cell (p := ⟨b, 6, none⟩) l).trans k.c6, (q.cell (p := ⟨b, 7, none⟩) l).trans k.c7, (q.cell (p := ⟨b, 8, none⟩) l).trans k.c8, (q.cell (p := ⟨b, 9, none⟩) l).trans k.c9, (q.cell (p := ⟨b, 10, none⟩) l).trans k.c10, (q.cell (p := ⟨b, 11, none⟩) l).trans k.c11, (q.cell (p := ⟨b, 12, none⟩) l).trans k.c12⟩

set_option maxRecDepth 20000 in
set_option maxHeartbeats 4000000 in
theorem size_any (x : Ga) (v : Value) (w : World) (hv : PV w v x.ps) (hl : x.ps.length ≤ 65536) (hL : ∀ q ∈ x.ps, q.In) :
    Calls Try.prog 27 #[gaV x v] w fun e w' => e = .returned (.int .i64 (sumP x.ps : Nat)) ∧ Below w.heap.size w w' := by
  have B0 := below_one w (.cells (gaC x v) 59)
  have hv' := hv
  obtain ⟨hd, l, ov, sp⟩ := x
  simp only at *
  have HB := hide (sumP_le hL)
  have HLs := hide hL
  rcases hv with ⟨rfl, rfl⟩ | ⟨g, c, rfl, h1, h2, h3, h4⟩
  · have B0 := hide B0
    clear hv' hL
    go_enter Try.func27, Try.ntmps27
    go_wp2
    go_loopw [3, 9] (fun s i wr => s = .int .i64 0 ∧ i = .int .i64 0 ∧ Below w.heap.size w wr) (fun _ _ _ => 0)
    case atStart => exact ⟨rfl, rfl, unhide B0⟩
    case round =>
      obtain ⟨rfl, rfl, hB⟩ := hrel
      go_wp2
      go_ret
      exact ⟨rfl, hB⟩
  · have B0 := hide B0
    clear hv' hL
    go_enter Try.func27, Try.ntmps27
    go_wp2
    go_loopw [3, 9] (fun s i wr => ∃ k : Nat, k ≤ l.length ∧ i = .int .i64 (k : Int) ∧ s = .int .i64 (sumP (l.take k) : Nat) ∧ Below w.heap.size w wr) (fun _ i _ => l.length - (intOf i).toNat)
    case atStart => exact ⟨0, Nat.zero_le _, rfl, rfl, unhide B0⟩
    case round =>
      obtain ⟨k, hk, rfl, rfl, hB⟩ := hrel
      by_cases hlt : k < l.length
      · obtain ⟨q, hq⟩ : ∃ q, l[k]? = some q := ⟨_, List.getElem?_eq_getElem hlt⟩
        obtain ⟨k0, k1, k2⟩ := h4 _ q hq
        have c0 := (hB.cell (p := ⟨g, k * 3, none⟩) h3).trans k0
        have c1 := (hB.cell (p := ⟨g, k * 3 + 1, none⟩) h3).trans k1
        have c2 := (hB.cell (p := ⟨g, k * 3 + 2, none⟩) h3).trans k2
        have hs := sumP_snoc l k q hq
        have hb1 := sumP_le (in_take (unhide HLs) k)
        rw [List.length_take, Nat.min_eq_left hk] at hb1
        have hb2 := (unhide HLs q (List.mem_of_getElem? hq)).sz
        generalize sumP (l.take k) = s at *
        have x1 : IntKind.i64.wrap ((s : Int) + (q.pd.size : Nat)) = ((s + q.pd.size : Nat) : Int) := by rw [IntKind.wrap_i64]; omega
        have HS := hide hs
        have H4 := hide h4
        clear k0 k1 k2 hq hs h4 hb1 hb2
        go_wp2_with fail
        go_roundw
        case rel => exact ⟨k + 1, by omega, by go_num, by rw [unhide HS]; simp, tr2 hB (below_one _ _)⟩
        case measure => simp [intOf]; omega
      · obtain rfl : k = l.length := by omega
        rw [List.take_length]
        go_wp2
        go_ret
        exact ⟨rfl, hB⟩

theorem wholeF_at {l : List Pt} {k : Nat} {n : Int} {m : Bool} {q : Pt} (hq : l[k]? = some q) : wholeF n m (l.drop k) = if q.pa = n then wholeF q.fin q.pm (l.drop (k + 1)) else false := by
  obtain ⟨hlt, he⟩ := List.getElem?_eq_some_iff.1 hq
  rw [List.drop_eq_getElem_cons hlt, he]
  rfl

set_option maxRecDepth 20000 in
set_option maxHeartbeats 4000000 in
theorem whole_any (x : Ga) (v : Value) (w : World) (hv : PV w v x.ps) (hl : x.ps.length ≤ 65536) (hL : ∀ q ∈ x.ps, q.In) :
    Calls Try.prog 24 #[gaV x v] w fun e w' => e = .returned (.bool (wholeF 0 true x.ps)) ∧ Below w.heap.size w w' := by
  have B0 := below_one w (.cells (gaC x v) 59)
  obtain ⟨hd, l, ov, sp⟩ := x
  simp only at *
  have HLs := hide hL
  rcases hv with ⟨rfl, rfl⟩ | ⟨g, c, rfl, h1, h2, h3, h4⟩
  · have B0 := hide B0
    clear hL
    go_enter Try.func24, Try.ntmps24
    go_wp2
    go_loopw [4, 10] (fun m i wr => m = .bool true ∧ i = .int .i64 0 ∧ Below w.heap.size w wr) (fun _ _ _ => 0)
    case atStart => exact ⟨rfl, rfl, unhide B0⟩
    case round =>
      obtain ⟨rfl, rfl, hB⟩ := hrel
      go_wp2
      go_ret
      exact ⟨rfl, hB⟩
  · have B0 := hide B0
    obtain ⟨r, hr⟩ : ∃ r, wholeF 0 true l = r := ⟨_, rfl⟩
    rw [hr]
    clear hL
    go_enter Try.func24, Try.ntmps24
    go_wp2
    go_loopw [3, 4, 10] (fun s m i wr => ∃ (k : Nat) (n : Int) (z : Bool), k ≤ l.length ∧ i = .int .i64 (k : Int) ∧ s = .int .i64 n ∧ m = .bool z ∧ wholeF n z (l.drop k) = r ∧ Below w.heap.size w wr) (fun _ _ i _ => l.length - (intOf i).toNat)
    case atStart => exact ⟨0, 0, true, Nat.zero_le _, rfl, rfl, rfl, hr, unhide B0⟩
    case round =>
      obtain ⟨k, n, z, hk, rfl, rfl, rfl, hw, hB⟩ := hrel
      clear hr
      by_cases hlt : k < l.length
      · obtain ⟨q, hq⟩ : ∃ q, l[k]? = some q := ⟨_, List.getElem?_eq_getElem hlt⟩
        rw [wholeF_at hq] at hw
        obtain ⟨k0, k1, k2⟩ := h4 _ q hq
        have c0 := (hB.cell (p := ⟨g, k * 3, none⟩) h3).trans k0
        have c1 := (hB.cell (p := ⟨g, k * 3 + 1, none⟩) h3).trans k1
        have c2 := (hB.cell (p := ⟨g, k * 3 + 2, none⟩) h3).trans k2
        have HE := hide (fun w => end_any q (unhide HLs q (List.mem_of_getElem? hq)) w)
        have HN := PC.box wr q 70
        have HB1 := hide (tr2 hB (below_one wr (.cells #[.int .i64 q.pa, .string q.pd, .bool q.pm] 70)))
        have H4 := hide h4
        clear k0 k1 k2 hq h4
        generalize hfin : q.fin = f at *
        by_cases hne : q.pa = n
        · rw [if_pos hne] at hw
          have HW := hide hw
          have hne' : ((q.pa : Int) != n) = false := by simpa using hne
          clear hw hne
          go_wp2_with fail
          generalize wr.alloc _ = w2 at *
          obtain ⟨e0, e1, e2⟩ := HN
          have d0 := cell_regrown e0
          have d1 := cell_regrown e1
          have d2 := cell_regrown e2
          have q1 := rgB (w := w2) (unhide HE)
          clear e0 e1 e2
          refine wp_region_quiet_below (by kernel_rfl) (by kernel_rfl) ?_
          repeat (go_big_quiet_step (fail))
          go_big_quiet_step (exact q1 _ _)
          repeat (go_big_quiet_step (fail))
          refine wpQuiet_nil ?_
          intro _ hw'
          obtain ⟨⟨dq, osq⟩, hw''⟩ := hw'
          subst hw''
          go_wp2
          go_roundw
          case rel => exact ⟨k + 1, f, q.pm, by omega, by go_num, rfl, rfl, unhide HW, tr2 (unhide HB1) (below_regrown w2 dq osq)⟩
          case measure => simp [intOf]; omega
        · rw [if_neg hne] at hw
          subst hw
          have hne' : ((q.pa : Int) != n) = true := by simpa using hne
          go_wp2_with fail
          go_ret
          exact ⟨rfl, unhide HB1⟩
      · obtain rfl : k = l.length := by omega
        rw [List.drop_length] at hw
        subst hw
        go_wp2
        go_ret
        exact ⟨rfl, hB⟩

set_option maxHeartbeats 1000000 in
theorem hashead_any (x : Ga) (v : Value) (w : World) (hv : PV w v x.ps) (hl : x.ps.length ≤ 65536) :
    Calls Try.prog 19 #[gaV x v] w fun e w' => e = .returned (.bool (head0 x.ps)) ∧ Below w.heap.size w w' := by
  have B0 := below_one w (.cells (gaC x v) 59)
  obtain ⟨hd, l, ov, sp⟩ := x
  simp only at *
  rcases hv with ⟨rfl, rfl⟩ | ⟨g, c, rfl, h1, h2, h3, h4⟩
  · have B0 := hide B0
    go_enter Try.func19, Try.ntmps19
    go_wp2
    go_ret
    exact ⟨rfl, unhide B0⟩
  · cases l with
    | nil =>
      have B0 := hide B0
      go_enter Try.func19, Try.ntmps19
      go_wp2
      go_ret
      exact ⟨rfl, unhide B0⟩
    | cons q l =>
      obtain ⟨k0, k1, k2⟩ := h4 0 q rfl
      rw [Nat.zero_mul] at k0
      have c0 := (B0.cell (p := ⟨g, 0, none⟩) h3).trans k0
      simp only [List.length_cons] at B0 c0 hl h1
      rw [List.length_cons]
      have B0 := hide B0
      clear k0 k1 k2 h4
      generalize l.length = n at *
      show Calls _ _ _ _ (fun e w' => e = .returned (.bool (decide (q.pa = 0))) ∧ _)
      go_enter Try.func19, Try.ntmps19
      go_wp2
      go_ret
      exact ⟨rfl, unhide B0⟩

set_option maxRecDepth 20000 in
set_option maxHeartbeats 4000000 in
theorem toolong_any (x : Ga) (v : Value) (w : World) (hv : PV w v x.ps) (hl : x.ps.length ≤ 65536) (hL : ∀ q ∈ x.ps, q.In) (ho : x.hd.op.size ≤ 1073741824) :
    Calls Try.prog 45 #[gaV x v] w fun e w' => e = .returned (.bool (longG x)) ∧ Below w.heap.size w w' := by
  have B0 := below_one w (.cells (gaC x v) 59)
  have hv1 := hv.on B0
  have H1 := fun d os => Calls.regrown_of (whole_any x v (Sort.grow (redrawn (w.alloc (.cells (gaC x v) 59)) d) os) (hv1.on (below_regrown _ d os)) hl hL)
  have H2 := fun d os => Calls.regrown_of (size_any x v (Sort.grow (redrawn (w.alloc (.cells (gaC x v) 59)) d) os) (hv1.on (below_regrown _ d os)) hl hL)
  have hs := sumP_le hL
  obtain ⟨n, hn⟩ : ∃ n, sumP x.ps = n := ⟨_, rfl⟩
  unfold longG
  rw [hn] at H2 hs ⊢
  have x1 : IntKind.i64.wrap (20 + (x.hd.op.size : Nat)) = 20 + (x.hd.op.size : Nat) := by rw [IntKind.wrap_i64]; omega
  have x2 : IntKind.i64.wrap (20 + (x.hd.op.size : Nat) + (n : Int)) = 20 + (x.hd.op.size : Nat) + (n : Int) := by rw [IntKind.wrap_i64]; omega
  have hd1 : decide (65535 < 20 + x.hd.op.size + n) = decide ((65535 : Int) < 20 + (x.hd.op.size : Nat) + (n : Int)) := by rw [decide_eq_decide]; omega
  rw [hd1]
  generalize wholeF 0 true x.ps = r at *
  obtain ⟨sp, sc, rfl⟩ := pv_shape hv
  have B0 := hide B0
  obtain ⟨C0, C1, C2, C3, C4, C5, C6, C7, C8, C9, C10, C11, C12⟩ := GC.box w x (.slice sp x.ps.length sc) 59
  clear hv hv1 hL hn hd1
  generalize hk : x.ps.length = k at *
  simp only [gaC] at C0 C1 C2 C3 C4 C5 C6 C7 C8 C9 C10 C11 C12 B0 H1 H2
  go_enter Try.func45, Try.ntmps45
  go_wp2_with fail
  generalize w.alloc _ = w1 at *
  have d0 := cell_regrown C0
  have d1 := cell_regrown C1
  have d2 := cell_regrown C2
  have d3 := cell_regrown C3
  have d4 := cell_regrown C4
  have d5 := cell_regrown C5
  have d6 := cell_regrown C6
  have d7 := cell_regrown C7
  have d8 := cell_regrown C8
  have d9 := cell_regrown C9
  have d10 := cell_regrown C10
  have d11 := cell_regrown C11
  have d12 := cell_regrown C12
  clear C0 C1 C2 C3 C4 C5 C6 C7 C8 C9 C10 C11 C12
  refine wp_region_quiet_below (by kernel_rfl) (by kernel_rfl) ?_
  cases r
  · repeat (go_big_quiet_step (fail))
    go_big_quiet_step (exact H1 _ _)
    repeat (go_big_quiet_step (fail))
    refine wpQuiet_nil ?_
    intro _ hw'
    obtain ⟨⟨dq, osq⟩, hw''⟩ := hw'
    subst hw''
    go_wp2
    go_ret
    exact ⟨rfl, tr2 (unhide B0) (below_regrown w1 dq osq)⟩
  · repeat (go_big_quiet_step (fail))
    go_big_quiet_step (exact H1 _ _)
    repeat (go_big_quiet_step (fail))
    go_big_quiet_step (exact H2 _ _)
    repeat (go_big_quiet_step (fail))
    refine wpQuiet_nil ?_
    intro _ hw'
    obtain ⟨⟨dq, osq⟩, hw''⟩ := hw'
    subst hw''
    go_wp2
    go_ret
    exact ⟨rfl, tr2 (unhide B0) (below_regrown w1 dq osq)⟩

end Go.Proofs.Ytekljiakofmhnaa
