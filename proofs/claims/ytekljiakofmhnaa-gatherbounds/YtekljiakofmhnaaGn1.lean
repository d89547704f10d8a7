/- The contracts of package gather's part.end, part.endsAhead, clashes' closure, gathering.hasHead, packetOf, cmp.Compare and the order of parts, over the loaded program; no memory that was there has turned. Conditions: numbers in their bounds. -/
import Derived.Test.YtekljiakofmhnaaEq10
import Derived.Test.YtekljiakofmhnaaRg13
namespace Go.Proofs.Ytekljiakofmhnaa
open Go.RowKit

/-- which packet -/
structure Pk where
  frm : Nat
  dst : Nat
  pr : Nat
  idn : Nat
deriving DecidableEq
abbrev pkL (k : Pk) : List Value := [.int .u32 (k.frm : Int), .int .u32 (k.dst : Int), .int .u8 (k.pr : Int), .int .u16 (k.idn : Int)]
abbrev pkV (k : Pk) : Value := .agg #[.int .u32 (k.frm : Int), .int .u32 (k.dst : Int), .int .u8 (k.pr : Int), .int .u16 (k.idn : Int)]
structure Pk.In (k : Pk) : Prop where
  frm : k.frm < 4294967296
  dst : k.dst < 4294967296
  pr : k.pr < 256
  idn : k.idn < 65536
abbrev pkOf (h : Rh) : Pk := ⟨h.frm, h.to, h.proto, h.id⟩
/-- a part as it is kept -/
structure Pt where
  pa : Int
  pd : ByteArray
  pm : Bool
abbrev ptL (p : Pt) : List Value := [.int .i64 p.pa, .string p.pd, .bool p.pm]
abbrev ptV (p : Pt) : Value := .agg #[.int .i64 p.pa, .string p.pd, .bool p.pm]
def Pt.fin (p : Pt) : Int := p.pa + (p.pd.size : Nat)
structure Pt.In (p : Pt) : Prop where
  a0 : 0 ≤ p.pa
  a1 : p.pa ≤ 65535
  sz : p.pd.size ≤ 65535
def flatP (l : List Pt) : List Value := (l.map ptL).flatten
instance : Inhabited Pt := ⟨⟨0, ⟨#[]⟩, false⟩⟩
/-- the one ends, and the other one ends behind it -/
def aheadB (p q : Pt) : Bool := !p.pm && decide (p.fin < q.fin)
def overB (p q : Pt) : Bool := decide (max p.pa q.pa < min p.fin q.fin)
def clashB (p q : Pt) : Bool := decide (p.pa = q.pa) || overB p q || aheadB p q || aheadB q p

/-- parts in memory -/
def PV (w : World) (v : Value) (l : List Pt) : Prop :=
  (v = .slice none 0 0 ∧ l = []) ∨ ∃ g c, v = .slice (some ⟨g, 0, none⟩) l.length c ∧ l.length ≤ c ∧ c ≤ maxLen ∧ g < w.heap.size ∧
    ∀ j p, l[j]? = some p → w.cell? ⟨g, j * 3, none⟩ = some (.int .i64 p.pa) ∧ w.cell? ⟨g, j * 3 + 1, none⟩ = some (.string p.pd) ∧ w.cell? ⟨g, j * 3 + 2, none⟩ = some (.bool p.pm)
theorem PV.on {w w' : World} {v : Value} {l : List Pt} (h : PV w v l) (k : Below w.heap.size w w') : PV w' v l := by
  rcases h with h | ⟨g, c, rfl, h1, h2, h3, h4⟩
  · exact .inl h
  · refine .inr ⟨g, c, rfl, h1, h2, Nat.lt_of_lt_of_le h3 k.size, fun j p hj => ?_⟩
    obtain ⟨a, b, d⟩ := h4 j p hj
    exact ⟨(k.cell (p := ⟨g, j * 3, none⟩) h3).trans a, (k.cell (p := ⟨g, j * 3 + 1, none⟩) h3).trans b, (k.cell (p := ⟨g, j * 3 + 2, none⟩) h3).trans d⟩

/-- a part's box -/
structure PC (w : World) (b : Nat) (p : Pt) : Prop where
  c0 : w.cell? ⟨b, 0, none⟩ = some (.int .i64 p.pa)
  c1 : w.cell? ⟨b, 1, none⟩ = some (.string p.pd)
  c2 : w.cell? ⟨b, 2, none⟩ = some (.bool p.pm)
theorem PC.box (w : World) (p : Pt) (t : TypeId) : PC (w.alloc (.cells #[.int .i64 p.pa, .string p.pd, .bool p.pm] t)) w.heap.size p := by
  have e := heap_alloc_new w (.cells #[.int .i64 p.pa, .string p.pd, .bool p.pm] t)
  exact ⟨cell_of_row _ _ 0 _ _ _ e, cell_of_row _ _ 1 _ _ _ e, cell_of_row _ _ 2 _ _ _ e⟩
theorem PC.lt {w : World} {b : Nat} {p : Pt} (k : PC w b p) : b < w.heap.size := cell_lt' k.c0
theorem PC.on {w w' : World} {b : Nat} {p : Pt} (k : PC w b p) (q : Below w.heap.size w w') : PC w' b p :=
  have l := k.lt
  ⟨(q.cell (p := ⟨b, 0, none⟩) l).trans k.c0, (q.cell (p := ⟨b, 1, none⟩) l).trans k.c1, (q.cell (p := ⟨b, 2, none⟩) l).trans k.c2⟩

set_option maxHeartbeats 400000 in
theorem end_any (p : Pt) (hp : p.In) (w : World) :
    Calls Try.prog 47 #[ptV p] w fun e w' => e = .returned (.int .i64 p.fin) ∧ Below w.heap.size w w' := by
  have BEL := hide (fun o => below_one w o)
  obtain ⟨h1, h2, h3⟩ := hp
  have x1 : IntKind.i64.wrap (p.pa + (p.pd.size : Nat)) = p.pa + (p.pd.size : Nat) := by rw [IntKind.wrap_i64]; omega
  unfold Pt.fin
  obtain ⟨a, d, m⟩ := p
  simp only at *
  go_enter Try.func47, Try.ntmps47
  go_wp2_with fail
  go_ret
  exact ⟨rfl, unhide BEL _⟩

set_option maxHeartbeats 1000000 in
theorem ahead_any (p q : Pt) (hp : p.In) (hq : q.In) (w : World) :
    Calls Try.prog 60 #[ptV p, ptV q] w fun e w' => e = .returned (.bool (aheadB p q)) ∧ Below w.heap.size w w' := by
  have EP := hide (fun w => end_any p hp w)
  have EQ := hide (fun w => end_any q hq w)
  have BEL := hide (fun w o => below_one w o)
  unfold aheadB
  generalize p.fin = x at *
  generalize q.fin = y at *
  clear hp hq
  obtain ⟨pa, pd, pm⟩ := p
  obtain ⟨qa, qd, qm⟩ := q
  simp only at *
  go_enter Try.func60, Try.ntmps60
  go_wp2_with fail
  have K1 := (PC.box w ⟨pa, pd, pm⟩ 70).on (unhide BEL _ (.cells #[.int .i64 qa, .string qd, .bool qm] 70))
  have K2 := PC.box (w.alloc (.cells #[.int .i64 pa, .string pd, .bool pm] 70)) ⟨qa, qd, qm⟩ 70
  have B1 := hide (tr2 (unhide BEL w (.cells #[.int .i64 pa, .string pd, .bool pm] 70)) (unhide BEL _ (.cells #[.int .i64 qa, .string qd, .bool qm] 70)))
  obtain ⟨c0, c1, c2⟩ := K1
  obtain ⟨e0, e1, e2⟩ := K2
  simp only [World.size_alloc] at c0 c1 c2 e0 e1 e2
  generalize (w.alloc _).alloc _ = w2 at *
  have d0 := cell_regrown c0
  have d1 := cell_regrown c1
  have d2 := cell_regrown c2
  have f0 := cell_regrown e0
  have f1 := cell_regrown e1
  have f2 := cell_regrown e2
  clear c0 c1 c2 e0 e1 e2 BEL
  have q1 := rgB (w := w2) (unhide EP)
  have q2 := rgB (w := w2) (unhide EQ)
  refine wp_region_quiet_below (by kernel_rfl) (by kernel_rfl) ?_
  cases pm
  · repeat (go_big_quiet_step (fail))
    go_big_quiet_step (exact q2 _ _)
    repeat (go_big_quiet_step (fail))
    go_big_quiet_step (exact q1 _ _)
    repeat (go_big_quiet_step (fail))
    refine wpQuiet_nil ?_
    intro _ hw'
    obtain ⟨⟨dq, osq⟩, hw''⟩ := hw'
    subst hw''
    go_wp2
    go_ret
    exact ⟨rfl, tr2 (unhide B1) (below_regrown w2 dq osq)⟩
  · repeat (go_big_quiet_step (fail))
    refine wpQuiet_nil ?_
    intro _ hw'
    obtain ⟨⟨dq, osq⟩, hw''⟩ := hw'
    subst hw''
    go_wp2
    go_ret
    exact ⟨rfl, tr2 (unhide B1) (below_regrown w2 dq osq)⟩

set_option maxRecDepth 100000 in
set_option maxHeartbeats 4000000 in
theorem clash1_any (p q : Pt) (hp : p.In) (hq : q.In) (B : Nat) (w : World) (hB : PC w B p) :
    Calls Try.prog 59 #[ptV q, .pointer (some ⟨B, 0, none⟩)] w fun e w' => e = .returned (.bool (clashB p q)) ∧ Below w.heap.size w w' := by
  have EP := hide (fun w => end_any p hp w)
  have EQ := hide (fun w => end_any q hq w)
  have AP := hide (fun w => ahead_any p q hp hq w)
  have AQ := hide (fun w => ahead_any q p hq hp w)
  have BEL := hide (fun w o => below_one w o)
  have B1 := hide (unhide BEL w (.cells #[.int .i64 q.pa, .string q.pd, .bool q.pm] 70))
  have K1 := hB.on (unhide B1)
  have K2 := PC.box w q 70
  obtain ⟨r, hr⟩ : ∃ r, clashB p q = r := ⟨_, rfl⟩
  rw [hr]
  unfold clashB overB at hr
  generalize aheadB p q = a1 at *
  generalize aheadB q p = a2 at *
  generalize p.fin = x at *
  generalize q.fin = y at *
  clear hp hq hB
  obtain ⟨pa, pd, pm⟩ := p
  obtain ⟨qa, qd, qm⟩ := q
  simp only at *
  go_enter Try.func59, Try.ntmps59
  go_wp2_with fail
  obtain ⟨c0, c1, c2⟩ := K1
  obtain ⟨e0, e1, e2⟩ := K2
  simp only at c0 c1 c2 e0 e1 e2
  generalize w.alloc _ = w2 at *
  have d0 := cell_regrown c0
  have d1 := cell_regrown c1
  have d2 := cell_regrown c2
  have f0 := cell_regrown e0
  have f1 := cell_regrown e1
  have f2 := cell_regrown e2
  clear c0 c1 c2 e0 e1 e2 BEL
  have q1 := rgB (w := w2) (unhide EP)
  have q2 := rgB (w := w2) (unhide EQ)
  have q3 := rgB (w := w2) (unhide AP)
  have q4 := rgB (w := w2) (unhide AQ)
  by_cases g1 : pa = qa
  · subst g1
    obtain rfl : r = true := by rw [← hr]; simp
    clear hr
    refine wp_region_quiet_below (by kernel_rfl) (by kernel_rfl) ?_
    repeat (go_big_quiet_step (fail))
    refine wpQuiet_nil ?_
    intro _ hw'
    obtain ⟨⟨dq, osq⟩, hw''⟩ := hw'
    subst hw''
    go_wp2
    go_ret
    exact ⟨rfl, tr2 (unhide B1) (below_regrown w2 dq osq)⟩
  have g1' : (pa == qa) = false := by simpa using g1
  simp only [g1, decide_false, Bool.false_or] at hr
  clear g1
  by_cases g2 : max pa qa < min x y
  · obtain rfl : r = true := by rw [← hr]; simp [g2]
    clear hr
    refine wp_region_quiet_below (by kernel_rfl) (by kernel_rfl) ?_
    repeat (go_big_quiet_step (fail))
    go_big_quiet_step (exact q1 _ _)
    repeat (go_big_quiet_step (fail))
    go_big_quiet_step (exact q2 _ _)
    repeat (go_big_quiet_step (fail))
    refine wpQuiet_nil ?_
    intro _ hw'
    obtain ⟨⟨dq, osq⟩, hw''⟩ := hw'
    subst hw''
    go_wp2
    go_ret
    exact ⟨rfl, tr2 (unhide B1) (below_regrown w2 dq osq)⟩
  simp only [g2, decide_false, Bool.false_or] at hr
  have g2' : decide (max pa qa < min x y) = false := decide_eq_false g2
  generalize hM : max pa qa = M at *
  generalize hN : min x y = N at *
  clear g2
  cases a1
  · rw [Bool.false_or] at hr
    subst hr
    refine wp_region_quiet_below (by kernel_rfl) (by kernel_rfl) ?_
    repeat (go_big_quiet_step (fail))
    go_big_quiet_step (exact q1 _ _)
    repeat (go_big_quiet_step (fail))
    go_big_quiet_step (exact q2 _ _)
    repeat (go_big_quiet_step (fail))
    go_big_quiet_step (exact q3 _ _)
    repeat (go_big_quiet_step (fail))
    go_big_quiet_step (exact q4 _ _)
    repeat (go_big_quiet_step (fail))
    refine wpQuiet_nil ?_
    intro _ hw'
    obtain ⟨⟨dq, osq⟩, hw''⟩ := hw'
    subst hw''
    go_wp2
    go_ret
    exact ⟨rfl, tr2 (unhide B1) (below_regrown w2 dq osq)⟩
  · rw [Bool.true_or] at hr
    subst hr
    refine wp_region_quiet_below (by kernel_rfl) (by kernel_rfl) ?_
    repeat (go_big_quiet_step (fail))
    go_big_quiet_step (exact q1 _ _)
    repeat (go_big_quiet_step (fail))
    go_big_quiet_step (exact q2 _ _)
    repeat (go_big_quiet_step (fail))
    go_big_quiet_step (exact q3 _ _)
    repeat (go_big_quiet_step (fail))
    refine wpQuiet_nil ?_
    intro _ hw'
    obtain ⟨⟨dq, osq⟩, hw''⟩ := hw'
    subst hw''
    go_wp2
    go_ret
    exact ⟨rfl, tr2 (unhide B1) (below_regrown w2 dq osq)⟩

end Go.Proofs.Ytekljiakofmhnaa
