/- The contracts of slices.Index, slices.Contains, slices.IndexFunc, slices.ContainsFunc over parts, and of gathering.clashes, over the loaded program; no memory that was there has turned. Conditions: numbers in their bounds. -/
import Derived.Test.YtekljiakofmhnaaGn1
namespace Go.Proofs.Ytekljiakofmhnaa
open Go.RowKit

theorem pt_stood : Try.prog.stoodInHeld 70 = false := by kernel_rfl
theorem pt_str : Try.prog.underlying 70 = some (.struct (Try.prog.fieldsOf 70)) := by
  unfold Program.fieldsOf
  rw [Try.underlying70]
def samePt (p q : Pt) : Bool := decide (p.pa = q.pa ∧ p.pd = q.pd ∧ p.pm = q.pm)
theorem samePt_iff {p q : Pt} : samePt p q = true ↔ p = q := by
  unfold samePt
  rw [decide_eq_true_iff]
  obtain ⟨a, b, c⟩ := p
  obtain ⟨d, e, f⟩ := q
  simp
theorem eqP_int (p q : Pt) : ((p.pa == q.pa) && ((p.pd.toList == q.pd.toList) && (p.pm == q.pm))) = samePt p q := by
  unfold samePt
  rw [Bool.eq_iff_iff, decide_eq_true_iff]
  simp only [Bool.and_eq_true, beq_iff_eq]
  have hs : p.pd.toList = q.pd.toList ↔ p.pd = q.pd := ⟨fun h => by rw [ByteArray.toList_eq, ByteArray.toList_eq] at h; exact list_ba h, fun h => by rw [h]⟩
  rw [hs]
theorem in_part (d : Nat) (a b : Pt) (w : World) : (Op.equalIn (d + 2) 70 (ptV a) (ptV b)).run Try.prog w = .ok (samePt a b) w := by
  rw [run_equalIn_struct w (d + 1) 70 _ _ pt_str pt_stood]
  unfold Program.fieldsOf
  rw [Try.underlying70]
  have u64 := fun (x y : Int) (w : World) => run_equalIn_int w d 3 .i64 .i64 x y Try.underlying3
  have ub := fun (x y : Bool) (w : World) => run_equalIn_bool w d 4 x y Try.underlying4
  have us := fun (x y : ByteArray) (w : World) => run_equalIn_string w d 9 x y Try.underlying9
  have g64 := Try.isAgg3
  have gb := Try.isAgg4
  have gs := Try.isAgg9
  rw [← eqP_int]
  simp only [Op.eqFields]
  simp [part, u64, ub, us, g64, gb, gs]
  by_cases h0 : a.pa = b.pa
  case neg => simp [h0]
  simp only [h0, if_true, beq_self_eq_true, Bool.true_and]
  by_cases h1 : a.pd.toList = b.pd.toList
  case neg => simp [h1]
  simp only [h1, if_true, beq_self_eq_true, Bool.true_and]
  by_cases h2 : a.pm = b.pm <;> simp [h2]
theorem eql_pt (a b : Pt) (w : World) : (binOp .eql 70 (ptV a) (ptV b)).run Try.prog w = .ok (.bool (samePt a b)) w := by
  rw [run_eql_struct, in_part 9998 a b w]
  rfl

/-- the first of a list -/
def IdxL (f : Pt → Bool) (l : List Pt) (r : Int) : Prop := (r = -1 ∧ ∀ x ∈ l, f x = false) ∨ ∃ (k : Nat) (x : Pt), r = k ∧ l[k]? = some x ∧ f x = true
theorem IdxL.any {f : Pt → Bool} {l : List Pt} {r : Int} (h : IdxL f l r) : decide (0 ≤ r) = l.any f := by
  rcases h with ⟨rfl, h⟩ | ⟨k, x, rfl, h1, h2⟩
  · rw [show l.any f = false by rw [List.any_eq_false]; intro x hx; simp [h x hx]]
    rfl
  · rw [show l.any f = true by rw [List.any_eq_true]; exact ⟨x, List.mem_of_getElem? h1, h2⟩]
    simp
theorem idx_step {f : Pt → Bool} {l : List Pt} {k : Nat} {x : Pt} (h : ∀ x ∈ l.take k, f x = false) (hx : l[k]? = some x) (hf : f x = false) : ∀ x ∈ l.take (k + 1), f x = false := by
  obtain ⟨hlt, he⟩ := List.getElem?_eq_some_iff.1 hx
  intro y hy
  rw [take_snoc' l k hlt, List.mem_append] at hy
  rcases hy with hy | hy
  · exact h y hy
  · simp at hy; subst hy; rw [he]; exact hf

set_option maxRecDepth 20000 in
set_option maxHeartbeats 4000000 in
theorem index_any (v : Value) (l : List Pt) (p : Pt) (w : World) (hv : PV w v l) (hl : l.length ≤ 65536) :
    Calls Try.prog 58 #[v, ptV p] w fun e w' => (∃ r : Int, e = .returned (.int .i64 r) ∧ IdxL (samePt p) l r) ∧ Below w.heap.size w w' := by
  have B0 := hide (below_one w (.cells #[.int .i64 p.pa, .string p.pd, .bool p.pm] 70))
  have K0 := PC.box w p 70
  rcases hv with ⟨rfl, rfl⟩ | ⟨g, c, rfl, h1, h2, h3, h4⟩
  · go_enter Try.func58, Try.ntmps58
    go_wp2
    go_loopw [8] (fun i wr => i = .int .i64 0 ∧ Below w.heap.size w wr) (fun _ _ => 0)
    case atStart => exact ⟨rfl, unhide B0⟩
    case round =>
      obtain ⟨rfl, hB⟩ := hrel
      go_wp2
      go_ret
      exact ⟨⟨_, rfl, .inl ⟨rfl, by simp⟩⟩, hB⟩
  · go_enter Try.func58, Try.ntmps58
    go_wp2
    go_loopw [8] (fun i wr => ∃ k : Nat, k ≤ l.length ∧ i = .int .i64 (k : Int) ∧ (∀ x ∈ l.take k, samePt p x = false) ∧ Below w.heap.size w wr ∧ PC wr w.heap.size p) (fun i _ => l.length - (intOf i).toNat)
    case atStart => exact ⟨0, Nat.zero_le _, rfl, by simp, unhide B0, K0⟩
    case round =>
      obtain ⟨k, hk, rfl, hno, hB, hK⟩ := hrel
      have HNO := hide hno
      have HK := hide hK
      clear hno K0
      obtain ⟨e0, e1, e2⟩ := hK
      by_cases hlt : k < l.length
      · obtain ⟨q, hq⟩ : ∃ q, l[k]? = some q := ⟨_, List.getElem?_eq_getElem hlt⟩
        obtain ⟨k0, k1, k2⟩ := h4 _ q hq
        have c0 := (hB.cell (p := ⟨g, k * 3, none⟩) h3).trans k0
        have c1 := (hB.cell (p := ⟨g, k * 3 + 1, none⟩) h3).trans k1
        have c2 := (hB.cell (p := ⟨g, k * 3 + 2, none⟩) h3).trans k2
        have hE := fun w => eql_pt p q w
        have HQ := hide hq
        have H4 := hide h4
        clear k0 k1 k2 hq h4
        obtain ⟨z, hz⟩ : ∃ z, samePt p q = z := ⟨_, rfl⟩
        rw [hz] at hE
        have HZ := hide hz
        clear hz
        cases z
        · go_wp2_with fail
          have d0 := cell_regrown c0
          have d1 := cell_regrown c1
          have d2 := cell_regrown c2
          have f0 := cell_regrown e0
          have f1 := cell_regrown e1
          have f2 := cell_regrown e2
          clear c0 c1 c2 e0 e1 e2
          refine wp_region_quiet_below (by kernel_rfl) (by kernel_rfl) ?_
          repeat (go_big_quiet_step (fail))
          refine wpQuiet_nil ?_
          intro _ hw'
          obtain ⟨⟨dq, osq⟩, hw''⟩ := hw'
          subst hw''
          go_wp2_with fail
          go_roundw
          case rel => exact ⟨k + 1, by omega, by go_num, idx_step (unhide HNO) (unhide HQ) (unhide HZ), tr2 hB (below_regrown wr dq osq), (unhide HK).on (below_regrown wr dq osq)⟩
          case measure => simp [intOf]; omega
        · go_wp2_with fail
          have d0 := cell_regrown c0
          have d1 := cell_regrown c1
          have d2 := cell_regrown c2
          have f0 := cell_regrown e0
          have f1 := cell_regrown e1
          have f2 := cell_regrown e2
          clear c0 c1 c2 e0 e1 e2
          refine wp_region_quiet_below (by kernel_rfl) (by kernel_rfl) ?_
          repeat (go_big_quiet_step (fail))
          refine wpQuiet_nil ?_
          intro _ hw'
          obtain ⟨⟨dq, osq⟩, hw''⟩ := hw'
          subst hw''
          go_wp2_with fail
          go_ret
          exact ⟨⟨_, rfl, .inr ⟨k, q, rfl, unhide HQ, unhide HZ⟩⟩, tr2 hB (below_regrown wr dq osq)⟩
      · obtain rfl : k = l.length := by omega
        rw [List.take_length] at HNO
        go_wp2
        go_ret
        exact ⟨⟨_, rfl, .inl ⟨rfl, unhide HNO⟩⟩, hB⟩

set_option maxHeartbeats 1000000 in
theorem contains_any (v : Value) (l : List Pt) (p : Pt) (w : World) (hv : PV w v l) (hl : l.length ≤ 65536) :
    Calls Try.prog 43 #[v, ptV p] w fun e w' => e = .returned (.bool (l.any (samePt p))) ∧ Below w.heap.size w w' := by
  have B0 := below_one w (.cells #[.int .i64 p.pa, .string p.pd, .bool p.pm] 70)
  have H := hide (index_any v l p _ (hv.on B0) hl)
  have B0 := hide B0
  clear hv
  go_enter Try.func43, Try.ntmps43
  go_wp2_with fail
  refine (unhide H).mono ?_
  rintro e w1 ⟨⟨r, rfl, hr⟩, b1⟩
  have HA := hide hr.any
  clear hr
  go_wp2_with fail
  go_ret
  exact ⟨by rw [← unhide HA]; rfl, tr2 (unhide B0) b1⟩

set_option maxRecDepth 20000 in
set_option maxHeartbeats 4000000 in
theorem indexf_any (v : Value) (l : List Pt) (p : Pt) (B : Nat) (w : World) (hv : PV w v l) (hl : l.length ≤ 65536) (hp : p.In) (hL : ∀ q ∈ l, q.In) (hB : PC w B p) :
    Calls Try.prog 68 #[v, .func (.func 59) #[] #[.pointer (some ⟨B, 0, none⟩)]] w fun e w' => (∃ r : Int, e = .returned (.int .i64 r) ∧ IdxL (clashB p) l r) ∧ Below w.heap.size w w' := by
  have B0 := hide (Below.refl w.heap.size w)
  have KB := hide hB
  clear hB
  rcases hv with ⟨rfl, rfl⟩ | ⟨g, c, rfl, h1, h2, h3, h4⟩
  · go_enter Try.func68, Try.ntmps68
    go_wp2
    go_loopw [8] (fun i wr => i = .int .i64 0 ∧ wr = w) (fun _ _ => 0)
    case atStart => exact ⟨rfl, rfl⟩
    case round =>
      obtain ⟨rfl, rfl⟩ := hrel
      go_wp2
      go_ret
      exact ⟨⟨_, rfl, .inl ⟨rfl, by simp⟩⟩, unhide B0⟩
  · go_enter Try.func68, Try.ntmps68
    go_wp2
    go_loopw [8] (fun i wr => ∃ k : Nat, k ≤ l.length ∧ i = .int .i64 (k : Int) ∧ (∀ x ∈ l.take k, clashB p x = false) ∧ Below w.heap.size w wr) (fun i _ => l.length - (intOf i).toNat)
    case atStart => exact ⟨0, Nat.zero_le _, rfl, by simp, unhide B0⟩
    case round =>
      obtain ⟨k, hk, rfl, hno, hB⟩ := hrel
      have HNO := hide hno
      clear hno
      by_cases hlt : k < l.length
      · obtain ⟨q, hq⟩ : ∃ q, l[k]? = some q := ⟨_, List.getElem?_eq_getElem hlt⟩
        obtain ⟨k0, k1, k2⟩ := h4 _ q hq
        have c0 := (hB.cell (p := ⟨g, k * 3, none⟩) h3).trans k0
        have c1 := (hB.cell (p := ⟨g, k * 3 + 1, none⟩) h3).trans k1
        have c2 := (hB.cell (p := ⟨g, k * 3 + 2, none⟩) h3).trans k2
        have HC := hide (clash1_any p q hp (hL q (List.mem_of_getElem? hq)) B wr ((unhide KB).on hB))
        have HQ := hide hq
        have H4 := hide h4
        clear k0 k1 k2 hq h4
        obtain ⟨z, hz⟩ : ∃ z, clashB p q = z := ⟨_, rfl⟩
        rw [hz] at HC
        have HZ := hide hz
        clear hz
        cases z
        · go_wp2_with fail
          refine (unhide HC).mono ?_
          rintro e w3 ⟨rfl, b3⟩
          go_wp2_with fail
          go_roundw
          case rel => exact ⟨k + 1, by omega, by go_num, idx_step (unhide HNO) (unhide HQ) (unhide HZ), tr2 hB b3⟩
          case measure => simp [intOf]; omega
        · go_wp2_with fail
          refine (unhide HC).mono ?_
          rintro e w3 ⟨rfl, b3⟩
          go_wp2_with fail
          go_ret
          exact ⟨⟨_, rfl, .inr ⟨k, q, rfl, unhide HQ, unhide HZ⟩⟩, tr2 hB b3⟩
      · obtain rfl : k = l.length := by omega
        rw [List.take_length] at HNO
        go_wp2
        go_ret
        exact ⟨⟨_, rfl, .inl ⟨rfl, unhide HNO⟩⟩, hB⟩

set_option maxHeartbeats 1000000 in
theorem containsf_any (v : Value) (l : List Pt) (p : Pt) (B : Nat) (w : World) (hv : PV w v l) (hl : l.length ≤ 65536) (hp : p.In) (hL : ∀ q ∈ l, q.In) (hB : PC w B p) :
    Calls Try.prog 61 #[v, .func (.func 59) #[] #[.pointer (some ⟨B, 0, none⟩)]] w fun e w' => e = .returned (.bool (l.any (clashB p))) ∧ Below w.heap.size w w' := by
  have H := hide (indexf_any v l p B w hv hl hp hL hB)
  clear hv hB hL hp
  go_enter Try.func61, Try.ntmps61
  go_wp2_with fail
  refine (unhide H).mono ?_
  rintro e w1 ⟨⟨r, rfl, hr⟩, b1⟩
  have HA := hide hr.any
  clear hr
  go_wp2_with fail
  go_ret
  exact ⟨by rw [← unhide HA]; rfl, b1⟩

/-- a gathering as it is kept: the head, the parts, when it is over, whether it is spoilt -/
structure Ga where
  hd : Rh
  ps : List Pt
  ov : Int
  sp : Bool
/-- its value, v the parts' -/
abbrev gaV (x : Ga) (v : Value) : Value := .agg #[.int .u8 (x.hd.tos : Int), .int .u16 (x.hd.id : Int), .bool x.hd.hold, .bool x.hd.more, .int .i64 x.hd.at', .int .u8 (x.hd.ttl : Int), .int .u8 (x.hd.proto : Int), .int .u32 (x.hd.frm : Int), .int .u32 (x.hd.to : Int), .string x.hd.op, v, .int .i64 x.ov, .bool x.sp]
abbrev gaC (x : Ga) (v : Value) : Array Value := #[.int .u8 (x.hd.tos : Int), .int .u16 (x.hd.id : Int), .bool x.hd.hold, .bool x.hd.more, .int .i64 x.hd.at', .int .u8 (x.hd.ttl : Int), .int .u8 (x.hd.proto : Int), .int .u32 (x.hd.frm : Int), .int .u32 (x.hd.to : Int), .string x.hd.op, v, .int .i64 x.ov, .bool x.sp]
theorem pv_shape {w : World} {v : Value} {l : List Pt} (h : PV w v l) : ∃ sp sc, v = .slice sp l.length sc := by
  rcases h with ⟨rfl, rfl⟩ | ⟨g, c, rfl, _⟩
  · exact ⟨_, _, rfl⟩
  · exact ⟨_, _, rfl⟩

set_option maxHeartbeats 1000000 in
theorem clashes_any (x : Ga) (v : Value) (p : Pt) (w : World) (hv : PV w v x.ps) (hl : x.ps.length ≤ 65536) (hp : p.In) (hL : ∀ q ∈ x.ps, q.In) :
    Calls Try.prog 44 #[gaV x v, ptV p] w fun e w' => e = .returned (.bool (x.ps.any (clashB p))) ∧ Below w.heap.size w w' := by
  have B1 := below_one w (.cells (gaC x v) 59)
  have B2 := tr2 B1 (below_one _ (.cells #[.int .i64 p.pa, .string p.pd, .bool p.pm] 70))
  have K := PC.box (w.alloc (.cells (gaC x v) 59)) p 70
  have H := hide (containsf_any v x.ps p _ _ (hv.on B2) hl hp hL K)
  have B2 := hide B2
  obtain ⟨sp, sc, rfl⟩ := pv_shape hv
  clear hv hL hp K B1
  simp only [World.size_alloc] at H
  go_enter Try.func44, Try.ntmps44
  go_wp2_with fail
  refine (unhide H).mono ?_
  rintro e w1 ⟨rfl, b1⟩
  go_wp2_with fail
  go_ret
  exact ⟨rfl, tr2 (unhide B2) (by simpa only [World.size_alloc] using b1)⟩

end Go.Proofs.Ytekljiakofmhnaa
