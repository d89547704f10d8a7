/- The contracts of package ip4's leaves (unless, May, partMay, headSize, hasRoom, mayWith, partField, firstWrong) and of the document's May, whole, fits, over the loaded program; no memory that was there has turned. Conditions: numbers in their kinds' bounds, texts of bounded length. -/
import Derived.Test.YtekljiakofmhnaaWdK
import Derived.Test.YtekljiakofmhnaaTabK
import Derived.Test.YtekljiakofmhnaaIp0
import Derived.BigQuiet
namespace Go.Proofs.Ytekljiakofmhnaa
open Go.RowKit

/-- a head as it is in memory -/
structure Rh where
  tos : Nat
  id : Nat
  hold : Bool
  more : Bool
  at' : Int
  ttl : Nat
  proto : Nat
  frm : Nat
  to : Nat
  op : ByteArray
abbrev hdL (h : Rh) : List Value := [.int .u8 (h.tos : Int), .int .u16 (h.id : Int), .bool h.hold, .bool h.more, .int .i64 h.at', .int .u8 (h.ttl : Int), .int .u8 (h.proto : Int), .int .u32 (h.frm : Int), .int .u32 (h.to : Int), .string h.op]
abbrev hdV (h : Rh) : Value := .agg #[.int .u8 (h.tos : Int), .int .u16 (h.id : Int), .bool h.hold, .bool h.more, .int .i64 h.at', .int .u8 (h.ttl : Int), .int .u8 (h.proto : Int), .int .u32 (h.frm : Int), .int .u32 (h.to : Int), .string h.op]
abbrev hd0V : Value := .agg #[.int .u8 0, .int .u16 0, .bool false, .bool false, .int .i64 0, .int .u8 0, .int .u8 0, .int .u32 0, .int .u32 0, .string ⟨#[]⟩]
/-- numbers in their kinds' bounds -/
structure Rh.In (h : Rh) : Prop where
  tos : h.tos < 256
  id : h.id < 65536
  a1 : -9223372036854775808 ≤ h.at'
  a2 : h.at' ≤ 9223372036854775807
  ttl : h.ttl < 256
  proto : h.proto < 256
  frm : h.frm < 4294967296
  to : h.to < 4294967296
  op : h.op.size ≤ 1073741824
def Rh.MayB (h : Rh) : Prop := 0 ≤ h.at' ∧ h.at' ≤ 65528 ∧ h.at' % 8 = 0 ∧ h.op.size ≤ 40 ∧ h.op.size % 4 = 0
instance (h : Rh) : Decidable h.MayB := by unfold Rh.MayB; infer_instance
def Rh.hd (h : Rh) : Hd := ⟨h.tos, h.id, h.hold, h.more, h.at'.toNat, h.ttl, h.proto, h.frm, h.to, h.op.data.toList⟩

/-- a head's cells -/
structure HC (w : World) (b : Nat) (h : Rh) : Prop where
  c0 : w.cell? ⟨b, 0, none⟩ = some (.int .u8 (h.tos : Int))
  c1 : w.cell? ⟨b, 1, none⟩ = some (.int .u16 (h.id : Int))
  c2 : w.cell? ⟨b, 2, none⟩ = some (.bool h.hold)
  c3 : w.cell? ⟨b, 3, none⟩ = some (.bool h.more)
  c4 : w.cell? ⟨b, 4, none⟩ = some (.int .i64 h.at')
  c5 : w.cell? ⟨b, 5, none⟩ = some (.int .u8 (h.ttl : Int))
  c6 : w.cell? ⟨b, 6, none⟩ = some (.int .u8 (h.proto : Int))
  c7 : w.cell? ⟨b, 7, none⟩ = some (.int .u32 (h.frm : Int))
  c8 : w.cell? ⟨b, 8, none⟩ = some (.int .u32 (h.to : Int))
  c9 : w.cell? ⟨b, 9, none⟩ = some (.string h.op)
theorem HC.box (w : World) (h : Rh) (t : TypeId) : HC (w.alloc (.cells (hdL h).toArray t)) w.heap.size h := by
  have e := heap_alloc_new w (.cells (hdL h).toArray t)
  exact ⟨cell_of_row _ _ 0 _ _ _ e, cell_of_row _ _ 1 _ _ _ e, cell_of_row _ _ 2 _ _ _ e, cell_of_row _ _ 3 _ _ _ e, cell_of_row _ _ 4 _ _ _ e, cell_of_row _ _ 5 _ _ _ e, cell_of_row _ _ 6 _ _ _ e, cell_of_row _ _ 7 _ _ _ e, cell_of_row _ _ 8 _ _ _ e, cell_of_row _ _ 9 _ _ _ e⟩
theorem HC.lt {w : World} {b : Nat} {h : Rh} (k : HC w b h) : b < w.heap.size := cell_lt' k.c0
theorem HC.on {w w' : World} {b : Nat} {h : Rh} (k : HC w b h) (q : Below w.heap.size w w') : HC w' b h :=
  have l := k.lt
  ⟨(q.cell (p := ⟨b, 0, none⟩) l).trans k.c0, (q.cell (p := ⟨b, 1, none⟩) l).trans k.c1, (q.cell (p := ⟨b, 2, none⟩) l).trans k.c2, (q.cell (p := ⟨b, 3, none⟩) l).trans k.c3, (q.cell (p := ⟨b, 4, none⟩) l).trans k.c4, (q.cell (p := ⟨b, 5, none⟩) l).trans k.c5, (q.cell (p := ⟨b, 6, none⟩) l).trans k.c6, (q.cell (p := ⟨b, 7, none⟩) l).trans k.c7, (q.cell (p := ⟨b, 8, none⟩) l).trans k.c8, (q.cell (p := ⟨b, 9, none⟩) l).trans k.c9⟩

theorem ret_bool {a b : Bool} (h : a = b) : Ending.returned (.bool a) = .returned (.bool b) := by rw [h]

set_option maxHeartbeats 400000 in
theorem unless_any (b : Bool) (e : Int) (w : World) :
    Calls Try.prog 32 #[.bool b, .int .i64 e] w fun x w' => x = .returned (.int .i64 (if b then 0 else e)) ∧ w' = w := by
  cases b
  · go_enter Try.func32, Try.ntmps32
    go_wp2
    go_ret
    exact ⟨rfl, rfl⟩
  · go_enter Try.func32, Try.ntmps32
    go_wp2
    go_ret
    exact ⟨rfl, rfl⟩

theorem ret_of {a r : Bool} {p : Prop} [Decidable p] (hr : Hid (r = decide p)) (h : a = true ↔ p) : Ending.returned (.bool a) = .returned (.bool r) := by
  rw [unhide hr, Bool.eq_iff_iff.2 (h.trans decide_eq_true_iff.symm)]
theorem hidec (p : Prop) [Decidable p] : ∃ r, Hid (r = decide p) ∧ r = decide p := ⟨_, rfl, rfl⟩

set_option maxHeartbeats 1000000 in
theorem may_any (h : Rh) (w : World) (hi : h.In) :
    Calls Try.prog 33 #[hdV h] w fun e w' => e = .returned (.bool (decide h.MayB)) ∧ Below w.heap.size w w' := by
  have BEL := hide (fun o => below_one w o)
  have i1 := hi.a1
  have i2 := hi.a2
  have i3 := hi.op
  clear hi
  obtain ⟨r, hr, e⟩ := hidec h.MayB
  rw [← e]
  clear e
  go_enter Try.func33, Try.ntmps33
  go_wp2
  all_goals
    go_ret
    exact ⟨ret_of hr (by unfold Rh.MayB; simp; omega), unhide BEL _⟩

/-- may so many bytes be a part's data? -/
def wholeB (m : Bool) (n : Nat) : Prop := m = true → 0 < n ∧ n % 8 = 0
instance (m : Bool) (n : Nat) : Decidable (wholeB m n) := by unfold wholeB; infer_instance

set_option maxHeartbeats 1000000 in
theorem partmay_any (h : Rh) (n : Nat) (w : World) (hn : n ≤ 1073741824) :
    Calls Try.prog 34 #[hdV h, .int .i64 (n : Int)] w fun e w' => e = .returned (.bool (decide (wholeB h.more n))) ∧ Below w.heap.size w w' := by
  have BEL := hide (fun o => below_one w o)
  obtain ⟨r, hr, e⟩ := hidec (wholeB h.more n)
  rw [← e]
  clear e
  obtain ⟨g, hg⟩ : ∃ g, g = h.more := ⟨_, rfl⟩
  unfold hdV
  rw [← hg] at hr ⊢
  clear hg
  cases g
  · go_enter Try.func34, Try.ntmps34
    go_wp2
    all_goals
      go_ret
      exact ⟨ret_of hr (by unfold wholeB; simp), unhide BEL _⟩
  · go_enter Try.func34, Try.ntmps34
    go_wp2
    all_goals
      go_ret
      exact ⟨ret_of hr (by unfold wholeB; simp; omega), unhide BEL _⟩

set_option maxHeartbeats 400000 in
theorem headsize_any (h : Rh) (w : World) (hi : h.op.size ≤ 1073741824) :
    Calls Try.prog 38 #[hdV h] w fun e w' => e = .returned (.int .i64 (20 + h.op.size : Nat)) ∧ Below w.heap.size w w' := by
  have BEL := hide (fun o => below_one w o)
  go_enter Try.func38, Try.ntmps38
  go_wp2
  go_ret
  exact ⟨rfl, unhide BEL _⟩

/-- is there room? -/
def roomB (h : Rh) (n : Nat) : Prop := h.at' + (n : Int) + (20 + h.op.size : Nat) ≤ 65535
instance (h : Rh) (n : Nat) : Decidable (roomB h n) := by unfold roomB; infer_instance

set_option maxHeartbeats 1000000 in
theorem hasroom_any (h : Rh) (n : Nat) (w : World) (hm : h.MayB) (hn : n ≤ 1073741824) :
    Calls Try.prog 36 #[hdV h, .int .i64 (n : Int)] w fun e w' => e = .returned (.bool (decide (roomB h n))) ∧ Below w.heap.size w w' := by
  obtain ⟨m1, m2, m3, m4, m5⟩ := hm
  have H := hide (fun w => headsize_any h w (by omega))
  obtain ⟨r, hr, e⟩ := hidec (roomB h n)
  rw [← e]
  clear e
  have k := HC.box w h 34
  have BEL := hide (fun o => below_one w o)
  have x1 : IntKind.i64.wrap ((n : Int) + h.at') = (n : Int) + h.at' := by rw [IntKind.wrap_i64]; omega
  have x2 : IntKind.i64.wrap (65535 - ((20 + h.op.size : Nat) : Int)) = 65535 - ((20 + h.op.size : Nat) : Int) := by rw [IntKind.wrap_i64]; omega
  go_enter Try.func36, Try.ntmps36
  go_wp2_with fail
  have B1 := hide (unhide BEL (.cells (hdL h).toArray 34))
  obtain ⟨c0, c1, c2, c3, c4, c5, c6, c7, c8, c9⟩ := k
  clear BEL
  simp only [hdL] at c0 c1 c2 c3 c4 c5 c6 c7 c8 c9 B1
  generalize w.alloc _ = w1 at *
  have d0 := cell_regrown c0
  have d1 := cell_regrown c1
  have d2 := cell_regrown c2
  have d3 := cell_regrown c3
  have d4 := cell_regrown c4
  have d5 := cell_regrown c5
  have d6 := cell_regrown c6
  have d7 := cell_regrown c7
  have d8 := cell_regrown c8
  have d9 := cell_regrown c9
  clear c0 c1 c2 c3 c4 c5 c6 c7 c8 c9
  have q1 := rgB (w := w1) (unhide H)
  refine wp_region_quiet_below (by kernel_rfl) (by kernel_rfl) ?_
  repeat (go_big_quiet_step (fail))
  go_big_quiet_step (exact q1 _ _)
  repeat (go_big_quiet_step (fail))
  refine wpQuiet_nil ?_
  intro _ hw'
  obtain ⟨⟨dq, osq⟩, hw''⟩ := hw'
  subst hw''
  go_wp2
  go_ret
  exact ⟨ret_of hr (by unfold roomB; simp; omega), tr2 (unhide B1) (below_regrown w1 dq osq)⟩

theorem orA (x : Nat) (h : x < 8192) : x ||| 16384 = x + 16384 := by rw [Nat.or_comm, show 16384 = 2 ^ 14 * 1 from rfl, ← Nat.two_pow_add_eq_or_of_lt (by omega)]; omega
theorem orB (x : Nat) (h : x < 8192) : x ||| 8192 = x + 8192 := by rw [Nat.or_comm, show 8192 = 2 ^ 13 * 1 from rfl, ← Nat.two_pow_add_eq_or_of_lt (by omega)]; omega
theorem orC (x : Nat) (h : x < 8192) : (x + 16384) ||| 8192 = x + 16384 + 8192 := by
  rw [← orA x h, Nat.or_assoc, show 16384 ||| 8192 = 2 ^ 13 * 3 from rfl, Nat.or_comm, ← Nat.two_pow_add_eq_or_of_lt (by omega), orA x h]; omega
theorem iorA {x : Int} (h0 : 0 ≤ x) (h : x < 8192) : bits .or .u64 x 16384 = x + 16384 := by
  obtain ⟨n, rfl⟩ := Int.eq_ofNat_of_zero_le h0
  rw [show (16384 : Int) = ((16384 : Nat) : Int) from rfl, u64_or_nat n 16384 (by omega) (by omega), orA n (by omega)]; omega
theorem iorB {x : Int} (h0 : 0 ≤ x) (h : x < 8192) : bits .or .u64 x 8192 = x + 8192 := by
  obtain ⟨n, rfl⟩ := Int.eq_ofNat_of_zero_le h0
  rw [show (8192 : Int) = ((8192 : Nat) : Int) from rfl, u64_or_nat n 8192 (by omega) (by omega), orB n (by omega)]; omega
theorem iorC {x : Int} (h0 : 0 ≤ x) (h : x < 8192) : bits .or .u64 (x + 16384) 8192 = x + 16384 + 8192 := by
  obtain ⟨n, rfl⟩ := Int.eq_ofNat_of_zero_le h0
  rw [show (8192 : Int) = ((8192 : Nat) : Int) from rfl, show (n : Int) + 16384 = ((n + 16384 : Nat) : Int) by omega, u64_or_nat (n + 16384) 8192 (by omega) (by omega), orC n (by omega)]; omega
theorem ret_u64 {x y : Int} (h : x = y) : Ending.returned (.int .u64 x) = .returned (.int .u64 y) := by rw [h]

set_option maxHeartbeats 1000000 in
theorem partfield_any (h : Rh) (w : World) (hm : h.MayB) :
    Calls Try.prog 39 #[hdV h] w fun e w' => e = .returned (.int .u64 (h.hd.flags : Nat)) ∧ Below w.heap.size w w' := by
  have BEL := hide (fun o => below_one w o)
  obtain ⟨m1, m2, m3, m4, m5⟩ := hm
  obtain ⟨F, hF⟩ : ∃ F, h.hd.flags = F := ⟨_, rfl⟩
  rw [hF]
  have HF := hide hF
  clear hF
  unfold hdV
  obtain ⟨tos, id, hold, more, at', ttl, proto, frm, to, op⟩ := h
  simp only at *
  cases hold <;> cases more
  · go_enter Try.func39, Try.ntmps39
    go_wp2
    go_ret
    refine ⟨ret_u64 ?_, unhide BEL _⟩
    rw [← unhide HF]
    simp [Rh.hd, Hd.flags]
    omega
  · go_enter Try.func39, Try.ntmps39
    go_wp2
    rw [iorB (by omega) (by omega)]
    go_ret
    refine ⟨ret_u64 ?_, unhide BEL _⟩
    rw [← unhide HF]
    simp [Rh.hd, Hd.flags]
    omega
  · go_enter Try.func39, Try.ntmps39
    go_wp2
    rw [iorA (by omega) (by omega)]
    go_ret
    refine ⟨ret_u64 ?_, unhide BEL _⟩
    rw [← unhide HF]
    simp [Rh.hd, Hd.flags]
    omega
  · go_enter Try.func39, Try.ntmps39
    go_wp2
    rw [iorA (by omega) (by omega), iorC (by omega) (by omega)]
    go_ret
    refine ⟨ret_u64 ?_, unhide BEL _⟩
    rw [← unhide HF]
    simp [Rh.hd, Hd.flags]
    omega

end Go.Proofs.Ytekljiakofmhnaa
