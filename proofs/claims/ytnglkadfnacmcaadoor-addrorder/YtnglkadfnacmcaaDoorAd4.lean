/- The contract of package addr's Kind, over the loaded program; no memory that was there has turned. Conditions: numbers in their kinds' bounds. -/
import Derived.Test.YtnglkadfnacmcaaDoorAd0
import Derived.Stop.BytesEq
import Derived.Laws.EntriesVeiled
namespace Go.Proofs.YtnglkadfnacmcaaDoor
open Go.RowKit

theorem ret_bool {a b : Bool} (h : a = b) : Ending.returned (.bool a) = .returned (.bool b) := by rw [h]

/-- four bytes in a block -/
structure Box4 (w : World) (b : Nat) (c0 c1 c2 c3 : UInt8) : Prop where
  lt : b < w.heap.size
  e0 : w.cell? ⟨b, 0, none⟩ = some (.int .u8 (c0.toNat : Int))
  e1 : w.cell? ⟨b, 1, none⟩ = some (.int .u8 (c1.toNat : Int))
  e2 : w.cell? ⟨b, 2, none⟩ = some (.int .u8 (c2.toNat : Int))
  e3 : w.cell? ⟨b, 3, none⟩ = some (.int .u8 (c3.toNat : Int))
theorem Box4.on {w w' : World} {b : Nat} {c0 c1 c2 c3 : UInt8} (k : Box4 w b c0 c1 c2 c3) (h : Below w.heap.size w w') : Box4 w' b c0 c1 c2 c3 :=
  ⟨Nat.lt_of_lt_of_le k.lt h.size, (h.cell k.lt).trans k.e0, (h.cell k.lt).trans k.e1, (h.cell k.lt).trans k.e2, (h.cell k.lt).trans k.e3⟩

set_option maxHeartbeats 1000000 in
theorem k1_any (b : Nat) (c0 c1 c2 c3 : UInt8) (w : World) (k : Box4 w b c0 c1 c2 c3) :
    Calls Tryd.prog 45 #[.pointer (some ⟨b, 0, none⟩)] w fun e w' => e = .returned (.bool ([c0, c1, c2, c3] == [0, 0, 0, 0])) ∧ w' = w := by
  have he : ∀ w, (binOp .eql 48 (.agg #[.int .u8 (c0.toNat : Int), .int .u8 (c1.toNat : Int), .int .u8 (c2.toNat : Int), .int .u8 (c3.toNat : Int)]) (.agg #[.int .u8 0, .int .u8 0, .int .u8 0, .int .u8 0])).run Tryd.prog w = .ok (.bool ([c0, c1, c2, c3] == [0, 0, 0, 0])) w := fun w =>
    run_eql_bytes w 48 5 4 Tryd.underlying48 Tryd.underlying5 Tryd.sizeOf5 [c0, c1, c2, c3] [0, 0, 0, 0] rfl rfl
  obtain ⟨_, e0, e1, e2, e3⟩ := k
  generalize ([c0, c1, c2, c3] == [0, 0, 0, 0]) = r at *
  go_enter Tryd.func45, Tryd.ntmps45
  go_wp2
  go_ret
  exact ⟨rfl, rfl⟩

set_option maxHeartbeats 1000000 in
theorem k2_any (b : Nat) (c0 c1 c2 c3 : UInt8) (w : World) (k : Box4 w b c0 c1 c2 c3) :
    Calls Tryd.prog 46 #[.pointer (some ⟨b, 0, none⟩)] w fun e w' => e = .returned (.bool ([c0, c1, c2, c3] == [255, 255, 255, 255])) ∧ w' = w := by
  have he : ∀ w, (binOp .eql 48 (.agg #[.int .u8 (c0.toNat : Int), .int .u8 (c1.toNat : Int), .int .u8 (c2.toNat : Int), .int .u8 (c3.toNat : Int)]) (.agg #[.int .u8 255, .int .u8 255, .int .u8 255, .int .u8 255])).run Tryd.prog w = .ok (.bool ([c0, c1, c2, c3] == [255, 255, 255, 255])) w := fun w =>
    run_eql_bytes w 48 5 4 Tryd.underlying48 Tryd.underlying5 Tryd.sizeOf5 [c0, c1, c2, c3] [255, 255, 255, 255] rfl rfl
  obtain ⟨_, e0, e1, e2, e3⟩ := k
  generalize ([c0, c1, c2, c3] == [255, 255, 255, 255]) = r at *
  go_enter Tryd.func46, Tryd.ntmps46
  go_wp2
  go_ret
  exact ⟨rfl, rfl⟩

set_option maxHeartbeats 1000000 in
theorem k3_any (b : Nat) (c0 c1 c2 c3 : UInt8) (w : World) (k : Box4 w b c0 c1 c2 c3) :
    Calls Tryd.prog 47 #[.pointer (some ⟨b, 0, none⟩)] w fun e w' => e = .returned (.bool (decide (c0.toNat = 127))) ∧ w' = w := by
  obtain ⟨_, e0, _, _, _⟩ := k
  have hlt := c0.toNat_lt
  generalize c0.toNat = x at *
  by_cases h : x = 127
  · rw [decide_eq_true h]
    skip
    go_enter Tryd.func47, Tryd.ntmps47
    go_wp2
    all_goals (go_ret; exact ⟨ret_bool (by first | rfl | (simp; omega)), rfl⟩)
  · rw [decide_eq_false h]
    go_enter Tryd.func47, Tryd.ntmps47
    go_wp2
    all_goals (go_ret; exact ⟨ret_bool (by first | rfl | (simp; omega)), rfl⟩)

set_option maxHeartbeats 1000000 in
theorem k4_any (b : Nat) (c0 c1 c2 c3 : UInt8) (w : World) (k : Box4 w b c0 c1 c2 c3) :
    Calls Tryd.prog 48 #[.pointer (some ⟨b, 0, none⟩)] w fun e w' => e = .returned (.bool (decide (224 ≤ c0.toNat ∧ c0.toNat ≤ 239))) ∧ w' = w := by
  obtain ⟨_, e0, _, _, _⟩ := k
  have hlt := c0.toNat_lt
  generalize c0.toNat = x at *
  by_cases h : 224 ≤ x ∧ x ≤ 239
  · rw [decide_eq_true h]
    obtain ⟨h1, h2⟩ := h
    go_enter Tryd.func48, Tryd.ntmps48
    go_wp2
    all_goals (go_ret; exact ⟨ret_bool (by first | rfl | (simp; omega)), rfl⟩)
  · rw [decide_eq_false h]
    go_enter Tryd.func48, Tryd.ntmps48
    go_wp2
    all_goals (go_ret; exact ⟨ret_bool (by first | rfl | (simp; omega)), rfl⟩)

set_option maxHeartbeats 1000000 in
theorem k5_any (b : Nat) (c0 c1 c2 c3 : UInt8) (w : World) (k : Box4 w b c0 c1 c2 c3) :
    Calls Tryd.prog 49 #[.pointer (some ⟨b, 0, none⟩)] w fun e w' => e = .returned (.bool (decide (240 ≤ c0.toNat))) ∧ w' = w := by
  obtain ⟨_, e0, _, _, _⟩ := k
  have hlt := c0.toNat_lt
  generalize c0.toNat = x at *
  by_cases h : 240 ≤ x
  · rw [decide_eq_true h]
    skip
    go_enter Tryd.func49, Tryd.ntmps49
    go_wp2
    all_goals (go_ret; exact ⟨ret_bool (by first | rfl | (simp; omega)), rfl⟩)
  · rw [decide_eq_false h]
    go_enter Tryd.func49, Tryd.ntmps49
    go_wp2
    all_goals (go_ret; exact ⟨ret_bool (by first | rfl | (simp; omega)), rfl⟩)

set_option maxHeartbeats 1000000 in
theorem kinds_any (c0 c1 c2 c3 : UInt8) (w : World) :
    Calls Tryd.prog 33 #[.agg #[.int .u8 (c0.toNat : Int), .int .u8 (c1.toNat : Int), .int .u8 (c2.toNat : Int), .int .u8 (c3.toNat : Int)]] w fun e w' => e = .returned (.slice (some ⟨w.heap.size + 1, 0, none⟩) 5 5) ∧
      w' = (w.alloc (.cells #[.int .u8 (c0.toNat : Int), .int .u8 (c1.toNat : Int), .int .u8 (c2.toNat : Int), .int .u8 (c3.toNat : Int)] 48)).alloc (.cells #[.int .u8 1, Value.func (Fn.func 45) #[] #[Value.pointer (some ⟨w.heap.size, 0, none⟩)], .int .u8 5, Value.func (Fn.func 46) #[] #[Value.pointer (some ⟨w.heap.size, 0, none⟩)], .int .u8 2, Value.func (Fn.func 47) #[] #[Value.pointer (some ⟨w.heap.size, 0, none⟩)], .int .u8 3, Value.func (Fn.func 48) #[] #[Value.pointer (some ⟨w.heap.size, 0, none⟩)], .int .u8 4, Value.func (Fn.func 49) #[] #[Value.pointer (some ⟨w.heap.size, 0, none⟩)]] 62) := by
  go_enter Tryd.func33, Tryd.ntmps33
  go_wp2
  go_ret
  exact ⟨rfl, rfl⟩

/-- what stands while the row of kinds is gone through -/
structure KS (w : World) (c0 c1 c2 c3 : UInt8) (w' : World) : Prop where
  box : Box4 w' w.heap.size c0 c1 c2 c3
  bel : Below w.heap.size w w'
  lt : w.heap.size + 1 < w'.heap.size
  n1 : w'.cell? ⟨w.heap.size + 1, 0, none⟩ = some (.int .u8 1)
  f1 : w'.cell? ⟨w.heap.size + 1, 1, none⟩ = some (Value.func (Fn.func 45) #[] #[Value.pointer (some ⟨w.heap.size, 0, none⟩)])
  n2 : w'.cell? ⟨w.heap.size + 1, 2, none⟩ = some (.int .u8 5)
  f2 : w'.cell? ⟨w.heap.size + 1, 3, none⟩ = some (Value.func (Fn.func 46) #[] #[Value.pointer (some ⟨w.heap.size, 0, none⟩)])
  n3 : w'.cell? ⟨w.heap.size + 1, 4, none⟩ = some (.int .u8 2)
  f3 : w'.cell? ⟨w.heap.size + 1, 5, none⟩ = some (Value.func (Fn.func 47) #[] #[Value.pointer (some ⟨w.heap.size, 0, none⟩)])
  n4 : w'.cell? ⟨w.heap.size + 1, 6, none⟩ = some (.int .u8 3)
  f4 : w'.cell? ⟨w.heap.size + 1, 7, none⟩ = some (Value.func (Fn.func 48) #[] #[Value.pointer (some ⟨w.heap.size, 0, none⟩)])
  n5 : w'.cell? ⟨w.heap.size + 1, 8, none⟩ = some (.int .u8 4)
  f5 : w'.cell? ⟨w.heap.size + 1, 9, none⟩ = some (Value.func (Fn.func 49) #[] #[Value.pointer (some ⟨w.heap.size, 0, none⟩)])
theorem KS.on {w w1 w2 : World} {c0 c1 c2 c3 : UInt8} (k : KS w c0 c1 c2 c3 w1) (h : Below w1.heap.size w1 w2) : KS w c0 c1 c2 c3 w2 :=
  ⟨k.box.on h, tr2 k.bel h, Nat.lt_of_lt_of_le k.lt h.size, (h.cell k.lt).trans k.n1, (h.cell k.lt).trans k.f1, (h.cell k.lt).trans k.n2, (h.cell k.lt).trans k.f2, (h.cell k.lt).trans k.n3, (h.cell k.lt).trans k.f3, (h.cell k.lt).trans k.n4, (h.cell k.lt).trans k.f4, (h.cell k.lt).trans k.n5, (h.cell k.lt).trans k.f5⟩
theorem KS.start (w : World) (c0 c1 c2 c3 : UInt8) (w' : World) (h : w' = (w.alloc (.cells #[.int .u8 (c0.toNat : Int), .int .u8 (c1.toNat : Int), .int .u8 (c2.toNat : Int), .int .u8 (c3.toNat : Int)] 48)).alloc (.cells #[.int .u8 1, Value.func (Fn.func 45) #[] #[Value.pointer (some ⟨w.heap.size, 0, none⟩)], .int .u8 5, Value.func (Fn.func 46) #[] #[Value.pointer (some ⟨w.heap.size, 0, none⟩)], .int .u8 2, Value.func (Fn.func 47) #[] #[Value.pointer (some ⟨w.heap.size, 0, none⟩)], .int .u8 3, Value.func (Fn.func 48) #[] #[Value.pointer (some ⟨w.heap.size, 0, none⟩)], .int .u8 4, Value.func (Fn.func 49) #[] #[Value.pointer (some ⟨w.heap.size, 0, none⟩)]] 62)) : KS w c0 c1 c2 c3 w' := by
  subst h
  have hz : ∀ o, (w.alloc o).heap.size = w.heap.size + 1 := fun o => by simp
  have b2 := fun o o' => below_one (w.alloc o) o'
  have h1 := fun o => heap_alloc_new w o
  have h2 : ∀ o o', ((w.alloc o).alloc o').heap[w.heap.size + 1]? = some o' := fun o o' => by have := heap_alloc_new (w.alloc o) o'; rwa [hz] at this
  have hc := fun o o' j => (b2 o o').cell (p := ⟨w.heap.size, j, none⟩) (by rw [hz]; exact Nat.lt_succ_self _)
  refine ⟨⟨by simp; omega, ?_, ?_, ?_, ?_⟩, (below_one w _).trans ((b2 _ _).mono (by simp)), by simp, ?_, ?_, ?_, ?_, ?_, ?_, ?_, ?_, ?_, ?_⟩
  · rw [hc, cell_of_row _ _ 0 _ _ _ (h1 _)]; rfl
  · rw [hc, cell_of_row _ _ 1 _ _ _ (h1 _)]; rfl
  · rw [hc, cell_of_row _ _ 2 _ _ _ (h1 _)]; rfl
  · rw [hc, cell_of_row _ _ 3 _ _ _ (h1 _)]; rfl
  · rw [cell_of_row _ _ 0 _ _ _ (h2 _ _)]; rfl
  · rw [cell_of_row _ _ 1 _ _ _ (h2 _ _)]; rfl
  · rw [cell_of_row _ _ 2 _ _ _ (h2 _ _)]; rfl
  · rw [cell_of_row _ _ 3 _ _ _ (h2 _ _)]; rfl
  · rw [cell_of_row _ _ 4 _ _ _ (h2 _ _)]; rfl
  · rw [cell_of_row _ _ 5 _ _ _ (h2 _ _)]; rfl
  · rw [cell_of_row _ _ 6 _ _ _ (h2 _ _)]; rfl
  · rw [cell_of_row _ _ 7 _ _ _ (h2 _ _)]; rfl
  · rw [cell_of_row _ _ 8 _ _ _ (h2 _ _)]; rfl
  · rw [cell_of_row _ _ 9 _ _ _ (h2 _ _)]; rfl

/-- an address's kind, by the answers of the row -/
def kindB (r1 r2 r3 r4 r5 : Bool) : Nat := if r1 then 1 else if r2 then 5 else if r3 then 2 else if r4 then 3 else if r5 then 4 else 0

set_option maxHeartbeats 4000000 in
theorem kind_walk (x : Nat) (w : World) (c0 c1 c2 c3 : UInt8) (r1 r2 r3 r4 r5 : Bool)
    (HS : Hid (∀ w, Calls Tryd.prog 28 #[.int .u32 (x : Int)] w fun e w' => e = .returned (.agg #[.int .u8 (c0.toNat : Int), .int .u8 (c1.toNat : Int), .int .u8 (c2.toNat : Int), .int .u8 (c3.toNat : Int)]) ∧ Below w.heap.size w w'))
    (H1 : Hid (∀ b w, Box4 w b c0 c1 c2 c3 → Calls Tryd.prog 45 #[.pointer (some ⟨b, 0, none⟩)] w fun e w' => e = .returned (.bool r1) ∧ w' = w))
    (H2 : Hid (∀ b w, Box4 w b c0 c1 c2 c3 → Calls Tryd.prog 46 #[.pointer (some ⟨b, 0, none⟩)] w fun e w' => e = .returned (.bool r2) ∧ w' = w))
    (H3 : Hid (∀ b w, Box4 w b c0 c1 c2 c3 → Calls Tryd.prog 47 #[.pointer (some ⟨b, 0, none⟩)] w fun e w' => e = .returned (.bool r3) ∧ w' = w))
    (H4 : Hid (∀ b w, Box4 w b c0 c1 c2 c3 → Calls Tryd.prog 48 #[.pointer (some ⟨b, 0, none⟩)] w fun e w' => e = .returned (.bool r4) ∧ w' = w))
    (H5 : Hid (∀ b w, Box4 w b c0 c1 c2 c3 → Calls Tryd.prog 49 #[.pointer (some ⟨b, 0, none⟩)] w fun e w' => e = .returned (.bool r5) ∧ w' = w)) :
    Calls Tryd.prog 13 #[.int .u32 (x : Int)] w fun e w' => e = .returned (.int .u8 (kindB r1 r2 r3 r4 r5 : Nat)) ∧ Below w.heap.size w w' := by
  have HK := hide (fun w => (kinds_any c0 c1 c2 c3 w).mono fun e w' h => (⟨h.1, KS.start w c0 c1 c2 c3 w' h.2⟩ : e = .returned (.slice (some ⟨w.heap.size + 1, 0, none⟩) 5 5) ∧ KS w c0 c1 c2 c3 w'))
  go_enter Tryd.func13, Tryd.ntmps13
  go_wp2_with fail
  refine (unhide HS _).mono ?_
  rintro e w1 ⟨rfl, b1⟩
  go_wp2_with fail
  refine (unhide HK _).mono ?_
  rintro e w2 ⟨rfl, k2⟩
  clear HS HK
  obtain ⟨⟨_, _, _, _, _⟩, _, _, n1, f1, n2, f2, n3, f3, n4, f4, n5, f5⟩ := id k2
  clear f2 f3 f4 f5 n2 n3 n4 n5
  go_wp2_with fail
  refine wp_loop_rounds 6 ?_
  rw [rounds_succ]; go_wp2_with fail
  have q1 := k2.on (below_one w2 (.cells #[.int .u8 1, Value.func (Fn.func 45) #[] #[Value.pointer (some ⟨w1.heap.size, 0, none⟩)]] 62))
  refine (unhide H1 _ _ q1.box).mono ?_
  rintro e v1 ⟨rfl, rfl⟩
  cases r1 with
  | true =>
    go_wp2_with fail
    go_ret
    exact ⟨rfl, tr2 b1 q1.bel⟩
  | false =>
  go_wp2_with fail
  have KK := hide q1
  clear q1 k2 n1 f1 H1
  generalize w2.alloc (.cells #[.int .u8 1, Value.func (Fn.func 45) #[] #[Value.pointer (some ⟨w1.heap.size, 0, none⟩)]] 62) = w3 at *
  have k3 := unhide KK
  have n2 := k3.n2
  have f2 := k3.f2
  rw [rounds_succ]; go_wp2_with fail
  have q2 := k3.on (below_one w3 (.cells #[.int .u8 5, Value.func (Fn.func 46) #[] #[Value.pointer (some ⟨w1.heap.size, 0, none⟩)]] 62))
  refine (unhide H2 _ _ q2.box).mono ?_
  rintro e v2 ⟨rfl, rfl⟩
  cases r2 with
  | true =>
    go_wp2_with fail
    go_ret
    exact ⟨rfl, tr2 b1 q2.bel⟩
  | false =>
  go_wp2_with fail
  have KK := hide q2
  clear q2 k3 n2 f2 H2
  generalize w3.alloc (.cells #[.int .u8 5, Value.func (Fn.func 46) #[] #[Value.pointer (some ⟨w1.heap.size, 0, none⟩)]] 62) = w4 at *
  have k4 := unhide KK
  have n3 := k4.n3
  have f3 := k4.f3
  rw [rounds_succ]; go_wp2_with fail
  have q3 := k4.on (below_one w4 (.cells #[.int .u8 2, Value.func (Fn.func 47) #[] #[Value.pointer (some ⟨w1.heap.size, 0, none⟩)]] 62))
  refine (unhide H3 _ _ q3.box).mono ?_
  rintro e v3 ⟨rfl, rfl⟩
  cases r3 with
  | true =>
    go_wp2_with fail
    go_ret
    exact ⟨rfl, tr2 b1 q3.bel⟩
  | false =>
  go_wp2_with fail
  have KK := hide q3
  clear q3 k4 n3 f3 H3
  generalize w4.alloc (.cells #[.int .u8 2, Value.func (Fn.func 47) #[] #[Value.pointer (some ⟨w1.heap.size, 0, none⟩)]] 62) = w5 at *
  have k5 := unhide KK
  have n4 := k5.n4
  have f4 := k5.f4
  rw [rounds_succ]; go_wp2_with fail
  have q4 := k5.on (below_one w5 (.cells #[.int .u8 3, Value.func (Fn.func 48) #[] #[Value.pointer (some ⟨w1.heap.size, 0, none⟩)]] 62))
  refine (unhide H4 _ _ q4.box).mono ?_
  rintro e v4 ⟨rfl, rfl⟩
  cases r4 with
  | true =>
    go_wp2_with fail
    go_ret
    exact ⟨rfl, tr2 b1 q4.bel⟩
  | false =>
  go_wp2_with fail
  have KK := hide q4
  clear q4 k5 n4 f4 H4
  generalize w5.alloc (.cells #[.int .u8 3, Value.func (Fn.func 48) #[] #[Value.pointer (some ⟨w1.heap.size, 0, none⟩)]] 62) = w6 at *
  have k6 := unhide KK
  have n5 := k6.n5
  have f5 := k6.f5
  rw [rounds_succ]; go_wp2_with fail
  have q5 := k6.on (below_one w6 (.cells #[.int .u8 4, Value.func (Fn.func 49) #[] #[Value.pointer (some ⟨w1.heap.size, 0, none⟩)]] 62))
  refine (unhide H5 _ _ q5.box).mono ?_
  rintro e v5 ⟨rfl, rfl⟩
  cases r5 with
  | true =>
    go_wp2_with fail
    go_ret
    exact ⟨rfl, tr2 b1 q5.bel⟩
  | false =>
  go_wp2_with fail
  have KK := hide q5
  clear q5 k6 n5 f5 H5
  generalize w6.alloc (.cells #[.int .u8 4, Value.func (Fn.func 49) #[] #[Value.pointer (some ⟨w1.heap.size, 0, none⟩)]] 62) = w7 at *
  have k7 := unhide KK
  rw [rounds_succ]; go_wp2_with fail
  go_ret
  exact ⟨rfl, tr2 b1 k7.bel⟩

theorem kind_any (x : Nat) (w : World) (hx : x < 4294967296) :
    Calls Tryd.prog 13 #[.int .u32 (x : Int)] w fun e w' => e = .returned (.int .u8 (kindB ([byt x 3, byt x 2, byt x 1, byt x 0] == [0, 0, 0, 0]) ([byt x 3, byt x 2, byt x 1, byt x 0] == [255, 255, 255, 255]) (decide ((byt x 3).toNat = 127)) (decide (224 ≤ (byt x 3).toNat ∧ (byt x 3).toNat ≤ 239)) (decide (240 ≤ (byt x 3).toNat)) : Nat)) ∧ Below w.heap.size w w' :=
  kind_walk x w _ _ _ _ _ _ _ _ _ (fun w => aspread_any x w hx) (fun b w k => k1_any b _ _ _ _ w k) (fun b w k => k2_any b _ _ _ _ w k) (fun b w k => k3_any b _ _ _ _ w k) (fun b w k => k4_any b _ _ _ _ w k) (fun b w k => k5_any b _ _ _ _ w k)

end Go.Proofs.YtnglkadfnacmcaaDoor
