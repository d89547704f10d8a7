/- What no Near answers; a new one; the laws' alive(), over the loaded program. -/
import Derived.Test.YtjcigoojlmalnaaNt4
namespace Go.Proofs.Ytjcigoojlmalnaa
open Go.RowKit Go.Maps

section
variable (ip num mac now : Int) (asked : Bool) (w : World)
theorem find_nil : Calls Try.prog 8 #[.pointer none, .int .u32 ip, .int .u64 num, .int .i64 now] w fun e w' => e = .returned (.tuple #[.int .u64 0, .bool false, .bool false, .int .i64 1]) ∧ w' = w := by
  have H := hide made_nil
  go_enter Try.func8, Try.ntmps8
  go_wp2_with fail
  refine (unhide H _).mono ?_
  rintro e w1 ⟨rfl, rfl⟩
  go_wp2
  refine bodyPost_ret (v := .tuple #[.int .u64 0, .bool false, .bool false, .int .i64 1]) (by simp [results, Try.results8, go_sem]) rfl ⟨rfl, rfl⟩
theorem hear_nil : Calls Try.prog 9 #[.pointer none, .int .u32 ip, .int .u64 mac, .bool asked, .int .i64 now] w fun e w' => e = .returned (.slice none 0 0) ∧ w' = w := by
  have H := hide made_nil
  go_enter Try.func9, Try.ntmps9
  go_wp2_with fail
  refine (unhide H _).mono ?_
  rintro e w1 ⟨rfl, rfl⟩
  go_wp2
  go_ret
  exact ⟨rfl, rfl⟩
theorem state_nil : Calls Try.prog 12 #[.pointer none, .int .u32 ip] w fun e w' => e = .returned (.int .u8 0) ∧ w' = w := by
  have H := hide made_nil
  go_enter Try.func12, Try.ntmps12
  go_wp2_with fail
  refine (unhide H _).mono ?_
  rintro e w1 ⟨rfl, rfl⟩
  go_wp2
  go_ret
  exact ⟨rfl, rfl⟩
theorem waits_nil : Calls Try.prog 11 #[.pointer none] w fun e w' => e = .returned (.slice none 0 0) ∧ w' = w := by
  have H := hide made_nil
  go_enter Try.func11, Try.ntmps11
  go_wp2_with fail
  refine (unhide H _).mono ?_
  rintro e w1 ⟨rfl, rfl⟩
  go_wp2
  go_ret
  exact ⟨rfl, rfl⟩
theorem next_nil : Calls Try.prog 13 #[.pointer none] w fun e w' => e = .returned (.tuple #[.int .i64 0, .bool false]) ∧ w' = w := by
  have H := hide made_nil
  go_enter Try.func13, Try.ntmps13
  go_wp2_with fail
  refine (unhide H _).mono ?_
  rintro e w1 ⟨rfl, rfl⟩
  go_wp2
  go_ret2
  exact ⟨rfl, rfl⟩
set_option maxRecDepth 100000 in
theorem tick_nil : Calls Try.prog 10 #[.pointer none, .int .i64 now] w fun e w' => e = .returned (.tuple #[.slice none 0 0, .slice none 0 0]) ∧ Below w.heap.size w w' := by
  have H := hide made_nil
  go_enter Try.func10, Try.ntmps10
  go_wp2_with fail
  refine (unhide H _).mono ?_
  rintro e w1 ⟨rfl, rfl⟩
  go_wp2
  refine bodyPost_ret (v := .tuple #[.slice none 0 0, .slice none 0 0]) (by simp [results, Try.results10, go_sem]) rfl ⟨rfl, ?_⟩
  exact (((Below.refl _ _).alloc (Nat.le_refl _) _).alloc (by simp) _).alloc (by simp; omega) _
end

/-- a new one -/
theorem new_pn {c : Cf} (hc : c.Ok) {No : Nat → Prop} (w : World) (hN : ∀ i, No i → i < w.heap.size) :
    Calls Try.prog 6 #[.agg #[.int .i64 (c.most : Int), .int .i64 (c.waits : Int), .int .i64 (c.each : Int), .int .i64 (c.known : Int), .int .i64 (c.asks : Int), .int .i64 (c.pause : Int)]] w fun e w' => ∃ p b, e = .returned (.tuple #[.pointer (some ⟨p, 0, none⟩), .int .i64 0]) ∧ PN No w' p b c 0 [] ∧ Below w.heap.size w w' := by
  obtain ⟨m1, m2, hw, he, k1, k2, a1, a2, p1, p2⟩ := hc
  have hm : mayB c.most c.waits c.each c.known c.asks c.pause = true := by
    unfold mayB
    exact decide_eq_true (by omega)
  refine (new_ok c.most c.waits c.each c.known c.asks c.pause w hm).mono ?_
  rintro e w' ⟨p, b, rfl, hB, hp, hb, hbox, hmap⟩
  refine ⟨p, b, rfl, ⟨fun _ => .slice none 0 0, hbox, hmap, fun x hx => by simp at hx, fun x hx => by simp at hx, fun k => ?_, fun k => ?_, fun x hx => by simp at hx, ?_, ⟨m1, m2, hw, he, k1, k2, a1, a2, p1, p2⟩, fun i hi => Nat.lt_of_lt_of_le (hN i hi) hB.size⟩, hB⟩
  · have := hN _ k; omega
  · have := hN _ k; omega
  · exact ⟨List.Pairwise.nil, fun x hx => by simp at hx, fun x hx => by simp at hx, fun x hx => by simp at hx, fun x hx => by simp at hx, fun x hx => by simp at hx, fun x hx => by simp at hx, by simp [tot], by omega, fun x hx => by simp at hx, fun x hx => by simp at hx⟩

/-! ### alive -/
def cA : Cf := ⟨2, 4, 2, 10, 2, 3⟩
theorem cA_ok : cA.Ok := ⟨by decide, by decide, by decide, by decide, by decide, by decide, by decide, by decide, by decide, by decide⟩
theorem conf_any (w : World) : Calls Try.prog 15 #[] w fun e w' => e = .returned (.agg #[.int .i64 2, .int .i64 4, .int .i64 2, .int .i64 10, .int .i64 2, .int .i64 3]) ∧ Below w.heap.size w w' := by
  go_enter Try.func15, Try.ntmps15
  go_wp2
  refine bodyPost_ret (v := .agg #[.int .i64 2, .int .i64 4, .int .i64 2, .int .i64 10, .int .i64 2, .int .i64 3]) (by simp [results, Try.results15, go_sem]) rfl ⟨rfl, (Below.refl _ _).alloc (Nat.le_refl _) _⟩

section
variable {No : Nat → Prop} {p b : Nat} {c : Cf} {last : Nat} {L : Ens}
def FEnd (No : Nat → Prop) (p b : Nat) (c : Cf) (last : Nat) (L : Ens) (w w' : World) : Prop := PN No w' p b c last L ∧ Ks No w w'
/-- Find, its answer worked out -/
theorem find_at {r : Fr} {ip num now : Nat} (hr : findN c last L ip num now = r) (hip : ip < 12) (hnum : num < 18446744073709551616) (hn : now ≤ 17592186044416) (w : World) (h : PN No w p b c last L) :
    Calls Try.prog 8 #[.pointer (some ⟨p, 0, none⟩), .int .u32 (ip : Int), .int .u64 (num : Int), .int .i64 (now : Int)] w fun e w' =>
      e = .returned (.tuple #[.int .u64 (r.mac : Int), .bool r.known, .bool r.asks, .int .i64 (r.err : Int)]) ∧ FEnd No p b c r.last r.L w w' := by
  subst hr
  exact find_any h hip hnum hn
structure TickN (No : Nat → Prop) (w : World) (p b : Nat) (c : Cf) (T : Nat) (A O : List Nat) (L' : Ens) (va vl : Value) (w' : World) : Prop where
  ra : w'.ownsRow 0 35 1 va A.length (A.map v32)
  rl : w'.ownsRow 0 31 1 vl O.length (u64s O)
  pn : PN (fun i => No i ∨ va.ownBlock = some i ∨ vl.ownBlock = some i) w' p b c T L'
  ks : Ks No w w'
  nra : ∀ g, va.ownBlock = some g → ¬ No g
  nrl : ∀ g, vl.ownBlock = some g → ¬ No g
theorem tick_at {A O : List Nat} {L' : Ens} {now T : Nat} (hT : max last now = T) (hA : asksN c (dueN T L) = A) (hO : lostN c (dueN T L) = O) (hL : tickN c T L = L') (hn : now ≤ 17592186044416) (w : World) (h : PN No w p b c last L) :
    Calls Try.prog 10 #[.pointer (some ⟨p, 0, none⟩), .int .i64 (now : Int)] w fun e w' => ∃ sa ca sb cb, e = .returned (.tuple #[.slice sa A.length ca, .slice sb O.length cb]) ∧ TickN No w p b c T A O L' (.slice sa A.length ca) (.slice sb O.length cb) w' := by
  subst hT hA hO hL
  refine (tick_any h hn).mono ?_
  rintro e w' ⟨va, vl, rfl, hE⟩
  obtain ⟨sa, ca, hva⟩ := row_shape hE.ra
  obtain ⟨sb, cb, hvl⟩ := row_shape hE.rl
  refine ⟨sa, ca, sb, cb, by rw [hva, hvl], ?_⟩
  rw [← hva, ← hvl]
  exact ⟨hE.ra, hE.rl, hE.pn, hE.ks, hE.nra, hE.nrl⟩
structure HearN (No : Nat → Prop) (w : World) (p b : Nat) (c : Cf) (T : Nat) (O : List Nat) (L' : Ens) (v : Value) (w' : World) : Prop where
  row : w'.ownsRow 0 31 1 v O.length (u64s O)
  nr : ∀ g, v.ownBlock = some g → ¬ No g
  pn : PN (fun i => No i ∨ v.ownBlock = some i) w' p b c T L'
  ks : Ks No w w'
theorem hear_at {O : List Nat} {L' : Ens} {ip mac now T : Nat} {asked : Bool} (hr : hearN c last L ip mac asked now = (O, L', T)) (hip : ip < 12) (hm : mac < 18446744073709551616) (hn : now ≤ 17592186044416) (w : World) (h : PN No w p b c last L) :
    Calls Try.prog 9 #[.pointer (some ⟨p, 0, none⟩), .int .u32 (ip : Int), .int .u64 (mac : Int), .bool asked, .int .i64 (now : Int)] w fun e w' => ∃ sp sc, e = .returned (.slice sp O.length sc) ∧ HearN No w p b c T O L' (.slice sp O.length sc) w' := by
  have h1 := hear_any (asked := asked) h hip hm hn
  rw [hr] at h1
  refine h1.mono ?_
  rintro e w' ⟨sp, sc, rfl, a1, a2, a3, a4⟩
  exact ⟨sp, sc, rfl, a1, a2, a3, a4⟩
theorem state_at {ip s : Nat} (hs : stN ip L = s) (hip : ip < 12) (w : World) (h : PN No w p b c last L) :
    Calls Try.prog 12 #[.pointer (some ⟨p, 0, none⟩), .int .u32 (ip : Int)] w fun e w' => e = .returned (.int .u8 (s : Int)) ∧ w' = w := by
  subst hs
  exact state_any h hip
theorem row_one {e : Nat} {w : World} {v u : Value} {us : List Value} {n : Nat} (h : w.ownsRow 0 e 1 v n (u :: us)) : ∃ g cap, v = .slice (some ⟨g, 0, none⟩) n cap ∧ w.cell? ⟨g, 0, none⟩ = some u := by
  have hn : n = us.length + 1 := by have := h.1; simpa using this.symm
  subst hn
  obtain ⟨g, cap, rfl⟩ := ownsRow_succ h
  exact ⟨g, cap, rfl, by have := h.cellAt 0 (by omega); simpa using this⟩
end

set_option maxRecDepth 100000 in
set_option maxHeartbeats 2000000 in
theorem alive_any (w : World) : Calls Try.prog 7 #[] w fun e w' => e = .returned (.bool true) ∧ Below w.heap.size w w' := by
  have HC := hide conf_any
  have HN : Hid (∀ W, Below w.heap.size w W → Calls Try.prog 6 #[.agg #[.int .i64 2, .int .i64 4, .int .i64 2, .int .i64 10, .int .i64 2, .int .i64 3]] W fun e w' => ∃ p b, e = .returned (.tuple #[.pointer (some ⟨p, 0, none⟩), .int .i64 0]) ∧ PN (fun i => i < w.heap.size) w' p b cA 0 [] ∧ Below W.heap.size W w') := fun W hW => new_pn cA_ok W (fun i hi => Nat.lt_of_lt_of_le hi hW.size)
  go_enter Try.func7, Try.ntmps7
  go_wp2_with fail
  refine (unhide HC _).mono ?_
  rintro e w1 ⟨rfl, hB1⟩
  go_wp2_with fail
  refine (unhide HN _ hB1).mono ?_
  rintro e w2 ⟨p, b, rfl, hP, hB⟩
  have HP := hide hP
  have HK : Hid (Ks (fun i => i < w.heap.size) w w2) := Ks.of_below (tr2 hB1 hB)
  clear hP hB HC HN hB1
  have F1 : Hid (∀ W, PN (fun i => i < w.heap.size) W p b cA 0 [] → Calls Try.prog 8 #[.pointer (some ⟨p, 0, none⟩), .int .u32 7, .int .u64 1, .int .i64 0] W fun e w' => e = .returned (.tuple #[.int .u64 0, .bool false, .bool true, .int .i64 0]) ∧ FEnd (fun i => i < w.heap.size) p b cA 0 [(7, ⟨1, 0, 3, 1, [1]⟩)] W w') := find_at (ip := 7) (num := 1) (now := 0) (r := ⟨0, false, true, 0, [(7, ⟨1, 0, 3, 1, [1]⟩)], 0⟩) rfl (by decide) (by decide) (by decide)
  go_wp2_with fail
  refine (unhide F1 _ (unhide HP)).mono ?_
  rintro e W1 ⟨rfl, hP, hK⟩
  have HP := hide hP
  have HK := hide ((unhide HK).trans (hK.mono (fun _ h => h)))
  clear hP F1
  have F2 : Hid (∀ W, PN (fun i => i < w.heap.size) W p b cA 0 [(7, ⟨1, 0, 3, 1, [1]⟩)] → Calls Try.prog 8 #[.pointer (some ⟨p, 0, none⟩), .int .u32 7, .int .u64 2, .int .i64 1] W fun e w' => e = .returned (.tuple #[.int .u64 0, .bool false, .bool false, .int .i64 0]) ∧ FEnd (fun i => i < w.heap.size) p b cA 1 [(7, ⟨1, 0, 3, 1, [1, 2]⟩)] W w') := find_at (ip := 7) (num := 2) (now := 1) (r := ⟨0, false, false, 0, [(7, ⟨1, 0, 3, 1, [1, 2]⟩)], 1⟩) rfl (by decide) (by decide) (by decide)
  go_wp2_with fail
  refine (unhide F2 _ (unhide HP)).mono ?_
  rintro e W2 ⟨rfl, hP, hK⟩
  have HP := hide hP
  have HK := hide ((unhide HK).trans (hK.mono (fun _ h => h)))
  clear hP F2
  have F3 : Hid (∀ W, PN (fun i => i < w.heap.size) W p b cA 1 [(7, ⟨1, 0, 3, 1, [1, 2]⟩)] → Calls Try.prog 9 #[.pointer (some ⟨p, 0, none⟩), .int .u32 7, .int .u64 5, .bool false, .int .i64 2] W fun e w' => ∃ sp sc, e = .returned (.slice sp 2 sc) ∧ HearN (fun i => i < w.heap.size) W p b cA 2 [1, 2] [(7, ⟨2, 5, 12, 0, []⟩)] (.slice sp 2 sc) w') := hear_at (ip := 7) (mac := 5) (now := 2) (asked := false) (T := 2) (O := [1, 2]) (L' := [(7, ⟨2, 5, 12, 0, []⟩)]) rfl (by decide) (by decide) (by decide)
  go_wp2_with fail
  refine (unhide F3 _ (unhide HP)).mono ?_
  rintro e W3 ⟨sp, sc, rfl, hH⟩
  obtain ⟨gl, cl, hsl, hcl⟩ := row_one (u := .int .u64 1) (us := [.int .u64 2]) hH.row
  rw [hsl]
  have HP : Hid (PN (fun i => i < w.heap.size ∨ i = gl) W3 p b cA 2 [(7, ⟨2, 5, 12, 0, []⟩)]) := hH.pn.less (fun i hi => hi.imp id (fun e => by rw [hsl, e]; rfl))
  have HK := hide ((unhide HK).trans hH.ks)
  have HCL := hide hcl
  clear hH F3 hsl hcl
  have F4 : Hid (∀ W, PN (fun i => i < w.heap.size ∨ i = gl) W p b cA 2 [(7, ⟨2, 5, 12, 0, []⟩)] → Calls Try.prog 8 #[.pointer (some ⟨p, 0, none⟩), .int .u32 7, .int .u64 3, .int .i64 4] W fun e w' => e = .returned (.tuple #[.int .u64 5, .bool true, .bool false, .int .i64 0]) ∧ FEnd (fun i => i < w.heap.size ∨ i = gl) p b cA 4 [(7, ⟨2, 5, 12, 0, []⟩)] W w') := find_at (ip := 7) (num := 3) (now := 4) (r := ⟨5, true, false, 0, [(7, ⟨2, 5, 12, 0, []⟩)], 4⟩) rfl (by decide) (by decide) (by decide)
  go_wp2_with fail
  refine (unhide F4 _ (unhide HP)).mono ?_
  rintro e W4 ⟨rfl, hP, hK⟩
  have HP := hide hP
  have HK := hide ((unhide HK).trans (hK.mono (fun _ h => .inl h)))
  have HCL := hide (hK.cell (unhide HCL) (.inr rfl))
  clear hP F4
  have F5 : Hid (∀ W, PN (fun i => i < w.heap.size ∨ i = gl) W p b cA 4 [(7, ⟨2, 5, 12, 0, []⟩)] → Calls Try.prog 10 #[.pointer (some ⟨p, 0, none⟩), .int .i64 12] W fun e w' => ∃ sa ca sb cb, e = .returned (.tuple #[.slice sa 0 ca, .slice sb 0 cb]) ∧ TickN (fun i => i < w.heap.size ∨ i = gl) W p b cA 12 [] [] [(7, ⟨3, 5, 22, 0, []⟩)] (.slice sa 0 ca) (.slice sb 0 cb) w') := tick_at (now := 12) (T := 12) (A := []) (O := []) (L' := [(7, ⟨3, 5, 22, 0, []⟩)]) rfl rfl rfl rfl (by decide)
  go_wp2_with fail
  refine (unhide F5 _ (unhide HP)).mono ?_
  rintro e W5 ⟨sa5, ca5, sb5, cb5, rfl, hT⟩
  have HP : Hid (PN (fun i => i < w.heap.size ∨ i = gl) W5 p b cA 12 [(7, ⟨3, 5, 22, 0, []⟩)]) := hT.pn.less (fun i hi => .inl hi)
  have HK := hide ((unhide HK).trans (hT.ks.mono (fun _ h => .inl h)))
  have HCL := hide (hT.ks.cell (unhide HCL) (.inr rfl))
  clear hT F5
  have F6 : Hid (∀ W, PN (fun i => i < w.heap.size ∨ i = gl) W p b cA 12 [(7, ⟨3, 5, 22, 0, []⟩)] → Calls Try.prog 12 #[.pointer (some ⟨p, 0, none⟩), .int .u32 7] W fun e w' => e = .returned (.int .u8 3) ∧ w' = W) := state_at (ip := 7) (s := 3) rfl (by decide)
  go_wp2_with fail
  refine (unhide F6 _ (unhide HP)).mono ?_
  rintro e W6 ⟨rfl, rfl⟩
  clear F6
  have F7 : Hid (∀ W, PN (fun i => i < w.heap.size ∨ i = gl) W p b cA 12 [(7, ⟨3, 5, 22, 0, []⟩)] → Calls Try.prog 8 #[.pointer (some ⟨p, 0, none⟩), .int .u32 7, .int .u64 4, .int .i64 13] W fun e w' => e = .returned (.tuple #[.int .u64 5, .bool true, .bool true, .int .i64 0]) ∧ FEnd (fun i => i < w.heap.size ∨ i = gl) p b cA 13 [(7, ⟨3, 5, 16, 1, []⟩)] W w') := find_at (ip := 7) (num := 4) (now := 13) (r := ⟨5, true, true, 0, [(7, ⟨3, 5, 16, 1, []⟩)], 13⟩) rfl (by decide) (by decide) (by decide)
  go_wp2_with fail
  refine (unhide F7 _ (unhide HP)).mono ?_
  rintro e W7 ⟨rfl, hP, hK⟩
  have HP := hide hP
  have HK := hide ((unhide HK).trans (hK.mono (fun _ h => .inl h)))
  have HCL := hide (hK.cell (unhide HCL) (.inr rfl))
  clear hP F7
  have F8 : Hid (∀ W, PN (fun i => i < w.heap.size ∨ i = gl) W p b cA 13 [(7, ⟨3, 5, 16, 1, []⟩)] → Calls Try.prog 10 #[.pointer (some ⟨p, 0, none⟩), .int .i64 16] W fun e w' => ∃ sa ca sb cb, e = .returned (.tuple #[.slice sa 1 ca, .slice sb 0 cb]) ∧ TickN (fun i => i < w.heap.size ∨ i = gl) W p b cA 16 [7] [] [(7, ⟨3, 5, 19, 2, []⟩)] (.slice sa 1 ca) (.slice sb 0 cb) w') := tick_at (now := 16) (T := 16) (A := [7]) (O := []) (L' := [(7, ⟨3, 5, 19, 2, []⟩)]) rfl rfl rfl rfl (by decide)
  go_wp2_with fail
  refine (unhide F8 _ (unhide HP)).mono ?_
  rintro e W8 ⟨sa8, ca8, sb8, cb8, rfl, hT⟩
  obtain ⟨gx, cx, hsx, hcx⟩ := row_one (u := .int .u32 7) (us := []) hT.ra
  rw [hsx]
  have HP : Hid (PN (fun i => (i < w.heap.size ∨ i = gl) ∨ i = gx) W8 p b cA 16 [(7, ⟨3, 5, 19, 2, []⟩)]) := hT.pn.less (fun i hi => hi.imp id (fun e => .inl (by rw [hsx, e]; rfl)))
  have HK := hide ((unhide HK).trans (hT.ks.mono (fun _ h => .inl h)))
  have HCL := hide (hT.ks.cell (unhide HCL) (.inr rfl))
  have HCX := hide hcx
  clear hT F8 hsx hcx
  have F9 : Hid (∀ W, PN (fun i => (i < w.heap.size ∨ i = gl) ∨ i = gx) W p b cA 16 [(7, ⟨3, 5, 19, 2, []⟩)] → Calls Try.prog 10 #[.pointer (some ⟨p, 0, none⟩), .int .i64 19] W fun e w' => ∃ sa ca sb cb, e = .returned (.tuple #[.slice sa 0 ca, .slice sb 0 cb]) ∧ TickN (fun i => (i < w.heap.size ∨ i = gl) ∨ i = gx) W p b cA 19 [] [] [] (.slice sa 0 ca) (.slice sb 0 cb) w') := tick_at (now := 19) (T := 19) (A := []) (O := []) (L' := []) rfl rfl rfl rfl (by decide)
  go_wp2_with fail
  refine (unhide F9 _ (unhide HP)).mono ?_
  rintro e W9 ⟨sa9, ca9, sb9, cb9, rfl, hT⟩
  have HP : Hid (PN (fun i => (i < w.heap.size ∨ i = gl) ∨ i = gx) W9 p b cA 19 []) := hT.pn.less (fun i hi => .inl hi)
  have HK := hide ((unhide HK).trans (hT.ks.mono (fun _ h => .inl (.inl h))))
  have hcl := hT.ks.cell (unhide HCL) (.inl (.inr rfl))
  have hcx := hT.ks.cell (unhide HCX) (.inr rfl)
  clear hT F9 HCL HCX
  have F10 : Hid (∀ W, PN (fun i => (i < w.heap.size ∨ i = gl) ∨ i = gx) W p b cA 19 [] → Calls Try.prog 12 #[.pointer (some ⟨p, 0, none⟩), .int .u32 7] W fun e w' => e = .returned (.int .u8 0) ∧ w' = W) := state_at (ip := 7) (s := 0) rfl (by decide)
  go_wp2_with fail
  refine (unhide F10 _ (unhide HP)).mono ?_
  rintro e W10 ⟨rfl, rfl⟩
  go_wp2
  go_ret
  exact ⟨rfl, (unhide HK).below (Nat.le_refl _) (fun _ h => h)⟩
end Go.Proofs.Ytjcigoojlmalnaa
