/- firstOption and optionSize of package ip4, over the loaded program; no memory that was there has turned. -/
import Derived.Test.YtefenejeppmfiaaIo3
namespace Go.Proofs.Ytefenejeppmfiaa
open Go.RowKit

set_option maxHeartbeats 400000 in
theorem osize_any (x : Po) (w : World) (hx : x.2.size ≤ 1048576) :
    Calls Try.prog 39 #[poV x] w fun e w' => e = .returned (.int .i64 (poS x : Nat)) ∧ Below w.heap.size w w' := optsize_any x w hx

set_option maxHeartbeats 400000 in
theorem fst1_any (s : ByteArray) (p : Nat) (w : World) (cs : w.cell? ⟨p, 0, none⟩ = some (.string s)) (e0 : Int) (he : e0 = if 2 ≤ s.size then 0 else 102) :
    Calls Try.prog 79 #[.pointer (some ⟨p, 0, none⟩)] w fun e w' => e = .returned (.int .i64 e0) ∧ w' = w := by
  by_cases h : 2 ≤ s.size
  · rw [if_pos h] at he
    subst he
    have H2 := hide (fun w => unless_any true 102 w)
    have d1 : decide (2 ≤ (s.size : Int)) = true := decide_eq_true (by omega)
    clear h
    go_enter Try.func79, Try.ntmps79
    go_wp2_with fail
    refine (unhide H2 _).mono ?_
    rintro e w2 ⟨rfl, rfl⟩
    go_wp2_with fail
    go_ret
    exact ⟨rfl, rfl⟩
  · rw [if_neg h] at he
    subst he
    have H2 := hide (fun w => unless_any false 102 w)
    have d1 : decide (2 ≤ (s.size : Int)) = false := decide_eq_false (by omega)
    clear h
    go_enter Try.func79, Try.ntmps79
    go_wp2_with fail
    refine (unhide H2 _).mono ?_
    rintro e w2 ⟨rfl, rfl⟩
    go_wp2_with fail
    go_ret
    exact ⟨rfl, rfl⟩

set_option maxHeartbeats 1000000 in
theorem fst2_any (s : ByteArray) (p q : Nat) (w : World) (u : Value) (hs : 2 ≤ s.size) (M : Nat) (hM : M = byteAt s.data.toList 1) (hpq : p ≠ q) (cs : w.cell? ⟨p, 0, none⟩ = some (.string s)) (cq : w.cell? ⟨q, 0, none⟩ = some u) (fq : w.frozen? ⟨q, 0, none⟩ = false) (e0 : Int) (he : e0 = if 2 ≤ M ∧ M ≤ s.size then 0 else 102) :
    Calls Try.prog 80 #[.pointer (some ⟨p, 0, none⟩), .pointer (some ⟨q, 0, none⟩)] w fun e w' => e = .returned (.int .i64 e0) ∧ w' = w.setCell ⟨q, 0, none⟩ (.int .i64 (M : Int)) := by
  have hb := byteAt_eq (s := s) (k := 1) (by omega)
  rw [← hM] at hb
  have hl : M < 256 := by rw [hM]; exact byteAt_lt _ _
  have cw : IntKind.i64.wrap (M : Int) = (M : Int) := by rw [IntKind.wrap_i64]; omega
  have H2 := hide (fun b w => unless_any b 102 w)
  have hi : (1 : Int) < (s.size : Int) := by omega
  have c1 : (w.setCell ⟨q, 0, none⟩ (.int .i64 (M : Int))).cell? ⟨q, 0, none⟩ = some (.int .i64 (M : Int)) := World.cell?_setCell_same _ _ _ cq
  have c2 : (w.setCell ⟨q, 0, none⟩ (.int .i64 (M : Int))).cell? ⟨p, 0, none⟩ = some (.string s) := (World.cell?_setCell_other _ _ _ _ (fun e => hpq (by simpa using (congrArg Addr.block e).symm))).trans cs
  by_cases h1 : 2 ≤ M
  · by_cases h2 : M ≤ s.size
    · rw [if_pos ⟨h1, h2⟩] at he
      subst he
      clear hM hpq
      go_enter Try.func80, Try.ntmps80
      go_wp2_with fail
      refine (unhide H2 true _).mono ?_
      rintro e w2 ⟨rfl, rfl⟩
      go_wp2_with fail
      go_ret
      exact ⟨rfl, rfl⟩
    · rw [if_neg (fun c => h2 c.2)] at he
      subst he
      clear hM hpq
      go_enter Try.func80, Try.ntmps80
      go_wp2_with fail
      refine (unhide H2 false _).mono ?_
      rintro e w2 ⟨rfl, rfl⟩
      go_wp2_with fail
      go_ret
      exact ⟨rfl, rfl⟩
  · rw [if_neg (fun c => h1 c.1)] at he
    subst he
    clear hM hpq
    go_enter Try.func80, Try.ntmps80
    go_wp2_with fail
    refine (unhide H2 false _).mono ?_
    rintro e w2 ⟨rfl, rfl⟩
    go_wp2_with fail
    go_ret
    exact ⟨rfl, rfl⟩

end Go.Proofs.Ytefenejeppmfiaa
