/- The statement SteerHash's walk: the hash of any bytes, and a pair's bytes. -/
import Derived.Test.YtkhkobdbbffkbaaSt3
import Derived.Test.YtkhkobdbbffkbaaInp
namespace Go.Proofs.Ytkhkobdbbffkbaa
open Go.RowKit

theorem P4.start0 (w : World) (a p b q : Nat) (t : TypeId) : P4 w a p b q (w.alloc (.cells #[.int .u32 (a : Int), .int .u16 (p : Int), .int .u32 (b : Int), .int .u16 (q : Int)] t)) := by
  have hh := heap_alloc_new w (.cells #[.int .u32 (a : Int), .int .u16 (p : Int), .int .u32 (b : Int), .int .u16 (q : Int)] t)
  exact ⟨below_one w _, by simp, cell_of_row _ _ 0 _ _ _ hh, cell_of_row _ _ 1 _ _ _ hh, cell_of_row _ _ 2 _ _ _ hh, cell_of_row _ _ 3 _ _ _ hh⟩
theorem P4.drew {w w2 : World} {a p b q : Nat} (h : P4 w a p b q w2) : P4 w a p b q w2.drew := h.on ((Below.refl _ _).drew)
theorem p4_of {F : Nat} {args : Array Value} {E : Ending} (w : World) (a p b q : Nat) (h : ∀ w, Calls Try.prog F args w fun e w' => e = E ∧ Below w.heap.size w w') :
    ∀ w2, P4 w a p b q w2 → Calls Try.prog F args w2 fun e w' => e = E ∧ P4 w a p b q w' := fun w2 k => (h w2).mono fun _ _ x => ⟨x.1, k.on x.2⟩
theorem drawn {F : Nat} {args : Array Value} {E : Ending} (h : ∀ w, Calls Try.prog F args w fun e w' => e = E ∧ ∃ n, w' = w.drewN n) :
    ∀ w, Calls Try.prog F args w fun e w' => e = E ∧ Below w.heap.size w w' := fun w => (h w).mono fun _ _ ⟨x, n, y⟩ => ⟨x, by rw [y]; exact below_draw (Below.refl _ _) n⟩
theorem same {F : Nat} {args : Array Value} {E : Ending} (h : ∀ w, Calls Try.prog F args w fun e w' => e = E ∧ w' = w) :
    ∀ w, Calls Try.prog F args w fun e w' => e = E ∧ Below w.heap.size w w' := fun w => (h w).mono fun _ _ ⟨x, y⟩ => ⟨x, by rw [y]; exact Below.refl _ _⟩

set_option maxRecDepth 100000 in
set_option maxHeartbeats 1000000 in
theorem steerHash_walk (key text : ByteArray) (v : Value) (a p b q : Nat) (w : World) (hk : key.size ≤ maxLen) (ht : text.size ≤ maxLen) (hv : IsPair v a p b q) :
    Calls Try.prog 3 #[.string key, .string text, v] w fun e w' => e = .returned (.bool true) ∧ Below w.heap.size w w' := by
  obtain ⟨rfl, ha, hp, hb, hq⟩ := hv
  have HW := hide (p4_of w a p b q works_any)
  have H0 := hide (P4.start0 w a p b q 27)
  unfold maxLen at hk ht
  by_cases h1 : 1024 < key.size
  · go_enter Try.func3, Try.ntmps3
    go_wp2_with fail
    refine (unhide HW _ (unhide H0)).mono ?_
    rintro e w1 ⟨rfl, k1⟩
    go_wp2
    go_ret
    exact ⟨rfl, k1.bel⟩
  by_cases h2 : 1024 < text.size
  · go_enter Try.func3, Try.ntmps3
    go_wp2_with fail
    refine (unhide HW _ (unhide H0)).mono ?_
    rintro e w1 ⟨rfl, k1⟩
    go_wp2
    go_ret
    exact ⟨rfl, k1.bel⟩
  have HT := hide (p4_of w a p b q (fun w => text_any a p b q w ha hp hb hq))
  have HR := hide (p4_of w a p b q (fun w => rtext_any a p b q w ha hp hb hq))
  have heq : ((ptx a p b q).toList == (ptx a p b q).toList) = true := by simp
  have hX : (ptx a p b q).size = 12 := rfl
  by_cases h3 : key.size = 40
  · have HP := hide (p4_of w a p b q (fun w => pair_ok key a p b q w h3 ha hp hb hq))
    have HH := hide (p4_of w a p b q (same (fun w => rhash_any key (ptx a p b q) w h3 (by rw [hX]; decide))))
    generalize ptx a p b q = X at *
    generalize hsh key X = hX1 at *
    by_cases h4 : 36 < text.size
    · have HS := hide (p4_of w a p b q (drawn (fun w => hash_long key text w h4)))
      go_enter Try.func3, Try.ntmps3
      go_wp2_with fail
      refine (unhide HS _ (unhide H0)).mono ?_
      rintro e w1 ⟨rfl, k1⟩
      obtain ⟨_, _, c10, c11, c12, c13⟩ := id k1
      go_wp2_with fail
      refine (unhide HP _ k1).mono ?_
      rintro e w2 ⟨rfl, k2⟩
      obtain ⟨_, _, c20, c21, c22, c23⟩ := id k2
      clear c10 c11 c12 c13
      go_wp2_with fail
      go_region_held3 (fun w' => w'.cell? ⟨w.heap.size, 0, none⟩ = some (.int .u32 (a : Int)) ∧ w'.cell? ⟨w.heap.size, 1, none⟩ = some (.int .u16 (p : Int)) ∧ w'.cell? ⟨w.heap.size, 2, none⟩ = some (.int .u32 (b : Int)) ∧ w'.cell? ⟨w.heap.size, 3, none⟩ = some (.int .u16 (q : Int))) (go_keep)
        (first
          | (go_at_call 11; refine (unhide HT _ k2.drew).mono ?_; rintro e w3 ⟨rfl, k3⟩; obtain ⟨_, _, c30, c31, c32, c33⟩ := id k3; clear HT)
          | (go_at_call 12; refine (unhide HR _ k3).mono ?_; rintro e w4 ⟨rfl, k4⟩; obtain ⟨_, _, c40, c41, c42, c43⟩ := id k4))
      clear c20 c21 c22 c23 c30 c31 c32 c33
      go_wp2_with fail
      refine (unhide HR _ k4).mono ?_
      rintro e w5 ⟨rfl, k5⟩
      go_wp2_with fail
      refine (unhide HH _ k5).mono ?_
      rintro e w6 ⟨rfl, k6⟩
      go_wp2_with fail
      refine (unhide HW _ k6).mono ?_
      rintro e w9 ⟨rfl, k9⟩
      go_wp2
      go_ret
      exact ⟨rfl, k9.bel⟩
    · have HH2 := hide (p4_of w a p b q (same (fun w => rhash_any key text w h3 (by omega))))
      have HS := hide (p4_of w a p b q (drawn (fun w => hash_ok key text w h3 (by omega))))
      generalize hsh key text = hX2 at *
      go_enter Try.func3, Try.ntmps3
      go_wp2_with fail
      refine (unhide HS _ (unhide H0)).mono ?_
      rintro e w1 ⟨rfl, k1⟩
      obtain ⟨_, _, c10, c11, c12, c13⟩ := id k1
      go_wp2_with fail
      refine (unhide HP _ k1).mono ?_
      rintro e w2 ⟨rfl, k2⟩
      obtain ⟨_, _, c20, c21, c22, c23⟩ := id k2
      clear c10 c11 c12 c13
      go_wp2_with fail
      go_region_held3 (fun w' => w'.cell? ⟨w.heap.size, 0, none⟩ = some (.int .u32 (a : Int)) ∧ w'.cell? ⟨w.heap.size, 1, none⟩ = some (.int .u16 (p : Int)) ∧ w'.cell? ⟨w.heap.size, 2, none⟩ = some (.int .u32 (b : Int)) ∧ w'.cell? ⟨w.heap.size, 3, none⟩ = some (.int .u16 (q : Int))) (go_keep)
        (first
          | (go_at_call 11; refine (unhide HT _ k2.drew).mono ?_; rintro e w3 ⟨rfl, k3⟩; obtain ⟨_, _, c30, c31, c32, c33⟩ := id k3; clear HT)
          | (go_at_call 12; refine (unhide HR _ k3).mono ?_; rintro e w4 ⟨rfl, k4⟩; obtain ⟨_, _, c40, c41, c42, c43⟩ := id k4))
      clear c20 c21 c22 c23 c30 c31 c32 c33
      go_wp2_with fail
      refine (unhide HR _ k4).mono ?_
      rintro e w5 ⟨rfl, k5⟩
      go_wp2_with fail
      refine (unhide HH _ k5).mono ?_
      rintro e w6 ⟨rfl, k6⟩
      go_wp2_with fail
      refine (unhide HH2 _ k6).mono ?_
      rintro e w7 ⟨rfl, k7⟩
      go_wp2_with fail
      refine (unhide HW _ k7).mono ?_
      rintro e w9 ⟨rfl, k9⟩
      go_wp2
      go_ret
      exact ⟨rfl, k9.bel⟩
  · have HP := hide (p4_of w a p b q (fun w => pair_key key a p b q w h3 ha hp hb hq))
    generalize ptx a p b q = X at *
    have HS := hide (p4_of w a p b q (drawn (fun w => hash_key key text w h3)))
    go_enter Try.func3, Try.ntmps3
    go_wp2_with fail
    refine (unhide HS _ (unhide H0)).mono ?_
    rintro e w1 ⟨rfl, k1⟩
    obtain ⟨_, _, c10, c11, c12, c13⟩ := id k1
    go_wp2_with fail
    refine (unhide HP _ k1).mono ?_
    rintro e w2 ⟨rfl, k2⟩
    obtain ⟨_, _, c20, c21, c22, c23⟩ := id k2
    clear c10 c11 c12 c13
    go_wp2_with fail
    go_region_held3 (fun w' => w'.cell? ⟨w.heap.size, 0, none⟩ = some (.int .u32 (a : Int)) ∧ w'.cell? ⟨w.heap.size, 1, none⟩ = some (.int .u16 (p : Int)) ∧ w'.cell? ⟨w.heap.size, 2, none⟩ = some (.int .u32 (b : Int)) ∧ w'.cell? ⟨w.heap.size, 3, none⟩ = some (.int .u16 (q : Int))) (go_keep)
      (first
        | (go_at_call 11; refine (unhide HT _ k2.drew).mono ?_; rintro e w3 ⟨rfl, k3⟩; obtain ⟨_, _, c30, c31, c32, c33⟩ := id k3; clear HT)
        | (go_at_call 12; refine (unhide HR _ k3).mono ?_; rintro e w4 ⟨rfl, k4⟩; obtain ⟨_, _, c40, c41, c42, c43⟩ := id k4))
    clear c20 c21 c22 c23 c30 c31 c32 c33
    go_wp2_with fail
    refine (unhide HW _ k4).mono ?_
    rintro e w9 ⟨rfl, k9⟩
    go_wp2
    go_ret
    exact ⟨rfl, k9.bel⟩

end Go.Proofs.Ytkhkobdbbffkbaa
