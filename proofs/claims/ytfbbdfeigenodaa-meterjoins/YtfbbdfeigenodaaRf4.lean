/- Add and Total of the document's meter, in one line each. -/
import Derived.Test.YtfbbdfeigenodaaRf3
import Derived.Test.YtfbbdfeigenodaaMt4
namespace Go.Proofs.Ytfbbdfeigenodaa
open Go.RowKit Go.Maps

def own (v : Value) : List Nat := v.ownBlock.toList
theorem mem_own {v : Value} {i : Nat} : i ∈ own v ↔ v.ownBlock = some i := by
  unfold own
  cases v.ownBlock <;> simp [eq_comm]

theorem radd_any (r : Nat) (v : Value) (L : List Ent) (s : ByteArray) (n m : Int) (w : World) (h : RM w r v L) (hL : Cnt L) :
    Calls Try.prog 23 #[.pointer (some ⟨r, 0, none⟩), .string s, .int .i64 n, .int .i64 m] w fun e w' =>
      e = .returned (.int .i64 (addL L s.data.toList n m).1) ∧ ∃ v', RM w' r v' (addL L s.data.toList n m).2 ∧ Kp (r :: own v) w w' ∧ (∀ i, v'.ownBlock = some i → v.ownBlock = some i ∨ w.heap.size ≤ i) := by
  have same : ∀ {c : Int} {e : Ending} {w' : World}, e = .returned (.int .i64 c) ∧ w' = w → e = .returned (.int .i64 c) ∧ ∃ v', RM w' r v' L ∧ Kp (r :: own v) w w' ∧ (∀ i, v'.ownBlock = some i → v.ownBlock = some i ∨ w.heap.size ≤ i) := by
    rintro c e w' ⟨he, rfl⟩
    exact ⟨he, v, h, Kp.refl _ _, fun i hi => .inl hi⟩
  unfold addL
  by_cases hbad : ¬ (mayL s.data.toList = true ∧ (0 ≤ n ∧ n ≤ 4503599627370496) ∧ (0 ≤ m ∧ m ≤ 4503599627370496))
  · rw [if_pos hbad]
    exact (radd_arg r s n m w hbad).mono fun e w' k => same k
  · rw [if_neg hbad]
    obtain ⟨hm, hn, hm'⟩ := Classical.not_not.1 hbad
    obtain ⟨n, rfl⟩ : ∃ n' : Nat, n = (n' : Int) := ⟨n.toNat, by omega⟩
    obtain ⟨m, rfl⟩ : ∃ m' : Nat, m = (m' : Int) := ⟨m.toNat, by omega⟩
    simp only [Int.toNat_natCast]
    have hroom := hL.room
    cases hl : lookE s.data.toList L with
    | none =>
      by_cases hf : 64 ≤ L.length
      · simp only [if_pos hf]
        exact (radd_full r v L s n m w h hm (by omega) (by omega) hl (by omega)).mono fun e w' k => same k
      · simp only [if_neg hf]
        rcases h.form with ⟨rfl, rfl⟩ | ⟨g, c, rfl, _⟩
        · refine (radd_first r s n m w h hm (by omega) (by omega)).mono ?_
          rintro e w' ⟨he, v', hR, hK, hloc⟩
          exact ⟨he, v', hR, hK.mono (by simp), fun i hi => .inr (hloc i hi)⟩
        · refine (radd_new r g c L s n m w h hm (by omega) (by omega) hl (by omega) hL.srt).mono ?_
          rintro e w' ⟨he, v', hR, hK, hloc⟩
          exact ⟨he, v', hR, hK.mono (by simp), fun i hi => .inr (hloc i hi)⟩
    | some q =>
      obtain ⟨g, c, rfl⟩ : ∃ g c, v = .slice (some ⟨g, 0, none⟩) L.length c := by
        rcases h.form with ⟨rfl, rfl⟩ | ⟨g, c, rfl, _⟩
        · cases hl
        · exact ⟨_, _, rfl⟩
      by_cases ho : 4503599627370496 < q.1 + n ∨ 4503599627370496 < q.2 + m
      · simp only [if_pos ho]
        refine (radd_over r g c L s n m w h hm (by omega) (by omega) q hl hL ho).mono ?_
        rintro e w' ⟨he, hb⟩
        exact ⟨he, _, h.kept (Kp.of_below [] hb) (by simp) (by simp), Kp.of_below _ hb, fun i hi => .inl hi⟩
      · simp only [if_neg ho]
        refine (radd_more r g c L s n m w h hm q.1 q.2 hl hL (by omega) (by omega)).mono ?_
        rintro e w' ⟨he, hR, hK⟩
        exact ⟨he, _, hR, hK.mono (by simp [own, Value.ownBlock]), fun i hi => .inl hi⟩

theorem sumOf_take (g : Nat × Nat → Nat) : ∀ (L : List Ent) {k : Nat} {x : Ent}, L[k]? = some x → sumOf (fun _ => false) g (L.take (k + 1)) = sumOf (fun _ => false) g (L.take k) + g x.2
  | [], k, x, h => by simp at h
  | y :: r, 0, x, h => by
    simp at h
    subst h
    simp [sumOf]
  | y :: r, k + 1, x, h => by
    simp only [List.take_succ_cons, sumOf, sumOf_take g r (by simpa using h)]
    omega

set_option maxRecDepth 100000 in
set_option maxHeartbeats 1000000 in
theorem rtotal_any (r : Nat) (v : Value) (L : List Ent) (w : World) (h : RM w r v L) (hL : Cnt L) :
    Calls Try.prog 24 #[.pointer (some ⟨r, 0, none⟩)] w fun e w' => e = .returned (.tuple #[.int .i64 ((min (sumA L) 4503599627370496 : Nat) : Int), .int .i64 ((min (sumB L) 4503599627370496 : Nat) : Int)]) ∧ w' = w := by
  have hc := h.cell
  rcases h.form with ⟨rfl, rfl⟩ | ⟨g, c, rfl, hnc, hg, hcell⟩
  · go_enter Try.func24, Try.ntmps24
    go_wp2
    go_loop [4, 5, 6] (fun a b i => a = .int .i64 0 ∧ b = .int .i64 0 ∧ i = .int .i64 0) (fun _ _ _ => 0)
    case atStart => exact ⟨rfl, rfl, rfl⟩
    case round =>
      obtain ⟨rfl, rfl, rfl⟩ := hrel
      go_wp2
      go_ret2
      exact ⟨rfl, rfl⟩
  · have HC := hide hcell
    have HL := hide hL
    have hroom := hL.room
    clear hcell h hL
    go_enter Try.func24, Try.ntmps24
    go_wp2
    go_loop [4, 5, 6] (fun a b i => ∃ k x y : Nat, k ≤ L.length ∧ i = .int .i64 (k : Int) ∧ a = .int .i64 (x : Int) ∧ b = .int .i64 (y : Int) ∧ Hid (x = min (sumA (L.take k)) 4503599627370496) ∧ Hid (y = min (sumB (L.take k)) 4503599627370496)) (fun _ _ i => L.length - (intOf i).toNat)
    case atStart => exact ⟨0, 0, 0, Nat.zero_le _, rfl, rfl, rfl, rfl, rfl⟩
    case round =>
      obtain ⟨k, a, b, hk, rfl, rfl, rfl, HA, HB⟩ := hrel
      have ha : a ≤ 4503599627370496 := by rw [unhide HA]; omega
      have hb : b ≤ 4503599627370496 := by rw [unhide HB]; omega
      by_cases hlt : k < L.length
      · obtain ⟨x, hx⟩ : ∃ x, L[k]? = some x := ⟨L[k], List.getElem?_eq_getElem hlt⟩
        obtain ⟨c0, c1, c2⟩ := unhide HC k x hx
        obtain ⟨m1, m2⟩ := (unhide HL).cap x (List.mem_of_getElem? hx)
        have hi1 : (0 : Int) ≤ (k : Int) := by omega
        have hi2 : (k : Int) < (L.length : Int) := by omega
        have hi3 : (L.length : Int) ≤ (c : Int) := by omega
        have HA' : Hid (min (a + x.2.1) 4503599627370496 = min (sumA (L.take (k + 1))) 4503599627370496) := by
          unfold sumA
          rw [sumOf_take _ L hx, unhide HA]
          exact min_step _ _
        have HB' : Hid (min (b + x.2.2) 4503599627370496 = min (sumB (L.take (k + 1))) 4503599627370496) := by
          unfold sumB
          rw [sumOf_take _ L hx, unhide HB]
          exact min_step _ _
        clear hx
        go_wp2
        go_round
        case rel => exact ⟨k + 1, min (a + x.2.1) 4503599627370496, min (b + x.2.2) 4503599627370496, by omega, by go_num, vint (by omega), vint (by omega), HA', HB'⟩
        case measure => simp [intOf]; omega
      · obtain rfl : k = L.length := by omega
        have HA' : Hid (a = min (sumA L) 4503599627370496) := by have := unhide HA; rw [List.take_length] at this; exact this
        have HB' : Hid (b = min (sumB L) 4503599627370496) := by have := unhide HB; rw [List.take_length] at this; exact this
        go_wp2
        go_ret2
        exact ⟨by rw [← unhide HA', ← unhide HB']; rfl, rfl⟩

end Go.Proofs.Ytfbbdfeigenodaa
