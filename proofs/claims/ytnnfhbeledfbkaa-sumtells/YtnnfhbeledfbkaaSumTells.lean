/- The walk of the statement SumTells, over the loaded program, out of the contracts. No conditions but the data's bounds. -/
import Derived.Test.YtnnfhbeledfbkaaAlive02
namespace Go.Proofs.Ytnnfhbeledfbkaa
open Go.RowKit

theorem cat_length_take_succ (L : List ByteArray) (k : Nat) (h : k < L.length) : (cat (L.take (k + 1))).length = (cat (L.take k)).length + (L[k]?.getD ⟨#[]⟩).size := by
  rw [cat_take_succ L k h, List.length_append, Lib.size_eq]

def LongPost (L : List ByteArray) (e : Ending) : Prop := ∃ (s : ByteArray) (b : Bool), e = .returned (.tuple #[.string s, .bool b]) ∧ (b = true ∨ (b = false ∧ L.length ≤ 100 ∧ s.size ≤ 8192 ∧ s.data.toList = cat L))

set_option maxHeartbeats 1000000 in
theorem long_any (L : List ByteArray) (sv : Value) (w : World) (hlen : L.length ≤ maxLen) (hsz : ∀ s ∈ L, s.size ≤ maxLen) (hI : Strs w.heap.size w sv L) :
    Calls Try.prog 7 #[sv] w fun e w' => LongPost L e ∧ w' = w := by
  unfold maxLen at hlen hsz
  rcases hI with ⟨⟨a, cap, rfl⟩, rfl⟩ | ⟨b, off, cap, rfl, hb, hc⟩
  · go_enter Try.func7, Try.ntmps7
    go_wp2
    go_loop [4, 5] (fun s i => s = .string ⟨#[]⟩ ∧ i = .int .i64 0) (fun _ _ => 0)
    case atStart => exact ⟨rfl, rfl⟩
    case round =>
      obtain ⟨rfl, rfl⟩ := hrel
      go_wp2
      go_ret2
      exact ⟨⟨_, _, rfl, .inr ⟨rfl, by simp, by decide, rfl⟩⟩, rfl⟩
  · by_cases hl : 100 < L.length
    · go_enter Try.func7, Try.ntmps7
      go_wp2
      go_ret2
      exact ⟨⟨_, _, rfl, .inl rfl⟩, rfl⟩
    · go_enter Try.func7, Try.ntmps7
      go_wp2
      go_loop [4, 5] (fun s i => ∃ (k : Nat) (t : ByteArray), k ≤ L.length ∧ t.size ≤ 8192 ∧ t.data.toList = cat (L.take k) ∧ s = .string t ∧ i = .int .i64 (k : Int)) (fun _ i => L.length - (intOf i).toNat)
      case atStart => exact ⟨0, ⟨#[]⟩, Nat.zero_le _, by decide, rfl, rfl, rfl⟩
      case round =>
        obtain ⟨k, t, hk, ht, hcat, rfl, rfl⟩ := hrel
        have HC := hide hcat
        clear hcat
        by_cases hlt : k < L.length
        · have hcx := hc k hlt
          have HT := hide (cat_take_succ L k hlt)
          have hsx : (L[k]?.getD ⟨#[]⟩).size ≤ 2 ^ 63 - 1 := by
            rw [List.getElem?_eq_getElem hlt]; exact hsz _ (List.getElem_mem hlt)
          generalize L[k]?.getD ⟨#[]⟩ = x at *
          clear hc hsz
          by_cases hbig : (8192 : Int) - (t.size : Int) < (x.size : Int)
          · go_wp2
            go_ret2
            exact ⟨⟨_, _, rfl, .inl rfl⟩, rfl⟩
          · go_wp2
            go_round
            case rel =>
              refine ⟨k + 1, t ++ x, by omega, by rw [ByteArray.size_append]; omega, ?_, rfl, by go_num⟩
              rw [unhide HT, ← unhide HC, ByteArray.data_append, Array.toList_append]
            case measure => simp [intOf]; omega
        · clear hc hsz
          go_wp2
          go_ret2
          refine ⟨⟨_, _, rfl, .inr ⟨rfl, by omega, ht, ?_⟩⟩, rfl⟩
          rw [unhide HC, List.take_of_length_le (by omega)]

theorem add_of_cat {L : List ByteArray} {s : ByteArray} (h : s.data.toList = cat L) : add [s] = add L := by unfold add; rw [cat_one, h]

theorem Strs.up {n₀ : Nat} {A B : World} {sv : Value} {L : List ByteArray} (h : Below n₀ A B) (hI : Strs n₀ A sv L) (hle : n₀ ≤ B.heap.size) : Strs B.heap.size B sv L := by
  rcases hI.below h with e | ⟨b, off, cap, e, hb, hc⟩
  · exact .inl e
  · exact .inr ⟨b, off, cap, e, by omega, hc⟩

set_option maxRecDepth 100000 in
set_option maxHeartbeats 4000000 in
theorem tells_nat (L : List ByteArray) (sv : Value) (c a b f t p : Nat) (n : Int) (w : World) (hlen : L.length ≤ maxLen) (hsz : ∀ s ∈ L, s.size ≤ maxLen) (hI : Strs w.heap.size w sv L)
    (hc : c < 65536) (ha : a < 65536) (hb : b < 65536) (hf : f < 4294967296) (ht : t < 4294967296) (hp : p < 256) :
    Calls Try.prog 3 #[sv, .int .u16 (c : Int), .int .u16 (a : Int), .int .u16 (b : Int), .int .u32 (f : Int), .int .u32 (t : Int), .int .u8 (p : Int), .int .i64 n] w fun e w' => e = .returned (.bool true) ∧ Below w.heap.size w w' := by
  have HL := hide (long_any L sv w hlen hsz hI)
  have HA := hide alive_any
  have HI := hide hI
  obtain ⟨ad, len, cap, rfl⟩ := hI.slice
  clear hI hlen hsz
  go_enter Try.func3, Try.ntmps3
  go_wp2_with fail
  refine (unhide HL).mono ?_
  rintro e w' ⟨⟨s, lo, rfl, h⟩, rfl⟩
  rcases h with rfl | ⟨rfl, h1, h2, h3⟩
  · clear HL
    go_wp2_with fail
    refine (unhide HA _).mono ?_
    rintro e w1 ⟨rfl, hb1⟩
    go_wp2
    go_ret
    exact ⟨rfl, hb1⟩
  · clear HL
    have hz := Lib.size_eq s
    have hL : (cat L).length ≤ 1099511627776 := by rw [← h3]; omega
    have hA : add [s] = add L := add_of_cat h3
    have hle := add_le L
    have H1 : Hid (∀ W, Below w'.heap.size w' W → Calls Try.prog 9 #[.slice ad len cap] W fun e w' => e = .returned (.int .u16 (add L : Nat)) ∧ Below W.heap.size W w') := hide fun W hB => add_any L _ W hL (by omega) ((unhide HI).up hB hB.size)
    have H2 : Hid (∀ W, Below w'.heap.size w' W → Calls Try.prog 11 #[.slice ad len cap] W fun e w' => e = .returned (.int .u16 ((65535 - add L : Nat) : Int)) ∧ Below W.heap.size W w') := hide fun W hB => of_sum L _ W hL (by omega) ((unhide HI).up hB hB.size)
    have H3 : Hid (∀ W, Below w'.heap.size w' W → Calls Try.prog 13 #[.slice ad len cap] W fun e w' => e = .returned (.bool (decide (add L = 65535))) ∧ Below W.heap.size W w') := hide fun W hB => right_any L _ W hL (by omega) ((unhide HI).up hB hB.size)
    have R1 := hide (fun w => Add_any s w (by omega))
    have R2 := hide (fun w => rOf_any s w (by omega))
    have R3 := hide (fun w => rRight_any s w (by omega))
    rw [hA] at R1 R2 R3
    have H4 := hide (fun w => turn_any c a b w hc ha hb)
    have R4 := hide (fun w => rTurn_any c a b w hc ha hb)
    have H5 := hide (fun w => head_any f t p n w hf ht hp)
    have R5 := hide (fun w => rHead_any f t p n w hf ht hp)
    clear hA h3 hL HI hz
    generalize add L = y at *
    generalize decide (y = 65535) = rb at *
    generalize 65535 - y = y2 at *
    generalize turn c a b = tn at *
    generalize (⟨(head f t p (n % 18446744073709551616).toNat).toArray⟩ : ByteArray) = hd at *
    go_wp2_with fail
    refine (unhide H1 _ (Below.refl _ _)).mono ?_
    rintro e w1 ⟨rfl, hb1⟩
    go_wp2_with fail
    refine (unhide R1 _).mono ?_
    rintro e u1 ⟨rfl, rfl⟩
    go_wp2_with fail
    refine (unhide H2 _ hb1).mono ?_
    rintro e w2 ⟨rfl, hb2⟩
    have B2 := tr2 hb1 hb2
    go_wp2_with fail
    refine (unhide R2 _).mono ?_
    rintro e u2 ⟨rfl, rfl⟩
    go_wp2_with fail
    refine (unhide H3 _ B2).mono ?_
    rintro e w3 ⟨rfl, hb3⟩
    have B3 := tr2 B2 hb3
    go_wp2_with fail
    refine (unhide R3 _).mono ?_
    rintro e u3 ⟨rfl, rfl⟩
    go_wp2_with fail
    refine (unhide H4 _).mono ?_
    rintro e w4 ⟨rfl, hb4⟩
    go_wp2_with fail
    refine (unhide R4 _).mono ?_
    rintro e w5 ⟨rfl, hb5⟩
    go_wp2_with fail
    refine (unhide H5 _).mono ?_
    rintro e w6 ⟨rfl, hb6⟩
    go_wp2_with fail
    refine (unhide R5 _).mono ?_
    rintro e w7 ⟨rfl, hb7⟩
    go_wp2_with fail
    refine (unhide HA _).mono ?_
    rintro e w8 ⟨rfl, hb8⟩
    go_wp2
    go_ret
    exact ⟨rfl, tr2 B3 (tr2 hb4 (tr2 hb5 (tr2 hb6 (tr2 hb7 hb8))))⟩

/-- What is known of a slice of texts that came in. -/
def IsStrs (W : World) (sv : Value) (L : List ByteArray) : Prop := Strs W.heap.size W sv L ∧ L.length ≤ maxLen ∧ ∀ s ∈ L, s.size ≤ maxLen

theorem sumTells_walk (sv : Value) (L : List ByteArray) (c a b f t p n : Int) (w : World) (hL : IsStrs w sv L) (hc : (Lit.int .u16 c).wf = true) (ha : (Lit.int .u16 a).wf = true) (hb : (Lit.int .u16 b).wf = true) (hf : (Lit.int .u32 f).wf = true) (ht : (Lit.int .u32 t).wf = true) (hp : (Lit.int .u8 p).wf = true) (_hn : (Lit.int .i64 n).wf = true) :
    Calls Try.prog 3 #[sv, .int .u16 c, .int .u16 a, .int .u16 b, .int .u32 f, .int .u32 t, .int .u8 p, .int .i64 n] w fun e w' => e = .returned (.bool true) ∧ Below w.heap.size w w' := by
  obtain ⟨c, rfl, h1⟩ := nat16 hc
  obtain ⟨a, rfl, h2⟩ := nat16 ha
  obtain ⟨b, rfl, h3⟩ := nat16 hb
  obtain ⟨f, rfl, h4⟩ := nat32 hf
  obtain ⟨t, rfl, h5⟩ := nat32 ht
  obtain ⟨p, rfl, h6⟩ := nat8 hp
  exact tells_nat L sv c a b f t p n w hL.2.1 hL.2.2 hL.1 h1 h2 h3 h4 h5 h6

end Go.Proofs.Ytnnfhbeledfbkaa
