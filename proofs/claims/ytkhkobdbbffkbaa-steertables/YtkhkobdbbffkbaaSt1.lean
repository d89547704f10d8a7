/- The contracts of package steer's Hash, Text and Pair, and of the document's Hash and Text. -/
import Derived.Test.YtkhkobdbbffkbaaSt0
import Derived.Laws.BytesArg
import Derived.Deep.RegionHeld3
namespace Go.Proofs.Ytkhkobdbbffkbaa
open Go.RowKit

set_option maxHeartbeats 1000000 in
theorem hash_ok (key text : ByteArray) (w : World) (hk : key.size = 40) (ht : text.size ≤ 36) :
    Calls Try.prog 9 #[.string key, .string text] w fun e w' => e = .returned (.tuple #[.int .u32 (hsh key text : Nat), .int .i64 0]) ∧ ∃ n, w' = w.drewN n := by
  have H1 := hide (fun w => toeplitz_any key text w hk ht)
  go_enter Try.func9, Try.ntmps9
  go_wp2_with fail
  refine (unhide H1 _).mono ?_
  rintro e w1 ⟨rfl, n, rfl⟩
  go_wp2_with fail
  go_ret2
  exact ⟨rfl, _, rfl⟩

set_option maxHeartbeats 1000000 in
theorem hash_key (key text : ByteArray) (w : World) (hk : key.size ≠ 40) :
    Calls Try.prog 9 #[.string key, .string text] w fun e w' => e = .returned (.tuple #[.int .u32 0, .int .i64 2]) ∧ ∃ n, w' = w.drewN n := by
  go_enter Try.func9, Try.ntmps9
  go_wp2_with fail
  go_ret2
  exact ⟨rfl, 0, rfl⟩

set_option maxHeartbeats 1000000 in
theorem hash_long (key text : ByteArray) (w : World) (ht : 36 < text.size) :
    Calls Try.prog 9 #[.string key, .string text] w fun e w' => e = .returned (.tuple #[.int .u32 0, .int .i64 2]) ∧ ∃ n, w' = w.drewN n := by
  by_cases hk : key.size = 40
  · go_enter Try.func9, Try.ntmps9
    go_wp2_with fail
    go_ret2
    exact ⟨rfl, 0, rfl⟩
  · exact hash_key key text w hk

set_option maxRecDepth 100000 in
set_option maxHeartbeats 1000000 in
theorem rhash_any (key text : ByteArray) (w : World) (hk : key.size = 40) (ht : text.size ≤ 36) :
    Calls Try.prog 13 #[.string key, .string text] w fun e w' => e = .returned (.int .u32 (hsh key text : Nat)) ∧ w' = w := by
  go_enter Try.func13, Try.ntmps13
  go_wp2_with fail
  go_loop [5, 6] (fun h i => ∃ p : Nat, p ≤ 8 * text.size ∧ i = .int .i64 (p : Int) ∧ h = .int .u32 (th (gb key) (gb text) p : Nat)) (fun _ i => 8 * text.size - (intOf i).toNat)
  case atStart => exact ⟨0, Nat.zero_le _, rfl, rfl⟩
  case round =>
    obtain ⟨p, hp, rfl, rfl⟩ := hrel
    by_cases hlt : p < 8 * text.size
    · have hth : th (gb key) (gb text) (p + 1) = if gb text p = 1 then th (gb key) (gb text) p ^^^ wn (gb key) p 32 else th (gb key) (gb text) p := rfl
      have h1 := th_lt (gb_lt key) (tb := gb text) p
      have HT := fun w => rbit_any text p w (by omega) hlt
      have hbt := gb_lt text p
      generalize hth0 : th (gb key) (gb text) p = h at *
      by_cases hb : gb text p = 1
      · rw [if_pos hb] at hth
        rw [hb] at HT
        have HT := hide HT
        go_wp2_with fail
        refine (unhide HT _).mono ?_
        rintro e w1 ⟨rfl, rfl⟩
        go_wp2_with fail
        go_loop [7, 8] (fun v i => ∃ k : Nat, k ≤ 32 ∧ i = .int .i64 (k : Int) ∧ v = .int .u32 (wn (gb key) p k : Nat)) (fun _ i => 32 - (intOf i).toNat)
        case atStart => exact ⟨0, Nat.zero_le _, rfl, rfl⟩
        case round =>
          obtain ⟨k, hk32, rfl, rfl⟩ := hrel
          have hw := wn_lt (gb_lt key) p k
          have hp2 : 2 ^ k ≤ 2 ^ 32 := Nat.pow_le_pow_right (by omega) hk32
          have hw2 : wn (gb key) p k < 4294967296 := by simp at hp2; omega
          clear hw hp2
          by_cases hkl : k < 32
          · have hw3 : wn (gb key) p k < 2147483648 := by
              have a := wn_lt (gb_lt key) p k
              have b : 2 ^ k ≤ 2 ^ 31 := Nat.pow_le_pow_right (by omega) (by omega)
              simp at b
              omega
            have hws : wn (gb key) p (k + 1) = 2 * wn (gb key) p k + gb key (p + k) := rfl
            have HK : Hid (∀ w, Calls Try.prog 20 #[.string key, .int .i64 ((p : Int) + (k : Int))] w fun e w' => e = .returned (.int .u32 (gb key (p + k) : Nat)) ∧ w' = w) := fun w => rbit_any key (p + k) w (by omega) (by omega)
            have hbk := gb_lt key (p + k)
            have HW : Hid (bits .or .u32 ((wn (gb key) p k : Nat) * 2) ((gb key (p + k) : Nat) : Int) = ((2 * wn (gb key) p k + gb key (p + k) : Nat) : Int)) :=
              or_u32 (2 * wn (gb key) p k) (gb key (p + k)) 1 (wn (gb key) p k) (by omega) rfl (by omega) (by omega) (by omega) (by omega)
            generalize wn (gb key) p k = wd at *
            generalize gb key (p + k) = kb at *
            go_wp2_with fail
            refine (unhide HK _).mono ?_
            rintro e w1 ⟨rfl, rfl⟩
            go_wp2_with fail
            rw [unhide HW]
            go_round
            case rel => exact ⟨k + 1, by omega, by go_num, by rw [hws]⟩
            case measure => simp [intOf]; omega
          · have e32 : k = 32 := by omega
            subst e32
            have HX := hide (cyc h _ h1 hw2)
            generalize wn (gb key) p 32 = wd at *
            go_wp2_with fail
            rw [unhide HX]
            go_round
            case rel => exact ⟨p + 1, by omega, by go_num, by rw [hth]⟩
            case measure => simp [intOf]; omega
      · rw [if_neg hb] at hth
        rw [show gb text p = 0 by omega] at HT
        have HT := hide HT
        go_wp2_with fail
        refine (unhide HT _).mono ?_
        rintro e w1 ⟨rfl, rfl⟩
        go_wp2_with fail
        go_round
        case rel => exact ⟨p + 1, by omega, by go_num, by rw [hth]⟩
        case measure => simp [intOf]; omega
    · have e : p = 8 * text.size := by omega
      subst e
      go_wp2_with fail
      go_ret
      exact ⟨rfl, rfl⟩

theorem conv_row (w : World) (xs : List Int) (n : Nat) (hn : xs.length = n) (A : Array Value) (hA : A = (xs.map (Value.int .u8)).toArray) :
    (convert 36 9 (.slice (some ⟨w.heap.size, 0, none⟩) n n)).run Try.prog (w.alloc (.cells A 5)) = .ok (.string (strOfNums xs)) (w.alloc (.cells A 5)) := by
  subst hA
  refine run_convert_bytes_arg _ 36 5 Try.underlying36 Try.underlying5 w.heap.size 0 n n xs hn (fun i hi => ?_) 9 Try.underlying9
  rw [cell_of_row _ w.heap.size (0 + i) _ _ _ (heap_alloc_new w _)]
  have hil : i < xs.length := by omega
  simp [hil]
def by2 (x : Nat) : ByteArray := ⟨#[UInt8.ofNat (x / 256), UInt8.ofNat (x % 256)]⟩
def by4 (x : Nat) : ByteArray := ⟨#[UInt8.ofNat (x / 16777216), UInt8.ofNat (x / 65536 % 256), UInt8.ofNat (x / 256 % 256), UInt8.ofNat (x % 256)]⟩
theorem by4_two (x : Nat) : by2 (x / 65536) ++ by2 (x % 65536) = by4 x := by
  apply ByteArray.ext
  rw [ByteArray.data_append]
  unfold by2 by4
  rw [show x / 65536 / 256 = x / 16777216 by omega, show x % 65536 / 256 = x / 256 % 256 by omega, show x % 65536 % 256 = x % 256 by omega]
  simp
/-- a pair's bytes -/
def ptx (a p b q : Nat) : ByteArray := ⟨#[UInt8.ofNat (a / 16777216), UInt8.ofNat (a / 65536 % 256), UInt8.ofNat (a / 256 % 256), UInt8.ofNat (a % 256),
  UInt8.ofNat (b / 16777216), UInt8.ofNat (b / 65536 % 256), UInt8.ofNat (b / 256 % 256), UInt8.ofNat (b % 256), UInt8.ofNat (p / 256), UInt8.ofNat (p % 256), UInt8.ofNat (q / 256), UInt8.ofNat (q % 256)]⟩
theorem ptx_cat (a p b q : Nat) : by4 a ++ by4 b ++ by2 p ++ by2 q = ptx a p b q := by
  apply ByteArray.ext
  simp only [ByteArray.data_append]
  unfold by2 by4 ptx
  simp

set_option maxHeartbeats 1000000 in
theorem two_any (x : Nat) (w : World) (_ : x < 65536) :
    Calls Try.prog 19 #[.int .u16 (x : Int)] w fun e w' => e = .returned (.string (by2 x)) ∧ Below w.heap.size w w' := by
  have hc := conv_row w [(x : Int) / 256, (x : Int) % 256] 2 rfl #[.int .u8 ((x : Int) / 256), .int .u8 ((x : Int) % 256)] rfl
  have e : strOfNums [(x : Int) / 256, (x : Int) % 256] = by2 x := by
    unfold strOfNums by2
    rw [show List.map (fun n : Int => UInt8.ofNat n.toNat) [(x : Int) / 256, (x : Int) % 256] = [UInt8.ofNat ((x : Int) / 256).toNat, UInt8.ofNat ((x : Int) % 256).toNat] from rfl]
    rw [show ((x : Int) / 256).toNat = x / 256 by omega, show ((x : Int) % 256).toNat = x % 256 by omega]
  rw [e] at hc
  clear e
  go_enter Try.func19, Try.ntmps19
  go_wp2
  go_ret
  exact ⟨rfl, below_one _ _⟩

set_option maxHeartbeats 1000000 in
theorem four_any (x : Nat) (w : World) (hx : x < 4294967296) :
    Calls Try.prog 18 #[.int .u32 (x : Int)] w fun e w' => e = .returned (.string (by4 x)) ∧ Below w.heap.size w w' := by
  have H1 : Hid (∀ w, Calls Try.prog 19 #[.int .u16 ((x : Int) / 65536)] w fun e w' => e = .returned (.string (by2 (x / 65536))) ∧ Below w.heap.size w w') := fun w => two_any (x / 65536) w (by omega)
  have H2 : Hid (∀ w, Calls Try.prog 19 #[.int .u16 ((x : Int) % 65536)] w fun e w' => e = .returned (.string (by2 (x % 65536))) ∧ Below w.heap.size w w') := fun w => two_any (x % 65536) w (by omega)
  have HE := hide (by4_two x)
  have s1 : (by2 (x / 65536)).size = 2 := rfl
  have s2 : (by2 (x % 65536)).size = 2 := rfl
  generalize by2 (x / 65536) = A at *
  generalize by2 (x % 65536) = B at *
  go_enter Try.func18, Try.ntmps18
  go_wp2_with fail
  refine (unhide H1 _).mono ?_
  rintro e w1 ⟨rfl, b1⟩
  go_wp2_with fail
  refine (unhide H2 _).mono ?_
  rintro e w2 ⟨rfl, b2⟩
  go_wp2_with fail
  go_ret
  exact ⟨by rw [← unhide HE]; rfl, tr2 b1 b2⟩

/-- what stands while a pair's bytes are put together -/
structure P4 (w : World) (a p b q : Nat) (w2 : World) : Prop where
  bel : Below w.heap.size w w2
  lt : w.heap.size < w2.heap.size
  c0 : w2.cell? ⟨w.heap.size, 0, none⟩ = some (.int .u32 (a : Int))
  c1 : w2.cell? ⟨w.heap.size, 1, none⟩ = some (.int .u16 (p : Int))
  c2 : w2.cell? ⟨w.heap.size, 2, none⟩ = some (.int .u32 (b : Int))
  c3 : w2.cell? ⟨w.heap.size, 3, none⟩ = some (.int .u16 (q : Int))
theorem P4.on {w w2 w3 : World} {a p b q : Nat} (h : P4 w a p b q w2) (k : Below w2.heap.size w2 w3) : P4 w a p b q w3 :=
  ⟨tr2 h.bel k, Nat.lt_of_lt_of_le h.lt k.size, (k.cell h.lt).trans h.c0, (k.cell h.lt).trans h.c1, (k.cell h.lt).trans h.c2, (k.cell h.lt).trans h.c3⟩
theorem P4.start (w : World) (a p b q : Nat) (t : TypeId) : P4 w a p b q (w.alloc (.cells #[.int .u32 (a : Int), .int .u16 (p : Int), .int .u32 (b : Int), .int .u16 (q : Int)] t)).drew := by
  have hh := heap_alloc_new w (.cells #[.int .u32 (a : Int), .int .u16 (p : Int), .int .u32 (b : Int), .int .u16 (q : Int)] t)
  exact ⟨(below_one w _).drew, by simp, cell_of_row _ _ 0 _ _ _ hh, cell_of_row _ _ 1 _ _ _ hh, cell_of_row _ _ 2 _ _ _ hh, cell_of_row _ _ 3 _ _ _ hh⟩

set_option maxHeartbeats 1000000 in
theorem text_any (a p b q : Nat) (w : World) (ha : a < 4294967296) (hp : p < 65536) (hb : b < 4294967296) (hq : q < 65536) :
    Calls Try.prog 11 #[.agg #[.int .u32 (a : Int), .int .u16 (p : Int), .int .u32 (b : Int), .int .u16 (q : Int)]] w fun e w' => e = .returned (.string (ptx a p b q)) ∧ Below w.heap.size w w' := by
  have H1 : Hid (∀ w2, P4 w a p b q w2 → Calls Try.prog 18 #[.int .u32 (a : Int)] w2 fun e w' => e = .returned (.string (by4 a)) ∧ P4 w a p b q w') := fun w2 k => (four_any a w2 ha).mono fun e w' h => ⟨h.1, k.on h.2⟩
  have H2 : Hid (∀ w2, P4 w a p b q w2 → Calls Try.prog 18 #[.int .u32 (b : Int)] w2 fun e w' => e = .returned (.string (by4 b)) ∧ P4 w a p b q w') := fun w2 k => (four_any b w2 hb).mono fun e w' h => ⟨h.1, k.on h.2⟩
  have H3 : Hid (∀ w2, P4 w a p b q w2 → Calls Try.prog 19 #[.int .u16 (p : Int)] w2 fun e w' => e = .returned (.string (by2 p)) ∧ P4 w a p b q w') := fun w2 k => (two_any p w2 hp).mono fun e w' h => ⟨h.1, k.on h.2⟩
  have H4 : Hid (∀ w2, P4 w a p b q w2 → Calls Try.prog 19 #[.int .u16 (q : Int)] w2 fun e w' => e = .returned (.string (by2 q)) ∧ P4 w a p b q w') := fun w2 k => (two_any q w2 hq).mono fun e w' h => ⟨h.1, k.on h.2⟩
  have HS := hide (P4.start w a p b q 27)
  have HE := hide (ptx_cat a p b q)
  have s1 : (by4 a).size = 4 := rfl
  have s2 : (by4 b).size = 4 := rfl
  have s3 : (by2 p).size = 2 := rfl
  have s4 : (by2 q).size = 2 := rfl
  generalize by4 a = A at *
  generalize by4 b = B at *
  generalize by2 p = P at *
  generalize by2 q = Q at *
  go_enter Try.func11, Try.ntmps11
  go_wp2_with fail
  go_region_held3 (fun w' => w'.cell? ⟨w.heap.size, 0, none⟩ = some (.int .u32 (a : Int)) ∧ w'.cell? ⟨w.heap.size, 1, none⟩ = some (.int .u16 (p : Int)) ∧ w'.cell? ⟨w.heap.size, 2, none⟩ = some (.int .u32 (b : Int)) ∧ w'.cell? ⟨w.heap.size, 3, none⟩ = some (.int .u16 (q : Int))) (go_keep)
    (first
      | (go_at_call 18; refine (unhide H1 _ (unhide HS)).mono ?_; rintro e w1 ⟨rfl, k1⟩; obtain ⟨_, _, q10, q11, q12, q13⟩ := id k1; clear H1)
      | (go_at_call 18; refine (unhide H2 _ k1).mono ?_; rintro e w2 ⟨rfl, k2⟩; obtain ⟨_, _, q20, q21, q22, q23⟩ := id k2; clear H2)
      | (go_at_call 19; refine (unhide H3 _ k2).mono ?_; rintro e w3 ⟨rfl, k3⟩; obtain ⟨_, _, q30, q31, q32, q33⟩ := id k3; clear H3)
      | (go_at_call 19; refine (unhide H4 _ k3).mono ?_; rintro e w4 ⟨rfl, k4⟩; obtain ⟨_, _, q40, q41, q42, q43⟩ := id k4; clear H4))
  go_wp2
  rw [unhide HE]
  go_ret
  exact ⟨rfl, k4.bel⟩

set_option maxHeartbeats 1000000 in
theorem pair_ok (key : ByteArray) (a p b q : Nat) (w : World) (hk : key.size = 40) (ha : a < 4294967296) (hp : p < 65536) (hb : b < 4294967296) (hq : q < 65536) :
    Calls Try.prog 10 #[.string key, .agg #[.int .u32 (a : Int), .int .u16 (p : Int), .int .u32 (b : Int), .int .u16 (q : Int)]] w fun e w' => e = .returned (.tuple #[.int .u32 (hsh key (ptx a p b q) : Nat), .int .i64 0]) ∧ Below w.heap.size w w' := by
  have H1 := hide (fun w => text_any a p b q w ha hp hb hq)
  have H2 := hide (fun w => hash_ok key (ptx a p b q) w hk (by show 12 ≤ 36; decide))
  generalize ptx a p b q = X at *
  go_enter Try.func10, Try.ntmps10
  go_wp2_with fail
  refine (unhide H1 _).mono ?_
  rintro e w1 ⟨rfl, b1⟩
  go_wp2_with fail
  refine (unhide H2 _).mono ?_
  rintro e w2 ⟨rfl, n, rfl⟩
  go_wp2_with fail
  go_ret2
  exact ⟨rfl, below_draw ((below_one w _).trans (b1.mono (by simp))) n⟩

set_option maxHeartbeats 1000000 in
theorem pair_key (key : ByteArray) (a p b q : Nat) (w : World) (hk : key.size ≠ 40) (ha : a < 4294967296) (hp : p < 65536) (hb : b < 4294967296) (hq : q < 65536) :
    Calls Try.prog 10 #[.string key, .agg #[.int .u32 (a : Int), .int .u16 (p : Int), .int .u32 (b : Int), .int .u16 (q : Int)]] w fun e w' => e = .returned (.tuple #[.int .u32 0, .int .i64 2]) ∧ Below w.heap.size w w' := by
  have H1 := hide (fun w => text_any a p b q w ha hp hb hq)
  have H2 := hide (fun w => hash_key key (ptx a p b q) w hk)
  generalize ptx a p b q = X at *
  go_enter Try.func10, Try.ntmps10
  go_wp2_with fail
  refine (unhide H1 _).mono ?_
  rintro e w1 ⟨rfl, b1⟩
  go_wp2_with fail
  refine (unhide H2 _).mono ?_
  rintro e w2 ⟨rfl, n, rfl⟩
  go_wp2_with fail
  go_ret2
  exact ⟨rfl, below_draw ((below_one w _).trans (b1.mono (by simp))) n⟩

end Go.Proofs.Ytkhkobdbbffkbaa
