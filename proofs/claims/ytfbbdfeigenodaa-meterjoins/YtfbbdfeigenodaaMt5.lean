/- What All of package meter answers: the counters by rising names, in memory of its own. -/
import Derived.Test.YtfbbdfeigenodaaSrt0
import Derived.Deep.AppendLies
namespace Go.Proofs.Ytfbbdfeigenodaa
open Go.RowKit Go.Maps

def cellsE (x : Ent) : List Value := [encStr x.1, .int .i64 (x.2.1 : Int), .int .i64 (x.2.2 : Int)]
def cellsL (L : List Ent) : List Value := L.flatMap cellsE
theorem cellsL_len (L : List Ent) : (cellsL L).length = L.length * 3 := by
  unfold cellsL
  induction L with
  | nil => rfl
  | cons x r ih => rw [List.flatMap_cons, List.length_append, ih]; simp [cellsE]; omega
theorem cellsL_snoc (L : List Ent) {k : Nat} {x : Ent} (h : L[k]? = some x) : cellsL (L.take (k + 1)) = cellsL (L.take k) ++ cellsE x := by
  unfold cellsL
  rw [List.take_add_one, h, List.flatMap_append]
  simp
theorem cellsL_get (L : List Ent) : ∀ {k : Nat} {x : Ent}, L[k]? = some x → ∀ j, j < 3 → (cellsL L)[k * 3 + j]? = (cellsE x)[j]? := by
  unfold cellsL
  induction L with
  | nil => intro k x h; simp at h
  | cons y r ih =>
    intro k x h j hj
    rw [List.flatMap_cons]
    have hl : (cellsE y).length = 3 := rfl
    cases k with
    | zero =>
      simp at h
      subst h
      rw [Nat.zero_mul, Nat.zero_add, List.getElem?_append_left (by omega)]
    | succ i =>
      rw [List.getElem?_append_right (by omega), hl, show (i + 1) * 3 + j - 3 = i * 3 + j by omega]
      exact ih (by simpa using h) j hj

/-- a cell of a row -/
theorem row_cell {w : World} {g e size : Nat} {cur : Array Value} {xs : List Value} {n : Nat} (hg : w.heap[g]? = some (.cells cur e (0, 0))) (hx : cur.toList.take (n * size) = xs) {j : Nat} {u : Value} (hj : xs[j]? = some u) : w.cell? ⟨g, j, none⟩ = some u := by
  rw [cell_of_row w g j cur e (0, 0) hg]
  rw [← hx] at hj
  rw [List.getElem?_take] at hj
  split at hj
  · simpa using hj
  · cases hj

theorem row_below {w w' : World} {base e size n : Nat} {v : Value} {xs : List Value} (h : w.ownsRow base e size v n xs) (hb : Below w.heap.size w w') : w'.ownsRow base e size v n xs :=
  h.kept (row := none) ⟨hb.os, hb.tape, hb.output, hb.size, fun i hi _ => hb.block i hi⟩ (by cases v.ownBlock <;> simp)
theorem row_kp {w w' : World} {base e size n : Nat} {v : Value} {xs : List Value} {T : List Nat} (h : w.ownsRow base e size v n xs) (hb : Kp T w w') (hT : ∀ i ∈ T, v.ownBlock ≠ some i) : w'.ownsRow base e size v n xs := by
  refine ⟨h.1, ?_⟩
  rcases h.2 with hn | ⟨g, cap, cur, rfl, hbg, hgg, rest⟩
  · exact .inl hn
  · refine .inr ⟨g, cap, cur, rfl, hbg, ?_, rest⟩
    rw [hb.block g (Array.getElem?_eq_some_iff.1 hgg).1 (fun k => hT g k rfl)]
    exact hgg
theorem row_base {w : World} {base base' e size n : Nat} {v : Value} {xs : List Value} (h : w.ownsRow base e size v n xs) (hb : base' ≤ base) : w.ownsRow base' e size v n xs := by
  refine ⟨h.1, ?_⟩
  rcases h.2 with hn | ⟨g, cap, cur, rfl, hbg, r⟩
  · exact .inl hn
  · exact .inr ⟨g, cap, cur, rfl, Nat.le_trans hb hbg, r⟩

set_option maxRecDepth 100000 in
set_option maxHeartbeats 2000000 in
theorem all_any (p b : Nat) (L : List Ent) (w : World) (h : PM w p b L) (hL : Cnt L) :
    Calls Try.prog 19 #[.pointer (some ⟨p, 0, none⟩)] w fun e w' => ∃ v, e = .returned v ∧ w'.ownsRow w.heap.size 49 3 v L.length (cellsL L) ∧ Below w.heap.size w w' := by
  have H := hide (made_ok p b w h.cell)
  have hc := h.cell
  have HK := hide (keys_call (some b) w)
  have HS := hide (sorted_call b L.length L w h.map hL.room hL.srt)
  have HP := hide h
  clear h
  obtain ⟨i0, hi, hz0, hz1, hz2⟩ := info_parts (P := Try.prog) (e := 49) (z := .agg #[.string ByteArray.empty, .int .i64 0, .int .i64 0]) (size := 3) (bytes := 32) (by kernel_rfl)
  have hroom := hL.room
  go_enter Try.func19, Try.ntmps19
  go_wp2_with fail
  refine (unhide H).mono ?_
  rintro e w1 ⟨rfl, rfl⟩
  go_wp2_with fail
  refine (unhide HK).mono ?_
  rintro e w2 ⟨rfl, rfl⟩
  go_wp2_with fail
  refine (unhide HS).mono ?_
  rintro e w2 ⟨vk, rfl, hrow, hb2⟩
  rcases hrow.2 with ⟨rfl, h0⟩ | ⟨g, cap, cur, rfl, hgb, hgg, hncap, hcap, hcs, htake⟩
  · obtain rfl : L = [] := List.eq_nil_of_length_eq_zero h0
    go_wp2
    go_loopw [3, 19] (fun v i wr => v = .slice none 0 0 ∧ i = .int .i64 0 ∧ wr = w2) (fun _ _ _ => 0)
    case atStart => exact ⟨rfl, rfl, rfl⟩
    case round =>
      obtain ⟨rfl, rfl, rfl⟩ := hrel
      go_wp2
      go_ret
      exact ⟨_, rfl, World.ownsRow_nil _ _ _ _, hb2⟩
  · have hglt : g < w2.heap.size := (Array.getElem?_eq_some_iff.1 hgg).1
    have HC : Hid (∀ k x, L[k]? = some x → w2.cell? ⟨g, k, none⟩ = some (encStr x.1)) := by
      intro k x hx
      exact row_cell hgg htake (by simp [hx])
    have hncap' : (L.length : Int) ≤ (cap : Int) := by omega
    clear hcs htake hcap hgg hrow
    go_wp2
    go_loopw [3, 19] (fun v i wr => ∃ k : Nat, k ≤ L.length ∧ i = .int .i64 (k : Int) ∧ wr.ownsRow w2.heap.size 49 3 v k (cellsL (L.take k)) ∧ Below w2.heap.size w2 wr) (fun _ i _ => L.length - (intOf i).toNat)
    case atStart => exact ⟨0, Nat.zero_le _, rfl, World.ownsRow_nil _ _ _ _, Below.refl _ _⟩
    case round =>
      obtain ⟨k, hk, rfl, hown, hbel⟩ := hrel
      by_cases hlt : k < L.length
      · obtain ⟨x, hx⟩ : ∃ x, L[k]? = some x := ⟨L[k], List.getElem?_eq_getElem hlt⟩
        have hmem : x ∈ L := List.mem_of_getElem? hx
        have hcapx := hL.cap x hmem
        have hlen := hL.len x hmem
        have e52 : (2 : Nat) ^ 52 = 4503599627370496 := by decide
        have hck : wr.cell? ⟨g, k, none⟩ = some (encStr x.1) := (hbel.cell hglt).trans (unhide HC k x hx)
        have hPr : PM wr p b L := ((unhide HP).kept (Kp.of_below [] hb2) (by simp) (by simp)).kept (Kp.of_below [] hbel) (by simp) (by simp)
        have hcm := hPr.cell
        have hsz : (⟨x.1.toArray⟩ : ByteArray).size ≤ 32 := by
          show x.1.toArray.size ≤ 32
          simpa using hlen
        have hl := hPr.look false (s := ⟨x.1.toArray⟩) (Nat.le_trans hsz (by decide))
        have ecn : cntE x.1 L = x.2 := by unfold cntE; rw [srt_get hL.srt hx]; rfl
        simp only [Bool.false_eq_true, if_false, ecn] at hl
        have HR := hide (read_ok x.2.1 x.2.2 wr (by omega) (by omega))
        have HCl := hide (clone_any ⟨x.1.toArray⟩ wr (by omega))
        have hi1 : (0 : Int) ≤ (k : Int) := by omega
        have hi2 : (k : Int) < (L.length : Int) := by omega
        have HX := hide hx
        clear hsz hlen hcapx ecn hx hmem e52
        go_wp2_with fail
        refine (unhide HR).mono ?_
        rintro e w3 ⟨rfl, rfl⟩
        go_wp2_with fail
        refine (unhide HCl).mono ?_
        rintro e w4 ⟨rfl, hb4⟩
        have hsz4 : w2.heap.size ≤ w4.heap.size := Nat.le_trans hbel.size hb4.size
        have hown4 := row_below hown hb4
        have hb24 : Below w2.heap.size w2 w4 := hbel.trans (hb4.mono hbel.size)
        have hlt4 := hown4.lt
        clear hown hb4 hbel hPr hl hck hcm
        go_wp2_with (at_builtin; refine wpList_append_lies _ rfl _ _ 46 rfl w2.heap.size 49 i0 _ 3 32 Try.underlying46 hi hz0 hz1 hz2 rfl (by decide) u3 k _ rfl (hown4.alloc _) ⟨w4.heap.size, 0, none⟩ 1 1 (cellsE x) rfl rfl (World.news_of_block (heap_alloc_new w4 _)) (by intro u hu; simp [cellsE] at hu; rcases hu with rfl | rfl | rfl <;> rfl) (by decide) (by unfold maxLen; omega) (by omega) (by simp; omega) _ rfl ?_; intro g2 cap2 w5 hown5 hgrow5 hat5 hlt5)
        go_roundw
        case rel => exact ⟨k + 1, by omega, by go_num, by rw [cellsL_snoc L (unhide HX)]; exact hown5, (hb24.alloc hsz4 _).grown hgrow5 (by simp; omega) (fun j hj => (hlt4 j hj).1)⟩
        case measure => simp [intOf]; omega
      · obtain rfl : k = L.length := by omega
        rw [List.take_length] at hown
        go_wp2
        go_ret
        exact ⟨_, rfl, row_base hown hb2.size, hb2.trans (hbel.mono hb2.size)⟩

end Go.Proofs.Ytfbbdfeigenodaa
