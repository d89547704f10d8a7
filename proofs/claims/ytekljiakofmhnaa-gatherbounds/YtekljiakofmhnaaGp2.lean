/- The contracts of slices.IndexFunc and slices.DeleteFunc over packets' keys, over the loaded program: the row that is handed in holds what is left, and nothing else has turned. Conditions: the row is the caller's own. -/
import Derived.Test.YtekljiakofmhnaaGp1
namespace Go.Proofs.Ytekljiakofmhnaa
open Go.RowKit

instance : Inhabited Pk := ⟨⟨0, 0, 0, 0⟩⟩
def flatK (l : List Pk) : List Value := (l.map pkL).flatten
theorem flatK_length (l : List Pk) : (flatK l).length = l.length * 4 := by
  induction l with
  | nil => rfl
  | cons x r ih =>
    simp only [flatK, List.map_cons, List.flatten_cons, List.length_append, List.length_cons] at *
    rw [ih]
    simp
    omega
theorem flatK_app (l r : List Pk) : flatK (l ++ r) = flatK l ++ flatK r := by simp [flatK]
theorem flatK_cons (p : Pk) (r : List Pk) : flatK (p :: r) = pkL p ++ flatK r := by simp [flatK]
theorem flatK_get (l : List Pk) (j : Nat) (p : Pk) (h : l[j]? = some p) : (flatK l)[j * 4]? = some (.int .u32 (p.frm : Int)) ∧ (flatK l)[j * 4 + 1]? = some (.int .u32 (p.dst : Int)) ∧ (flatK l)[j * 4 + 2]? = some (.int .u8 (p.pr : Int)) ∧ (flatK l)[j * 4 + 3]? = some (.int .u16 (p.idn : Int)) := by
  induction l generalizing j with
  | nil => simp at h
  | cons x r ih =>
    cases j with
    | zero =>
      simp at h
      subst h
      rw [flatK_cons]
      exact ⟨rfl, rfl, rfl, rfl⟩
    | succ j =>
      obtain ⟨a, b, c, d⟩ := ih j (by simpa using h)
      rw [flatK_cons]
      have go : ∀ t, (pkL x ++ flatK r)[(j + 1) * 4 + t]? = (flatK r)[j * 4 + t]? := fun t => by
        rw [List.getElem?_append_right (by show 4 ≤ _; omega), show (j + 1) * 4 + t - (pkL x).length = j * 4 + t by show (j + 1) * 4 + t - 4 = _; omega]
      exact ⟨(go 0).trans a, (go 1).trans b, (go 2).trans c, (go 3).trans d⟩
theorem flatK_ext {l : List Pk} {xs : List Value} (hl : xs.length = l.length * 4) (h : ∀ j p, l[j]? = some p → xs[j * 4]? = some (.int .u32 (p.frm : Int)) ∧ xs[j * 4 + 1]? = some (.int .u32 (p.dst : Int)) ∧ xs[j * 4 + 2]? = some (.int .u8 (p.pr : Int)) ∧ xs[j * 4 + 3]? = some (.int .u16 (p.idn : Int))) : xs = flatK l := by
  apply List.ext_getElem?
  intro k
  by_cases hk : k < l.length * 4
  · have hj : k / 4 < l.length := by omega
    obtain ⟨a, b, c, d⟩ := h (k / 4) _ (List.getElem?_eq_getElem hj)
    obtain ⟨a', b', c', d'⟩ := flatK_get l (k / 4) _ (List.getElem?_eq_getElem hj)
    have hm : k % 4 = 0 ∨ k % 4 = 1 ∨ k % 4 = 2 ∨ k % 4 = 3 := by omega
    rcases hm with hm | hm | hm | hm
    · rw [show k = k / 4 * 4 by omega, a, a']
    · rw [show k = k / 4 * 4 + 1 by omega]; rw [b, b']
    · rw [show k = k / 4 * 4 + 2 by omega]; rw [c, c']
    · rw [show k = k / 4 * 4 + 3 by omega]; rw [d, d']
  · rw [List.getElem?_eq_none (by omega), List.getElem?_eq_none (by rw [flatK_length]; omega)]

/-- a row of keys in a block that may be written -/
structure PR4 (w : World) (b m n : Nat) (f : Nat → Pk) (cur : Array Value) : Prop where
  hw : w.heap[b]? = some (.cells cur 56 (0, 0))
  sz : cur.size = m * 4
  c0 : ∀ k, k < n → cur[k * 4]? = some (.int .u32 ((f k).frm : Int))
  c1 : ∀ k, k < n → cur[k * 4 + 1]? = some (.int .u32 ((f k).dst : Int))
  c2 : ∀ k, k < n → cur[k * 4 + 2]? = some (.int .u8 ((f k).pr : Int))
  c3 : ∀ k, k < n → cur[k * 4 + 3]? = some (.int .u16 ((f k).idn : Int))
theorem PR4.cell {w : World} {b m n : Nat} {f : Nat → Pk} {cur : Array Value} (h : PR4 w b m n f cur) (j : Nat) : w.cell? ⟨b, j, none⟩ = cur[j]? := by simp [World.cell?, h.hw]
theorem PR4.fz {w : World} {b m n : Nat} {f : Nat → Pk} {cur : Array Value} (h : PR4 w b m n f cur) (j : Nat) : w.frozen? ⟨b, j, none⟩ = false := by simp [World.frozen?, h.hw]
theorem PR4.lt {w : World} {b m n : Nat} {f : Nat → Pk} {cur : Array Value} (h : PR4 w b m n f cur) : b < w.heap.size := (Array.getElem?_eq_some_iff.1 h.hw).1
theorem PR4.on {w w' : World} {b m n : Nat} {f : Nat → Pk} {cur : Array Value} (h : PR4 w b m n f cur) (k : Below w.heap.size w w') : PR4 w' b m n f cur :=
  ⟨(k.block b h.lt).trans h.hw, h.sz, h.c0, h.c1, h.c2, h.c3⟩
def updK (f : Nat → Pk) (i : Nat) (x : Pk) : Nat → Pk := fun k => if k = i then x else f k
theorem PR4.set {w : World} {b m n : Nat} {f : Nat → Pk} {cur : Array Value} (h : PR4 w b m n f cur) (i : Nat) (hi : i < n) (hm : n ≤ m) (x : Pk) :
    ∃ cur', PR4 ((((w.setCell ⟨b, i * 4, none⟩ (.int .u32 (x.frm : Int))).setCell ⟨b, i * 4 + 1, none⟩ (.int .u32 (x.dst : Int))).setCell ⟨b, i * 4 + 2, none⟩ (.int .u8 (x.pr : Int))).setCell ⟨b, i * 4 + 3, none⟩ (.int .u16 (x.idn : Int))) b m n (updK f i x) cur' := by
  have hsz := h.sz
  refine ⟨(((cur.setIfInBounds (i * 4) (.int .u32 (x.frm : Int))).setIfInBounds (i * 4 + 1) (.int .u32 (x.dst : Int))).setIfInBounds (i * 4 + 2) (.int .u8 (x.pr : Int))).setIfInBounds (i * 4 + 3) (.int .u16 (x.idn : Int)), heap_setCell_same _ b _ _ _ _ (heap_setCell_same _ b _ _ _ _ (heap_setCell_same _ b _ _ _ _ (heap_setCell_same _ b _ _ _ _ h.hw))), by simpa using hsz, fun k hk => ?_, fun k hk => ?_, fun k hk => ?_, fun k hk => ?_⟩
  all_goals
    unfold updK
    by_cases e : k = i
    · subst e
      simp [Array.getElem?_setIfInBounds]
      omega
    · simp only [Array.getElem?_setIfInBounds, Array.size_setIfInBounds]
      rw [if_neg (by omega), if_neg (by omega), if_neg (by omega), if_neg (by omega), if_neg e]
      first | exact h.c0 k hk | exact h.c1 k hk | exact h.c2 k hk | exact h.c3 k hk
/-- under way: those that are not k are kept of the first j -/
structure DJ (k0 : Pk) (L : List Pk) (i j : Nat) (f : Nat → Pk) : Prop where
  len : i = ((L.take j).filter (fun x => decide (x ≠ k0))).length
  low : ∀ k, k < i → ((L.take j).filter (fun x => decide (x ≠ k0)))[k]? = some (f k)
  high : ∀ k, j ≤ k → k < L.length → L[k]? = some (f k)

abbrev nk (k0 : Pk) : Pk → Bool := fun x => decide (x ≠ k0)
theorem DJ.le {k0 : Pk} {L : List Pk} {i j : Nat} {f : Nat → Pk} (h : DJ k0 L i j f) : i ≤ j := by
  have := List.length_filter_le (nk k0) (L.take j)
  have e : i = ((L.take j).filter (nk k0)).length := h.len
  simp only [List.length_take] at this
  omega
theorem DJ.drop {k0 : Pk} {L : List Pk} {i j : Nat} {f : Nat → Pk} (h : DJ k0 L i j f) (hj : j < L.length) (hk : L[j] = k0) : DJ k0 L i (j + 1) f := by
  have e : (L.take (j + 1)).filter (nk k0) = (L.take j).filter (nk k0) := by rw [take_snoc' L j hj, List.filter_append]; simp [nk, hk]
  exact ⟨by rw [e]; exact h.len, by rw [e]; exact h.low, fun k h1 h2 => h.high k (by omega) h2⟩
theorem DJ.more {k0 : Pk} {L : List Pk} {i j : Nat} {f : Nat → Pk} (h : DJ k0 L i j f) (hj : j < L.length) (hk : L[j] ≠ k0) : DJ k0 L (i + 1) (j + 1) (updK f i L[j]) := by
  have e : (L.take (j + 1)).filter (nk k0) = (L.take j).filter (nk k0) ++ [L[j]] := by rw [take_snoc' L j hj, List.filter_append]; simp [nk, hk]
  have hle := h.le
  refine ⟨by rw [e, List.length_append, ← h.len]; rfl, fun k hk2 => ?_, fun k h1 h2 => ?_⟩
  · rw [e]
    unfold updK
    by_cases x : k = i
    · subst x
      rw [if_pos rfl, List.getElem?_append_right (by rw [← h.len]; exact Nat.le_refl _), ← h.len]
      simp
    · rw [if_neg x, List.getElem?_append_left (by rw [← h.len]; omega)]
      exact h.low k (by omega)
  · unfold updK
    rw [if_neg (by omega)]
    exact h.high k (by omega) h2
theorem DJ.start {k0 : Pk} {L : List Pk} {k : Nat} (h : k < L.length) (ha : ∀ x ∈ L.take k, x ≠ k0) (hk : L[k] = k0) {f : Nat → Pk} (hf : ∀ k x, L[k]? = some x → f k = x) : DJ k0 L k (k + 1) f := by
  have e : (L.take (k + 1)).filter (nk k0) = L.take k := by rw [take_snoc' L k h, List.filter_append, List.filter_eq_self.2 (fun x hx => by simpa [nk] using ha x hx)]; simp [nk, hk]
  refine ⟨by rw [e, List.length_take]; omega, fun j hj => ?_, fun j h1 h2 => ?_⟩
  · rw [e, List.getElem?_take, if_pos hj, List.getElem?_eq_getElem (by omega), hf j _ (List.getElem?_eq_getElem (by omega))]
  · rw [List.getElem?_eq_getElem h2, hf j _ (List.getElem?_eq_getElem h2)]
def fK (L : List Pk) (k : Nat) : Pk := (L[k]?).getD default
theorem own_pr4 {w : World} {base : Nat} {sv : Value} {L : List Pk} (hown : w.ownsRow base 56 4 sv L.length (flatK L)) :
    (sv = .slice none 0 0 ∧ L = []) ∨ ∃ g cap cur, sv = .slice (some ⟨g, 0, none⟩) L.length cap ∧ base ≤ g ∧ L.length ≤ cap ∧ cap ≤ maxLen ∧ PR4 w g cap L.length (fK L) cur := by
  rcases hown.2 with ⟨rfl, h2⟩ | ⟨g, cap, cur, rfl, h1, h3, h4, h5, h6, h7⟩
  · exact .inl ⟨rfl, List.eq_nil_of_length_eq_zero h2⟩
  · refine .inr ⟨g, cap, cur, rfl, h1, h4, h5, ?_⟩
    have hc : ∀ k u, (flatK L)[k]? = some u → cur[k]? = some u := fun k u hk => by
      rw [← h7, List.getElem?_take] at hk
      split at hk
      · simpa using hk
      · cases hk
    have hf : ∀ k, k < L.length → L[k]? = some (fK L k) := fun k hk => by unfold fK; rw [List.getElem?_eq_getElem hk]; rfl
    exact ⟨h3, h6, fun k hk => hc _ _ (flatK_get L k _ (hf k hk)).1, fun k hk => hc _ _ (flatK_get L k _ (hf k hk)).2.1, fun k hk => hc _ _ (flatK_get L k _ (hf k hk)).2.2.1, fun k hk => hc _ _ (flatK_get L k _ (hf k hk)).2.2.2⟩
theorem pr4_own {w : World} {base b cap : Nat} {M : List Pk} {f : Nat → Pk} {cur : Array Value} (h : PR4 w b cap M.length f cur) (hb : base ≤ b) (hc : M.length ≤ cap) (hm : cap ≤ maxLen) (hf : ∀ k, k < M.length → M[k]? = some (f k)) :
    w.ownsRow base 56 4 (.slice (some ⟨b, 0, none⟩) M.length cap) M.length (flatK M) := by
  refine ⟨flatK_length M, .inr ⟨b, cap, cur, rfl, hb, h.hw, hc, hm, h.sz, ?_⟩⟩
  have hsz := h.sz
  refine flatK_ext (by simp; omega) (fun j p hj => ?_)
  have hlt := (List.getElem?_eq_some_iff.1 hj).1
  have hp : f j = p := by have := hf j hlt; rw [hj] at this; exact (Option.some.inj this).symm
  subst hp
  have go : ∀ t, t < 4 → (cur.toList.take (M.length * 4))[j * 4 + t]? = cur[j * 4 + t]? := fun t ht => by
    rw [List.getElem?_take, if_pos (by omega)]; simp
  exact ⟨(go 0 (by omega)).trans (h.c0 j hlt), (go 1 (by omega)).trans (h.c1 j hlt), (go 2 (by omega)).trans (h.c2 j hlt), (go 3 (by omega)).trans (h.c3 j hlt)⟩

/-- only one block has turned -/
theorem gb_refl (w : World) (b : Option Nat) : w.grownBy w b := ⟨rfl, rfl, rfl, Nat.le_refl _, fun _ _ _ => rfl⟩
theorem gb_below {w a c : World} {b : Option Nat} (h : w.grownBy a b) (k : Below a.heap.size a c) : w.grownBy c b :=
  ⟨k.os.trans h.os, k.tape.trans h.tape, k.output.trans h.output, Nat.le_trans h.size k.size, fun i hi hn => (k.block i (Nat.lt_of_lt_of_le hi h.size)).trans (h.block i hi hn)⟩
theorem gb_set {w a : World} {b : Nat} (h : w.grownBy a (some b)) (j : Nat) (v : Value) : w.grownBy (a.setCell ⟨b, j, none⟩ v) (some b) :=
  ⟨h.os, h.tape, h.output, by simpa using h.size, fun i hi hn => (heap_setCell_other a ⟨b, j, none⟩ i v (fun e => hn (by rw [e]))).trans (h.block i hi hn)⟩
theorem gb_sets {w : World} {b : Nat} : ∀ (vs : List Value) (o : Nat) (a : World), w.grownBy a (some b) → w.grownBy (a.setCells b o vs) (some b)
  | [], _, _, h => h
  | v :: r, o, _, h => gb_sets r (o + 1) _ (gb_set h o v)
/-- where the first one is that is k0 -/
def IdxK (k0 : Pk) (L : List Pk) (r : Int) : Prop := (r = -1 ∧ ∀ x ∈ L, x ≠ k0) ∨ ∃ (k : Nat) (h : k < L.length), r = k ∧ (∀ x ∈ L.take k, x ≠ k0) ∧ L[k] = k0

set_option maxHeartbeats 2000000 in
theorem indexk_any (sv : Value) (L : List Pk) (k0 : Pk) (B base : Nat) (w : World) (hL : L.length ≤ 65536) (hB : KB w B k0) (hown : w.ownsRow base 56 4 sv L.length (flatK L)) :
    Calls Try.prog 50 #[sv, .func (.func 29) #[] #[.pointer (some ⟨B, 0, none⟩)]] w fun e w' => (∃ r : Int, e = .returned (.int .i64 r) ∧ IdxK k0 L r) ∧ Below w.heap.size w w' := by
  have B0 := hide (Below.refl w.heap.size w)
  rcases own_pr4 hown with ⟨rfl, rfl⟩ | ⟨b, cap, cur, rfl, hb1, hcap, hmax, hP⟩
  · clear hown hB
    go_enter Try.func50, Try.ntmps50
    go_wp2
    go_loopw [8] (fun i wr => i = .int .i64 0 ∧ wr = w) (fun _ _ => 0)
    case atStart => exact ⟨rfl, rfl⟩
    case round =>
      obtain ⟨rfl, rfl⟩ := hrel
      go_wp2
      go_ret
      exact ⟨⟨_, rfl, .inl ⟨rfl, by simp⟩⟩, unhide B0⟩
  · have HKB := hide hB
    clear hown hB
    unfold maxLen at hmax
    go_enter Try.func50, Try.ntmps50
    go_wp2
    go_loopw [8] (fun i wr => ∃ k : Nat, k ≤ L.length ∧ i = .int .i64 (k : Int) ∧ (∀ x ∈ L.take k, x ≠ k0) ∧ Below w.heap.size w wr) (fun i _ => L.length - (intOf i).toNat)
    case atStart => exact ⟨0, Nat.zero_le _, rfl, by simp, Below.refl _ _⟩
    case round =>
      obtain ⟨k, hk, rfl, hno, hB⟩ := hrel
      have HNO := hide hno
      clear hno
      by_cases hlt : k < L.length
      · have hPw := hP.on hB
        have c0 := (hPw.cell (k * 4)).trans (hPw.c0 k hlt)
        have c1 := (hPw.cell (k * 4 + 1)).trans (hPw.c1 k hlt)
        have c2 := (hPw.cell (k * 4 + 2)).trans (hPw.c2 k hlt)
        have c3 := (hPw.cell (k * 4 + 3)).trans (hPw.c3 k hlt)
        obtain ⟨x, hx⟩ : ∃ x, fK L k = x := ⟨_, rfl⟩
        have hLk : L[k] = x := by rw [← hx]; unfold fK; rw [List.getElem?_eq_getElem hlt]; rfl
        rw [hx] at c0 c1 c2 c3
        have HM := hide (drop1_any x k0 B wr ((unhide HKB).on hB))
        have HP := hide hP
        clear hP hPw hx
        by_cases hg : x = k0
        · rw [decide_eq_true hg] at HM
          have HA : Hid (IdxK k0 L k) := .inr ⟨k, hlt, rfl, unhide HNO, hLk.trans hg⟩
          clear hLk hg
          go_wp2_with fail
          refine (unhide HM).mono ?_
          rintro e w3 ⟨rfl, b3⟩
          go_wp2_with fail
          go_ret
          exact ⟨⟨_, rfl, unhide HA⟩, tr2 hB b3⟩
        · rw [decide_eq_false hg] at HM
          have HA : Hid (∀ x ∈ L.take (k + 1), x ≠ k0) := by
            intro y hy
            rw [take_snoc' L k hlt, List.mem_append] at hy
            rcases hy with hy | hy
            · exact unhide HNO y hy
            · simp at hy; subst hy; rw [hLk]; exact hg
          clear hLk hg
          go_wp2_with fail
          refine (unhide HM).mono ?_
          rintro e w3 ⟨rfl, b3⟩
          go_wp2_with fail
          go_roundw
          case rel => exact ⟨k + 1, by omega, by go_num, unhide HA, tr2 hB b3⟩
          case measure => simp [intOf]; omega
      · obtain rfl : k = L.length := by omega
        rw [List.take_length] at HNO
        go_wp2
        go_ret
        exact ⟨⟨_, rfl, .inl ⟨rfl, unhide HNO⟩⟩, hB⟩

end Go.Proofs.Ytekljiakofmhnaa
