/- The contracts of package sum's iterators and of the sum over what they yield, over the loaded program: each text's words, one behind the other; the sum of all, brought to a word; no memory that was there has turned. Conditions: texts of together at most 2 to the power of 40 bytes. -/
import Derived.Test.YtekljiakofmhnaaWOfK
import Derived.Test.YtekljiakofmhnaaSumMath
import Derived.RangeFuncNested
import Derived.RangeFuncBound
import Derived.RangeFuncCalls
import Derived.RangeFuncLeaves
import Derived.Shelf.Abstract
import Derived.Shelf.RegionOpen
import Derived.OwnWalkIn
import Derived.TacticsInMore
import Derived.LoopNIn
import Derived.LoopIn
namespace Go.Proofs.Ytekljiakofmhnaa
open Go.RowKit Go.Shelf

attribute [local go_sem] Oper.semAt_some

abbrev enc16 (x : W16) : Array Value := #[.int .u16 (x.1 : Int)]

def cellNat (a : Addr) (W : World) : Nat := match W.cell? a with
  | some v => (intOf v).toNat
  | none => 0
theorem cellNat_eq {a : Addr} {W : World} {k : IntKind} {m : Nat} (h : W.cell? a = some (.int k (m : Int))) : cellNat a W = m := by
  unfold cellNat; rw [h]; simp [intOf]

theorem fold_step (m : Nat) (h : m < 72057594037927936) : IntKind.u64.wrap ((m : Int) / 65536 + bits .and .u64 (m : Int) 65535) = ((m / 65536 + m % 65536 : Nat) : Int) := by
  have e := u64_and_nat m 65535 (by omega) (by omega)
  rw [nat_mask16] at e
  rw [show (65535 : Int) = ((65535 : Nat) : Int) from rfl, e, IntKind.wrap_u64, Int.emod_eq_of_lt (by omega) (by omega)]
  omega

set_option maxRecDepth 100000 in
set_option maxHeartbeats 2000000 in
theorem total_in (gf : Nat) (lb : Array Value) (N T n₀ : Nat) (w : World) (heg : ∀ args w, (callFunc gf args).run Try.prog w = .ok (.enter gf args) w) (hn₀ : n₀ ≤ w.heap.size) (hN : N ≤ 1099511627776)
    (hseq : SeqStopsK Fence.wide (3 - 1) Try.prog gf lb enc16 (Below n₀) (fun ys => sumW ys = T ∧ ys.length ≤ N) (fun _ => True) N w) :
    CallsIn Fence.wide 3 Try.prog 63 #[.func (.func gf) #[] lb] w fun e W' => e = .returned (.int .u16 (red T : Nat)) ∧ Below w.heap.size w W' := by
  refine callsIn_of_wp_marks Try.func63 rfl trivial ?_ rfl
  simp only [Try.ntmps63, List.size_toArray, List.length_cons, List.length_nil, Nat.reduceAdd, Nat.reduceSub, Array.replicate_succ, Array.replicate_zero, List.push_toArray, List.append_toArray, List.nil_append, List.cons_append]
  gi_wp2
  have bS := Boxed.new w 79 (.int .u64 0)
  have hB0 : Below w.heap.size w (w.alloc (.cells #[.int .u64 0] 79)) := (Below.refl _ w).alloc (Nat.le_refl _) _
  refine wpIn_rangeFunc_ownF rfl (by decide) (gf := gf) (lb := lb) rfl trivial heg
    hseq belowK_t (belowK_b (by simp; omega)) hB0 (fun _ => rfl)
    (fun pre W => (W.cell? ⟨w.heap.size, 0, none⟩ = some (.int .u64 (sumW pre : Nat)) ∧ W.frozen? ⟨w.heap.size, 0, none⟩ = false) ∧ Below w.heap.size w W)
    (fun _ _ _ => False)
    (OwnFrom.and (Own.from (fun s A B row hs hg hr => ⟨cell_kept hs.1 hg hr, (frozen_kept hs.1 hg hr).trans hs.2⟩) _) (ownFrom_below (Nat.le_refl _) (by simp)))
    (fun _ _ _ _ _ hs _ _ => hs)
    ⟨⟨bS.cell, bS.frozen⟩, hB0⟩
    (fun x => { tmps := #[.func (.func gf) #[] lb, undef, .int .u16 0, .pointer (some ⟨w.heap.size, 0, none⟩), .int .u16 (x.1 : Int), .func (.func gf) #[] lb, .int .u16 (x.1 : Int), undef, undef, undef, undef, undef, undef, undef, undef, undef, undef, undef, undef, undef], defers := [] }) ?assign ?body ?done ?stop
  case assign =>
    intro l x W K hK
    gi_wp2
    exact hK
  case body =>
    rintro l pre x W ⟨⟨hc, hf⟩, hB⟩ hpl
    have hx := x.2
    have hs := sumW_le pre
    have HS := hide (sumW_snoc pre x)
    gi_wp2
    have e : (sumW pre : Int) + (x.1 : Int) = ((sumW (pre ++ [x]) : Nat) : Int) := by rw [unhide HS, Int.natCast_add]
    rw [e]
    exact ⟨KeepsOthers.setCell _ _ _, (Below.refl n₀ W).setCell (p := ⟨w.heap.size, 0, none⟩) hn₀ _, ⟨World.cell?_setCell_same' _ _ _ (by rw [hc]; rfl), by rw [World.frozen?_setCell]; exact hf⟩, hB.setCell (p := ⟨w.heap.size, 0, none⟩) (Nat.le_refl _) _⟩
  case done =>
    rintro D ys W hD ⟨hT, hl⟩ ⟨⟨hc, hf⟩, hB⟩ hK
    gi_wp2
    gi_loopw [] (fun wr => ∃ m : Nat, m < 72057594037927936 ∧ red m = red T ∧ wr.cell? ⟨w.heap.size, 0, none⟩ = some (.int .u64 (m : Int)) ∧ wr.frozen? ⟨w.heap.size, 0, none⟩ = false ∧ wr.heap[D]? = some (.deferred (some [])) ∧ Below w.heap.size w wr)
      (fun wr => cellNat ⟨w.heap.size, 0, none⟩ wr)
    case atStart =>
      have hs := sumW_le ys
      exact ⟨sumW ys, by omega, by rw [hT], hc, hf, hK, hB⟩
    case round =>
      clear hc hf hK hB
      obtain ⟨m, hm, hr, hc, hf, hK, hB⟩ := hrel
      by_cases hlt : 65535 < m
      · have HR := hide (red_step hlt)
        have HF := hide (fold_step m hm)
        gi_wp2
        rw [unhide HF]
        have hc2 := World.cell?_setCell_same' wr ⟨w.heap.size, 0, none⟩ (.int .u64 ((m / 65536 + m % 65536 : Nat) : Int)) (by rw [hc]; rfl)
        refine ⟨⟨m / 65536 + m % 65536, by omega, by rw [unhide HR]; exact hr, hc2, by rw [World.frozen?_setCell]; exact hf, (KeepsOthers.setCell wr ⟨w.heap.size, 0, none⟩ _).same D _ hK rfl, hB.setCell (p := ⟨w.heap.size, 0, none⟩) (Nat.le_refl _) _⟩, ?_⟩
        rw [cellNat_eq hc2, cellNat_eq hc]
        omega
      · have HR := hide (red_small (Nat.le_of_not_lt hlt))
        gi_wp2
        refine ⟨by simp, .inl ⟨_, _, rfl, run_takeDeferred hK, ?_⟩⟩
        exact ⟨_, results_tmp rfl _ _ _, by rw [← hr, unhide HR]; rfl, hB.trans (belowK_b (w := w) (Nat.le_refl _) wr D _ _ (by simp at hD; omega) hK rfl rfl)⟩
  case stop =>
    rintro D c pre W _ _ h _
    exact h.elim

set_option maxHeartbeats 1000000 in
theorem words_in (a : Option Addr) (len cap : Nat) (w : World) (n : Nat) :
    CallsIn Fence.wide n Try.prog 64 #[.slice a len cap] w fun e w' => e = .returned (.func (.func 70) #[] #[.pointer (some ⟨w.heap.size, 0, none⟩)]) ∧ w' = w.alloc (.cells #[.slice a len cap] 100) := by
  refine callsIn_of_wp Try.func64 rfl trivial ?_ rfl
  simp only [Try.ntmps64, List.size_toArray, List.length_cons, List.length_nil, Nat.reduceAdd, Nat.reduceSub, Array.replicate_succ, Array.replicate_zero, List.push_toArray, List.append_toArray, List.nil_append, List.cons_append]
  gi_wp2
  go_ret
  exact ⟨rfl, rfl⟩

def upto {α : Type} (f : Nat → α) (k : Nat) : List α := (List.range k).map f
theorem upto_succ {α : Type} (f : Nat → α) (k : Nat) : upto f (k + 1) = upto f k ++ [f k] := by simp [upto, List.range_succ]
theorem upto_length {α : Type} (f : Nat → α) (k : Nat) : (upto f k).length = k := by simp [upto]

theorem or_word (f c : Nat) (hf : f % 256 = 0) (hf2 : f < 65536) (hc : c < 256) : bits .or .u16 (f : Int) (c : Int) = ((f + c : Nat) : Int) := by
  rw [u16_or_nat f c hf2 (by omega), nat_join 8 f c hf hc]

/-- What has come, when p is what has been read: the words of p; a byte that is left over lies in first. -/
def Come (p : List UInt8) (pre : List W16) (first : Nat) (half : Bool) : Prop :=
  half = odd p ∧ pre.length = p.length / 2 ∧ first % 256 = 0 ∧ first < 65536 ∧ S p = sumW pre + (if half then first else 0)
theorem come_nil : Come [] [] 0 false := ⟨rfl, rfl, rfl, by omega, rfl⟩
theorem odd_snoc (p : List UInt8) (c : UInt8) : odd (p ++ [c]) = !odd p := by
  unfold odd; rw [List.length_append, List.length_singleton]
  by_cases h : p.length % 2 = 1
  · rw [h, show (p.length + 1) % 2 = 0 from by omega]; rfl
  · rw [show p.length % 2 = 0 from by omega, show (p.length + 1) % 2 = 1 from by omega]; rfl
theorem odd_true {p : List UInt8} (h : odd p = true) : p.length % 2 = 1 := by unfold odd at h; simpa using h
theorem odd_false {p : List UInt8} (h : odd p = false) : p.length % 2 = 0 := by unfold odd at h; simp at h; omega
theorem come_first {p : List UInt8} {pre : List W16} {first : Nat} (c : UInt8) (h : Come p pre first false) : Come (p ++ [c]) pre (c.toNat * 256) true := by
  obtain ⟨h1, h2, h3, h4, h5⟩ := h
  have he := odd_false h1.symm
  have hc := c.toNat_lt
  refine ⟨by rw [odd_snoc, ← h1]; rfl, by rw [List.length_append, List.length_singleton]; omega, by omega, by omega, ?_⟩
  rw [S_snoc_even c he, h5]; simp; omega
theorem come_second {p : List UInt8} {pre : List W16} {first : Nat} (c : UInt8) (x : W16) (h : Come p pre first true) (hx : x.1 = first + c.toNat) : Come (p ++ [c]) (pre ++ [x]) first false := by
  obtain ⟨h1, h2, h3, h4, h5⟩ := h
  have he := odd_true h1.symm
  refine ⟨by rw [odd_snoc, ← h1]; rfl, by simp only [List.length_append, List.length_singleton]; omega, h3, h4, ?_⟩
  rw [S_snoc_odd c he, h5, sumW_snoc, hx]; simp; omega
theorem come_last {p : List UInt8} {pre : List W16} {first : Nat} (h : Come p pre first true) (hw : first < 65536) : sumW (pre ++ [(⟨first, hw⟩ : W16)]) = S p ∧ (pre ++ [(⟨first, hw⟩ : W16)]).length ≤ p.length / 2 + 1 := by
  obtain ⟨h1, h2, h3, h4, h5⟩ := h
  refine ⟨by rw [h5, sumW_snoc]; rfl, by simp only [List.length_append, List.length_singleton]; omega⟩
theorem come_end {p : List UInt8} {pre : List W16} {first : Nat} (h : Come p pre first false) : sumW pre = S p ∧ pre.length ≤ p.length / 2 + 1 := by
  obtain ⟨h1, h2, h3, h4, h5⟩ := h
  refine ⟨by rw [h5]; rfl, by omega⟩

theorem take_snoc (s : ByteArray) (k : Nat) (h : k < s.size) : s.data.toList.take (k + 1) = s.data.toList.take k ++ [s[k]] := by
  rw [List.take_succ_eq_append_getElem (by simpa using h)]; rfl

set_option maxRecDepth 100000 in
set_option maxHeartbeats 4000000 in
theorem words1_in (n : Nat) (hn : 1 ≤ n) (l Bs n₀ b off cap : Nat) (L : List ByteArray) (hL : (cat L).length ≤ 1099511627776) (hlen : L.length ≤ 1099511627776) (hb : b < n₀) (J Jx : List W16 → World → Prop)
    (hY : ∀ pre x W, J pre W → pre.length < (cat L).length / 2 + 1 → YieldAt Fence.wide (n - 1) Try.prog l (enc16 x) W fun e W' =>
      (e = .returned (.bool true) ∧ J (pre ++ [x]) W' ∧ Below n₀ W W') ∨ (e = .returned (.bool false) ∧ Jx (pre ++ [x]) W'))
    (W : World) (hBs : W.cell? ⟨Bs, 0, none⟩ = some (.slice (some ⟨b, off, none⟩) L.length cap)) (hc : ∀ j, j < L.length → W.cell? ⟨b, off + j, none⟩ = some (.string (L[j]?.getD ⟨#[]⟩))) (h0 : J [] W) :
    CallsIn Fence.wide n Try.prog 70 #[.func (.yield l) #[] #[], .pointer (some ⟨Bs, 0, none⟩)] W fun e W' => (∃ v, e = .returned v) ∧
      ((∃ ys, (sumW ys = S (cat L) ∧ ys.length ≤ (cat L).length / 2 + 1) ∧ J ys W') ∨ (∃ pre, True ∧ Jx pre W')) := by
  refine callsIn_of_wp Try.func70 rfl trivial ?_ rfl
  simp only [Try.ntmps70, List.size_toArray, List.length_cons, List.length_nil, Nat.reduceAdd, Nat.reduceSub, Array.replicate_succ, Array.replicate_zero, List.push_toArray, List.append_toArray, List.nil_append, List.cons_append]
  gi_wp2
  gi_loopw [3, 4, 10] (fun f h i wr => ∃ (k fn : Nat) (hf : Bool) (pre : List W16), k ≤ L.length ∧ f = .int .u16 (fn : Int) ∧ h = .bool hf ∧ i = .int .i64 (k : Int) ∧ Come (cat (L.take k)) pre fn hf ∧ J pre wr ∧ Below n₀ W wr)
    (fun _ _ i _ => L.length - (intOf i).toNat)
  case atStart => exact ⟨0, 0, false, [], Nat.zero_le _, rfl, rfl, rfl, come_nil, h0, Below.refl _ _⟩
  case round =>
    obtain ⟨k, fn, hf, pre, hk, rfl, rfl, rfl, hcome, hJs, hnx⟩ := hrel
    by_cases hlt : k < L.length
    · have hcx : wr.cell? ⟨b, off + k, none⟩ = some (.string (L[k]?.getD ⟨#[]⟩)) := (hnx.cell (p := ⟨b, off + k, none⟩) hb).trans (hc k hlt)
      obtain ⟨s, hs⟩ : ∃ s, L[k]?.getD ⟨#[]⟩ = s := ⟨_, rfl⟩
      rw [hs] at hcx
      have HC := hide (cat_take_succ L k hlt)
      rw [hs] at HC
      have hle := cat_take_le L (k + 1)
      rw [unhide HC, List.length_append] at hle
      have hz : s.data.toList.length = s.size := (Lib.size_eq s).symm
      rw [hz] at hle
      clear hz hs
      gi_wp2
      gi_loopw [3, 4, 16] (fun f h j wr' => ∃ (m fn : Nat) (hf : Bool) (pre : List W16), m ≤ s.size ∧ f = .int .u16 (fn : Int) ∧ h = .bool hf ∧ j = .int .i64 (m : Int) ∧ Come (cat (L.take k) ++ s.data.toList.take m) pre fn hf ∧ J pre wr' ∧ Below n₀ W wr')
        (fun _ _ j _ => s.size - (intOf j).toNat)
      case atStart => exact ⟨0, fn, hf, pre, Nat.zero_le _, rfl, rfl, rfl, by simpa using hcome, hJs, hnx⟩
      case round =>
        clear hcome hJs hnx hcx
        obtain ⟨m, fn, hf, pre, hm, rfl, rfl, rfl, hcome, hJs, hnx⟩ := hrel
        by_cases hml : m < s.size
        · have hc8 := (s[m]).toNat_lt
          have HT := hide (take_snoc s m hml)
          cases hf
          · gi_wp2
            go_roundw
            case rel => exact ⟨m + 1, (s[m]).toNat * 256, true, pre, by omega, by go_num, rfl, by go_num, by rw [unhide HT, ← List.append_assoc]; exact come_first _ hcome, hJs, hnx⟩
            case measure => simp [intOf]; omega
          · obtain ⟨y, hy⟩ : ∃ y : Nat, y = fn + (s[m]).toNat := ⟨_, rfl⟩
            have hor := or_word fn (s[m]).toNat hcome.2.2.1 hcome.2.2.2.1 hc8
            rw [← hy] at hor
            have hy2 : y < 65536 := by have := hcome.2.2.1; have := hcome.2.2.2.1; omega
            have HY := hide hy
            clear hy
            have hpl : pre.length < (cat L).length / 2 + 1 := by
              have h2 := hcome.2.1
              rw [List.length_append, List.length_take] at h2
              have := Lib.size_eq s
              omega
            obtain ⟨fn', tmps, assign, body, hyy, hR⟩ := hY pre ⟨y, hy2⟩ wr hJs hpl
            gi_wp2
            refine hR.mono ?_
            rintro e W3 (⟨rfl, hJ3, hk3⟩ | ⟨rfl, hJx3⟩)
            · gi_wp2
              go_roundw
              case rel => exact ⟨m + 1, fn, false, pre ++ [⟨y, hy2⟩], by omega, rfl, rfl, by go_num, by rw [unhide HT, ← List.append_assoc]; exact come_second _ _ hcome (unhide HY), hJ3, hnx.trans hk3⟩
              case measure => simp [intOf]; omega
            · gi_wp2
              refine bodyPost_ret (results_none rfl _ _ _) rfl ?_
              exact ⟨⟨_, rfl⟩, .inr ⟨_, trivial, hJx3⟩⟩
        · gi_wp2
          go_roundw
          case rel =>
            have hz := Lib.size_eq s
            rw [List.take_of_length_le (l := s.data.toList) (i := m) (by omega), ← unhide HC] at hcome
            exact ⟨k + 1, fn, hf, pre, by omega, rfl, rfl, by go_num, hcome, hJs, hnx⟩
          case measure => simp [intOf]; omega
    · obtain rfl : k = L.length := by omega
      rw [List.take_length] at hcome
      cases hf
      · gi_wp2
        go_end0
        exact ⟨⟨_, rfl⟩, .inl ⟨_, come_end hcome, hJs⟩⟩
      · have hy2 := hcome.2.2.2.1
        have hpl : pre.length < (cat L).length / 2 + 1 := by have h2 := hcome.2.1; omega
        obtain ⟨fn', tmps, assign, body, hyy, hR⟩ := hY pre ⟨fn, hy2⟩ wr hJs hpl
        gi_wp2
        refine hR.mono ?_
        rintro e W3 (⟨rfl, hJ3, hk3⟩ | ⟨rfl, hJx3⟩)
        · gi_wp2
          go_end0
          exact ⟨⟨_, rfl⟩, .inl ⟨_, come_last hcome hy2, hJ3⟩⟩
        · gi_wp2
          go_end0
          exact ⟨⟨_, rfl⟩, .inr ⟨_, trivial, hJx3⟩⟩

set_option maxRecDepth 100000 in
set_option maxHeartbeats 1000000 in
/-- .. at an empty slice: no round. -/
theorem words1_nil_in (n : Nat) (l Bs : Nat) (a : Option Addr) (cap : Nat) (J : List W16 → World → Prop) (W : World) (hBs : W.cell? ⟨Bs, 0, none⟩ = some (.slice a 0 cap)) (h0 : J [] W) :
    CallsIn Fence.wide n Try.prog 70 #[.func (.yield l) #[] #[], .pointer (some ⟨Bs, 0, none⟩)] W fun e W' => (∃ v, e = .returned v) ∧ J [] W' := by
  refine callsIn_of_wp Try.func70 rfl trivial ?_ rfl
  simp only [Try.ntmps70, List.size_toArray, List.length_cons, List.length_nil, Nat.reduceAdd, Nat.reduceSub, Array.replicate_succ, Array.replicate_zero, List.push_toArray, List.append_toArray, List.nil_append, List.cons_append]
  gi_wp2
  gi_loopw [3, 4, 10] (fun f h i wr => f = .int .u16 0 ∧ h = .bool false ∧ i = .int .i64 0 ∧ J [] wr) (fun _ _ _ _ => 0)
  case atStart => exact ⟨rfl, rfl, rfl, h0⟩
  case round =>
    obtain ⟨rfl, rfl, rfl, hJs⟩ := hrel
    gi_wp2
    go_end0
    exact ⟨⟨_, rfl⟩, hJs⟩

/-- The slice value sv holds the texts L, in a block below n₀; or it is empty and there are none. -/
def Strs (n₀ : Nat) (W : World) (sv : Value) (L : List ByteArray) : Prop :=
  ((∃ a cap, sv = .slice a 0 cap) ∧ L = []) ∨ ∃ b off cap, sv = .slice (some ⟨b, off, none⟩) L.length cap ∧ b < n₀ ∧ ∀ j, j < L.length → W.cell? ⟨b, off + j, none⟩ = some (.string (L[j]?.getD ⟨#[]⟩))
theorem Strs.below {n₀ : Nat} {A B : World} (h : Below n₀ A B) {sv : Value} {L : List ByteArray} : Strs n₀ A sv L → Strs n₀ B sv L
  | .inl e => .inl e
  | .inr ⟨b, off, cap, e, hb, hc⟩ => .inr ⟨b, off, cap, e, hb, fun j hj => (h.cell (p := ⟨b, off + j, none⟩) hb).trans (hc j hj)⟩
theorem Strs.slice {n₀ : Nat} {W : World} {sv : Value} {L : List ByteArray} (h : Strs n₀ W sv L) : ∃ a len cap, sv = .slice a len cap := by
  rcases h with ⟨⟨a, cap, rfl⟩, _⟩ | ⟨b, off, cap, rfl, _, _⟩ <;> exact ⟨_, _, _, rfl⟩

theorem words_stops (n : Nat) (hn : 1 ≤ n) (Bs n₀ : Nat) (sv : Value) (L : List ByteArray) (hL : (cat L).length ≤ 1099511627776) (hlen : L.length ≤ 1099511627776) (w : World) (hBs : Bs < w.heap.size) (hn₀ : n₀ ≤ w.heap.size)
    (hc : w.cell? ⟨Bs, 0, none⟩ = some sv) (hI : Strs n₀ w sv L) :
    SeqStopsK Fence.wide n Try.prog 70 #[.pointer (some ⟨Bs, 0, none⟩)] enc16 (Below n₀) (fun ys => sumW ys = S (cat L) ∧ ys.length ≤ (cat L).length / 2 + 1) (fun _ => True) ((cat L).length / 2 + 1) w := fun l J Jx W hW _ _ hY h0 => by
  have hc' := (hW.cell (p := ⟨Bs, 0, none⟩) hBs).trans hc
  rcases hI.below (hW.mono hn₀) with ⟨⟨a, cap, rfl⟩, rfl⟩ | ⟨b, off, cap, rfl, hb, hcs⟩
  · exact (words1_nil_in n l Bs a cap J W hc' h0).mono fun e W' ⟨he, hj⟩ => ⟨he, .inl ⟨_, ⟨rfl, by simp⟩, hj⟩⟩
  · exact words1_in n hn l Bs n₀ b off cap L hL hlen hb J Jx hY W hc' hcs h0


end Go.Proofs.Ytekljiakofmhnaa
