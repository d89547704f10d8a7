/- The contracts of package frag's test of an option, of slices.IndexFunc and slices.DeleteFunc over it, over the loaded program: those options that parts keep stand in front, in order; no memory of ahead has turned. Conditions: the row is the caller's own. -/
import Derived.Test.YtefenejeppmfiaaIo9
import Derived.Lib.SliceRun
namespace Go.Proofs.Ytefenejeppmfiaa
open Go.RowKit

/-- is it kept? -/
def keep (x : Po) : Bool := decide (128 ≤ x.1)

set_option maxHeartbeats 400000 in
theorem kept1_any (x : Po) (w : World) :
    Calls Try.prog 23 #[poV x] w fun e w' => e = .returned (.bool (!keep x)) ∧ Below w.heap.size w w' := by
  have BEL := hide (fun o => below_one w o)
  obtain ⟨y1, y2⟩ := x
  have hk : Hid (decide ((y1 : Int) < 128) = !keep (y1, y2)) := by
    show decide ((y1 : Int) < 128) = !decide (128 ≤ y1)
    rw [← decide_not, decide_eq_decide]; omega
  generalize keep (y1, y2) = g at *
  go_enter Try.func23, Try.ntmps23
  go_wp2_with fail
  go_ret
  exact ⟨by rw [← unhide hk]; rfl, unhide BEL _⟩

/-- what the search tells -/
def IdxR (L : List Po) (r : Int) : Prop := (r = -1 ∧ ∀ x ∈ L, keep x = true) ∨ ∃ (k : Nat) (h : k < L.length), r = k ∧ (∀ x ∈ L.take k, keep x = true) ∧ keep L[k] = false

set_option maxHeartbeats 1000000 in
theorem indexkept_any (sv : Value) (L : List Po) (w : World) (hL : L.length ≤ 65536) (hI : OptsAt w.heap.size w sv L) :
    Calls Try.prog 66 #[sv, .func (.func 23) #[] #[]] w fun e w' => (∃ r : Int, e = .returned (.int .i64 r) ∧ IdxR L r) ∧ Below w.heap.size w w' := by
  have B0 := hide (Below.refl w.heap.size w)
  rcases hI with ⟨⟨a, cap, rfl⟩, rfl⟩ | ⟨b, off, cap, rfl, hb, hc⟩
  · go_enter Try.func66, Try.ntmps66
    go_wp2
    go_loopw [8] (fun i wr => i = .int .i64 0 ∧ wr = w) (fun _ _ => 0)
    case atStart => exact ⟨rfl, rfl⟩
    case round =>
      obtain ⟨rfl, rfl⟩ := hrel
      go_wp2
      go_ret
      exact ⟨⟨_, rfl, .inl ⟨rfl, by simp⟩⟩, unhide B0⟩
  · go_enter Try.func66, Try.ntmps66
    go_wp2
    go_loopw [8] (fun i wr => ∃ k : Nat, k ≤ L.length ∧ i = .int .i64 (k : Int) ∧ (∀ x ∈ L.take k, keep x = true) ∧ Below w.heap.size w wr) (fun i _ => L.length - (intOf i).toNat)
    case atStart => exact ⟨0, Nat.zero_le _, rfl, by simp, Below.refl _ _⟩
    case round =>
      obtain ⟨k, hk, rfl, hno, hB⟩ := hrel
      have HNO := hide hno
      clear hno
      by_cases hlt : k < L.length
      · obtain ⟨q1, q2⟩ := hc k L[k] (List.getElem?_eq_getElem hlt)
        have c1 := (hB.cell (p := ⟨b, off + k * 2, none⟩) hb).trans q1
        have c2 := (hB.cell (p := ⟨b, off + k * 2 + 1, none⟩) hb).trans q2
        clear q1 q2
        have HM := hide (fun w => kept1_any L[k] w)
        obtain ⟨g, hg⟩ : ∃ g, keep L[k] = g := ⟨_, rfl⟩
        rw [hg] at HM
        cases g
        · have HA : Hid (IdxR L k) := .inr ⟨k, hlt, rfl, unhide HNO, hg⟩
          obtain ⟨y, hy⟩ : ∃ y, y = L[k] := ⟨_, rfl⟩
          rw [← hy] at c1 c2 HM
          obtain ⟨y1, y2⟩ := y
          clear hy hg hc
          go_wp2_with fail
          refine (unhide HM _).mono ?_
          rintro e w3 ⟨rfl, b3⟩
          go_wp2_with fail
          go_ret
          exact ⟨⟨_, rfl, unhide HA⟩, tr2 hB b3⟩
        · have HA : Hid (∀ x ∈ L.take (k + 1), keep x = true) := by
            intro x hx
            rw [take_snoc' L k hlt, List.mem_append] at hx
            rcases hx with hx | hx
            · exact unhide HNO x hx
            · simp at hx; subst hx; exact hg
          obtain ⟨y, hy⟩ : ∃ y, y = L[k] := ⟨_, rfl⟩
          rw [← hy] at c1 c2 HM
          obtain ⟨y1, y2⟩ := y
          clear hy hg hc
          go_wp2_with fail
          refine (unhide HM _).mono ?_
          rintro e w3 ⟨rfl, b3⟩
          go_wp2_with fail
          go_roundw
          case rel => exact ⟨k + 1, by omega, by go_num, unhide HA, tr2 hB b3⟩
          case measure => simp [intOf]; omega
      · obtain rfl : k = L.length := by omega
        rw [List.take_length] at HNO
        go_wp2
        go_ret
        exact ⟨⟨_, rfl, .inl ⟨rfl, unhide HNO⟩⟩, hB⟩

/-- a row of options in a block that may be written -/
structure PR (w : World) (b n : Nat) (f : Nat → Po) : Prop where
  c0 : ∀ k, k < n → w.cell? ⟨b, k * 2, none⟩ = some (.int .u8 ((f k).1 : Int))
  c1 : ∀ k, k < n → w.cell? ⟨b, k * 2 + 1, none⟩ = some (.string (f k).2)
  fz : ∀ j, w.frozen? ⟨b, j, none⟩ = false
theorem PR.on {w w' : World} {b n : Nat} {f : Nat → Po} (h : PR w b n f) (hb : b < w.heap.size) (k : Below w.heap.size w w') : PR w' b n f :=
  ⟨fun i hi => (k.cell (p := ⟨b, i * 2, none⟩) hb).trans (h.c0 i hi), fun i hi => (k.cell (p := ⟨b, i * 2 + 1, none⟩) hb).trans (h.c1 i hi), fun j => (k.frozen (p := ⟨b, j, none⟩) hb).trans (h.fz j)⟩
def updF (f : Nat → Po) (i : Nat) (x : Po) : Nat → Po := fun k => if k = i then x else f k
theorem PR.set {w : World} {b n : Nat} {f : Nat → Po} (h : PR w b n f) (i : Nat) (hi : i < n) (x : Po) :
    PR ((w.setCell ⟨b, i * 2, none⟩ (.int .u8 (x.1 : Int))).setCell ⟨b, i * 2 + 1, none⟩ (.string x.2)) b n (updF f i x) := by
  refine ⟨fun k hk => ?_, fun k hk => ?_, fun j => by rw [World.frozen?_setCell, World.frozen?_setCell]; exact h.fz j⟩
  · rw [World.cell?_setCell_other _ _ _ _ (fun e => by have := congrArg Addr.off e; simp at this; omega)]
    unfold updF
    by_cases e : k = i
    · subst e
      rw [if_pos rfl]
      exact World.cell?_setCell_same _ _ _ (h.c0 k hk)
    · rw [if_neg e, World.cell?_setCell_other _ _ _ _ (fun x => by have := congrArg Addr.off x; simp at this; omega)]
      exact h.c0 k hk
  · unfold updF
    by_cases e : k = i
    · subst e
      rw [if_pos rfl]
      exact World.cell?_setCell_same _ _ _ ((World.cell?_setCell_other _ _ _ _ (fun x => by have := congrArg Addr.off x; simp at this)).trans (h.c1 k hk))
    · rw [if_neg e, World.cell?_setCell_other _ _ _ _ (fun x => by have := congrArg Addr.off x; simp at this; omega), World.cell?_setCell_other _ _ _ _ (fun x => by have := congrArg Addr.off x; simp at this; omega)]
      exact h.c1 k hk
/-- under way: i options are kept of the first j -/
structure DI (L : List Po) (i j : Nat) (f : Nat → Po) : Prop where
  len : i = ((L.take j).filter keep).length
  low : ∀ k, k < i → ((L.take j).filter keep)[k]? = some (f k)
  high : ∀ k, j ≤ k → k < L.length → L[k]? = some (f k)
theorem DI.le {L : List Po} {i j : Nat} {f : Nat → Po} (h : DI L i j f) : i ≤ j := by
  have := List.length_filter_le keep (L.take j)
  rw [h.len]
  simp only [List.length_take] at this
  omega
theorem DI.drop {L : List Po} {i j : Nat} {f : Nat → Po} (h : DI L i j f) (hj : j < L.length) (hk : keep L[j] = false) : DI L i (j + 1) f := by
  have e : (L.take (j + 1)).filter keep = (L.take j).filter keep := by rw [take_snoc' L j hj, List.filter_append]; simp [hk]
  exact ⟨by rw [e]; exact h.len, by rw [e]; exact h.low, fun k h1 h2 => h.high k (by omega) h2⟩
theorem DI.more {L : List Po} {i j : Nat} {f : Nat → Po} (h : DI L i j f) (hj : j < L.length) (hk : keep L[j] = true) : DI L (i + 1) (j + 1) (updF f i L[j]) := by
  have e : (L.take (j + 1)).filter keep = (L.take j).filter keep ++ [L[j]] := by rw [take_snoc' L j hj, List.filter_append]; simp [hk]
  have hle := h.le
  refine ⟨by rw [e, List.length_append, ← h.len]; rfl, fun k hk2 => ?_, fun k h1 h2 => ?_⟩
  · rw [e]
    unfold updF
    by_cases x : k = i
    · subst x
      rw [if_pos rfl, List.getElem?_append_right (by rw [← h.len]; exact Nat.le_refl _), ← h.len]
      simp
    · rw [if_neg x, List.getElem?_append_left (by rw [← h.len]; omega)]
      exact h.low k (by omega)
  · unfold updF
    rw [if_neg (by omega)]
    exact h.high k (by omega) h2
theorem DI.start {L : List Po} {k : Nat} (h : k < L.length) (ha : ∀ x ∈ L.take k, keep x = true) (hk : keep L[k] = false) {f : Nat → Po} (hf : ∀ k x, L[k]? = some x → f k = x) : DI L k (k + 1) f := by
  have e : (L.take (k + 1)).filter keep = L.take k := by rw [take_snoc' L k h, List.filter_append, List.filter_eq_self.2 ha]; simp [hk]
  refine ⟨by rw [e, List.length_take]; omega, fun j hj => ?_, fun j h1 h2 => ?_⟩
  · rw [e, List.getElem?_take, if_pos hj, List.getElem?_eq_getElem (by omega), hf j _ (List.getElem?_eq_getElem (by omega))]
  · rw [List.getElem?_eq_getElem h2, hf j _ (List.getElem?_eq_getElem h2)]
abbrev po0 : List Value := [.int .u8 0, .string ⟨#[]⟩]
theorem run_clear2 (w : World) (ty : TypeId) (b o n c : Nat) (hn : 0 < n)
    (hc : ∀ j, j < n * 2 → (w.cell? ⟨b, o + j, none⟩).isSome = true) (hf : ∀ j, w.frozen? ⟨b, j, none⟩ = false) :
    (Builtin.clear_ #[40] ty #[.slice (some ⟨b, o, none⟩) n c]).run Try.prog w = .ok (.tuple #[]) (w.setCells b o (Builtin.zeroCells po0.toArray n).toList) := by
  have hlen : (Builtin.zeroCells po0.toArray n).toList.length = n * 2 := by simp [Builtin.zeroCells]
  have hst := run_storeCells_cells (P := Try.prog) b o (Builtin.zeroCells po0.toArray n).toList 0 w (by rw [hlen]; simpa using hc) (fun j _ => hf _) (by
    intro v hv
    simp only [Builtin.zeroCells, Array.toList_map, List.mem_map] at hv
    obtain ⟨i, _, rfl⟩ := hv
    show po0.toArray[i % 2]!.oneCell' = true
    rcases Nat.mod_two_eq_zero_or_one i with h2 | h2 <;> rw [h2] <;> rfl)
  simp only [Nat.add_zero] at hst
  obtain ⟨m, rfl⟩ : ∃ m, n = m + 1 := ⟨n - 1, by omega⟩
  have hu := Try.underlying40
  have hz := Try.zeroValue44
  simp [Builtin.clear_, run_underlying hu, hz, Value.cells, hst]
theorem PR.clear {w : World} {b n i : Nat} {f : Nat → Po} (h : PR w b n f) (hi : i ≤ n) (vs : List Value) : PR (w.setCells b (i * 2) vs) b i f := by
  refine ⟨fun k hk => ?_, fun k hk => ?_, fun j => by rw [World.frozen?_setCells]; exact h.fz j⟩
  · rw [World.cell?_setCells_out _ _ _ _ _ (fun _ _ => .inl (by show k * 2 < i * 2; omega))]; exact h.c0 k (by omega)
  · rw [World.cell?_setCells_out _ _ _ _ _ (fun _ _ => .inl (by show k * 2 + 1 < i * 2; omega))]; exact h.c1 k (by omega)
theorem below_setCells' {B : Nat} {w0 : World} (b : Nat) (hB : B ≤ b) : ∀ (vs : List Value) (o : Nat) (w : World), Below B w0 w → Below B w0 (w.setCells b o vs)
  | [], _, _, h => h
  | _ :: r, o, _, h => below_setCells' b hB r (o + 1) _ (h.setCell (p := ⟨b, o, none⟩) hB _)
def fL (L : List Po) (k : Nat) : Po := (L[k]?).getD (0, ⟨#[]⟩)
theorem own_pr {w : World} {base : Nat} {sv : Value} {L : List Po} (hown : w.ownsRow base 44 2 sv L.length (cellsO L)) :
    (sv = .slice none 0 0 ∧ L = []) ∨ ∃ g cap, sv = .slice (some ⟨g, 0, none⟩) L.length cap ∧ base ≤ g ∧ g < w.heap.size ∧ L.length ≤ cap ∧ cap ≤ maxLen ∧ PR w g L.length (fL L) := by
  rcases hown.2 with ⟨rfl, h2⟩ | ⟨g, cap, cur, rfl, h1, h3, h4, h5, h6, h7⟩
  · exact .inl ⟨rfl, List.eq_nil_of_length_eq_zero h2⟩
  · refine .inr ⟨g, cap, rfl, h1, (Array.getElem?_eq_some_iff.1 h3).1, h4, h5, ?_⟩
    have hO : OptsAt w.heap.size w (.slice (some ⟨g, 0, none⟩) L.length cap) L := own_opts ⟨hown.1, .inr ⟨g, cap, cur, rfl, h1, h3, h4, h5, h6, h7⟩⟩
    rcases hO with ⟨⟨a, c, e⟩, e2⟩ | ⟨b, off, c, e, hb, hc⟩
    · subst e2
      exact ⟨fun k hk => absurd hk (Nat.not_lt_zero _), fun k hk => absurd hk (Nat.not_lt_zero _), fun j => by simp [World.frozen?, h3]⟩
    · injection e with e1 e2 e3
      injection e1 with e1
      injection e1 with e1 e4 e5
      subst e1 e4
      refine ⟨fun k hk => ?_, fun k hk => ?_, fun j => by simp [World.frozen?, h3]⟩
      · have := (hc k L[k] (List.getElem?_eq_getElem hk)).1
        rw [Nat.zero_add] at this
        rw [this]; unfold fL; rw [List.getElem?_eq_getElem hk]; rfl
      · have := (hc k L[k] (List.getElem?_eq_getElem hk)).2
        rw [Nat.zero_add] at this
        rw [this]; unfold fL; rw [List.getElem?_eq_getElem hk]; rfl

set_option maxHeartbeats 2000000 in
theorem deletekept_any (sv : Value) (L : List Po) (base : Nat) (w : World) (hL : L.length ≤ 65536) (hbs : base ≤ w.heap.size) (hown : w.ownsRow base 44 2 sv L.length (cellsO L)) :
    Calls Try.prog 25 #[sv, .func (.func 23) #[] #[]] w fun e w' => ∃ sp sc, e = .returned (.slice sp (L.filter keep).length sc) ∧ OptsAt w'.heap.size w' (.slice sp (L.filter keep).length sc) (L.filter keep) ∧ Below base w w' := by
  have H := hide (indexkept_any sv L w hL (own_opts hown))
  have HO := hide (own_opts hown)
  rcases own_pr hown with ⟨rfl, rfl⟩ | ⟨b, cap, rfl, hb1, hb2, hcap, hmax, hP⟩
  · clear hown
    go_enter Try.func25, Try.ntmps25
    go_wp2_with fail
    refine (unhide H).mono ?_
    rintro e w1 ⟨⟨r, rfl, hr⟩, b1⟩
    obtain rfl : r = -1 := by
      rcases hr with h | ⟨k, hk, _⟩
      · exact h.1
      · exact absurd hk (Nat.not_lt_zero _)
    clear hr
    go_wp2_with fail
    go_ret
    exact ⟨_, _, rfl, .inl ⟨⟨_, _, rfl⟩, rfl⟩, b1.mono hbs⟩
  · clear hown
    unfold maxLen at hmax
    go_enter Try.func25, Try.ntmps25
    go_wp2_with fail
    refine (unhide H).mono ?_
    rintro e w1 ⟨⟨r, rfl, hr⟩, b1⟩
    have hP1 := hP.on hb2 b1
    have HB1 := hide (b1.mono hbs)
    have hs1 := b1.size
    rcases hr with ⟨rfl, hall⟩ | ⟨k, hk, rfl, ha, hn⟩
    · have HE : Hid (L.filter keep = L) := List.filter_eq_self.2 hall
      have HO1 := hide ((unhide HO).below b1)
      clear hall hP hP1
      go_wp2_with fail
      go_ret
      rw [unhide HE]
      refine ⟨_, _, rfl, ?_, unhide HB1⟩
      rcases unhide HO1 with h | ⟨b', off, c, e, hb, hc⟩
      · exact .inl h
      · exact .inr ⟨b', off, c, e, by omega, hc⟩
    · have HS := hide (DI.start hk ha hn (f := fL L) (fun k x h => by unfold fL; rw [h]; rfl))
      have hne1 : ((k : Int) == -1) = false := beq_eq_false_iff_ne.2 (by omega)
      have hbw : b < w1.heap.size := by omega
      clear ha hn hP H HO
      go_wp2_with fail
      go_loopw [5, 6] (fun s5 s6 wr => ∃ (i j : Nat) (f : Nat → Po), s5 = .int .i64 (i : Int) ∧ s6 = .int .i64 (j : Int) ∧ i < j ∧ j ≤ L.length ∧ Hid (DI L i j f) ∧ PR wr b L.length f ∧ Hid (Below base w wr) ∧ b < wr.heap.size) (fun _ s _ => L.length - (intOf s).toNat)
      case atStart => exact ⟨k, k + 1, fL L, rfl, by go_num, by omega, by omega, HS, hP1, HB1, hbw⟩
      case round =>
        obtain ⟨i, j, f, rfl, rfl, hij, hj, HI, hPr, HB, hbr⟩ := hrel
        by_cases hlt : j < L.length
        · have hi' := (unhide HI).high j (Nat.le_refl _) hlt
          have cj0 := hPr.c0 j hlt
          have cj1 := hPr.c1 j hlt
          have ci0 := hPr.c0 i (by omega)
          have ci1 := hPr.c1 i (by omega)
          have fz := hPr.fz
          obtain ⟨x, hx⟩ : ∃ x, f j = x := ⟨_, rfl⟩
          have hLj : L[j] = x := by
            rw [List.getElem?_eq_getElem hlt] at hi'
            rw [← hx]; exact Option.some.inj hi'
          obtain ⟨y, hy⟩ : ∃ y, f i = y := ⟨_, rfl⟩
          rw [hx] at cj0 cj1
          rw [hy] at ci0 ci1
          have HP := hide hPr
          have HX := hide hLj
          have HM := fun w => kept1_any x w
          obtain ⟨g, hg⟩ : ∃ g, keep x = g := ⟨_, rfl⟩
          rw [hg] at HM
          have HM := hide HM
          have HG := hide hg
          have hjz : (j : Int) < (L.length : Int) := by omega
          have hz : j < 9223372036854775807 := by omega
          clear hi' hPr hx hy hLj hg
          obtain ⟨x1, x2⟩ := x
          obtain ⟨y1, y2⟩ := y
          have BEL := hide (fun o => below_one wr o)
          cases g
          · go_wp2_with fail
            have PA := (unhide HP).on hbr (unhide BEL (.cells #[.int .u8 (x1 : Int), .string x2] 44))
            have BA := hide ((unhide HB).alloc (by have := (unhide HB).size; omega) (.cells #[.int .u8 (x1 : Int), .string x2] 44))
            have EA := heap_alloc_new wr (.cells #[.int .u8 (x1 : Int), .string x2] 44)
            have d0 := cell_of_row _ _ 0 _ _ _ EA
            have d1 := cell_of_row _ _ 1 _ _ _ EA
            refine (unhide HM _).mono ?_
            rintro e w3 ⟨rfl, b3⟩
            have P3 := hide (PA.on (by simp; omega) b3)
            have B3 := hide ((unhide BA).trans (b3.mono (by have := (unhide BA).size; omega)))
            have d0 := (b3.cell (p := ⟨wr.heap.size, 0, none⟩) (by simp)).trans d0
            have d1 := (b3.cell (p := ⟨wr.heap.size, 1, none⟩) (by simp)).trans d1
            have hb3 : b < w3.heap.size := by have := b3.size; simp at this; omega
            have ci0 := (unhide P3).c0 i (by omega)
            have ci1 := (unhide P3).c1 i (by omega)
            have fz := (unhide P3).fz
            clear PA BA EA b3 HM cj0 cj1 BEL HB HP
            generalize wr.heap.size = q at *
            go_wp2_with fail
            go_roundw
            case rel => exact ⟨i, j + 1, f, rfl, by go_num, by omega, by omega, (unhide HI).drop hlt (by rw [unhide HX]; exact unhide HG), unhide P3, B3, hb3⟩
            case measure => simp [intOf]; omega
          · go_wp2_with fail
            have PA := (unhide HP).on hbr (unhide BEL (.cells #[.int .u8 (x1 : Int), .string x2] 44))
            have BA := hide ((unhide HB).alloc (by have := (unhide HB).size; omega) (.cells #[.int .u8 (x1 : Int), .string x2] 44))
            have EA := heap_alloc_new wr (.cells #[.int .u8 (x1 : Int), .string x2] 44)
            have d0 := cell_of_row _ _ 0 _ _ _ EA
            have d1 := cell_of_row _ _ 1 _ _ _ EA
            refine (unhide HM _).mono ?_
            rintro e w3 ⟨rfl, b3⟩
            have P3 := hide (PA.on (by simp; omega) b3)
            have B3 := hide ((unhide BA).trans (b3.mono (by have := (unhide BA).size; omega)))
            have d0 := (b3.cell (p := ⟨wr.heap.size, 0, none⟩) (by simp)).trans d0
            have d1 := (b3.cell (p := ⟨wr.heap.size, 1, none⟩) (by simp)).trans d1
            have hb3 : b < w3.heap.size := by have := b3.size; simp at this; omega
            have ci0 := (unhide P3).c0 i (by omega)
            have ci1 := (unhide P3).c1 i (by omega)
            have fz := (unhide P3).fz
            clear PA BA EA b3 HM cj0 cj1 BEL HB HP
            generalize wr.heap.size = q at *
            go_wp2_with fail
            go_roundw
            case rel => exact ⟨i + 1, j + 1, updF f i (x1, x2), by go_num, by go_num, by omega, by omega, by have := (unhide HI).more hlt (by rw [unhide HX]; exact unhide HG); rwa [unhide HX] at this, (unhide P3).set i (by omega) (x1, x2), ((unhide B3).setCell (p := ⟨b, i * 2, none⟩) hb1 _).setCell (p := ⟨b, i * 2 + 1, none⟩) hb1 _, by simpa using hb3⟩
            case measure => simp [intOf]; omega
        · obtain rfl : j = L.length := by omega
          have hcl : ∀ ty, (Builtin.clear_ #[40] ty #[.slice (some ⟨b, i * 2, none⟩) (L.length - i) (cap - i)]).run Try.prog wr = .ok (.tuple #[]) (wr.setCells b (i * 2) (Builtin.zeroCells po0.toArray (L.length - i)).toList) := fun ty => run_clear2 wr ty b (i * 2) _ _ (by omega) (fun t ht => by
            have ht2 : i + t / 2 < L.length := by omega
            have h0 := hPr.c0 (i + t / 2) ht2
            have h1 := hPr.c1 (i + t / 2) ht2
            rcases Nat.mod_two_eq_zero_or_one t with hm | hm
            · rw [show i * 2 + t = (i + t / 2) * 2 by omega, h0]; rfl
            · rw [show i * 2 + t = (i + t / 2) * 2 + 1 by omega, h1]; rfl) hPr.fz
          have HP := hide hPr
          clear hPr
          go_wp2_with fail
          go_ret
          have hlen := (unhide HI).len
          have hlow := (unhide HI).low
          rw [List.take_length] at hlen hlow
          rw [← hlen]
          have hQ := (unhide HP).clear (i := i) (by omega) (Builtin.zeroCells po0.toArray (L.length - i)).toList
          refine ⟨_, _, rfl, .inr ⟨b, 0, _, by rw [← hlen], Nat.lt_of_lt_of_le hbr (below_setCells' (w0 := wr) b (Nat.zero_le b) _ _ _ (Below.refl 0 _)).size, fun k x hk => ?_⟩, below_setCells' b hb1 _ _ _ (unhide HB)⟩
          have hki : k < i := by rw [hlen]; exact (List.getElem?_eq_some_iff.1 hk).1
          rw [hlow k hki] at hk
          obtain rfl := Option.some.inj hk
          rw [Nat.zero_add]
          exact ⟨hQ.c0 k hki, hQ.c1 k hki⟩
end Go.Proofs.Ytefenejeppmfiaa
