/- Options of package ip4, over the loaded program. -/
import Derived.Test.YtefenejeppmfiaaIo7
import Derived.Deep.AppendLies
namespace Go.Proofs.Ytefenejeppmfiaa
open Go.RowKit

theorem box_cell {w : World} {g : Nat} {cs : Array Value} {t : TypeId} (h : w.heap[g]? = some (.cells cs t (0, 0))) {j : Nat} {v : Value} (hj : cs[j]? = some v) : w.cell? ⟨g, j, none⟩ = some v := by
  simp [World.cell?, h, hj]
theorem box_grown {w w2 : World} {cs : Array Value} {t : TypeId} {o : Obj} {r : Option Nat} (hg : ((w.alloc (.cells cs t)).alloc o).grownBy w2 r) (hr : ∀ g, r = some g → g < w.heap.size) : w2.heap[w.heap.size]? = some (.cells cs t (0, 0)) := by
  rw [hg.block w.heap.size (by simp; omega) (fun e => by have := hr _ e.symm; omega), Below.heap_alloc _ _ _ (by simp)]
  exact heap_alloc_new w _
theorem row_below {w w' : World} {base e size n : Nat} {v : Value} {xs : List Value} (h : w.ownsRow base e size v n xs) (hb : Below w.heap.size w w') : w'.ownsRow base e size v n xs :=
  h.kept (row := none) ⟨hb.os, hb.tape, hb.output, hb.size, fun i hi _ => hb.block i hi⟩ (by cases v.ownBlock <;> simp)
theorem row_shape {w : World} {base e size n : Nat} {v : Value} {xs : List Value} (h : w.ownsRow base e size v n xs) : ∃ sp sc, v = .slice sp n sc := by
  rcases h.2 with ⟨rfl, rfl⟩ | ⟨g, cap, cur, rfl, _⟩
  · exact ⟨_, _, rfl⟩
  · exact ⟨_, _, rfl⟩
def cellsO (L : List Po) : List Value := L.flatMap fun x => [.int .u8 (x.1 : Int), .string x.2]
theorem cellsO_snoc (L : List Po) (x : Po) : cellsO (L ++ [x]) = cellsO L ++ [.int .u8 (x.1 : Int), .string x.2] := by simp [cellsO]
def szV : Value → Nat
  | .string t => t.size
  | _ => 0
/-- under way: what has been read, what is left -/
def OW (s : ByteArray) (w : World) (v r : Value) (wr : World) : Prop :=
  ∃ (L : List Po) (t : ByteArray), r = .string t ∧ t.size + L.length ≤ 40 ∧ optsR s = (optsR t).map (fun l => L.map Po.op ++ l) ∧ wr.ownsRow w.heap.size 44 2 v L.length (cellsO L) ∧ Below w.heap.size w wr
/-- what is told in the end -/
def OE (s : ByteArray) (w : World) (e : Ending) (w' : World) : Prop :=
  (optsR s = none ∧ e = .returned (.tuple #[.slice none 0 0, .int .i64 102]) ∧ Below w.heap.size w w') ∨
  ∃ (L : List Po) (sp : Option Addr) (sc : Nat), optsR s = some (L.map Po.op) ∧ L.length ≤ 40 ∧ e = .returned (.tuple #[.slice sp L.length sc, .int .i64 0]) ∧ w'.ownsRow w.heap.size 44 2 (.slice sp L.length sc) L.length (cellsO L) ∧ Below w.heap.size w w'

set_option maxHeartbeats 1000000 in
theorem options_long (s : ByteArray) (w : World) (h : 40 < s.size) :
    Calls Try.prog 15 #[.string s] w fun e w' => e = .returned (.tuple #[.slice none 0 0, .int .i64 4]) ∧ w' = w := by
  go_enter Try.func15, Try.ntmps15
  go_wp2_with fail
  go_ret2
  exact ⟨rfl, rfl⟩

theorem fo_any (t : ByteArray) (hs : t.size ≤ 40) (h0 : 1 ≤ t.size) (hz : byteAt t.data.toList 0 ≠ 0) :
    (optsR t = none ∧ ∀ w, Calls Try.prog 38 #[.string t] w fun e w' => e = .returned (.tuple #[poV (0, ⟨#[]⟩), .int .i64 102]) ∧ Below w.heap.size w w') ∨
    ∃ (x : Po) (p : Nat), x.2.size ≤ 40 ∧ poS x = p ∧ 1 ≤ p ∧ p ≤ t.size ∧ optsR t = (optsR (t.extract p t.size)).map (fun l => x.op :: l) ∧
      ∀ w, Calls Try.prog 38 #[.string t] w fun e w' => e = .returned (.tuple #[poV x, .int .i64 0]) ∧ Below w.heap.size w w' := by
  by_cases h1 : byteAt t.data.toList 0 = 1
  · exact .inr ⟨(1, ⟨#[]⟩), 1, by decide, rfl, by omega, h0, optsR_one h0 h1, fun w => fo_one t w h0 h1⟩
  by_cases hb : foBad t
  · exact .inl ⟨optsR_bad h0 hz h1 hb, fun w => fo_bad t w h0 h1 hb⟩
  obtain ⟨g1, g2, g3⟩ : 2 ≤ t.size ∧ 2 ≤ byteAt t.data.toList 1 ∧ byteAt t.data.toList 1 ≤ t.size := Classical.byContradiction hb
  have e : (t.extract 2 (byteAt t.data.toList 1)).size = byteAt t.data.toList 1 - 2 := by rw [ByteArray.size_extract]; omega
  refine .inr ⟨_, byteAt t.data.toList 1, ?_, ?_, by omega, g3, optsR_more hz h1 hb, fun w => fo_good t w (by omega) h0 h1 hb⟩
  · simp only; omega
  · unfold poS; simp only; rw [if_neg h1, e]; omega

set_option maxRecDepth 100000 in
set_option maxHeartbeats 2000000 in
theorem options_short (s : ByteArray) (w : World) (h : s.size ≤ 40) : Calls Try.prog 15 #[.string s] w (OE s w) := by
  obtain ⟨i0, hi, hz0, hz1, hz2⟩ := info_parts (P := Try.prog) (e := 44) (z := .agg #[.int .u8 0, .string ⟨#[]⟩]) (size := 2) (bytes := 24) (by kernel_rfl)
  go_enter Try.func15, Try.ntmps15
  go_wp2_with fail
  go_loopw [4, 5] (OW s w) (fun _ r _ => szV r)
  case atStart => exact ⟨[], s, rfl, by simpa using h, by simp, World.ownsRow_nil _ _ _ _, Below.refl _ _⟩
  case round =>
    obtain ⟨L, t, rfl, hsz, hR, hown, hbel⟩ := hrel
    by_cases hend : t.size = 0 ∨ byteAt t.data.toList 0 = 0
    · have hE : OE s w (.returned (.tuple #[u4, .int .i64 0])) wr := by
        rw [optsR_end hend] at hR
        obtain ⟨sp, sc, rfl⟩ := row_shape hown
        exact .inr ⟨L, sp, sc, by rw [hR]; simp, by omega, rfl, hown, hbel⟩
      have hE := hide hE
      clear hown hR hbel hsz
      by_cases h0 : t.size = 0
      · have ht : t = ⟨#[]⟩ := list_ba (List.eq_nil_of_length_eq_zero (by rw [← Lib.size_eq]; exact h0))
        subst ht
        clear hend h0
        go_wp2_with fail
        go_ret2
        exact unhide hE
      · have hb := byteAt_eq (s := t) (k := 0) (by omega)
        rw [hend.resolve_left h0] at hb
        have hi0 : (0 : Int) < (t.size : Int) := by omega
        have hne : t.toList.isEmpty = false := by
          rw [ByteArray.toList_eq]
          cases hl : t.data.toList with
          | nil => have := Lib.size_eq t; rw [hl] at this; exact absurd this h0
          | cons => rfl
        clear hend
        go_wp2_with fail
        go_ret2
        exact unhide hE
    · have h0 : 1 ≤ t.size := by omega
      have hz : byteAt t.data.toList 0 ≠ 0 := fun c => hend (.inr c)
      have hb := byteAt_eq (s := t) (k := 0) (by omega)
      have hi0 : (0 : Int) < (t.size : Int) := by omega
      have hne : t.toList.isEmpty = false := by
        rw [ByteArray.toList_eq]
        cases hl : t.data.toList with
        | nil => have := Lib.size_eq t; rw [hl] at this; simp only [List.length_nil] at this; omega
        | cons => rfl
      have HF := fo_any t (by omega) h0 hz
      generalize byteAt t.data.toList 0 = K at *
      have e0 : ((K : Int) != 0) = true := by rw [bne_iff_ne]; omega
      clear hend hz
      rcases HF with ⟨hn, HF⟩ | ⟨x, p, hx, hps, hp1, hp2, hRt, HF⟩
      · have HF := hide HF
        rw [hn] at hR
        have HR := hide hR
        have HB := hide hbel
        clear hn hR hown hbel
        go_wp2_with fail
        refine (unhide HF _).mono ?_
        rintro e w1 ⟨rfl, b1⟩
        have B1 := hide (tr2 (tr2 (unhide HB) b1) (below_one w1 (.cells #[.int .u8 0, .string ⟨#[]⟩] 44)))
        clear b1 HF HB
        go_wp2_with fail
        go_ret2
        exact .inl ⟨by rw [unhide HR]; rfl, rfl, unhide B1⟩
      · have HF := hide HF
        have HS := fun w => osize_any x w (by omega)
        rw [hps] at HS
        have HS := hide HS
        rw [hRt] at hR
        have HR := hide hR
        have HP := hide hsz
        clear hRt hR hps
        obtain ⟨n, hn⟩ : ∃ n, L.length = n := ⟨_, rfl⟩
        rw [hn] at hown hsz
        have HN := hide hn
        have hnl : n ≤ 40 := by omega
        have hsw := hbel.size
        obtain ⟨x1, x2⟩ := x
        clear hn hsz
        go_wp2_with fail
        refine (unhide HF _).mono ?_
        rintro e w1 ⟨rfl, b1⟩
        have hown1 := row_below hown b1
        have hbel1 := tr2 hbel b1
        have hsw1 := hbel1.size
        have hlt1 := hown1.lt
        clear hown hbel b1 HF
        go_wp2_with (at_builtin; refine wpList_append_lies _ rfl _ _ 40 rfl w.heap.size 44 i0 _ 2 24 Try.underlying40 hi hz0 hz1 hz2 rfl (by decide) u4 n _ rfl ((hown1.alloc _).alloc _) ⟨w1.heap.size + 1, 0, none⟩ 1 1 [.int .u8 (x1 : Int), .string x2] rfl rfl (by have q := World.news_of_block (heap_alloc_new (w1.alloc (.cells #[.int .u8 (x1 : Int), .string x2] 44)) (.cells #[.int .u8 (x1 : Int), .string x2] 44)); simpa using q) (by intro u hu; simp at hu; rcases hu with rfl | rfl <;> rfl) (by decide) (by unfold maxLen; omega) (by omega) (by simp; omega) _ rfl ?_; intro g3 cap3 w5 hown5 hgrow5 hat5 hlt5; have bx := box_grown hgrow5 (fun g hg => (hlt1 g hg).2); have bc0 := box_cell bx (j := 0) (v := .int .u8 (x1 : Int)) rfl; have bc1 := box_cell bx (j := 1) (v := .string x2) rfl)
        refine (unhide HS _).mono ?_
        rintro e w6 ⟨rfl, b6⟩
        have HO := hide (row_below hown5 b6)
        have HB := hide (tr2 (((hbel1.alloc hsw1 _).alloc (by simp; omega) _).grown hgrow5 (by simp; omega) (fun j hj => (hlt1 j hj).1)) b6)
        clear hown5 hgrow5 hat5 hlt5 bx bc0 bc1 b6 HS hown1 hbel1 hlt1
        have hp3 : (p : Int) ≤ (t.size : Int) := by omega
        go_wp2_with fail
        go_roundw
        case rel =>
          refine ⟨L ++ [(x1, x2)], t.extract p t.size, rfl, ?_, ?_, ?_, unhide HB⟩
          · have := unhide HP
            rw [ByteArray.size_extract, List.length_append]
            simp only [List.length_cons, List.length_nil]
            omega
          · rw [unhide HR]
            simp [Option.map_map, Function.comp_def]
          · rw [cellsO_snoc, List.length_append, unhide HN]
            exact unhide HO
        case measure => simp only [szV]; rw [ByteArray.size_extract]; omega
end Go.Proofs.Ytefenejeppmfiaa
