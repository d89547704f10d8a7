/- The contract of package ip4's Opts, over the loaded program; no memory that was there has turned. Conditions: numbers in their kinds' bounds, texts of bounded length. -/
import Derived.Test.YtefenejeppmfiaaIo0
import Derived.Test.YtefenejeppmfiaaShelf10
namespace Go.Proofs.Ytefenejeppmfiaa
open Go.RowKit Go.Shelf

abbrev IsB (B b : Nat) (l : List UInt8) (w : World) : Prop := Lib.IsBuilder 86 5 B b (Lib.byteCells l) w
theorem heap_lt {w : World} {b : Nat} {o : Obj} (h : w.heap[b]? = some o) : b < w.heap.size := (Array.getElem?_eq_some_iff.1 h).1
theorem at_on {T e : TypeId} {B b : Nat} {p : Value} {bs : List Value} {w w' : World} (h : Lib.BuilderAt T e B b p bs w) (k : Below w.heap.size w w') : Lib.BuilderAt T e B b p bs w' := by
  obtain ⟨h1, v, h2, h3, h4⟩ := h
  refine ⟨h1, v, (k.block b (heap_lt h2)).trans h2, ?_, h4⟩
  obtain ⟨l, r⟩ := h3
  refine ⟨l, ?_⟩
  rcases r with r | ⟨g, cap, cur, e1, e2, e3, e4⟩
  · exact .inl r
  · exact .inr ⟨g, cap, cur, e1, e2, (k.block g (heap_lt e3)).trans e3, e4⟩
theorem isb_on {B b : Nat} {l : List UInt8} {w w' : World} (h : IsB B b l w) (k : Below w.heap.size w w') : IsB B b l w' := by
  rcases h with h | h
  · exact .inl (at_on h k)
  · exact .inr (at_on h k)
theorem isb_new (w : World) : IsB w.heap.size w.heap.size [] (w.alloc (.cells #[.pointer none, .slice none 0 0] 86)) := Lib.fresh_isBuilder _ _ w

theorem bws_any (B b : Nat) (l : List UInt8) (s : ByteArray) (w : World) (h : IsB B b l w) (hl : l.length + s.size ≤ 1048576) (hB : B ≤ w.heap.size) :
    Calls Try.prog 61 #[.pointer (some ⟨b, 0, none⟩), .string s] w fun e w' => e = .returned (.tuple #[.int .i64 s.size, .nilIface]) ∧ IsB B b (l ++ s.data.toList) w' ∧ Below B w w' :=
  (Any.Builder_WriteString Try.wsA Try.bxs B b (Lib.byteCells l) s w h (by rw [Lib.byteCells_length]; omega) hB).mono fun e w' x => ⟨x.1, by
    unfold IsB
    rw [Lib.byteCells_append, ← Lib.strCells_eq]
    exact .inr x.2.1, x.2.2⟩
theorem bwb_any (B b : Nat) (l : List UInt8) (c : UInt8) (w : World) (h : IsB B b l w) (hl : l.length + 1 ≤ 1048576) (hB : B ≤ w.heap.size) :
    Calls Try.prog 64 #[.pointer (some ⟨b, 0, none⟩), .int .u8 (c.toNat : Int)] w fun e w' => e = .returned .nilIface ∧ IsB B b (l ++ [c]) w' ∧ Below B w w' :=
  (Any.Builder_WriteByte Try.wbA Try.bxwb B b (Lib.byteCells l) (c.toNat : Int) w h (by rw [Lib.byteCells_length]; omega) hB).mono fun e w' x => ⟨x.1, by
    unfold IsB
    rw [Lib.byteCells_append]
    exact .inr x.2.1, x.2.2⟩
theorem blen_any (B b : Nat) (l : List UInt8) (w : World) (h : IsB B b l w) :
    Calls Try.prog 63 #[.pointer (some ⟨b, 0, none⟩)] w fun e w' => e = .returned (.int .i64 (l.length : Int)) ∧ w' = w := by
  have q := Any.Builder_Len Try.lenA B b (Lib.byteCells l) w h
  rw [Lib.byteCells_length] at q
  exact q
theorem bstr_any (B b : Nat) (l : List UInt8) (w : World) (h : IsB B b l w) (hB : B ≤ w.heap.size) :
    Calls Try.prog 65 #[.pointer (some ⟨b, 0, none⟩)] w fun e w' => e = .returned (.string ⟨l.toArray⟩) ∧ Below B w w' :=
  Any.Builder_String_any Try.strA Try.bxst B b l w h hB

set_option maxHeartbeats 400000 in
theorem opt1_any (sv : Value) (L : List Po) (p : Nat) (w : World) (hL : L.length ≤ 65536) (hI : OptsAt w.heap.size w sv L) (cs : w.cell? ⟨p, 0, none⟩ = some sv) :
    Calls Try.prog 56 #[.pointer (some ⟨p, 0, none⟩)] w fun e w' => e = .returned (.int .i64 (if anyNot L then 102 else 0)) ∧ Below w.heap.size w w' := by
  have H1 := containsfunc_any sv L w hL hI
  obtain ⟨a, cap, rfl⟩ := hI.slice
  by_cases h : anyNot L
  · rw [decide_eq_true h] at H1
    rw [if_pos h]
    have H1 := hide H1
    have H2 := hide (fun w => unless_any false 102 w)
    clear h hI
    go_enter Try.func56, Try.ntmps56
    go_wp2_with fail
    refine (unhide H1).mono ?_
    rintro e w1 ⟨rfl, b1⟩
    go_wp2_with fail
    refine (unhide H2 _).mono ?_
    rintro e w2 ⟨rfl, rfl⟩
    go_wp2_with fail
    go_ret
    exact ⟨rfl, b1⟩
  · rw [decide_eq_false h] at H1
    rw [if_neg h]
    have H1 := hide H1
    have H2 := hide (fun w => unless_any true 102 w)
    clear h hI
    go_enter Try.func56, Try.ntmps56
    go_wp2_with fail
    refine (unhide H1).mono ?_
    rintro e w1 ⟨rfl, b1⟩
    go_wp2_with fail
    refine (unhide H2 _).mono ?_
    rintro e w2 ⟨rfl, rfl⟩
    go_wp2_with fail
    go_ret
    exact ⟨rfl, b1⟩

set_option maxHeartbeats 400000 in
theorem opt2_any (sv : Value) (L : List Po) (p : Nat) (w : World) (hL : L.length ≤ 65536) (hI : OptsAt w.heap.size w sv L) (hx : ∀ x ∈ L, x.2.size ≤ 1048576) (cs : w.cell? ⟨p, 0, none⟩ = some sv) :
    Calls Try.prog 59 #[.pointer (some ⟨p, 0, none⟩)] w fun e w' => e = .returned (.int .i64 (if sumS L ≤ 40 then 0 else 4)) ∧ Below w.heap.size w w' := by
  have H1 := hide (sizeof_any sv L w hL hI hx)
  obtain ⟨a, cap, rfl⟩ := hI.slice
  generalize sumS L = n at *
  by_cases h : n ≤ 40
  · rw [if_pos h]
    have H2 := hide (fun w => unless_any true 4 w)
    have d1 : decide ((n : Int) ≤ 40) = true := decide_eq_true (by omega)
    clear hI hx h
    go_enter Try.func59, Try.ntmps59
    go_wp2_with fail
    refine (unhide H1).mono ?_
    rintro e w1 ⟨rfl, b1⟩
    go_wp2_with fail
    refine (unhide H2 _).mono ?_
    rintro e w2 ⟨rfl, rfl⟩
    go_wp2_with fail
    go_ret
    exact ⟨rfl, b1⟩
  · rw [if_neg h]
    have H2 := hide (fun w => unless_any false 4 w)
    have d1 : decide ((n : Int) ≤ 40) = false := decide_eq_false (by omega)
    clear hI hx h
    go_enter Try.func59, Try.ntmps59
    go_wp2_with fail
    refine (unhide H1).mono ?_
    rintro e w1 ⟨rfl, b1⟩
    go_wp2_with fail
    refine (unhide H2 _).mono ?_
    rintro e w2 ⟨rfl, rfl⟩
    go_wp2_with fail
    go_ret
    exact ⟨rfl, b1⟩

/-- what Opts tells -/
def optsE (L : List Po) : Int := if anyNot L then 102 else if sumS L ≤ 40 then 0 else 4
def optsL (L : List Po) : List UInt8 := optsB (L.map Po.op)
theorem optsL_nil : optsL [] = [] := rfl
theorem optsL_snoc (L : List Po) (x : Po) : optsL (L ++ [x]) = optsL L ++ (poB x).data.toList := by
  unfold optsL optsB
  rw [List.map_append, List.flatMap_append]
  simp [poB]
theorem optsL_len (L : List Po) (h : ¬ anyNot L) : (optsL L).length = sumS L := by
  induction L with
  | nil => rfl
  | cons x l ih =>
    have e : optsL (x :: l) = optB x.op ++ optsL l := by simp [optsL, optsB]
    rw [e, List.length_append, ih (fun ⟨y, hy, hz⟩ => h ⟨y, by simp [hy], hz⟩)]
    have := poB_size x (may_notB (fun c => h ⟨x, by simp, c⟩))
    unfold poB at this
    rw [arr_size] at this
    simp only [sumS]
    omega

abbrev optFs (B : Nat) : List Value := [.func (.func 56) #[] #[.pointer (some ⟨B, 0, none⟩)], .func (.func 59) #[] #[.pointer (some ⟨B, 0, none⟩)]]
theorem fwopt_any (sv : Value) (L : List Po) (w : World) (hL : L.length ≤ 65536) (hI : OptsAt w.heap.size w sv L) (hx : ∀ x ∈ L, x.2.size ≤ 1048576) :
    Calls Try.prog 28 #[.slice (some ⟨w.heap.size + 1, 0, none⟩) 2 2] ((w.alloc (.cells #[sv] 40)).alloc (.cells (optFs w.heap.size).toArray 68)) fun e w' => e = .returned (.int .i64 (optsE L)) ∧ Tab w 2 (add (add (fun _ _ => none) 0 [sv]) 1 (optFs w.heap.size)) w' := by
  have k := ((Tab.zero w).alloc rfl [sv] 40).alloc (by simp) (optFs w.heap.size) 68
  have O1 : ∀ w', Tab w 2 (add (add (fun _ _ => none) 0 [sv]) 1 (optFs w.heap.size)) w' → Calls Try.prog 56 #[.pointer (some ⟨w.heap.size, 0, none⟩)] w' fun e w'' => e = .returned (.int .i64 (if anyNot L then 102 else 0)) ∧ Tab w 2 (add (add (fun _ _ => none) 0 [sv]) 1 (optFs w.heap.size)) w'' := fun w' k' =>
    (opt1_any sv L w.heap.size w' hL (by
      rcases hI.below k'.bel with q | ⟨b, off, cap, e, hb, hc⟩
      · exact .inl q
      · exact .inr ⟨b, off, cap, e, by have := k'.bel.size; omega, hc⟩) (k'.cells 0 0 _ rfl)).mono fun _ _ x => ⟨x.1, k'.on x.2⟩
  have O2 : ∀ w', Tab w 2 (add (add (fun _ _ => none) 0 [sv]) 1 (optFs w.heap.size)) w' → Calls Try.prog 59 #[.pointer (some ⟨w.heap.size, 0, none⟩)] w' fun e w'' => e = .returned (.int .i64 (if sumS L ≤ 40 then 0 else 4)) ∧ Tab w 2 (add (add (fun _ _ => none) 0 [sv]) 1 (optFs w.heap.size)) w'' := fun w' k' =>
    (opt2_any sv L w.heap.size w' hL (by
      rcases hI.below k'.bel with q | ⟨b, off, cap, e, hb, hc⟩
      · exact .inl q
      · exact .inr ⟨b, off, cap, e, by have := k'.bel.size; omega, hc⟩) hx (k'.cells 0 0 _ rfl)).mono fun _ _ x => ⟨x.1, k'.on x.2⟩
  by_cases h1 : anyNot L
  · rw [if_pos h1] at O1
    have e : optsE L = 102 := by unfold optsE; rw [if_pos h1]
    rw [e]
    exact fwOpt_0 (w.heap.size + 1) w.heap.size _ _ 102 (fun w' k' => k'.cells 1 0 _ rfl) O1 rfl _ k
  · rw [if_neg h1] at O1
    by_cases h2 : sumS L ≤ 40
    · rw [if_pos h2] at O2
      have e : optsE L = 0 := by unfold optsE; rw [if_neg h1, if_pos h2]
      rw [e]
      exact fwOpt_ok (w.heap.size + 1) w.heap.size w.heap.size _ _ _ (fun w' k' => k'.cells 1 0 _ rfl) O1 (fun w' k' => k'.cells 1 1 _ rfl) O2 _ k
    · rw [if_neg h2] at O2
      have e : optsE L = 4 := by unfold optsE; rw [if_neg h1, if_neg h2]
      rw [e]
      exact fwOpt_1 (w.heap.size + 1) w.heap.size w.heap.size _ _ _ 4 (fun w' k' => k'.cells 1 0 _ rfl) O1 (fun w' k' => k'.cells 1 1 _ rfl) O2 rfl _ k

set_option maxHeartbeats 1000000 in
theorem opts_no (sv : Value) (L : List Po) (w : World) (hL : L.length ≤ 65536) (hI : OptsAt w.heap.size w sv L) (hx : ∀ x ∈ L, x.2.size ≤ 1048576) (e0 : Int) (he : optsE L = e0) (hne : (e0 != 0) = true) :
    Calls Try.prog 24 #[sv] w fun e w' => e = .returned (.tuple #[.string ⟨#[]⟩, .int .i64 e0]) ∧ Below w.heap.size w w' := by
  have H := fwopt_any sv L w hL hI hx
  rw [he] at H
  have H := hide H
  obtain ⟨a, cap, rfl⟩ := hI.slice
  clear hI hx he
  go_enter Try.func24, Try.ntmps24
  go_wp2_with fail
  refine (unhide H).mono ?_
  rintro e w1 ⟨rfl, k1⟩
  have B := hide k1.bel
  clear k1
  go_wp2_with fail
  go_ret2
  exact ⟨rfl, unhide B⟩

theorem padN_le (n : Nat) : padN n < 4 := by unfold padN; omega
theorem pad_step (l : List UInt8) (k : Nat) (hk : k < padN l.length) : (l.length + k) % 4 ≠ 0 := by unfold padN at hk; omega
theorem pad_end (l : List UInt8) : (l.length + padN l.length) % 4 = 0 := by unfold padN; omega

set_option maxRecDepth 20000 in
set_option maxHeartbeats 2000000 in
theorem opts_ok (sv : Value) (L : List Po) (w : World) (hL : L.length ≤ 65536) (hI : OptsAt w.heap.size w sv L) (hx : ∀ x ∈ L, x.1 < 256 ∧ x.2.size ≤ 1048576) (he : optsE L = 0) :
    Calls Try.prog 24 #[sv] w fun e w' => e = .returned (.tuple #[.string ⟨(pad4 (optsL L)).toArray⟩, .int .i64 0]) ∧ Below w.heap.size w w' := by
  have hn : ¬ anyNot L := fun c => by unfold optsE at he; rw [if_pos c] at he; cases he
  have hsz : sumS L ≤ 40 := by
    unfold optsE at he
    rw [if_neg hn] at he
    by_cases c : sumS L ≤ 40
    · exact c
    · rw [if_neg c] at he; cases he
  have hlen := optsL_len L hn
  have H := fwopt_any sv L w hL hI (fun x h => (hx x h).2)
  rw [he] at H
  have H := hide H
  have HN := hide isb_new
  obtain ⟨a, cap, rfl⟩ := hI.slice
  have HI := hide hI
  have hpre : ∀ k, k ≤ L.length → (optsL (L.take k)).length ≤ 40 := by
    intro k hk
    have e : optsL L = optsL (L.take k) ++ optsL (L.drop k) := by
      have e2 : L = L.take k ++ L.drop k := (List.take_append_drop k L).symm
      unfold optsL optsB
      rw [← List.flatMap_append, ← List.map_append, ← e2]
    have := congrArg List.length e
    rw [List.length_append] at this
    omega
  clear hI he
  obtain ⟨R, hR⟩ : ∃ R : ByteArray, (⟨(pad4 (optsL L)).toArray⟩ : ByteArray) = R := ⟨_, rfl⟩
  rw [hR]
  have HR := hide hR
  clear hR
  go_enter Try.func24, Try.ntmps24
  go_wp2_with fail
  refine (unhide H).mono ?_
  rintro e w1 ⟨rfl, k1⟩
  have K2 := hide (k1.on (below_one w1 (.cells #[.pointer none, .slice none 0 0] 86)))
  have N2 := hide (unhide HN w1)
  have hle0 : w.heap.size ≤ w1.heap.size := k1.bel.size
  have BW := hide k1.bel
  have c0 : (w1.alloc (.cells #[.pointer none, .slice none 0 0] 86)).cell? ⟨w.heap.size, 0, none⟩ = some (.slice a L.length cap) := (unhide K2).cells 0 0 _ rfl
  clear HN k1 H
  have BB := hide (below_one w1 (.cells #[.pointer none, .slice none 0 0] 86))
  go_wp2_with fail
  generalize w1.alloc _ = w2 at *
  clear c0 K2
  go_loopw [17] (fun i wr => ∃ k : Nat, k ≤ L.length ∧ i = .int .i64 (k : Int) ∧ IsB w1.heap.size w1.heap.size (optsL (L.take k)) wr ∧ Below w1.heap.size w1 wr) (fun i _ => L.length - (intOf i).toNat)
  case atStart => exact ⟨0, Nat.zero_le _, rfl, unhide N2, unhide BB⟩
  case round =>
    obtain ⟨k, hk, rfl, hN, hB⟩ := hrel
    have N3 := hide hN
    have B3 := hide hB
    clear hN hB N2 BB
    by_cases hlt : k < L.length
    · rcases unhide HI with ⟨_, hnil⟩ | ⟨b, off, cap', e, hb, hc⟩
      · subst hnil; exact absurd hlt (Nat.not_lt_zero _)
      · simp only [Value.slice.injEq] at e
        obtain ⟨rfl, _, rfl⟩ := e
        obtain ⟨q1, q2⟩ := hc k L[k] (List.getElem?_eq_getElem hlt)
        have hbel : Below w.heap.size w wr := (unhide BW).trans ((unhide B3).mono hle0)
        have c1 := (hbel.cell (p := ⟨b, off + k * 2, none⟩) hb).trans q1
        have c2 := (hbel.cell (p := ⟨b, off + k * 2 + 1, none⟩) hb).trans q2
        clear q1 q2 hbel hc
        have HS := hide (optsL_snoc (L.take k) L[k])
        rw [← take_snoc' L k hlt] at HS
        have hp2 := hpre (k + 1) hlt
        have hin := hx L[k] (List.getElem_mem _)
        have HO := hide (fun w => optbytes_any L[k] w hin.1 hin.2 (fun c => hn ⟨L[k], List.getElem_mem _, c⟩))
        obtain ⟨y, hy⟩ : ∃ y, y = L[k] := ⟨_, rfl⟩
        rw [← hy] at c1 c2 HS HO
        clear hy hin
        obtain ⟨y1, y2⟩ := y
        rw [unhide HS, List.length_append] at hp2
        have hz : (poB (y1, y2)).data.toList.length = (poB (y1, y2)).size := (Lib.size_eq _).symm
        rw [hz] at hp2
        have HP := hide hp2
        clear hz hp2 hx hpre hlen hsz hn
        go_wp2_with fail
        refine (unhide HO _).mono ?_
        rintro e w3 ⟨rfl, b3⟩
        have N4 := hide (isb_on (unhide N3) (tr2 (below_one _ _) b3))
        have B4 := hide ((unhide B3).trans ((tr2 (below_one _ _) b3).mono (unhide B3).size))
        clear b3 N3 B3 c1 c2
        go_wp2_with fail
        refine (bws_any _ _ _ _ _ (unhide N4) (by have := unhide HP; omega) (unhide B4).size).mono ?_
        rintro e w4 ⟨rfl, n5, b5⟩
        have N5 := hide n5
        have B5 := hide ((unhide B4).trans b5)
        clear n5 b5 N4 B4
        go_wp2_with fail
        go_roundw
        case rel => exact ⟨k + 1, by omega, by go_num, by rw [unhide HS]; exact unhide N5, unhide B5⟩
        case measure => simp [intOf]; omega
    · obtain rfl : k = L.length := by omega
      rw [List.take_length] at N3
      have N0 := N3
      have B0 := B3
      clear N3 B3 HI hlt hk hpre
      obtain ⟨l, hl⟩ : ∃ l, optsL L = l := ⟨_, rfl⟩
      have HR2 := hide (unhide HR)
      rw [hl] at N0 hlen HR2
      have hl40 : l.length ≤ 40 := by omega
      have hp := padN_le l.length
      have hpd : padN l.length = (4 - l.length % 4) % 4 := rfl
      clear hx hn hsz hlen hl HR
      go_wp2_with fail
      by_cases hp0 : padN l.length = 0
      · have HE : Hid (R = ⟨(l : List UInt8).toArray⟩) := hide (by rw [← unhide HR2]; unfold pad4; rw [hp0]; simp)
        have m0 : (l.length : Int) % 4 = 0 := by omega
        clear hp hpd hp0 HR2
        refine wp_loop_rounds 1 ?_
        rw [rounds_succ]
        go_wp2_with fail
        refine (blen_any _ _ _ _ (unhide N0)).mono ?_
        rintro e v0 ⟨rfl, rfl⟩
        go_wp2_with fail
        refine (bstr_any _ _ _ _ (unhide N0) (unhide B0).size).mono ?_
        rintro e y0 ⟨rfl, b0⟩
        go_wp2_with fail
        go_ret2
        exact ⟨by rw [unhide HE]; rfl, (unhide BW).trans (((unhide B0).trans b0).mono hle0)⟩
      by_cases hp1 : padN l.length = 1
      · have HE : Hid (R = ⟨(l ++ [0] : List UInt8).toArray⟩) := hide (by rw [← unhide HR2]; unfold pad4; rw [hp1]; rfl)
        have m0 : (l.length : Int) % 4 = 3 := by omega
        have m1 : ((l.length : Int) + 1) % 4 = 0 := by omega
        clear hp hpd hp1 HR2
        refine wp_loop_rounds 2 ?_
        rw [rounds_succ]
        go_wp2_with fail
        refine (blen_any _ _ _ _ (unhide N0)).mono ?_
        rintro e v0 ⟨rfl, rfl⟩
        go_wp2_with fail
        refine (bwb_any _ _ _ 0 _ (unhide N0) (by first | omega | (simp only [List.length_append, List.length_cons, List.length_nil]; omega)) (unhide B0).size).mono ?_
        rintro e y0 ⟨rfl, n0, b0⟩
        have N1 := hide n0
        have B1 := hide ((unhide B0).trans b0)
        clear n0 b0 N0 B0
        go_wp2_with fail
        rw [rounds_succ]
        go_wp2_with fail
        refine (blen_any _ _ _ _ (unhide N1)).mono ?_
        rintro e v1 ⟨rfl, rfl⟩
        go_wp2_with fail
        refine (bstr_any _ _ _ _ (unhide N1) (unhide B1).size).mono ?_
        rintro e y1 ⟨rfl, b1⟩
        go_wp2_with fail
        go_ret2
        exact ⟨by rw [unhide HE]; rfl, (unhide BW).trans (((unhide B1).trans b1).mono hle0)⟩
      by_cases hp2 : padN l.length = 2
      · have HE : Hid (R = ⟨(l ++ [0, 0] : List UInt8).toArray⟩) := hide (by rw [← unhide HR2]; unfold pad4; rw [hp2]; rfl)
        have m0 : (l.length : Int) % 4 = 2 := by omega
        have m1 : ((l.length : Int) + 1) % 4 = 3 := by omega
        have m2 : ((l.length : Int) + 2) % 4 = 0 := by omega
        clear hp hpd hp2 HR2
        refine wp_loop_rounds 3 ?_
        rw [rounds_succ]
        go_wp2_with fail
        refine (blen_any _ _ _ _ (unhide N0)).mono ?_
        rintro e v0 ⟨rfl, rfl⟩
        go_wp2_with fail
        refine (bwb_any _ _ _ 0 _ (unhide N0) (by first | omega | (simp only [List.length_append, List.length_cons, List.length_nil]; omega)) (unhide B0).size).mono ?_
        rintro e y0 ⟨rfl, n0, b0⟩
        have N1 := hide n0
        have B1 := hide ((unhide B0).trans b0)
        clear n0 b0 N0 B0
        go_wp2_with fail
        rw [rounds_succ]
        go_wp2_with fail
        refine (blen_any _ _ _ _ (unhide N1)).mono ?_
        rintro e v1 ⟨rfl, rfl⟩
        go_wp2_with fail
        refine (bwb_any _ _ _ 0 _ (unhide N1) (by first | omega | (simp only [List.length_append, List.length_cons, List.length_nil]; omega)) (unhide B1).size).mono ?_
        rintro e y1 ⟨rfl, n1, b1⟩
        have N2 := hide n1
        have B2 := hide ((unhide B1).trans b1)
        clear n1 b1 N1 B1
        go_wp2_with fail
        rw [rounds_succ]
        go_wp2_with fail
        refine (blen_any _ _ _ _ (unhide N2)).mono ?_
        rintro e v2 ⟨rfl, rfl⟩
        go_wp2_with fail
        refine (bstr_any _ _ _ _ (unhide N2) (unhide B2).size).mono ?_
        rintro e y2 ⟨rfl, b2⟩
        go_wp2_with fail
        go_ret2
        exact ⟨by rw [unhide HE]; rfl, (unhide BW).trans (((unhide B2).trans b2).mono hle0)⟩
      by_cases hp3 : padN l.length = 3
      · have HE : Hid (R = ⟨(l ++ [0, 0, 0] : List UInt8).toArray⟩) := hide (by rw [← unhide HR2]; unfold pad4; rw [hp3]; rfl)
        have m0 : (l.length : Int) % 4 = 1 := by omega
        have m1 : ((l.length : Int) + 1) % 4 = 2 := by omega
        have m2 : ((l.length : Int) + 2) % 4 = 3 := by omega
        have m3 : ((l.length : Int) + 3) % 4 = 0 := by omega
        clear hp hpd hp3 HR2
        refine wp_loop_rounds 4 ?_
        rw [rounds_succ]
        go_wp2_with fail
        refine (blen_any _ _ _ _ (unhide N0)).mono ?_
        rintro e v0 ⟨rfl, rfl⟩
        go_wp2_with fail
        refine (bwb_any _ _ _ 0 _ (unhide N0) (by first | omega | (simp only [List.length_append, List.length_cons, List.length_nil]; omega)) (unhide B0).size).mono ?_
        rintro e y0 ⟨rfl, n0, b0⟩
        have N1 := hide n0
        have B1 := hide ((unhide B0).trans b0)
        clear n0 b0 N0 B0
        go_wp2_with fail
        rw [rounds_succ]
        go_wp2_with fail
        refine (blen_any _ _ _ _ (unhide N1)).mono ?_
        rintro e v1 ⟨rfl, rfl⟩
        go_wp2_with fail
        refine (bwb_any _ _ _ 0 _ (unhide N1) (by first | omega | (simp only [List.length_append, List.length_cons, List.length_nil]; omega)) (unhide B1).size).mono ?_
        rintro e y1 ⟨rfl, n1, b1⟩
        have N2 := hide n1
        have B2 := hide ((unhide B1).trans b1)
        clear n1 b1 N1 B1
        go_wp2_with fail
        rw [rounds_succ]
        go_wp2_with fail
        refine (blen_any _ _ _ _ (unhide N2)).mono ?_
        rintro e v2 ⟨rfl, rfl⟩
        go_wp2_with fail
        refine (bwb_any _ _ _ 0 _ (unhide N2) (by first | omega | (simp only [List.length_append, List.length_cons, List.length_nil]; omega)) (unhide B2).size).mono ?_
        rintro e y2 ⟨rfl, n2, b2⟩
        have N3 := hide n2
        have B3 := hide ((unhide B2).trans b2)
        clear n2 b2 N2 B2
        go_wp2_with fail
        rw [rounds_succ]
        go_wp2_with fail
        refine (blen_any _ _ _ _ (unhide N3)).mono ?_
        rintro e v3 ⟨rfl, rfl⟩
        go_wp2_with fail
        refine (bstr_any _ _ _ _ (unhide N3) (unhide B3).size).mono ?_
        rintro e y3 ⟨rfl, b3⟩
        go_wp2_with fail
        go_ret2
        exact ⟨by rw [unhide HE]; rfl, (unhide BW).trans (((unhide B3).trans b3).mono hle0)⟩
      omega

end Go.Proofs.Ytefenejeppmfiaa
