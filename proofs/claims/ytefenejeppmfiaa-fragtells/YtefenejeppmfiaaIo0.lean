/- The contracts of package ip4's option leaves (mayNot, optionSize, optionBytes, sizeOf) and of slices.ContainsFunc at them, over the loaded program; no memory that was there has turned. Conditions: numbers in their kinds' bounds, texts of bounded length. -/
import Derived.Test.YtefenejeppmfiaaIh2
import Derived.Test.YtefenejeppmfiaaIp1
namespace Go.Proofs.Ytefenejeppmfiaa
open Go.RowKit

abbrev Po := Nat × ByteArray
abbrev poV (x : Po) : Value := .agg #[.int .u8 (x.1 : Int), .string x.2]
def Po.op (x : Po) : Opt := (x.1, x.2.data.toList)
structure Po.In (x : Po) : Prop where
  k : x.1 < 256
  d : x.2.size ≤ 1048576
/-- the slice value holds the options L, in a block below n₀; or it is empty and there are none -/
def OptsAt (n₀ : Nat) (W : World) (sv : Value) (L : List Po) : Prop :=
  ((∃ a cap, sv = .slice a 0 cap) ∧ L = []) ∨ ∃ b off cap, sv = .slice (some ⟨b, off, none⟩) L.length cap ∧ b < n₀ ∧ ∀ k x, L[k]? = some x → W.cell? ⟨b, off + k * 2, none⟩ = some (.int .u8 (x.1 : Int)) ∧ W.cell? ⟨b, off + k * 2 + 1, none⟩ = some (.string x.2)
theorem OptsAt.below {n₀ : Nat} {A B : World} (h : Below n₀ A B) {sv : Value} {L : List Po} : OptsAt n₀ A sv L → OptsAt n₀ B sv L
  | .inl e => .inl e
  | .inr ⟨b, off, cap, e, hb, hc⟩ => .inr ⟨b, off, cap, e, hb, fun k x hk => ⟨(h.cell (p := ⟨b, off + k * 2, none⟩) hb).trans (hc k x hk).1, (h.cell (p := ⟨b, off + k * 2 + 1, none⟩) hb).trans (hc k x hk).2⟩⟩
theorem OptsAt.slice {n₀ : Nat} {W : World} {sv : Value} {L : List Po} (h : OptsAt n₀ W sv L) : ∃ a cap, sv = .slice a L.length cap := by
  rcases h with ⟨⟨a, cap, rfl⟩, rfl⟩ | ⟨b, off, cap, rfl, _, _⟩ <;> exact ⟨_, _, rfl⟩

/-- may it not be? -/
def notB (x : Po) : Prop := x.1 = 0 ∨ (x.1 = 1 ∧ x.2.size ≠ 0)
instance (x : Po) : Decidable (notB x) := by unfold notB; infer_instance
theorem may_notB {x : Po} (h : ¬ notB x) : optMay x.op := by
  unfold notB at h
  unfold optMay Po.op
  by_cases h1 : x.1 = 1
  · refine .inl ⟨h1, ?_⟩
    have : x.2.size = 0 := Classical.byContradiction fun c => h (.inr ⟨h1, c⟩)
    exact List.eq_nil_of_length_eq_zero (by rw [← Lib.size_eq]; exact this)
  · refine .inr ?_
    have : x.1 ≠ 0 := fun c => h (.inl c)
    show 1 < x.1
    omega
theorem isEmpty_iff (s : ByteArray) : s.toList = [] ↔ s.size = 0 := by
  rw [Lib.toList_data, Lib.size_eq]
  exact List.length_eq_zero_iff.symm

set_option maxHeartbeats 1000000 in
theorem maynot_any (x : Po) (w : World) :
    Calls Try.prog 58 #[poV x] w fun e w' => e = .returned (.bool (decide (notB x))) ∧ Below w.heap.size w w' := by
  have BEL := hide (fun o => below_one w o)
  obtain ⟨r, hr, e⟩ := hidec (notB x)
  rw [← e]
  clear e
  obtain ⟨k, d⟩ := x
  by_cases h0 : k = 0
  · have e0 : ((k : Int) == 0) = true := by rw [h0]; rfl
    go_enter Try.func58, Try.ntmps58
    go_wp2
    go_ret
    exact ⟨ret_of hr (by unfold notB; simp [h0]), unhide BEL _⟩
  · have e0 : ((k : Int) == 0) = false := by rw [beq_eq_false_iff_ne]; omega
    by_cases h1 : k = 1
    · have e1 : ((k : Int) == 1) = true := by rw [h1]; rfl
      subst h1
      go_enter Try.func58, Try.ntmps58
      go_wp2
      go_ret
      exact ⟨ret_of hr (by unfold notB; simp [isEmpty_iff]), unhide BEL _⟩
    · have e1 : ((k : Int) == 1) = false := by rw [beq_eq_false_iff_ne]; omega
      go_enter Try.func58, Try.ntmps58
      go_wp2
      go_ret
      exact ⟨ret_of hr (by unfold notB; simp [h0, h1]), unhide BEL _⟩

set_option maxHeartbeats 1000000 in
theorem optsize_any (x : Po) (w : World) (hx : x.2.size ≤ 1048576) :
    Calls Try.prog 39 #[poV x] w fun e w' => e = .returned (.int .i64 ((if x.1 = 1 then 1 else 2 + x.2.size : Nat) : Int)) ∧ Below w.heap.size w w' := by
  have BEL := hide (fun o => below_one w o)
  obtain ⟨k, d⟩ := x
  have hx : d.size ≤ 1048576 := hx
  by_cases h1 : k = 1
  · have e1 : ((k : Int) == 1) = true := by rw [h1]; rfl
    simp only
    rw [if_pos h1]
    clear h1
    go_enter Try.func39, Try.ntmps39
    go_wp2
    go_ret
    exact ⟨rfl, unhide BEL _⟩
  · have e1 : ((k : Int) == 1) = false := by rw [beq_eq_false_iff_ne]; omega
    simp only
    rw [if_neg h1]
    clear h1
    go_enter Try.func39, Try.ntmps39
    go_wp2
    go_ret
    exact ⟨rfl, unhide BEL _⟩

/-- how many bytes options have -/
def poS (x : Po) : Nat := if x.1 = 1 then 1 else 2 + x.2.size
def sumS : List Po → Nat
  | [] => 0
  | x :: l => poS x + sumS l
theorem sumS_snoc (l : List Po) (x : Po) : sumS (l ++ [x]) = sumS l + poS x := by
  induction l with
  | nil => simp [sumS]
  | cons y l ih => simp only [List.cons_append, sumS, ih]; omega
theorem take_snoc' {α : Type} (l : List α) (k : Nat) (h : k < l.length) : l.take (k + 1) = l.take k ++ [l[k]] := by
  rw [List.take_succ_eq_append_getElem h]

set_option maxHeartbeats 1000000 in
theorem sizeof_any (sv : Value) (L : List Po) (w : World) (hL : L.length ≤ 65536) (hI : OptsAt w.heap.size w sv L) (hx : ∀ x ∈ L, x.2.size ≤ 1048576) :
    Calls Try.prog 60 #[sv] w fun e w' => e = .returned (.int .i64 (sumS L : Nat)) ∧ Below w.heap.size w w' := by
  have hbound : ∀ k, k ≤ L.length → sumS (L.take k) ≤ k * 1048578 := by
    intro k
    induction k with
    | zero => intro _; simp [sumS]
    | succ k ih =>
      intro hk
      rw [take_snoc' L k (by omega), sumS_snoc]
      have := ih (by omega)
      have h2 := hx L[k] (List.getElem_mem _)
      have : poS L[k] ≤ 1048578 := by unfold poS; split <;> omega
      omega
  rcases hI with ⟨⟨a, cap, rfl⟩, rfl⟩ | ⟨b, off, cap, rfl, hb, hc⟩
  · go_enter Try.func60, Try.ntmps60
    go_wp2
    go_loopw [3, 8] (fun n i wr => n = .int .i64 0 ∧ i = .int .i64 0 ∧ wr = w) (fun _ _ _ => 0)
    case atStart => exact ⟨rfl, rfl, rfl⟩
    case round =>
      obtain ⟨rfl, rfl, rfl⟩ := hrel
      go_wp2
      go_ret
      exact ⟨rfl, Below.refl _ _⟩
  · go_enter Try.func60, Try.ntmps60
    go_wp2
    go_loopw [3, 8] (fun n i wr => ∃ k : Nat, k ≤ L.length ∧ n = .int .i64 (sumS (L.take k) : Nat) ∧ i = .int .i64 (k : Int) ∧ Below w.heap.size w wr) (fun _ i _ => L.length - (intOf i).toNat)
    case atStart => exact ⟨0, Nat.zero_le _, rfl, rfl, Below.refl _ _⟩
    case round =>
      obtain ⟨k, hk, rfl, rfl, hB⟩ := hrel
      by_cases hlt : k < L.length
      · obtain ⟨q1, q2⟩ := hc k L[k] (List.getElem?_eq_getElem hlt)
        have c1 := (hB.cell (p := ⟨b, off + k * 2, none⟩) hb).trans q1
        have c2 := (hB.cell (p := ⟨b, off + k * 2 + 1, none⟩) hb).trans q2
        clear q1 q2
        have HS := hide (sumS_snoc (L.take k) L[k])
        rw [← take_snoc' L k hlt] at HS
        have hb1 := hbound k hk
        have hb2 := hbound (k + 1) hlt
        have h2 := hx L[k] (List.getElem_mem _)
        have HO := hide (fun w => optsize_any L[k] w h2)
        have HP := hide (show poS L[k] = (if L[k].1 = 1 then 1 else 2 + L[k].2.size) from rfl)
        rw [← unhide HP] at HO
        have hP2 : poS L[k] ≤ 1048578 := by rw [unhide HP]; split <;> omega
        obtain ⟨y, hy⟩ : ∃ y, y = L[k] := ⟨_, rfl⟩
        rw [← hy] at c1 c2 HS HO hP2
        clear hy h2 HP
        obtain ⟨y1, y2⟩ := y
        generalize poS (y1, y2) = p at *
        obtain ⟨m, hm⟩ : ∃ m, sumS (L.take k) = m := ⟨_, rfl⟩
        rw [hm] at HS hb1 ⊢
        obtain ⟨m', hm'⟩ : ∃ m', sumS (L.take (k + 1)) = m' := ⟨_, rfl⟩
        rw [hm'] at HS hb2
        have HM := hide hm'
        clear hm hm' hx hbound hc
        go_wp2_with fail
        refine (unhide HO _).mono ?_
        rintro e w3 ⟨rfl, b3⟩
        go_wp2_with fail
        go_roundw
        case rel => exact ⟨k + 1, by omega, by rw [unhide HM, unhide HS]; exact vint (by omega), by go_num, tr2 hB (tr2 (below_one _ _) b3)⟩
        case measure => simp [intOf]; omega
      · obtain rfl : k = L.length := by omega
        rw [List.take_length]
        go_wp2
        go_ret
        exact ⟨rfl, hB⟩

/-- an option's bytes -/
def poB (x : Po) : ByteArray := ⟨(optB x.op).toArray⟩
theorem poB_one {x : Po} (h : x.1 = 1) : poB x = ⟨(ofB x.1 1).toArray⟩ := by
  unfold poB optB Po.op
  rw [if_pos (by simp only; omega)]
  rfl
theorem poB_many {x : Po} (h : 1 < x.1) : poB x = (⟨(ofB x.1 1).toArray⟩ : ByteArray) ++ ⟨(ofB (2 + x.2.size) 1).toArray⟩ ++ x.2 := by
  have e : x.2 = ⟨x.2.data.toList.toArray⟩ := rfl
  rw [e, str_append, str_append]
  unfold poB optB Po.op
  rw [if_neg (by simp only; omega)]
  have l : x.2.data.toList.length = x.2.size := (Lib.size_eq x.2).symm
  simp only [l]
  rw [show x.2.size + 2 = 2 + x.2.size by omega]
  rfl
theorem poB_size (x : Po) (h : optMay x.op) : (poB x).size = poS x := by
  unfold poB poS optB
  rw [arr_size]
  rcases h with ⟨h1, h2⟩ | h1
  · have h1' : x.1 = 1 := h1
    rw [if_pos (by omega), if_pos h1']; rfl
  · have h1' : 1 < x.1 := h1
    rw [if_neg (by omega), if_neg (by omega)]
    simp only [List.length_cons]
    unfold Po.op
    simp only
    rw [← Lib.size_eq]
    omega

set_option maxRecDepth 20000 in
set_option maxHeartbeats 1000000 in
theorem optbytes_any (x : Po) (w : World) (hk : x.1 < 256) (hx : x.2.size ≤ 1048576) (hm : ¬ notB x) :
    Calls Try.prog 62 #[poV x] w fun e w' => e = .returned (.string (poB x)) ∧ Below w.heap.size w w' := by
  have BEL := hide (below_one w (.cells #[.int .u8 (x.1 : Int), .string x.2] 44))
  have hop := may_notB hm
  have H1 := hide (fun w => of_1 x.1 w (by omega))
  obtain ⟨A, hA⟩ : ∃ A : ByteArray, (⟨(ofB x.1 1).toArray⟩ : ByteArray) = A := ⟨_, rfl⟩
  have zA : A.size ≤ 1 := by rw [← hA]; exact of_size _ _
  rw [hA] at H1
  by_cases h1 : x.1 = 1
  · have e1 : ((x.1 : Int) == 1) = true := by rw [h1]; rfl
    rw [poB_one h1, hA]
    clear h1 hm hop hA
    go_enter Try.func62, Try.ntmps62
    go_wp2_with fail
    refine (unhide H1 _).mono ?_
    rintro e w1 ⟨rfl, b1⟩
    have e0 := heap_alloc_new w (.cells #[.int .u8 (x.1 : Int), .string x.2] 44)
    have c0 := below_cell (cell_of_row _ _ 0 _ _ _ e0) b1
    clear e0
    go_wp2_with fail
    go_ret
    exact ⟨rfl, tr2 (unhide BEL) b1⟩
  · have e1 : ((x.1 : Int) == 1) = false := by rw [beq_eq_false_iff_ne]; omega
    have hmm : 1 < x.1 := by rcases hop with ⟨a, _⟩ | a; exact absurd a h1; exact a
    have H2 := hide (fun w => of_1 (2 + x.2.size) w (by omega))
    have H3 := fun w => optsize_any x w hx
    rw [if_neg h1] at H3
    have H3 := hide H3
    obtain ⟨C, hC⟩ : ∃ C : ByteArray, (⟨(ofB (2 + x.2.size) 1).toArray⟩ : ByteArray) = C := ⟨_, rfl⟩
    have zC : C.size ≤ 1 := by rw [← hC]; exact of_size _ _
    rw [hC] at H2
    rw [poB_many hmm, hA, hC]
    obtain ⟨M, hM⟩ : ∃ M, 2 + x.2.size = M := ⟨_, rfl⟩
    rw [hM] at H2 H3
    have x1 : IntKind.u64.wrap (M : Int) = (M : Int) := by rw [IntKind.wrap_u64]; omega
    obtain ⟨P, hP⟩ : ∃ P, A ++ C = P := ⟨_, rfl⟩
    have zP : P.size ≤ 2 := by rw [← hP, ByteArray.size_append]; omega
    rw [hP]
    have n1 : ¬ 9223372036854775807 < A.size + C.size := by omega
    have n2 : ¬ 9223372036854775807 < P.size + x.2.size := by omega
    clear h1 hm hop hA hC hmm hM zA zC zP
    go_enter Try.func62, Try.ntmps62
    go_wp2_with fail
    refine (unhide H1 _).mono ?_
    rintro e w1 ⟨rfl, b1⟩
    have e0 := heap_alloc_new w (.cells #[.int .u8 (x.1 : Int), .string x.2] 44)
    have c0 := below_cell (cell_of_row _ _ 0 _ _ _ e0) b1
    have c1 := below_cell (cell_of_row _ _ 1 _ _ _ e0) b1
    have B1 := hide (tr2 (unhide BEL) b1)
    clear e0 b1 BEL
    go_wp2_with fail
    have d0 := cell_regrown c0
    have d1 := cell_regrown c1
    have q1 := rgB (w := w1) (unhide H3)
    have q2 := rgB (w := w1) (unhide H2)
    clear c0 c1
    refine wp_region_quiet_below (by kernel_rfl) (by kernel_rfl) ?_
    repeat (go_big_quiet_step (fail))
    go_big_quiet_step (exact q1 _ _)
    repeat (go_big_quiet_step (fail))
    go_big_quiet_step (exact q2 _ _)
    repeat (go_big_quiet_step (fail))
    refine wpQuiet_nil ?_
    intro _ hw'
    obtain ⟨⟨dq, osq⟩, hw''⟩ := hw'
    subst hw''
    go_wp2_with fail
    go_ret
    exact ⟨rfl, tr2 (unhide B1) (below_regrown w1 dq osq)⟩

/-- the first that may not be -/
def anyNot (L : List Po) : Prop := ∃ x ∈ L, notB x
instance (L : List Po) : Decidable (anyNot L) := by unfold anyNot; infer_instance

set_option maxHeartbeats 1000000 in
theorem indexfunc_any (sv : Value) (L : List Po) (w : World) (hL : L.length ≤ 65536) (hI : OptsAt w.heap.size w sv L) :
    Calls Try.prog 66 #[sv, .func (.func 58) #[] #[]] w fun e w' => (∃ r : Int, e = .returned (.int .i64 r) ∧ (0 ≤ r ↔ anyNot L)) ∧ Below w.heap.size w w' := by
  have B0 := hide (Below.refl w.heap.size w)
  rcases hI with ⟨⟨a, cap, rfl⟩, rfl⟩ | ⟨b, off, cap, rfl, hb, hc⟩
  · go_enter Try.func66, Try.ntmps66
    go_wp2
    go_loopw [8] (fun i wr => i = .int .i64 0 ∧ wr = w) (fun _ _ => 0)
    case atStart => exact ⟨rfl, rfl⟩
    case round =>
      obtain ⟨rfl, rfl⟩ := hrel
      go_wp2
      go_ret
      exact ⟨⟨_, rfl, by simp [anyNot]⟩, unhide B0⟩
  · go_enter Try.func66, Try.ntmps66
    go_wp2
    go_loopw [8] (fun i wr => ∃ k : Nat, k ≤ L.length ∧ i = .int .i64 (k : Int) ∧ (¬ anyNot (L.take k)) ∧ Below w.heap.size w wr) (fun i _ => L.length - (intOf i).toNat)
    case atStart => exact ⟨0, Nat.zero_le _, rfl, by simp [anyNot], Below.refl _ _⟩
    case round =>
      obtain ⟨k, hk, rfl, hno, hB⟩ := hrel
      have HNO := hide hno
      clear hno
      by_cases hlt : k < L.length
      · obtain ⟨q1, q2⟩ := hc k L[k] (List.getElem?_eq_getElem hlt)
        have c1 := (hB.cell (p := ⟨b, off + k * 2, none⟩) hb).trans q1
        have c2 := (hB.cell (p := ⟨b, off + k * 2 + 1, none⟩) hb).trans q2
        clear q1 q2
        have HM := hide (fun w => maynot_any L[k] w)
        by_cases hn : notB L[k]
        · rw [decide_eq_true hn] at HM
          have HA : Hid (anyNot L) := ⟨L[k], List.getElem_mem _, hn⟩
          obtain ⟨y, hy⟩ : ∃ y, y = L[k] := ⟨_, rfl⟩
          rw [← hy] at c1 c2 HM
          obtain ⟨y1, y2⟩ := y
          clear hy hn hc
          go_wp2_with fail
          refine (unhide HM _).mono ?_
          rintro e w3 ⟨rfl, b3⟩
          go_wp2_with fail
          go_ret
          exact ⟨⟨_, rfl, by simp [unhide HA]⟩, tr2 hB b3⟩
        · rw [decide_eq_false hn] at HM
          have HA : Hid (¬ anyNot (L.take (k + 1))) := by
            rintro ⟨x, hx, hx2⟩
            rw [take_snoc' L k hlt, List.mem_append] at hx
            rcases hx with hx | hx
            · exact unhide HNO ⟨x, hx, hx2⟩
            · simp at hx; subst hx; exact hn hx2
          obtain ⟨y, hy⟩ : ∃ y, y = L[k] := ⟨_, rfl⟩
          rw [← hy] at c1 c2 HM
          obtain ⟨y1, y2⟩ := y
          clear hy hn hc
          go_wp2_with fail
          refine (unhide HM _).mono ?_
          rintro e w3 ⟨rfl, b3⟩
          go_wp2_with fail
          go_roundw
          case rel => exact ⟨k + 1, by omega, by go_num, unhide HA, tr2 hB b3⟩
          case measure => simp [intOf]; omega
      · obtain rfl : k = L.length := by omega
        rw [List.take_length] at HNO
        go_wp2
        go_ret
        exact ⟨⟨_, rfl, by simp [unhide HNO]⟩, hB⟩

set_option maxHeartbeats 1000000 in
theorem containsfunc_any (sv : Value) (L : List Po) (w : World) (hL : L.length ≤ 65536) (hI : OptsAt w.heap.size w sv L) :
    Calls Try.prog 57 #[sv, .func (.func 58) #[] #[]] w fun e w' => e = .returned (.bool (decide (anyNot L))) ∧ Below w.heap.size w w' := by
  have H := hide (indexfunc_any sv L w hL hI)
  obtain ⟨a, cap, rfl⟩ := hI.slice
  clear hI
  obtain ⟨g, hg, hge⟩ := hidec (anyNot L)
  rw [← hge]
  clear hge
  go_enter Try.func57, Try.ntmps57
  go_wp2_with fail
  refine (unhide H).mono ?_
  rintro e w1 ⟨⟨r, rfl, hr⟩, b1⟩
  have HR := hide hr
  clear hr
  go_wp2_with fail
  go_ret
  exact ⟨ret_of hg (by simp [unhide HR]), b1⟩

end Go.Proofs.Ytefenejeppmfiaa
