/- The contract of the document's Opts (layer 10), over the loaded program: what it answers is what the program's does; no memory that was there has turned. -/
import Derived.Test.YtefenejeppmfiaaIo9
import Derived.Test.YtefenejeppmfiaaInp10
import Derived.Test.YtefenejeppmfiaaRxi
import Derived.Test.YtefenejeppmfiaaRef2K
import Derived.Deep.CutRange
namespace Go.Proofs.Ytefenejeppmfiaa
open Go.RowKit

theorem anyNot_snoc {L : List Po} {k : Nat} (h : ¬ anyNot (L.take k)) (hk : k < L.length) (hx : ¬ notB L[k]) : ¬ anyNot (L.take (k + 1)) := by
  rintro ⟨y, hy, hn⟩
  rw [take_snoc' L k hk] at hy
  rcases List.mem_append.1 hy with g | g
  · exact h ⟨y, g, hn⟩
  · rw [List.mem_singleton.1 g] at hn; exact hx hn
theorem optsE_not {L : List Po} {k : Nat} (hk : k < L.length) (hx : notB L[k]) : optsE L = 102 := by
  unfold optsE
  rw [if_pos ⟨L[k], List.getElem_mem hk, hx⟩]
theorem optsE_long {L : List Po} (hn : ¬ anyNot L) {t : ByteArray} {k : Nat} (ht : t.data.toList = optsL (L.take k)) (h : 40 < t.size) : optsE L = 4 := by
  have e : optsL L = optsL (L.take k) ++ optsL (L.drop k) := by
    have e2 : L = L.take k ++ L.drop k := (List.take_append_drop k L).symm
    unfold optsL optsB
    rw [← List.flatMap_append, ← List.map_append, ← e2]
  have h1 := congrArg List.length e
  rw [List.length_append, ← ht, ← Lib.size_eq, optsL_len L hn] at h1
  unfold optsE
  rw [if_neg hn, if_neg (by omega)]
theorem optsE_fine {L : List Po} (hn : ¬ anyNot L) {t : ByteArray} (ht : t.data.toList = optsL L) (h : t.size ≤ 40) : optsE L = 0 := by
  have h1 := optsL_len L hn
  rw [← ht, ← Lib.size_eq] at h1
  unfold optsE
  rw [if_neg hn, if_pos (by omega)]
theorem notB_iff (k : Nat) (d : ByteArray) : notB (k, d) ↔ k = 0 ∨ (k = 1 ∧ d.size ≠ 0) := Iff.rfl

theorem below_drewN' (w : World) (n : Nat) : Below w.heap.size w (w.drewN n) := ⟨rfl, rfl, rfl, Nat.le_refl _, fun _ _ => rfl⟩
theorem ft_no {l : Array Bool} {i : Nat} (h : l.getD i true = false) (h2 : l.getD i false = true) : False := by
  rw [Array.getD_eq_getD_getElem?] at h h2
  cases hx : l[i]? with
  | none => rw [hx] at h2; cases h2
  | some b =>
    rw [hx] at h h2
    have e1 : b = false := h
    have e2 : b = true := h2
    rw [e1] at e2
    cases e2
theorem getD_ft {l : Array Bool} {i : Nat} (h : l.getD i true = false) : l.getD i false = false := by
  cases e : l.getD i false with
  | false => rfl
  | true => exact (ft_no h e).elim
theorem set_self {l : Array Bool} {i : Nat} (h : l.getD i true = false) : (l.setIfInBounds i true).getD i false = true := by
  have hi : i < l.size := by
    apply Classical.byContradiction
    intro hn
    simp [Array.getD, hn] at h
  simp [Array.getD, hi]
/-- what memory holds while an option's bytes are joined -/
structure BW (w3 D0 D1 : World) (l : Array Bool) (W : World) : Prop where
  bel : Below w3.heap.size w3 W
  bel1 : Below w3.heap.size w3 D1
  s0 : l.getD 9 false = false → W = D0
  s1 : l.getD 9 false = true → W = D1
theorem BW.same {w3 D0 D1 W : World} {l : Array Bool} (h : BW w3 D0 D1 l W) {k : Nat} (hk : k ≠ 9) : BW w3 D0 D1 (l.setIfInBounds k true) W :=
  ⟨h.bel, h.bel1, by rw [getD_upd hk]; exact h.s0, by rw [getD_upd hk]; exact h.s1⟩
theorem BW.at9 {w3 D0 D1 W : World} {l : Array Bool} (h : BW w3 D0 D1 l W) (hu : l.getD 9 true = false) : BW w3 D0 D1 (l.setIfInBounds 9 true) D1 :=
  ⟨h.bel1, h.bel1, (fun e => by rw [set_self hu] at e; cases e), fun _ => rfl⟩
theorem BW.start {w3 D0 : World} {n : Nat} {o : Obj} (hD : w3.drewN 1 = D0) : BW w3 D0 (D0.alloc o) (Array.replicate n false) { w3 with drawn := w3.drawn + 1 } := by
  have hd : Below w3.heap.size w3 D0 := by rw [← hD]; exact below_drewN' w3 1
  refine ⟨below_drewN' w3 1, hd.alloc hd.size _, fun _ => hD, fun e => ?_⟩
  rw [getD_rep] at e
  cases e
theorem ba_app (a b : ByteArray) : (a ++ b).data.toList = a.data.toList ++ b.data.toList := by
  rw [ByteArray.data_append, Array.toList_append]
theorem one_back (W : World) (q x : Nat) (hx : x < 256) (h : W.cell? ⟨q, 0, none⟩ = some (.int .u8 (x : Int))) :
    (convert 47 9 (.slice (some ⟨q, 0, none⟩) 1 1)).run Try.prog W = .ok (.string ⟨[byt x 0].toArray⟩) W :=
  run_convert_bytes_back (P := Try.prog) W 47 9 5 ⟨q, 0, none⟩ 1 [byt x 0] Try.underlying47 Try.underlying5 Try.underlying9 (fun j hj => by
    obtain rfl : j = 0 := by simpa using hj
    rw [addr_add0, h]
    simp [byt_toNat]
    omega)

set_option maxRecDepth 100000 in
set_option maxHeartbeats 4000000 in
theorem ropts_walk (sv : Value) (L : List Po) (w : World) (hL : L.length ≤ 65536) (hI : OptsAt w.heap.size w sv L) (hx : ∀ x ∈ L, x.1 < 256 ∧ x.2.size ≤ 1048576) (R : ByteArray) (E : Int) (HE : Hid (optsE L = E ∧ (if optsE L = 0 then (⟨(pad4 (optsL L)).toArray⟩ : ByteArray) else ⟨#[]⟩) = R)) :
    Calls Try.prog 26 #[sv] w fun e w' => e = .returned (.tuple #[.string R, .int .i64 E]) ∧ Below w.heap.size w w' := by
  obtain ⟨a, cap, rfl⟩ := hI.slice
  have HI := hide hI
  have HXS := hide hx
  clear hI hx
  go_enter Try.func26, Try.ntmps26
  go_wp2_with fail
  go_loopw [5] (fun i wr => ∃ (k : Nat), k ≤ L.length ∧ i = .int .i64 (k : Int) ∧ Hid (¬ anyNot (L.take k)) ∧ wr = w) (fun i _ => L.length - (intOf i).toNat)
  case atStart => exact ⟨0, Nat.zero_le _, rfl, (fun ⟨y, hy, _⟩ => by simp at hy), rfl⟩
  case round =>
    obtain ⟨k, hk, rfl, hN, rfl⟩ := hrel
    by_cases hlt : k < L.length
    · have hkI : (k : Int) < (L.length : Int) := by omega
      rcases unhide HI with ⟨_, hnil⟩ | ⟨b, off, cap', e, hb, hc⟩
      · subst hnil; exact absurd hlt (Nat.not_lt_zero _)
      · simp only [Value.slice.injEq] at e
        obtain ⟨rfl, _, rfl⟩ := e
        obtain ⟨c1, c2⟩ := hc k L[k] (List.getElem?_eq_getElem hlt)
        have HNot := hide (fun h => optsE_not hlt h)
        have HYes := hide (fun h => anyNot_snoc (unhide hN) hlt h)
        clear hc
        generalize L[k] = x at *
        obtain ⟨kd, d⟩ := x
        simp only at c1 c2
        by_cases h0 : kd = 0
        · have e0 : ((kd : Int) == 0) = true := by rw [h0]; rfl
          obtain ⟨e1, e2⟩ := unhide HE
          have e3 := unhide HNot (.inl h0)
          rw [e3] at e1 e2
          obtain rfl : R = ⟨#[]⟩ := e2.symm
          obtain rfl : E = 102 := e1.symm
          clear e1 e2 e3 h0 HNot HYes HE
          go_wp2_with fail
          go_ret2
          exact ⟨rfl, Below.refl _ _⟩
        · have e0 : ((kd : Int) == 0) = false := by rw [beq_eq_false_iff_ne]; omega
          by_cases h1 : kd = 1
          · have e1' : ((kd : Int) == 1) = true := by rw [h1]; rfl
            by_cases hz : d.size = 0
            · have hd : d = ⟨#[]⟩ := list_ba (List.eq_nil_of_length_eq_zero (by rw [← Lib.size_eq]; exact hz))
              have HY := hide (unhide HYes (fun h => by
                rcases h with h | h
                · exact h0 h
                · exact h.2 hz))
              subst hd
              clear h0 h1 hz HNot HYes
              go_wp2_with fail
              go_roundw
              case rel => exact ⟨k + 1, by omega, by go_num, HY, trivial⟩
              case measure => simp [intOf]; omega
            · have hne : d.toList.isEmpty = false := by
                rw [ByteArray.toList_eq]
                cases hl : d.data.toList with
                | nil => have := Lib.size_eq d; rw [hl] at this; exact absurd this hz
                | cons => rfl
              obtain ⟨e1, e2⟩ := unhide HE
              have e3 := unhide HNot (.inr ⟨h1, hz⟩)
              rw [e3] at e1 e2
              obtain rfl : R = ⟨#[]⟩ := e2.symm
              obtain rfl : E = 102 := e1.symm
              clear e1 e2 e3 h0 h1 hz HNot HYes HE
              go_wp2_with fail
              go_ret2
              exact ⟨rfl, Below.refl _ _⟩
          · have e1' : ((kd : Int) == 1) = false := by rw [beq_eq_false_iff_ne]; omega
            have HY := hide (unhide HYes (fun h => by
              rcases h with h | h
              · exact h0 h
              · exact h1 h.1))
            clear h0 h1 HNot HYes
            go_wp2_with fail
            go_roundw
            case rel => exact ⟨k + 1, by omega, by go_num, HY, trivial⟩
            case measure => simp [intOf]; omega
    · obtain rfl : k = L.length := by omega
      rw [List.take_length] at hN
      go_wp2_with fail
      go_loopw [4, 6] (fun sv i wx => ∃ (k : Nat) (t : ByteArray), k ≤ L.length ∧ i = .int .i64 (k : Int) ∧ sv = .string t ∧ t.size ≤ 1048700 ∧ Hid (t.data.toList = optsL (L.take k)) ∧ Hid (Below wr.heap.size wr wx)) (fun _ i _ => L.length - (intOf i).toNat)
      case atStart => exact ⟨0, ⟨#[]⟩, Nat.zero_le _, rfl, rfl, by decide, rfl, Below.refl _ _⟩
      case round =>
        obtain ⟨k, t, hk2, rfl, rfl, hts, hT, hB⟩ := hrel
        by_cases hlt2 : k < L.length
        · by_cases h40 : t.size ≤ 40
          · have hkI : (k : Int) < (L.length : Int) := by omega
            have d40 : decide ((t.size : Int) ≤ 40) = true := decide_eq_true (by omega)
            rcases unhide HI with ⟨_, hnil⟩ | ⟨b, off, cap', e, hb, hc⟩
            · subst hnil; exact absurd hlt2 (Nat.not_lt_zero _)
            simp only [Value.slice.injEq] at e
            obtain ⟨rfl, _, rfl⟩ := e
            obtain ⟨z1, z2⟩ := hc k L[k] (List.getElem?_eq_getElem hlt2)
            have c1 := ((unhide hB).cell (p := ⟨b, off + k * 2, none⟩) hb).trans z1
            have c2 := ((unhide hB).cell (p := ⟨b, off + k * 2 + 1, none⟩) hb).trans z2
            have hxk := (unhide HXS) L[k] (List.getElem_mem _)
            have HS := hide (optsL_snoc (L.take k) L[k])
            rw [← take_snoc' L k hlt2] at HS
            have HM := hide (may_notB (fun c => unhide hN ⟨L[k], List.getElem_mem _, c⟩))
            clear hc z1 z2
            generalize L[k] = x at *
            obtain ⟨kd, d⟩ := x
            simp only at c1 c2 hxk
            obtain ⟨hk8, hds⟩ := hxk
            have hbk1 := one_back (wr.alloc (.cells #[.int .u8 (kd : Int)] 5)) wr.heap.size kd hk8 (cell_of_row _ _ 0 _ _ _ (heap_alloc_new wr (.cells #[.int .u8 (kd : Int)] 5)))
            have BA := hide (below_one wr (.cells #[.int .u8 (kd : Int)] 5))
            obtain ⟨A, hA⟩ : ∃ A : ByteArray, (⟨[byt kd 0].toArray⟩ : ByteArray) = A := ⟨_, rfl⟩
            have zA : A.size = 1 := by rw [← hA]; rfl
            rw [hA] at hbk1
            have HAe := hide hA
            have HAt : Hid (A.data.toList = ofB kd 1) := by rw [← hA]; exact rfl
            have c1a := below_cell c1 (unhide BA)
            obtain ⟨P, hP⟩ : ∃ P, t ++ A = P := ⟨_, rfl⟩
            have zP : P.size = t.size + 1 := by rw [← hP, ByteArray.size_append, zA]
            have n0 : ¬ 9223372036854775807 < t.size + A.size := by omega
            clear hA
            by_cases hkd : 1 < kd
            · have d1 : decide ((1 : Int) < (kd : Int)) = true := decide_eq_true (by omega)
              obtain ⟨m, hm⟩ : ∃ m : Nat, (2 + d.size) % 256 = m := ⟨_, rfl⟩
              have hm8 : m < 256 := by omega
              obtain ⟨C, hC⟩ : ∃ C : ByteArray, (⟨[byt m 0].toArray⟩ : ByteArray) = C := ⟨_, rfl⟩
              have zC : C.size = 1 := by rw [← hC]; rfl
              have hCC : (⟨(ofB (2 + d.size) 1).toArray⟩ : ByteArray) = C := by
                rw [← hC]
                have : byt (2 + d.size) 0 = byt m 0 := by
                  apply UInt8.toNat_inj.1
                  rw [byt_toNat, byt_toNat]
                  omega
                show (⟨[byt (2 + d.size) 0].toArray⟩ : ByteArray) = _
                rw [this]
              obtain ⟨Q, hQ⟩ : ∃ Q, P ++ C = Q := ⟨_, rfl⟩
              have zQ : Q.size = t.size + 2 := by rw [← hQ, ByteArray.size_append, zC, zP]
              obtain ⟨S, hS⟩ : ∃ S, Q ++ d = S := ⟨_, rfl⟩
              have zS : S.size = t.size + 2 + d.size := by rw [← hS, ByteArray.size_append, zQ]
              have HSS : Hid (S.data.toList = optsL (L.take (k + 1))) := by
                rw [unhide HS, poB_many (x := (kd, d)) hkd]
                simp only
                rw [hCC, show (⟨(ofB kd 1).toArray⟩ : ByteArray) = A from unhide HAe, ← hS, ← hQ, ← hP, ba_app, ba_app, ba_app, ba_app, ba_app, unhide hT]
                simp [List.append_assoc]
                exact trivial
              have n1 : ¬ 9223372036854775807 < P.size + C.size := by omega
              have n2 : ¬ 9223372036854775807 < Q.size + d.size := by omega
              have x1 : IntKind.i64.wrap ((d.size : Int) + 2) = (d.size : Int) + 2 := by rw [IntKind.wrap_i64]; omega
              have x2 : IntKind.u8.wrap ((d.size : Int) + 2) = (m : Int) := by rw [IntKind.wrap_u8]; omega
              clear hm hCC zA zC zQ HS HM HAe hkd
              go_upto_region 12 with fail
              replace c2 := below_cell c2 (unhide BA)
              replace c1 := c1a
              clear c1a
              have B3 := hide ((unhide hB).trans ((unhide BA).mono (unhide hB).size))
              clear hbk1 hB BA hP
              generalize wr.alloc (.cells #[.int .u8 (kd : Int)] 5) = w3 at *
              obtain ⟨D0, hD0⟩ : ∃ D, w3.drewN 1 = D := ⟨_, rfl⟩
              have hbk := one_back (D0.alloc (.cells #[.int .u8 (m : Int)] 5)) D0.heap.size m hm8 (cell_of_row _ _ 0 _ _ _ (heap_alloc_new D0 (.cells #[.int .u8 (m : Int)] 5)))
              rw [hC] at hbk
              clear hC
              have nq : ([61, 62, 63, 64, 65, 66, 67, 68, 69, 70, 71, 72, 73, 74, 75, 76, 77, 78, 4] : List Nat).Nodup := by decide
              have hs : ∀ d ∈ ([61, 62, 63, 64, 65, 66, 67, 68, 69, 70, 71, 72, 73, 74, 75, 76, 77, 78, 4] : List Nat), d < 89 := by decide
              refine wp_region_fd [61, 62, 63, 64, 65, 66, 67, 68, 69, 70, 71, 72, 73, 74, 75, 76, 77, 78, 4] (fun _ : Unit => [.string P, .slice (some ⟨b, off, none⟩) L.length cap, .int .i64 (k : Int), .pointer (some ⟨b, off + k * 2, none⟩), .pointer (some ⟨b, off + k * 2 + 1, none⟩), .string d, .int .i64 (d.size : Int), .int .i64 ((d.size : Int) + 2), .int .u8 (m : Int), .slice (some ⟨D0.heap.size, 0, none⟩) 1 1, .string C, .string Q, .slice (some ⟨b, off, none⟩) L.length cap, .int .i64 (k : Int), .pointer (some ⟨b, off + k * 2, none⟩), .pointer (some ⟨b, off + k * 2 + 1, none⟩), .string d, .string S, .string S]) (fun _ => BW w3 D0 (D0.alloc (.cells #[.int .u8 (m : Int)] 5))) (by kernel_rfl) (by kernel_rfl) nq (fun _ => rfl) hs (by decide) ⟨(), BW.start hD0⟩ ⟨
                stepD_val (.string P) nq hs (.inl rfl) rfl rfl (fun _ => rfl) (fun ls a ws c hd hu hc kf hW => by
                  have h18 : ls.getD 18 false = false := by
                    cases hh : ls.getD 18 false with
                    | false => rfl
                    | true => exact (ft_no hu (hc 11 _ rfl (hc 17 _ rfl (hc 18 _ rfl hh ⟨17, .data⟩ (by simp) rfl) ⟨11, .data⟩ (by simp) rfl) ⟨0, .data⟩ (by simp) rfl)).elim
                  have e4 := kf.evalYet 18 4 rfl h18 (v := .string P) rfl
                  generalize a.eval = ρ at *
                  exact ⟨ws, by simp [execOp, go_sem, e4], hW.same (by decide)⟩),
                stepD_val (.slice (some ⟨b, off, none⟩) L.length cap) nq hs (.inl rfl) rfl rfl (fun _ => rfl) (fun ls a ws c hd hu hc kf hW => by
                  have e0 := kf.evalOut 0 (by decide) (v := .slice (some ⟨b, off, none⟩) L.length cap) rfl
                  generalize a.eval = ρ at *
                  exact ⟨ws, by simp [execOp, go_sem, e0], hW.same (by decide)⟩),
                stepD_val (.int .i64 (k : Int)) nq hs (.inl rfl) rfl rfl (fun _ => rfl) (fun ls a ws c hd hu hc kf hW => by
                  have e6 := kf.evalOut 6 (by decide) (v := .int .i64 (k : Int)) rfl
                  generalize a.eval = ρ at *
                  exact ⟨ws, by simp [execOp, go_sem, e6], hW.same (by decide)⟩),
                stepD_val (.pointer (some ⟨b, off + k * 2, none⟩)) nq hs (.inl rfl) rfl rfl (fun _ => rfl) (fun ls a ws c hd hu hc kf hW => by
                  have e62 := kf.eval 1 rfl (hd ⟨1, .data⟩ (by simp) rfl) (v := .slice (some ⟨b, off, none⟩) L.length cap) rfl
                  have e63 := kf.eval 2 rfl (hd ⟨2, .data⟩ (by simp) rfl) (v := .int .i64 (k : Int)) rfl
                  generalize a.eval = ρ at *
                  exact ⟨ws, by simp [execOp, go_sem, e62, e63, hkI], hW.same (by decide)⟩),
                stepD_val (.pointer (some ⟨b, off + k * 2 + 1, none⟩)) nq hs (.inl rfl) rfl rfl (fun _ => rfl) (fun ls a ws c hd hu hc kf hW => by
                  have e64 := kf.eval 3 rfl (hd ⟨3, .data⟩ (by simp) rfl) (v := .pointer (some ⟨b, off + k * 2, none⟩)) rfl
                  generalize a.eval = ρ at *
                  exact ⟨ws, by simp [execOp, go_sem, e64], hW.same (by decide)⟩),
                stepD_val (.string d) nq hs (.inl rfl) rfl rfl (fun _ => rfl) (fun ls a ws c hd hu hc kf hW => by
                  have e65 := kf.eval 4 rfl (hd ⟨4, .data⟩ (by simp) rfl) (v := .pointer (some ⟨b, off + k * 2 + 1, none⟩)) rfl
                  have f0 := below_cell c2 hW.bel
                  generalize a.eval = ρ at *
                  exact ⟨ws, by simp [execOp, go_sem, e65, f0], hW.same (by decide)⟩),
                stepD_val (.int .i64 (d.size : Int)) nq hs (.inl rfl) rfl rfl (fun _ => rfl) (fun ls a ws c hd hu hc kf hW => by
                  have e66 := kf.eval 5 rfl (hd ⟨5, .data⟩ (by simp) rfl) (v := .string d) rfl
                  generalize a.eval = ρ at *
                  exact ⟨ws, by simp [go_sem, e66], hW.same (by decide)⟩),
                stepD_val (.int .i64 ((d.size : Int) + 2)) nq hs (.inl rfl) rfl rfl (fun _ => rfl) (fun ls a ws c hd hu hc kf hW => by
                  have e67 := kf.eval 6 rfl (hd ⟨6, .data⟩ (by simp) rfl) (v := .int .i64 (d.size : Int)) rfl
                  have ec : ∀ v, a.eval (.const v) = v := fun _ => rfl
                  generalize a.eval = ρ at *
                  exact ⟨ws, by simp [execOp, go_sem, e67, ec, x1], hW.same (by decide)⟩),
                stepD_val (.int .u8 (m : Int)) nq hs (.inl rfl) rfl rfl (fun _ => rfl) (fun ls a ws c hd hu hc kf hW => by
                  have e68 := kf.eval 7 rfl (hd ⟨7, .data⟩ (by simp) rfl) (v := .int .i64 ((d.size : Int) + 2)) rfl
                  generalize a.eval = ρ at *
                  exact ⟨ws, by simp [execOp, go_sem, e68, x2], hW.same (by decide)⟩),
                stepD_val (.slice (some ⟨D0.heap.size, 0, none⟩) 1 1) nq hs (.inl rfl) rfl rfl (fun _ => rfl) (fun ls a ws c hd hu hc kf hW => by
                  have e69 := kf.eval 8 rfl (hd ⟨8, .data⟩ (by simp) rfl) (v := .int .u8 (m : Int)) rfl
                  have hw := hW.s0 (getD_ft hu)
                  generalize a.eval = ρ at *
                  exact ⟨D0.alloc (.cells #[.int .u8 (m : Int)] 5), by rw [hw]; simp [execOp, go_sem, Instr.buildSlice, e69], hW.at9 hu⟩),
                stepD_val (.string C) nq hs (.inl rfl) rfl rfl (fun _ => rfl) (fun ls a ws c hd hu hc kf hW => by
                  have e70 := kf.eval 9 rfl (hd ⟨9, .data⟩ (by simp) rfl) (v := .slice (some ⟨D0.heap.size, 0, none⟩) 1 1) rfl
                  have hw := hW.s1 (hd ⟨9, .data⟩ (by simp) rfl)
                  generalize a.eval = ρ at *
                  exact ⟨ws, by rw [hw]; simp [execOp, go_sem, e70, hbk], hW.same (by decide)⟩),
                stepD_val (.string Q) nq hs (.inl rfl) rfl rfl (fun _ => rfl) (fun ls a ws c hd hu hc kf hW => by
                  have e61 := kf.eval 0 rfl (hd ⟨0, .data⟩ (by simp) rfl) (v := .string P) rfl
                  have e71 := kf.eval 10 rfl (hd ⟨10, .data⟩ (by simp) rfl) (v := .string C) rfl
                  generalize a.eval = ρ at *
                  exact ⟨ws, by simp [execOp, go_sem, e61, e71, n1, hQ], hW.same (by decide)⟩),
                stepD_val (.slice (some ⟨b, off, none⟩) L.length cap) nq hs (.inl rfl) rfl rfl (fun _ => rfl) (fun ls a ws c hd hu hc kf hW => by
                  have e0 := kf.evalOut 0 (by decide) (v := .slice (some ⟨b, off, none⟩) L.length cap) rfl
                  generalize a.eval = ρ at *
                  exact ⟨ws, by simp [execOp, go_sem, e0], hW.same (by decide)⟩),
                stepD_val (.int .i64 (k : Int)) nq hs (.inl rfl) rfl rfl (fun _ => rfl) (fun ls a ws c hd hu hc kf hW => by
                  have e6 := kf.evalOut 6 (by decide) (v := .int .i64 (k : Int)) rfl
                  generalize a.eval = ρ at *
                  exact ⟨ws, by simp [execOp, go_sem, e6], hW.same (by decide)⟩),
                stepD_val (.pointer (some ⟨b, off + k * 2, none⟩)) nq hs (.inl rfl) rfl rfl (fun _ => rfl) (fun ls a ws c hd hu hc kf hW => by
                  have e73 := kf.eval 12 rfl (hd ⟨12, .data⟩ (by simp) rfl) (v := .slice (some ⟨b, off, none⟩) L.length cap) rfl
                  have e74 := kf.eval 13 rfl (hd ⟨13, .data⟩ (by simp) rfl) (v := .int .i64 (k : Int)) rfl
                  generalize a.eval = ρ at *
                  exact ⟨ws, by simp [execOp, go_sem, e73, e74, hkI], hW.same (by decide)⟩),
                stepD_val (.pointer (some ⟨b, off + k * 2 + 1, none⟩)) nq hs (.inl rfl) rfl rfl (fun _ => rfl) (fun ls a ws c hd hu hc kf hW => by
                  have e75 := kf.eval 14 rfl (hd ⟨14, .data⟩ (by simp) rfl) (v := .pointer (some ⟨b, off + k * 2, none⟩)) rfl
                  generalize a.eval = ρ at *
                  exact ⟨ws, by simp [execOp, go_sem, e75], hW.same (by decide)⟩),
                stepD_val (.string d) nq hs (.inl rfl) rfl rfl (fun _ => rfl) (fun ls a ws c hd hu hc kf hW => by
                  have e76 := kf.eval 15 rfl (hd ⟨15, .data⟩ (by simp) rfl) (v := .pointer (some ⟨b, off + k * 2 + 1, none⟩)) rfl
                  have f0 := below_cell c2 hW.bel
                  generalize a.eval = ρ at *
                  exact ⟨ws, by simp [execOp, go_sem, e76, f0], hW.same (by decide)⟩),
                stepD_val (.string S) nq hs (.inl rfl) rfl rfl (fun _ => rfl) (fun ls a ws c hd hu hc kf hW => by
                  have e72 := kf.eval 11 rfl (hd ⟨11, .data⟩ (by simp) rfl) (v := .string Q) rfl
                  have e77 := kf.eval 16 rfl (hd ⟨16, .data⟩ (by simp) rfl) (v := .string d) rfl
                  generalize a.eval = ρ at *
                  exact ⟨ws, by simp [execOp, go_sem, e72, e77, n2, hS], hW.same (by decide)⟩),
                stepD_val (.string S) nq hs (.inl rfl) rfl rfl (fun _ => rfl) (fun ls a ws c hd hu hc kf hW => by
                  have e78 := kf.eval 17 rfl (hd ⟨17, .data⟩ (by simp) rfl) (v := .string S) rfl
                  generalize a.eval = ρ at *
                  exact ⟨ws, by simp [execOp, go_sem, e78], hW.same (by decide)⟩), trivial⟩ ?_
              intro _ l5 w5 hal hW
              have B5 := hide ((unhide B3).trans (hW.bel.mono (unhide B3).size))
              clear hW hal nq hs hbk c1 c2 hQ hS n1 n2 x1 x2 B3 hD0
              simp only [fill, List.setIfInBounds_toArray, List.set_cons_succ, List.set_cons_zero]
              go_wp2_with fail
              go_roundw
              case rel => exact ⟨k + 1, S, by omega, by go_num, rfl, by omega, HSS, B5⟩
              case measure => simp [intOf]; omega
            · have d1 : decide ((1 : Int) < (kd : Int)) = false := decide_eq_false (by omega)
              have hk1 : kd = 1 := by
                rcases unhide HM with ⟨h, _⟩ | h
                · exact h
                · exact absurd h hkd
              have HSS : Hid (P.data.toList = optsL (L.take (k + 1))) := by
                rw [unhide HS, poB_one (x := (kd, d)) hk1]
                simp only
                rw [← hP, ba_app, unhide hT, unhide HAt]
                exact rfl
              have B3 := hide ((unhide hB).trans ((unhide BA).mono (unhide hB).size))
              clear hk1 hkd HM HS HAe zA hB BA
              go_wp2_with fail
              go_roundw
              case rel => exact ⟨k + 1, P, by omega, by go_num, by first | rfl | rw [← hP], by omega, HSS, B3⟩
              case measure => simp [intOf]; omega
          · have d40 : decide ((t.size : Int) ≤ 40) = false := decide_eq_false (by omega)
            have d41 : decide ((40 : Int) < (t.size : Int)) = true := decide_eq_true (by omega)
            obtain ⟨e1, e2⟩ := unhide HE
            have e3 := optsE_long (unhide hN) (unhide hT) (by omega)
            rw [e3] at e1 e2
            obtain rfl : R = ⟨#[]⟩ := e2.symm
            obtain rfl : E = 4 := e1.symm
            clear e1 e2 e3 HE
            go_wp2_with fail
            go_ret2
            exact ⟨rfl, unhide hB⟩
        · obtain rfl : k = L.length := by omega
          by_cases h40 : t.size ≤ 40
          · have d41 : decide ((40 : Int) < (t.size : Int)) = false := decide_eq_false (by omega)
            have hT2 := unhide hT
            rw [List.take_length] at hT2
            obtain ⟨e1, e2⟩ := unhide HE
            have e3 := optsE_fine (unhide hN) hT2 h40
            rw [e3, if_pos rfl, ← hT2] at e2
            rw [e3] at e1
            obtain rfl : E = 0 := e1.symm
            have HR := hide e2
            clear e1 e2 e3 HE hT2 hT hN
            have hsz := hide (Lib.size_eq t)
            go_wp2_with fail
            go_loopw [4] (fun sv wr3 => ∃ (j : Nat) (u : ByteArray), sv = .string u ∧ j ≤ padN t.size ∧ Hid (u.data.toList = t.data.toList ++ List.replicate j 0) ∧ u.size = t.size + j ∧ wr3 = wr) (fun sv _ => 48 - szV sv)
            case atStart => exact ⟨0, t, rfl, Nat.zero_le _, by simp [Hid], rfl, rfl⟩
            case round =>
              obtain ⟨j, u, rfl, hj, hU, huz, rfl⟩ := hrel
              have hp4 : padN t.size < 4 := padN_le _
              by_cases hjl : j < padN t.size
              · have m0 : ((u.size : Int) % 4 == 0) = false := by
                  rw [beq_eq_false_iff_ne]
                  have : padN t.size = (4 - t.size % 4) % 4 := rfl
                  omega
                have m1 : ((u.size : Int) % 4 != 0) = true := by
                  rw [bne_iff_ne]
                  have : padN t.size = (4 - t.size % 4) % 4 := rfl
                  omega
                have hu' : (u ++ ⟨#[0]⟩ : ByteArray).size = u.size + 1 := by rw [ByteArray.size_append]; rfl
                have HU2 : Hid ((u ++ ⟨#[0]⟩ : ByteArray).data.toList = t.data.toList ++ List.replicate (j + 1) 0) := by
                  rw [ba_app, unhide hU, List.replicate_succ', ← List.append_assoc]
                  exact rfl
                obtain ⟨u2, hu2⟩ : ∃ u2, (u ++ ⟨#[0]⟩ : ByteArray) = u2 := ⟨_, rfl⟩
                rw [hu2] at hu' HU2
                have n3 : ¬ 9223372036854775807 < u.size + 1 := by omega
                go_wp2_with fail
                go_roundw
                case rel => exact ⟨j + 1, u2, by rw [← hu2], by omega, HU2, by omega, trivial⟩
                case measure => simp [szV]; omega
              · have hje : j = padN t.size := by omega
                have m0 : ((u.size : Int) % 4 == 0) = true := by
                  rw [beq_iff_eq]
                  have : padN t.size = (4 - t.size % 4) % 4 := rfl
                  omega
                have m1 : ((u.size : Int) % 4 != 0) = false := by
                  rw [Bool.eq_false_iff]
                  intro h
                  rw [bne_iff_ne] at h
                  have : padN t.size = (4 - t.size % 4) % 4 := rfl
                  omega
                have HRu : Hid (u = R) := by
                  rw [← unhide HR]
                  refine list_ba ?_
                  rw [unhide hU, hje]
                  show _ = (pad4 t.data.toList).toArray.toList
                  unfold pad4
                  rw [← unhide hsz]
                clear hje
                go_wp2_with fail
                go_ret2
                have hRu := unhide HRu
                subst hRu
                exact ⟨rfl, unhide hB⟩
          · have d41 : decide ((40 : Int) < (t.size : Int)) = true := decide_eq_true (by omega)
            obtain ⟨e1, e2⟩ := unhide HE
            have e3 := optsE_long (unhide hN) (unhide hT) (by omega)
            rw [e3] at e1 e2
            obtain rfl : R = ⟨#[]⟩ := e2.symm
            obtain rfl : E = 4 := e1.symm
            clear e1 e2 e3 HE
            go_wp2_with fail
            go_ret2
            exact ⟨rfl, unhide hB⟩
end Go.Proofs.Ytefenejeppmfiaa
