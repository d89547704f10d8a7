/- The contract of the document's Options (layer 10), over the loaded program: what it answers is what the program's does; no memory that was there has turned. -/
import Derived.Test.YtefenejeppmfiaaOr10
import Derived.Maps.AppendAt
namespace Go.Proofs.Ytefenejeppmfiaa
open Go.RowKit

/-- what memory holds while an option is joined to the row -/
structure AW (w3 D0 D1 D2 : World) (l : Array Bool) (W : World) : Prop where
  s0 : l.getD 12 false = false → W = D0
  s1 : l.getD 12 false = true → l.getD 13 false = false → W = D1
  s2 : l.getD 13 false = true → W = D2
section
variable {w3 D0 D1 D2 W : World} {l : Array Bool}
theorem AW.same (h : AW w3 D0 D1 D2 l W) {k : Nat} (h1 : k ≠ 12) (h2 : k ≠ 13) : AW w3 D0 D1 D2 (l.setIfInBounds k true) W :=
  ⟨by rw [getD_upd h1]; exact h.s0, by rw [getD_upd h1, getD_upd h2]; exact h.s1, by rw [getD_upd h2]; exact h.s2⟩
theorem AW.at12 (hu : l.getD 12 true = false) (k : l.getD 13 false = true → l.getD 12 false = true) : AW w3 D0 D1 D2 (l.setIfInBounds 12 true) D1 :=
  ⟨(fun e => by rw [set_self hu] at e; cases e), fun _ _ => rfl, (fun e => by rw [getD_upd (by decide)] at e; exact (ft_no hu (k e)).elim)⟩
theorem AW.at13 (h12 : l.getD 12 false = true) (hu : l.getD 13 true = false) : AW w3 D0 D1 D2 (l.setIfInBounds 13 true) D2 :=
  ⟨(fun e => by rw [getD_upd (by decide), h12] at e; cases e), (fun _ e => by rw [set_self hu] at e; cases e), fun _ => rfl⟩
end
theorem no_rep {n k : Nat} (h : (Array.replicate n false).getD k false = true) : False := by rw [getD_rep] at h; cases h
theorem grown_row {w w' : World} {base e size n : Nat} {v : Value} {xs : List Value} (g : w.grownBy w' v.ownBlock) (h : w.ownsRow base e size v n xs) (hb : base ≤ w.heap.size) : Below base w w' := by
  rcases h.2 with ⟨rfl, _⟩ | ⟨k, cap, cur, rfl, hk, _⟩
  · exact ⟨g.os, g.tape, g.output, g.size, fun i hi => g.block i (by omega) (by intro x; cases x)⟩
  · exact ⟨g.os, g.tape, g.output, g.size, fun i hi => g.block i (by omega) (by intro x; cases x; exact absurd hi (Nat.not_lt.2 hk))⟩
/-- one more in the row: what append does is known ahead -/
theorem join_one {D0 : World} {base n : Nat} {v : Value} {M : List Po} (hown : D0.ownsRow base 44 2 v n (cellsO M)) (hb : base ≤ D0.heap.size) (hn : n ≤ 1000) (x : Po) :
    ∃ v2 D2, (Builtin.append_ #[40, 40] 40 #[v, .slice (some ⟨D0.heap.size, 0, none⟩) 1 1]).run Try.prog (D0.alloc (.cells #[.int .u8 (x.1 : Int), .string x.2] 44)) = .ok v2 D2 ∧ D2.ownsRow base 44 2 v2 (n + 1) (cellsO (M ++ [x])) ∧ Below base D0 D2 := by
  obtain ⟨i0, hi, hz0, hz1, hz2⟩ := info_parts (P := Try.prog) (e := 44) (z := .agg #[.int .u8 0, .string ⟨#[]⟩]) (size := 2) (bytes := 24) (by kernel_rfl)
  obtain ⟨v2, D2, r, o, g, _, _⟩ := run_append_own_at (P := Try.prog) (D0.alloc (.cells #[.int .u8 (x.1 : Int), .string x.2] 44)) base 40 40 44 i0 _ 2 24 Try.underlying40 hi hz0 hz1 hz2 rfl (by decide) v n _ (hown.alloc _)
    ⟨D0.heap.size, 0, none⟩ 1 1 [.int .u8 (x.1 : Int), .string x.2] rfl (by have q := World.news_of_block (heap_alloc_new D0 (.cells #[.int .u8 (x.1 : Int), .string x.2] 44)); simpa using q) (by intro u hu; simp at hu; rcases hu with rfl | rfl <;> rfl) (by unfold maxLen; omega) (by omega) (by simp; omega)
  refine ⟨v2, D2, r, by rw [cellsO_snoc]; exact o, ((Below.refl _ _).alloc hb _).trans (grown_row g (hown.alloc _) (by simp; omega))⟩

set_option maxRecDepth 100000 in
set_option maxHeartbeats 4000000 in
theorem roptions_short (s : ByteArray) (w : World) (h : s.size ≤ 40) : Calls Try.prog 21 #[.string s] w (OE s w) := by
  obtain ⟨i0, hi, hz0, hz1, hz2⟩ := info_parts (P := Try.prog) (e := 44) (z := .agg #[.int .u8 0, .string ⟨#[]⟩]) (size := 2) (bytes := 24) (by kernel_rfl)
  have d0 : decide ((40 : Int) < (s.size : Int)) = false := decide_eq_false (by omega)
  go_enter Try.func21, Try.ntmps21
  go_wp2_with fail
  go_loopw [4, 5] (fun v i wx => ∃ (M : List Po) (p : Nat), p ≤ s.size ∧ M.length ≤ p ∧ i = .int .i64 (p : Int) ∧ Hid (optsR s = (optsR (s.extract p s.size)).map (fun l => M.map Po.op ++ l)) ∧ wx.ownsRow w.heap.size 44 2 v M.length (cellsO M) ∧ Below w.heap.size w wx) (fun _ i _ => s.size - (intOf i).toNat)
  case atStart => exact ⟨[], 0, Nat.zero_le _, Nat.le_refl _, rfl, by rw [ByteArray.extract_zero_size]; simp [Hid], World.ownsRow_nil _ _ _ _, Below.refl _ _⟩
  case round =>
    obtain ⟨M, p, hps, hMp, rfl, hR, hown, hbel⟩ := hrel
    have hend : (p = s.size ∨ byteAt s.data.toList p = 0) → OE s w (.returned (.tuple #[u4, .int .i64 0])) wr := fun he => by
      have hR := unhide hR
      rw [R_end hps he] at hR
      obtain ⟨sp, sc, rfl⟩ := row_shape hown
      exact .inr ⟨M, sp, sc, by rw [hR]; simp, by omega, rfl, hown, hbel⟩
    have hend := hide hend
    by_cases hlt : p < s.size
    · have hi0 : (p : Int) < (s.size : Int) := by omega
      have hb := byteAt_eq (s := s) (k := p) hlt
      have HRone := hide (fun hk => R_one (s := s) hlt hk)
      have HRbad := hide (fun h0 h1 hk => R_bad (s := s) hlt h0 h1 hk)
      have HRmore := hide (fun h0 h1 hk => R_more (s := s) hlt h0 h1 hk)
      have hK8 : byteAt s.data.toList p < 256 := by rw [← hb]; exact UInt8.toNat_lt _
      obtain ⟨K, hK⟩ : ∃ K, byteAt s.data.toList p = K := ⟨_, rfl⟩
      rw [hK] at hb hK8 HRone HRbad HRmore hend
      by_cases h0 : K = 0
      · have e0 : ((K : Int) != 0) = false := by rw [h0]; rfl
        have hE := hide (unhide hend (.inr h0))
        clear h0 hown hbel hend
        go_wp2_with fail
        go_ret2
        exact unhide hE
      · have e0 : ((K : Int) != 0) = true := by rw [bne_iff_ne]; omega
        have hbo := hide hbel
        by_cases h1 : K = 1
        · have e1 : ((K : Int) == 1) = true := by rw [h1]; rfl
          have HR2 := unhide HRone h1
          have HR3 : Hid (optsR s = (optsR (s.extract (p + 1) s.size)).map (fun l => (M ++ [((1 : Nat), (⟨#[]⟩ : ByteArray))]).map Po.op ++ l)) := by
            rw [unhide hR, HR2]
            simp [Option.map_map, Function.comp_def]
            exact trivial
          obtain ⟨n, hn⟩ : ∃ n, M.length = n := ⟨_, rfl⟩
          rw [hn] at hown hMp
          have HN := hide hn
          have hsw := hbel.size
          have hlt1 := hown.lt
          clear hn HR2 hR HRone HRbad HRmore h0 h1 hend
          go_wp2_with (at_builtin; refine wpList_append_lies _ rfl _ _ 40 rfl w.heap.size 44 i0 _ 2 24 Try.underlying40 hi hz0 hz1 hz2 rfl (by decide) u4 n _ rfl (hown.alloc _) ⟨wr.heap.size, 0, none⟩ 1 1 [.int .u8 1, .string ⟨#[]⟩] rfl rfl (by have q := World.news_of_block (heap_alloc_new wr (.cells #[.int .u8 1, .string ⟨#[]⟩] 44)); simpa using q) (by intro u hu; simp at hu; rcases hu with rfl | rfl <;> rfl) (by decide) (by unfold maxLen; omega) (by omega) (by simp; omega) _ rfl ?_; intro g3 cap3 w5 hown5 hgrow5 hat5 hlt5)
          have HO := hide hown5
          have HB := hide ((hbel.alloc hsw _).grown hgrow5 (by simp; omega) (fun j hj => (hlt1 j hj).1))
          clear hown5 hgrow5 hat5 hlt5 hown hbel hlt1 hbo
          go_roundw
          case rel =>
            refine ⟨M ++ [(1, ⟨#[]⟩)], p + 1, by omega, by rw [List.length_append, unhide HN]; simp; omega, by go_num, HR3, ?_, unhide HB⟩
            rw [cellsO_snoc, List.length_append, unhide HN]
            exact unhide HO
          case measure => simp [intOf]; omega
        · have e1 : ((K : Int) == 1) = false := by rw [beq_eq_false_iff_ne]; omega
          by_cases hp1 : p + 1 < s.size
          · have dA : decide ((s.size : Int) ≤ (p : Int) + 1) = false := decide_eq_false (by omega)
            have hi1 : (p : Int) + 1 < (s.size : Int) := by omega
            have hbN := byteAt_eq (s := s) (k := p + 1) hp1
            have hN8 : byteAt s.data.toList (p + 1) < 256 := by rw [← hbN]; exact UInt8.toNat_lt _
            generalize byteAt s.data.toList (p + 1) = N at *
            by_cases hN2 : N < 2
            · have dN : decide ((N : Int) < 2) = true := decide_eq_true (by omega)
              have hE : Hid (OE s w (.returned (.tuple #[.slice none 0 0, .int .i64 102])) wr) := by
                have hR2 := unhide hR
                rw [unhide HRbad h0 h1 (fun k => by omega)] at hR2
                exact .inl ⟨by rw [hR2]; rfl, rfl, hbel⟩
              clear hown hbel hend hR HRone HRbad HRmore h0 h1
              go_wp2_with fail
              go_ret2
              exact unhide hE
            · have dN : decide ((N : Int) < 2) = false := decide_eq_false (by omega)
              by_cases hS : s.size < p + N
              · have dS : decide ((s.size : Int) < (p : Int) + (N : Int)) = true := decide_eq_true (by omega)
                have hE : Hid (OE s w (.returned (.tuple #[.slice none 0 0, .int .i64 102])) wr) := by
                  have hR2 := unhide hR
                  rw [unhide HRbad h0 h1 (fun k => by omega)] at hR2
                  exact .inl ⟨by rw [hR2]; rfl, rfl, hbel⟩
                clear hown hbel hend hR HRone HRbad HRmore h0 h1
                go_wp2_with fail
                go_ret2
                exact unhide hE
              · have dS : decide ((s.size : Int) < (p : Int) + (N : Int)) = false := decide_eq_false (by omega)
                have HR2 := unhide HRmore h0 h1 ⟨by omega, by omega, by omega⟩
                obtain ⟨X, hX⟩ : ∃ X, s.extract (p + 2) (p + N) = X := ⟨_, rfl⟩
                rw [hX] at HR2
                have HR3 : Hid (optsR s = (optsR (s.extract (p + N) s.size)).map (fun l => (M ++ [(K, X)]).map Po.op ++ l)) := by
                  rw [unhide hR, HR2]
                  simp [Option.map_map, Function.comp_def]
                  exact trivial
                obtain ⟨n, hn⟩ : ∃ n, M.length = n := ⟨_, rfl⟩
                rw [hn] at hown hMp
                have HN := hide hn
                obtain ⟨D0, hD0⟩ : ∃ D, wr.drewN 1 = D := ⟨_, rfl⟩
                have bD : Below wr.heap.size wr D0 := by rw [← hD0]; exact below_drewN' wr 1
                obtain ⟨v2, D2, r2, o2, b2⟩ := join_one (row_below hown bD) (Nat.le_trans hbel.size bD.size) (by omega) (K, X)
                have HO := hide o2
                have HB := hide ((tr2 hbel bD).trans b2)
                have x2 : IntKind.i64.wrap ((p : Int) + 2) = (p : Int) + 2 := by rw [IntKind.wrap_i64]; omega
                have xN : IntKind.i64.wrap ((p : Int) + (N : Int)) = (p : Int) + (N : Int) := by rw [IntKind.wrap_i64]; omega
                have hs1 : (p : Int) + 2 ≤ (p : Int) + (N : Int) := by omega
                have hs2 : (p : Int) + (N : Int) ≤ (s.size : Int) := by omega
                have hs5 : (0 : Int) ≤ (p : Int) + 2 := by omega
                have ht1 : ((p : Int) + 2).toNat = p + 2 := by omega
                have ht2 : ((p : Int) + (N : Int)).toNat = p + N := by omega
                clear hn HR2 hR HRone HRbad HRmore h0 h1 hend hown hbel o2 b2 bD hbo
                go_upto_region 12 with fail
                have nq : ([59, 60, 61, 62, 63, 64, 65, 66, 67, 68, 69, 70, 71, 72, 4] : List Nat).Nodup := by decide
                have hs : ∀ d ∈ ([59, 60, 61, 62, 63, 64, 65, 66, 67, 68, 69, 70, 71, 72, 4] : List Nat), d < 77 := by decide
                refine wp_region_fd [59, 60, 61, 62, 63, 64, 65, 66, 67, 68, 69, 70, 71, 72, 4] (fun _ : Unit => [u4, .string s, .int .i64 (p : Int), .int .u8 (K : Int), .string s, .int .i64 (p : Int), .int .i64 ((p : Int) + 2), .int .i64 (p : Int), .int .i64 (N : Int), .int .i64 ((p : Int) + (N : Int)), .string X, .agg #[.int .u8 (K : Int), .string X], .slice (some ⟨D0.heap.size, 0, none⟩) 1 1, v2, v2]) (fun _ => AW wr D0 (D0.alloc (.cells #[.int .u8 (K : Int), .string X] 44)) D2) (by kernel_rfl) (by kernel_rfl) nq (fun _ => rfl) hs (by decide) ⟨(), ⟨fun _ => hD0, fun e _ => (no_rep e).elim, fun e => (no_rep e).elim⟩⟩ ⟨
                  stepD_val (u4) nq hs (.inl rfl) rfl rfl (fun _ => rfl) (fun ls a ws c hd hu hc kf hW => by
                    have h14 : ls.getD 14 false = false := by
                      cases hh : ls.getD 14 false with
                      | false => rfl
                      | true => exact (ft_no hu (hc 13 _ rfl (hc 14 _ rfl hh ⟨13, .data⟩ (by simp) rfl) ⟨0, .data⟩ (by simp) rfl)).elim
                    have e4 := kf.evalYet 14 4 rfl h14 (v := u4) rfl
                    generalize a.eval = ρ at *
                    exact ⟨ws, by simp [execOp, go_sem, e4], hW.same (by decide) (by decide)⟩),
                  stepD_val (.string s) nq hs (.inl rfl) rfl rfl (fun _ => rfl) (fun ls a ws c hd hu hc kf hW => by
                    have e0 := kf.evalOut 0 (by decide) (v := .string s) rfl
                    generalize a.eval = ρ at *
                    exact ⟨ws, by simp [execOp, go_sem, e0], hW.same (by decide) (by decide)⟩),
                  stepD_val (.int .i64 (p : Int)) nq hs (.inl rfl) rfl rfl (fun _ => rfl) (fun ls a ws c hd hu hc kf hW => by
                    have e5 := kf.evalOut 5 (by decide) (v := .int .i64 (p : Int)) rfl
                    generalize a.eval = ρ at *
                    exact ⟨ws, by simp [execOp, go_sem, e5], hW.same (by decide) (by decide)⟩),
                  stepD_val (.int .u8 (K : Int)) nq hs (.inl rfl) rfl rfl (fun _ => rfl) (fun ls a ws c hd hu hc kf hW => by
                    have e60 := kf.eval 1 rfl (hd ⟨1, .data⟩ (by simp) rfl) (v := .string s) rfl
                    have e61 := kf.eval 2 rfl (hd ⟨2, .data⟩ (by simp) rfl) (v := .int .i64 (p : Int)) rfl
                    generalize a.eval = ρ at *
                    exact ⟨ws, by simp [execOp, go_sem, e60, e61, hi0, hb], hW.same (by decide) (by decide)⟩),
                  stepD_val (.string s) nq hs (.inl rfl) rfl rfl (fun _ => rfl) (fun ls a ws c hd hu hc kf hW => by
                    have e0 := kf.evalOut 0 (by decide) (v := .string s) rfl
                    generalize a.eval = ρ at *
                    exact ⟨ws, by simp [execOp, go_sem, e0], hW.same (by decide) (by decide)⟩),
                  stepD_val (.int .i64 (p : Int)) nq hs (.inl rfl) rfl rfl (fun _ => rfl) (fun ls a ws c hd hu hc kf hW => by
                    have e5 := kf.evalOut 5 (by decide) (v := .int .i64 (p : Int)) rfl
                    generalize a.eval = ρ at *
                    exact ⟨ws, by simp [execOp, go_sem, e5], hW.same (by decide) (by decide)⟩),
                  stepD_val (.int .i64 ((p : Int) + 2)) nq hs (.inl rfl) rfl rfl (fun _ => rfl) (fun ls a ws c hd hu hc kf hW => by
                    have e64 := kf.eval 5 rfl (hd ⟨5, .data⟩ (by simp) rfl) (v := .int .i64 (p : Int)) rfl
                    have ec : ∀ v, a.eval (.const v) = v := fun _ => rfl
                    generalize a.eval = ρ at *
                    exact ⟨ws, by simp [execOp, go_sem, e64, ec, x2], hW.same (by decide) (by decide)⟩),
                  stepD_val (.int .i64 (p : Int)) nq hs (.inl rfl) rfl rfl (fun _ => rfl) (fun ls a ws c hd hu hc kf hW => by
                    have e5 := kf.evalOut 5 (by decide) (v := .int .i64 (p : Int)) rfl
                    generalize a.eval = ρ at *
                    exact ⟨ws, by simp [execOp, go_sem, e5], hW.same (by decide) (by decide)⟩),
                  stepD_val (.int .i64 (N : Int)) nq hs (.inl rfl) rfl rfl (fun _ => rfl) (fun ls a ws c hd hu hc kf hW => by
                    have e6 := kf.evalOut 6 (by decide) (v := .int .i64 (N : Int)) rfl
                    generalize a.eval = ρ at *
                    exact ⟨ws, by simp [execOp, go_sem, e6], hW.same (by decide) (by decide)⟩),
                  stepD_val (.int .i64 ((p : Int) + (N : Int))) nq hs (.inl rfl) rfl rfl (fun _ => rfl) (fun ls a ws c hd hu hc kf hW => by
                    have e66 := kf.eval 7 rfl (hd ⟨7, .data⟩ (by simp) rfl) (v := .int .i64 (p : Int)) rfl
                    have e67 := kf.eval 8 rfl (hd ⟨8, .data⟩ (by simp) rfl) (v := .int .i64 (N : Int)) rfl
                    generalize a.eval = ρ at *
                    exact ⟨ws, by simp [execOp, go_sem, e66, e67, xN], hW.same (by decide) (by decide)⟩),
                  stepD_val (.string X) nq hs (.inl rfl) rfl rfl (fun _ => rfl) (fun ls a ws c hd hu hc kf hW => by
                    have e63 := kf.eval 4 rfl (hd ⟨4, .data⟩ (by simp) rfl) (v := .string s) rfl
                    have e65 := kf.eval 6 rfl (hd ⟨6, .data⟩ (by simp) rfl) (v := .int .i64 ((p : Int) + 2)) rfl
                    have e68 := kf.eval 9 rfl (hd ⟨9, .data⟩ (by simp) rfl) (v := .int .i64 ((p : Int) + (N : Int))) rfl
                    generalize a.eval = ρ at *
                    exact ⟨ws, by simp [execOp, go_sem, e63, e65, e68, hs1, hs2, hs5, ht1, ht2, hX], hW.same (by decide) (by decide)⟩),
                  stepD_val (.agg #[.int .u8 (K : Int), .string X]) nq hs (.inl rfl) rfl rfl (fun _ => rfl) (fun ls a ws c hd hu hc kf hW => by
                    have e62 := kf.eval 3 rfl (hd ⟨3, .data⟩ (by simp) rfl) (v := .int .u8 (K : Int)) rfl
                    have e69 := kf.eval 10 rfl (hd ⟨10, .data⟩ (by simp) rfl) (v := .string X) rfl
                    generalize a.eval = ρ at *
                    exact ⟨ws, by simp [execOp, go_sem, e62, e69], hW.same (by decide) (by decide)⟩),
                  stepD_val (.slice (some ⟨D0.heap.size, 0, none⟩) 1 1) nq hs (.inl rfl) rfl rfl (fun _ => rfl) (fun ls a ws c hd hu hc kf hW => by
                    have e70 := kf.eval 11 rfl (hd ⟨11, .data⟩ (by simp) rfl) (v := .agg #[.int .u8 (K : Int), .string X]) rfl
                    have k12 : ls.getD 13 false = true → ls.getD 12 false = true := fun h => hc 13 _ rfl h ⟨12, .data⟩ (by simp) rfl
                    have hw := hW.s0 (getD_ft hu)
                    generalize a.eval = ρ at *
                    exact ⟨D0.alloc (.cells #[.int .u8 (K : Int), .string X] 44), by rw [hw]; simp [execOp, go_sem, Instr.buildSlice, e70], AW.at12 hu k12⟩),
                  stepD_val (v2) nq hs (.inl rfl) rfl rfl (fun _ => rfl) (fun ls a ws c hd hu hc kf hW => by
                    have e59 := kf.eval 0 rfl (hd ⟨0, .data⟩ (by simp) rfl) (v := u4) rfl
                    have e71 := kf.eval 12 rfl (hd ⟨12, .data⟩ (by simp) rfl) (v := .slice (some ⟨D0.heap.size, 0, none⟩) 1 1) rfl
                    have hw := hW.s1 (hd ⟨12, .data⟩ (by simp) rfl) (getD_ft hu)
                    generalize a.eval = ρ at *
                    exact ⟨D2, by rw [hw]; unfold execOp; simp only [resolve, invoke, builtin, Sem.run_bind, Sem.run_pure, Result.andThen_ok, List.map_toArray, List.map_cons, List.map_nil, e59, e71, r2], AW.at13 (hd ⟨12, .data⟩ (by simp) rfl) hu⟩),
                  stepD_val (v2) nq hs (.inl rfl) rfl rfl (fun _ => rfl) (fun ls a ws c hd hu hc kf hW => by
                    have e72 := kf.eval 13 rfl (hd ⟨13, .data⟩ (by simp) rfl) (v := v2) rfl
                    generalize a.eval = ρ at *
                    exact ⟨ws, by simp [execOp, go_sem, e72], hW.same (by decide) (by decide)⟩), trivial⟩ ?_
                intro _ l5 w5 hal hW
                have hw5 := hW.s2 (hal 13 (by decide))
                clear hW hal nq hs r2 hD0 hX x2 hs1 hs2 hs5 ht1 ht2
                subst hw5
                simp only [fill, List.setIfInBounds_toArray, List.set_cons_succ, List.set_cons_zero]
                go_wp2_with fail
                go_roundw
                case rel =>
                  refine ⟨M ++ [(K, X)], p + N, by omega, by rw [List.length_append, unhide HN]; simp; omega, by go_num, HR3, ?_, unhide HB⟩
                  rw [List.length_append, unhide HN]
                  exact unhide HO
                case measure => simp [intOf]; omega
          · have dA : decide ((s.size : Int) ≤ (p : Int) + 1) = true := decide_eq_true (by omega)
            have hE : Hid (OE s w (.returned (.tuple #[.slice none 0 0, .int .i64 102])) wr) := by
              have hR2 := unhide hR
              rw [unhide HRbad h0 h1 (fun k => by omega)] at hR2
              exact .inl ⟨by rw [hR2]; rfl, rfl, hbel⟩
            clear hown hbel hend hR HRone HRbad HRmore h0 h1
            go_wp2_with fail
            go_ret2
            exact unhide hE
    · have hE := hide (unhide hend (.inl (by omega)))
      have d1 : decide ((p : Int) < (s.size : Int)) = false := decide_eq_false (by omega)
      clear hown hbel hend
      go_wp2_with fail
      go_ret2
      exact unhide hE

set_option maxHeartbeats 1000000 in
theorem roptions_long (s : ByteArray) (w : World) (h : 40 < s.size) :
    Calls Try.prog 21 #[.string s] w fun e w' => e = .returned (.tuple #[.slice none 0 0, .int .i64 4]) ∧ w' = w := by
  have d0 : decide ((40 : Int) < (s.size : Int)) = true := decide_eq_true (by omega)
  go_enter Try.func21, Try.ntmps21
  go_wp2_with fail
  go_ret2
  exact ⟨rfl, rfl⟩
end Go.Proofs.Ytefenejeppmfiaa
