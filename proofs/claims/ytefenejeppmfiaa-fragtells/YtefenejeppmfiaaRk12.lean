/- The contract of the document's Kept (layer 12), over the loaded program: what it answers is what the program's does; no memory that was there has turned. -/
import Derived.Test.YtefenejeppmfiaaKp12
import Derived.Test.YtefenejeppmfiaaOs10
namespace Go.Proofs.Ytefenejeppmfiaa
open Go.RowKit

def kq (L : List Po) (i : Nat) : List Po := (L.take i).filter keep
theorem kq_more {L : List Po} {i : Nat} (h : i < L.length) (hk : keep L[i] = true) : kq L (i + 1) = kq L i ++ [L[i]] := by unfold kq; rw [take_snoc' L i h, List.filter_append]; simp [hk]
theorem kq_same {L : List Po} {i : Nat} (h : i < L.length) (hk : keep L[i] = false) : kq L (i + 1) = kq L i := by unfold kq; rw [take_snoc' L i h, List.filter_append]; simp [hk]
theorem kq_le (L : List Po) (i : Nat) : (kq L i).length ≤ L.length := Nat.le_trans (List.length_filter_le _ _) (by rw [List.length_take]; omega)

set_option maxHeartbeats 2000000 in
theorem rkept_any (s : ByteArray) (w : World) :
    Calls Try.prog 13 #[.string s] w fun e w' => e = .returned (.string (keptB s)) ∧ Below w.heap.size w w' := by
  by_cases hl : 40 < s.size
  · rw [keptB_long hl]
    have H := hide (fun w => roptions_long s w hl)
    have B0 := hide (Below.refl w.heap.size w)
    go_enter Try.func13, Try.ntmps13
    go_wp2_with fail
    refine (unhide H _).mono ?_
    rintro e w1 ⟨rfl, rfl⟩
    go_wp2_with fail
    go_ret
    exact ⟨rfl, unhide B0⟩
  · have H := hide (fun w => roptions_short s w (by omega))
    obtain ⟨K, hK⟩ : ∃ K, keptB s = K := ⟨_, rfl⟩
    rw [hK]
    have HK := hide hK
    have HL : Hid (s.size ≤ 40) := by show s.size ≤ 40; omega
    clear hK hl
    obtain ⟨i0, hi, hz0, hz1, hz2⟩ := info_parts (P := Try.prog) (e := 44) (z := .agg #[.int .u8 0, .string ⟨#[]⟩]) (size := 2) (bytes := 24) (by kernel_rfl)
    go_enter Try.func13, Try.ntmps13
    go_wp2_with fail
    refine (unhide H _).mono ?_
    rintro e w1 (⟨hr, rfl, b1⟩ | ⟨L, sp, sc, hr, hlen, rfl, hown, b1⟩)
    · rw [keptB_no hr] at HK
      have HR := unhide HK
      subst HR
      clear hr
      go_wp2_with fail
      go_ret
      exact ⟨rfl, b1⟩
    · obtain ⟨a1, a2, _, _, _⟩ := again_opts (unhide HL) hr
      have hKK : Hid (K = ⟨(pad4 (optsL (L.filter keep))).toArray⟩) := by rw [← unhide HK]; exact keptB_of (unhide HL) hr
      have HE := hide (optsE_filter a1)
      have HX : Hid (∀ x ∈ L.filter keep, x.1 < 256 ∧ x.2.size ≤ 1048576) := fun x hx => a2 x (List.mem_filter.1 hx).1
      have HO := hide (own_opts hown)
      have HB := hide b1
      clear hr hown a1 a2 H HK HL b1
      go_wp2_with fail
      go_loopw [5, 6] (fun v s6 wr => ∃ (i : Nat), s6 = .int .i64 (i : Int) ∧ i ≤ L.length ∧ wr.ownsRow w1.heap.size 44 2 v (kq L i).length (cellsO (kq L i)) ∧ Below w1.heap.size w1 wr) (fun _ s _ => L.length - (intOf s).toNat)
      case atStart => exact ⟨0, rfl, Nat.zero_le _, World.ownsRow_nil _ _ _ _, Below.refl _ _⟩
      case round =>
        obtain ⟨i, rfl, hi2, hown, hbel⟩ := hrel
        by_cases hlt : i < L.length
        · have hO := (unhide HO).below hbel
          have hO2 : ∃ b off cap, sp = some ⟨b, off, none⟩ ∧ wr.cell? ⟨b, off + i * 2, none⟩ = some (.int .u8 (L[i].1 : Int)) ∧ wr.cell? ⟨b, off + i * 2 + 1, none⟩ = some (.string L[i].2) ∧ sc = cap := by
            rcases hO with ⟨_, e⟩ | ⟨b, off, cap, e, hb, hc⟩
            · subst e; exact absurd hlt (Nat.not_lt_zero _)
            · injection e with e1 e2 e3
              exact ⟨b, off, cap, e1, (hc i L[i] (List.getElem?_eq_getElem hlt)).1, (hc i L[i] (List.getElem?_eq_getElem hlt)).2, e3⟩
          obtain ⟨b, off, cap, rfl, c0, c1, rfl⟩ := hO2
          clear hO
          have HM := hide (fun (h : keep L[i] = true) => kq_more hlt h)
          have HS := hide (fun (h : keep L[i] = false) => kq_same hlt h)
          have hkl := kq_le L i
          generalize hx : L[i] = x at c0 c1 HM HS
          clear hx
          obtain ⟨x1, x2⟩ := x
          have hsz := hbel.size
          have hlt1 := hown.lt
          obtain ⟨n, hn⟩ : ∃ n, (kq L i).length = n := ⟨_, rfl⟩
          have HN := hide hn
          rw [hn] at hown hkl
          clear hn
          obtain ⟨g, hg⟩ : ∃ g, keep (x1, x2) = g := ⟨_, rfl⟩
          have hgd : decide ((128 : Int) ≤ (x1 : Int)) = g := by
            rw [← hg]
            show _ = decide (128 ≤ x1)
            rw [decide_eq_decide]; omega
          have HG := hide hg
          clear hg
          cases g
          · go_wp2_with fail
            go_roundw
            case rel => exact ⟨i + 1, by go_num, by omega, by rw [unhide HS (unhide HG), unhide HN]; exact hown, hbel⟩
            case measure => simp [intOf]; omega
          · go_wp2_with (at_builtin; refine wpList_append_lies _ rfl _ _ 40 rfl w1.heap.size 44 i0 _ 2 24 Try.underlying40 hi hz0 hz1 hz2 rfl (by decide) u5 n _ rfl (hown.alloc _) ⟨wr.heap.size, 0, none⟩ 1 1 [.int .u8 (x1 : Int), .string x2] rfl rfl (by have q := World.news_of_block (heap_alloc_new wr (.cells #[.int .u8 (x1 : Int), .string x2] 44)); simpa using q) (by intro u hu; simp at hu; rcases hu with rfl | rfl <;> rfl) (by decide) (by unfold maxLen; omega) (by omega) (by simp; omega) _ rfl ?_; intro g3 cap3 w5 hown5 hgrow5 hat5 hlt5)
            go_roundw
            case rel =>
              refine ⟨i + 1, by go_num, by omega, ?_, (hbel.alloc hsz _).grown hgrow5 (by simp; omega) (fun j hj => (hlt1 j hj).1)⟩
              rw [unhide HM (unhide HG), cellsO_snoc, List.length_append, unhide HN]
              exact hown5
            case measure => simp [intOf]; omega
        · obtain rfl : i = L.length := by omega
          have e : kq L L.length = L.filter keep := by unfold kq; rw [List.take_length]
          rw [e] at hown
          have hOk := own_opts hown
          have hle : (L.filter keep).length ≤ 65536 := Nat.le_trans (List.length_filter_le _ _) (by omega)
          obtain ⟨sp2, sc2, rfl⟩ := row_shape hown
          have HR := hide (ropts_walk (.slice sp2 (L.filter keep).length sc2) (L.filter keep) wr hle hOk (unhide HX) K 0 ⟨unhide HE, by rw [if_pos (unhide HE)]; exact (unhide hKK).symm⟩)
          have HB2 := hide ((unhide HB).trans (hbel.mono (unhide HB).size))
          clear hown hOk hle e HO
          go_wp2_with fail
          refine (unhide HR).mono ?_
          rintro e w3 ⟨rfl, b3⟩
          have HB3 := hide (tr2 (unhide HB2) b3)
          go_wp2_with fail
          go_ret
          exact ⟨rfl, unhide HB3⟩
end Go.Proofs.Ytefenejeppmfiaa
