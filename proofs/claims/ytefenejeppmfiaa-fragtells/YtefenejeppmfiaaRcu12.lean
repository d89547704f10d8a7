/- The contract of the document's Cut (layer 12) where a packet is cut, over the loaded program. -/
import Derived.Test.YtefenejeppmfiaaRc12
import Derived.Test.YtefenejeppmfiaaCu12
namespace Go.Proofs.Ytefenejeppmfiaa
open Go.RowKit

/-- what memory holds while a part's bytes are made and joined to the row: what is chosen under way is the world behind the bytes, the row and the world behind the joining -/
structure JW (W0 : World) (S : ByteArray) (Good : World → Value → World → Prop) (p : World × Value × World) (l : Array Bool) (W : World) : Prop where
  s0 : l.getD 8 false = false → W = W0
  s1 : l.getD 8 false = true → l.getD 9 false = false → W = p.1
  s2 : l.getD 9 false = true → l.getD 10 false = false → W = p.1.alloc (.cells #[.string S] 9)
  s3 : l.getD 10 false = true → W = p.2.2
  ok : l.getD 8 false = true → Good p.1 p.2.1 p.2.2
section
variable {W0 W : World} {S : ByteArray} {Good : World → Value → World → Prop} {p : World × Value × World} {l : Array Bool}
theorem JW.same (h : JW W0 S Good p l W) {k : Nat} (h1 : k ≠ 8) (h2 : k ≠ 9) (h3 : k ≠ 10) : JW W0 S Good p (l.setIfInBounds k true) W :=
  ⟨by rw [getD_upd h1]; exact h.s0, by rw [getD_upd h1, getD_upd h2]; exact h.s1, by rw [getD_upd h2, getD_upd h3]; exact h.s2, by rw [getD_upd h3]; exact h.s3, by rw [getD_upd h1]; exact h.ok⟩
theorem JW.at8 {l : Array Bool} (hu : l.getD 8 true = false) (k9 : l.getD 9 false = true → l.getD 8 false = true) (k10 : l.getD 10 false = true → l.getD 9 false = true) {p' : World × Value × World} (hg : Good p'.1 p'.2.1 p'.2.2) : JW W0 S Good p' (l.setIfInBounds 8 true) p'.1 :=
  ⟨(fun e => by rw [set_self hu] at e; cases e), fun _ _ => rfl, (fun e => by rw [getD_upd (by decide)] at e; exact (ft_no hu (k9 e)).elim), (fun e => by rw [getD_upd (by decide)] at e; exact (ft_no hu (k9 (k10 e))).elim), fun _ => hg⟩
theorem JW.at9 (h : JW W0 S Good p l W) (h8 : l.getD 8 false = true) (hu : l.getD 9 true = false) (k10 : l.getD 10 false = true → l.getD 9 false = true) : JW W0 S Good p (l.setIfInBounds 9 true) (p.1.alloc (.cells #[.string S] 9)) :=
  ⟨(fun e => by rw [getD_upd (by decide), h8] at e; cases e), (fun _ e => by rw [set_self hu] at e; cases e), fun _ _ => rfl, (fun e => by rw [getD_upd (by decide)] at e; exact (ft_no hu (k10 e)).elim), fun _ => h.ok h8⟩
theorem JW.at10 (h : JW W0 S Good p l W) (h8 : l.getD 8 false = true) (h9 : l.getD 9 false = true) (hu : l.getD 10 true = false) : JW W0 S Good p (l.setIfInBounds 10 true) p.2.2 :=
  ⟨(fun e => by rw [getD_upd (by decide), h8] at e; cases e), (fun _ e => by rw [getD_upd (by decide), h9] at e; cases e), (fun _ e => by rw [set_self hu] at e; cases e), fun _ => rfl, fun _ => h.ok h8⟩
end
theorem no_rep' {n k : Nat} (h : (Array.replicate n false).getD k false = true) : False := by rw [getD_rep] at h; cases h
/-- a value that leans on what has been chosen, where the world turns -/
theorem stepD_turn {α : Type} {P : Program} {L : List Oper} {Q : Exit → Act → World → Prop} {a0 : Act} {ds : List Nat} {vs : α → List Value} {W : α → Array Bool → World → Prop} {i d : Nat} {o : Oper} (V : α → Value) (hn : ds.Nodup) (hs : ∀ d ∈ ds, d < a0.tmps.size) (hg : GuardOk L ds vs o) (ho : o.dst = some d) (hd : ds[i]? = some d) (hv : ∀ p, V p = (vs p).getD i undef)
    (hrun : ∀ l a w p, (∀ e ∈ o.after, Region.binds .any e = true → l.getD e.on false = true) → l.getD i true = false → Closed L l → Fk a0 ds (vs p) l a → W p l w → ∃ w', (execOp a.eval o).run P w = .ok (.value (V p)) w' ∧ W p (l.setIfInBounds i true) w') : StepD P L Q a0 ds vs W i o := by
  intro l a w p hdep hu hc k hw
  obtain ⟨w', h1, h2⟩ := hrun l a w p hdep hu hc k hw
  refine ⟨hg.wanted hdep k.fr, op_val h1 ⟨p, ?_, h2⟩⟩
  rw [ho]
  exact k.step hn hs hu hd (hv p)

/-- the head at a place of the data -/
def hAt (h : Rh) (K : ByteArray) (n : Nat) : Rh := { h with at' := h.at' + (n : Int), op := if n = 0 then h.op else K }
theorem hAt_zero (h : Rh) (K : ByteArray) : hAt h K 0 = h := by unfold hAt; simp
theorem hAt_more (h : Rh) (K : ByteArray) (a n : Nat) (hn : 0 < n) : nxt (hAt h K a) n K = hAt h K (a + n) := by
  unfold hAt nxt
  simp only
  rw [if_neg (by omega)]
  congr 1
  omega
theorem ext_ext (d : ByteArray) (a n : Nat) (h : a + n ≤ d.size) : (d.extract a d.size).extract 0 n = d.extract a (a + n) ∧ (d.extract a d.size).extract n (d.extract a d.size).size = d.extract (a + n) d.size := by
  constructor
  · rw [ByteArray.extract_extract]; congr 1 <;> omega
  · rw [ByteArray.size_extract, ByteArray.extract_extract]; congr 1 <;> omega
/-- what is left of the parts at a place -/
def left (K : ByteArray) (R : Nat) (h : Rh) (d : ByteArray) (a : Nat) : List Pc := if a < d.size then pieces K R (hAt h K a) (d.extract a d.size) else []
/-- one part more: it is the last one, or not -/
theorem left_step {K : ByteArray} {R : Nat} {h : Rh} {d : ByteArray} {a : Nat} (hk : 28 + K.size ≤ R) (hh : 28 + (hAt h K a).op.size ≤ R) (ha : a < d.size) :
    (d.size - a ≤ most R (hAt h K a) → left K R h d a = (hAt h K a, d.extract a (a + (d.size - a))) :: left K R h d (a + (d.size - a))) ∧
    (¬ d.size - a ≤ most R (hAt h K a) → left K R h d a = (part (hAt h K a), d.extract a (a + most R (hAt h K a) / 8 * 8)) :: left K R h d (a + most R (hAt h K a) / 8 * 8)) := by
  have hs : (d.extract a d.size).size = d.size - a := by rw [ByteArray.size_extract]; omega
  constructor
  · intro hl
    unfold left
    rw [if_pos ha, if_neg (by omega), pieces_last (by rw [hs]; exact hl), show a + (d.size - a) = d.size by omega]
  · intro hl
    have hm : 8 ≤ most R (hAt h K a) := by unfold most; omega
    unfold left
    rw [if_pos ha, if_pos (by omega), pieces_more hk hh (by rw [hs]; exact hl)]
    obtain ⟨e1, e2⟩ := ext_ext d a (most R (hAt h K a) / 8 * 8) (by omega)
    rw [e1, e2, hAt_more _ _ _ _ (by omega)]

set_option maxRecDepth 100000 in
set_option maxHeartbeats 8000000 in
theorem rcut_cut (h : Rh) (d : ByteArray) (room : Int) (w : World) (hv : HOk h d.size) (hl : room < ((20 + h.op.size + d.size : Nat) : Int)) (hh : h.hold = false) (hr : ((28 + h.op.size : Nat) : Int) ≤ room) (M : List Po) (hM : optsR h.op = some (M.map Po.op)) :
    Calls Try.prog 10 #[hdV h, .string d, .int .i64 room] w (CutPost w (pieces (keptB h.op) room.toNat h d) 0) := by
  have hds : d.size ≤ 65535 := by have := hv.r; have := hv.m.1; unfold roomB at *; omega
  have hos : h.op.size ≤ 40 := hv.m.2.2.2.1
  have hrm : room ≤ 65535 := by have := hv.r; have := hv.m.1; unfold roomB at *; omega
  obtain ⟨R, hR⟩ : ∃ R, room.toNat = R := ⟨_, rfl⟩
  obtain rfl : room = (R : Int) := by omega
  rw [hR]
  have H1 := hide (fun w => rencode_any h d w hv.i (by omega) (enc_of hv))
  have H2 := hide (fun w => roptions_short h.op w hos)
  have H3 := hide (fun w => rkept_any h.op w)
  have hs : (pcB (h, d)).size = 20 + h.op.size + d.size := pcB_size (h, d)
  have BEL := hide (below_one w (.cells (hdL h).toArray 25))
  have k := HC.box w h 25
  obtain ⟨S, hS⟩ : ∃ S, pcB (h, d) = S := ⟨_, rfl⟩
  rw [hS] at H1 hs
  simp only [hdL] at BEL k
  have hle : decide (((S.size : Nat) : Int) ≤ (R : Int)) = false := decide_eq_false (by rw [hs]; omega)
  have hle2 : decide (S.size ≤ R) = false := decide_eq_false (by rw [hs]; omega)
  have HH := hide hh
  have hx : IntKind.i64.wrap (28 + (h.op.size : Int)) = 28 + (h.op.size : Int) := by rw [IntKind.wrap_i64]; omega
  have hlt : decide ((R : Int) < 28 + (h.op.size : Int)) = false := decide_eq_false (by omega)
  have hR20 : IntKind.i64.wrap ((R : Int) - 20) = ((R - 20 : Nat) : Int) := by rw [IntKind.wrap_i64]; omega
  have hKL := kept_le hv.m.2.2.2.1 hv.m.2.2.2.2 hM
  have HM := hide hM
  have hd0 : 0 < d.size := by omega
  obtain ⟨K, hK⟩ : ∃ K, keptB h.op = K := ⟨_, rfl⟩
  rw [hK] at H3 hKL ⊢
  have HALL := hide (pieces_ok K R (by omega) hKL.2 d.size h d (Nat.le_refl _) (by omega) hKL.1 hv)
  have HX := hide (And.intro hv (And.intro hr (And.intro hKL hl)))
  clear hv hs hS hl hh hM hK hKL hr hR hrm
  go_enter Try.func10, Try.ntmps10
  go_wp2_with fail
  refine (unhide H1 _).mono ?_
  rintro e w1 ⟨rfl, b1⟩
  have k1 := k.on b1
  have c2 := k1.c2
  have c9 := k1.c9
  rw [unhide HH] at c2
  have HB := hide (tr2 (unhide BEL) b1)
  clear b1 BEL k
  go_wp2_with fail
  refine (unhide H2 _).mono ?_
  rintro e w2 (⟨hr, _, _⟩ | ⟨L, sp, sc, hr, _, rfl, _, b2⟩)
  · rw [unhide HM] at hr; cases hr
  have k2 := k1.on b2
  have c9 := k2.c9
  have HB := hide (tr2 (unhide HB) b2)
  clear b2 k1 hr c2 HH HM H1 H2 hle hle2 hlt hx
  go_wp2_with fail
  refine (unhide H3 _).mono ?_
  rintro e w3 ⟨rfl, b3⟩
  have k3 := k2.on b3
  have HB := hide (tr2 (unhide HB) b3)
  have hq : w.heap.size < w3.heap.size := k3.lt
  clear b3 k2 H3 c9
  go_wp2_with fail
  generalize hqe : w.heap.size = q at *
  have HQE := hide hqe
  have hwz : Hid (q ≤ w3.heap.size) := Nat.le_of_lt hq
  clear hqe
  obtain ⟨all, hall⟩ : ∃ all, pieces K R h d = all := ⟨_, rfl⟩
  rw [hall] at HALL ⊢
  have hstart : Hid (all = [] ++ left K R h d 0) := by
    show all = left K R h d 0
    unfold left
    rw [if_pos hd0, hAt_zero, ByteArray.extract_zero_size]
    exact hall.symm
  have hlen : all.length ≤ 65536 := by rw [← hall]; exact Nat.le_trans (pcs_len _ _ _ _ _) (by omega)
  have HALLE := hide hall
  clear hall
  go_loopw [10, 12] (fun v s12 wr => ∃ (a : Nat) (pre : List Pc), s12 = .int .i64 (a : Int) ∧ a ≤ d.size ∧ Hid (all = pre ++ left K R h d a) ∧ wr.ownsRow w3.heap.size 9 1 v (pre.map pcB).length (strV (pre.map pcB)) ∧ Below w3.heap.size w3 wr) (fun _ s _ => d.size - (intOf s).toNat)
  case atStart => exact ⟨0, [], rfl, Nat.zero_le _, hstart, World.ownsRow_nil _ _ _ _, Below.refl _ _⟩
  case round =>
    obtain ⟨a, pre, rfl, ha, HA, hown, hbel⟩ := hrel
    by_cases hlt : a < d.size
    · obtain ⟨hv, hr, hKL, hl⟩ := unhide HX
      obtain ⟨op', hop⟩ : ∃ o, (hAt h K a).op = o := ⟨_, rfl⟩
      have hopc : (a = 0 → op' = h.op) ∧ (a ≠ 0 → op' = K) := by
        rw [← hop]
        unfold hAt
        exact ⟨fun e => if_pos e, fun e => if_neg e⟩
      have hgOp : 28 + op'.size ≤ R := by
        by_cases e : a = 0
        · rw [hopc.1 e]; omega
        · rw [hopc.2 e]; omega
      have hstepL := left_step (K := K) (R := R) (h := h) (d := d) (by omega) (by rw [hop]; exact hgOp) hlt
      obtain ⟨m, hm⟩ : ∃ m, most R (hAt h K a) = m := ⟨_, rfl⟩
      rw [hm] at hstepL
      have hm2 : m = R - (20 + op'.size) := by rw [← hm, ← hop]; rfl
      have hsa : IntKind.i64.wrap (h.at' + (a : Int)) = h.at' + (a : Int) := by
        have h1 := hv.m.1; have h2 := hv.m.2.1
        rw [IntKind.wrap_i64]; omega
      have hRl : R ≤ 65535 := by have h1 := hv.r; have h2 := hv.m.1; unfold roomB at h1; omega
      have hnl : IntKind.i64.wrap ((d.size : Int) - (a : Int)) = ((d.size - a : Nat) : Int) := by rw [IntKind.wrap_i64]; omega
      have hms : IntKind.i64.wrap (((R - 20 : Nat) : Int) - (op'.size : Int)) = (m : Int) := by rw [IntKind.wrap_i64]; omega
      have hG : (⟨h.tos, h.id, h.hold, h.more, h.at' + (a : Int), h.ttl, h.proto, h.frm, h.to, op'⟩ : Rh) = hAt h K a := by rw [← hop]; rfl
      have hlz : (a : Int) < (d.size : Int) := by omega
      have HST := hide hstepL
      have HGG := hide hG
      have HOP := hide hopc
      have hm8 : 8 ≤ m := by omega
      have k4 := k3.on hbel
      have hplen : (pre.map pcB).length ≤ 65536 := by
        have h1 := congrArg List.length (unhide HA)
        rw [List.length_append] at h1
        rw [List.length_map]; omega
      have HPL := hide hplen
      clear hstepL hG hopc hv hr hKL hl hm hop hm2 hgOp hplen
      obtain ⟨c0, c1, c2, c3, c4, c5, c6, c7, c8, c9⟩ := id k4
      have x4 := (k4.on (below_one wr (.cells (hdL h).toArray 25))).c4
      simp only [hdL] at x4
      go_upto_if 61 with fail
      go_cut [] from 50 to 94 (fun wx => wx = wr.alloc (.cells #[.int .u8 (h.tos : Int), .int .u16 (h.id : Int), .bool h.hold, .bool h.more, .int .i64 (h.at' + (a : Int)), .int .u8 (h.ttl : Int), .int .u8 (h.proto : Int), .int .u32 (h.frm : Int), .int .u32 (h.to : Int), .string op'] 25))
      case first =>
        by_cases ha0 : a = 0
        · have e := (unhide HOP).1 ha0
          subst e
          subst ha0
          go_wp2_with fail
          go_meet
          simp
        · have e := (unhide HOP).2 ha0
          subst e
          have e1 : decide ((0 : Int) < (a : Int)) = true := decide_eq_true (by omega)
          have e2 : decide (0 < a) = true := decide_eq_true (by omega)
          go_wp2_with fail
          go_meet
          rfl
      case rest =>
        subst hcut
        clear x4 c0 c1 c2 c3 c4 c5 c6 c7 c8 c9 hsa
        obtain ⟨nl, hnl2⟩ : ∃ nl, d.size - a = nl := ⟨_, rfl⟩
        rw [hnl2] at hnl HST
        have hnl3 := hide hnl2
        have hnl4 : nl ≤ 65535 := by omega
        have hnl5 : 0 < nl := by omega
        clear hnl2
        go_upto_if 76 with fail
        go_cut [14] from 50 to 94 (fun nv wx => ∃ (n : Nat) (g : Rh), nv = .int .i64 (n : Int) ∧ wx = wr.alloc (.cells #[.int .u8 (g.tos : Int), .int .u16 (g.id : Int), .bool g.hold, .bool g.more, .int .i64 g.at', .int .u8 (g.ttl : Int), .int .u8 (g.proto : Int), .int .u32 (g.frm : Int), .int .u32 (g.to : Int), .string g.op] 25) ∧ Hid (0 < n ∧ n ≤ nl ∧ left K R h d a = (g, d.extract a (a + n)) :: left K R h d (a + n)))
        case first =>
          by_cases hlast : nl ≤ m
          · have e1 : decide ((m : Int) < (nl : Int)) = false := decide_eq_false (by omega)
            have e2 : decide (m < nl) = false := decide_eq_false (by omega)
            have HS1 := hide ((unhide HST).1 hlast)
            go_wp2_with fail
            go_meet
            exact ⟨nl, ⟨h.tos, h.id, h.hold, h.more, h.at' + (a : Int), h.ttl, h.proto, h.frm, h.to, op'⟩, rfl, rfl, hnl5, Nat.le_refl _, by rw [unhide HGG]; exact unhide HS1⟩
          · have e1 : decide ((m : Int) < (nl : Int)) = true := decide_eq_true (by omega)
            have e2 : decide (m < nl) = true := decide_eq_true (by omega)
            have HS1 := hide ((unhide HST).2 hlast)
            obtain ⟨n8, hn8⟩ : ∃ n8, m / 8 * 8 = n8 := ⟨_, rfl⟩
            rw [hn8] at HS1
            have hN8 : (m : Int) / 8 * 8 = (n8 : Int) := by omega
            have hn9 : 0 < n8 ∧ n8 ≤ nl := by omega
            have hn9 := hide hn9
            clear hn8
            go_wp2_with fail
            go_meet
            exact ⟨n8, ⟨h.tos, h.id, h.hold, true, h.at' + (a : Int), h.ttl, h.proto, h.frm, h.to, op'⟩, rfl, rfl, (unhide hn9).1, (unhide hn9).2, by
              have e := unhide HS1
              rw [← unhide HGG] at e
              exact e⟩
        case rest =>
          obtain ⟨n, g, rfl, rfl, hst⟩ := hcut
          obtain ⟨n0, n1, hlf⟩ := unhide hst
          have hle := unhide hnl3
          have hsum : a + n ≤ d.size := by omega
          have hall2 : all = pre ++ (g, d.extract a (a + n)) :: left K R h d (a + n) := by rw [unhide HA, hlf]
          have hgv : HOk g n := by
            have h1 := (unhide HALL).1.val (g, d.extract a (a + n)) (by rw [hall2]; simp)
            have h2 : (d.extract a (a + n)).size = n := by rw [ByteArray.size_extract]; omega
            simp only [h2] at h1
            exact h1
          have hraw := fun w => raw_any g (d.extract a (a + n)) w hgv.i (by rw [ByteArray.size_extract]; omega) hgv.m (by rw [ByteArray.size_extract, show min (a + n) d.size - a = n by omega]; exact hgv.r)
          obtain ⟨Sx, hSx⟩ : ∃ Sx, pcB (g, d.extract a (a + n)) = Sx := ⟨_, rfl⟩
          have hraw : ∀ w, Calls Try.prog 22 #[hdV g, .string (d.extract a (a + n))] w fun e w' => e = .returned (.string Sx) ∧ Below w.heap.size w w' := fun w => by rw [← hSx]; exact hraw w
          have hpmap : (pre ++ [(g, d.extract a (a + n))]).map pcB = pre.map pcB ++ [Sx] := by rw [List.map_append, ← hSx]; rfl
          have HPM := hide hpmap
          have HAL2 : Hid (all = (pre ++ [(g, d.extract a (a + n))]) ++ left K R h d (a + n)) := by
            show all = _
            rw [hall2, List.append_assoc]; rfl
          obtain ⟨X, hX⟩ : ∃ X, d.extract a (a + n) = X := ⟨_, rfl⟩
          rw [hX] at hraw HPM HAL2
          have bA := below_one wr (.cells (hdL g).toArray 25)
          have hcg := HC.box wr g 25
          simp only [hdL] at bA hcg
          have hown2 := row_below hown bA
          have hbel2 := hbel.trans (bA.mono hbel.size)
          clear hall2 hgv hlf hst hpmap hSx hown hbel bA HA k4 hle hnl hnl4 hnl5 hms HST HGG HOP
          generalize wr.heap.size = qb at *
          generalize wr.alloc _ = wb at *
          obtain ⟨W0, hW0⟩ : ∃ D, wb.drewN 1 = D := ⟨_, rfl⟩
          have bD : Below wb.heap.size wb W0 := by rw [← hW0]; exact below_drewN' wb 1
          have hown3 := row_below hown2 bD
          have hbel3 := hbel2.trans (bD.mono hbel2.size)
          have hcg3 := hcg.on bD
          obtain ⟨c0, c1, c2, c3, c4, c5, c6, c7, c8, c9⟩ := hcg3
          have hgood : ∀ D0, Below W0.heap.size W0 D0 → ∃ v2 D2, (Builtin.append_ #[28, 28] 28 #[u10, .slice (some ⟨D0.heap.size, 0, none⟩) 1 1]).run Try.prog (D0.alloc (.cells #[.string Sx] 9)) = .ok v2 D2 ∧ D2.ownsRow w3.heap.size 9 1 v2 ((pre.map pcB).length + 1) (strV (pre.map pcB ++ [Sx])) ∧ Below w3.heap.size W0 D2 := fun D0 bb => by
            have hz := Nat.le_trans hbel3.size bb.size
            have ho := row_below hown3 bb
            obtain ⟨v2, D2, r, o, gr, _⟩ := join_str ho hz (unhide HPL) Sx
            exact ⟨v2, D2, r, o, ((bb.mono hbel3.size).trans ((Below.refl _ _).alloc hz _)).trans (grown_row gr (ho.alloc _) (by simp; omega))⟩
          have xa : IntKind.i64.wrap ((a : Int) + (n : Int)) = (a : Int) + (n : Int) := by rw [IntKind.wrap_i64]; omega
          have hs1 : (a : Int) ≤ (a : Int) + (n : Int) := by omega
          have hs2 : (a : Int) + (n : Int) ≤ (d.size : Int) := by omega
          have hs5 : (0 : Int) ≤ (a : Int) := by omega
          have ht1 : ((a : Int)).toNat = a := by omega
          have ht2 : ((a : Int) + (n : Int)).toNat = a + n := by omega
          clear bD hown2 hbel2 hcg hown3
          go_upto_region 26 with fail
          have nq : ([81, 82, 83, 84, 85, 86, 87, 88, 89, 90, 91, 10] : List Nat).Nodup := by decide
          have hs : ∀ d ∈ ([81, 82, 83, 84, 85, 86, 87, 88, 89, 90, 91, 10] : List Nat), d < 96 := by decide
          refine wp_region_fd [81, 82, 83, 84, 85, 86, 87, 88, 89, 90, 91, 10] (fun p : World × Value × World => [u10, (.agg #[.int .u8 (g.tos : Int), .int .u16 (g.id : Int), .bool g.hold, .bool g.more, .int .i64 g.at', .int .u8 (g.ttl : Int), .int .u8 (g.proto : Int), .int .u32 (g.frm : Int), .int .u32 (g.to : Int), .string g.op]), .string d, .int .i64 (a : Int), .int .i64 (a : Int), .int .i64 (n : Int), .int .i64 ((a : Int) + (n : Int)), .string X, .string Sx, .slice (some ⟨p.1.heap.size, 0, none⟩) 1 1, p.2.1, p.2.1]) (JW W0 Sx (fun D0 v2 D2 => (Builtin.append_ #[28, 28] 28 #[u10, .slice (some ⟨D0.heap.size, 0, none⟩) 1 1]).run Try.prog (D0.alloc (.cells #[.string Sx] 9)) = .ok v2 D2 ∧ D2.ownsRow w3.heap.size 9 1 v2 ((pre.map pcB).length + 1) (strV (pre.map pcB ++ [Sx])) ∧ Below w3.heap.size W0 D2)) (by kernel_rfl) (by kernel_rfl) nq (fun _ => rfl) hs (by decide) ⟨(W0, undef, W0), ⟨fun _ => hW0, (fun e _ => (no_rep' e).elim), (fun e _ => (no_rep' e).elim), (fun e => (no_rep' e).elim), (fun e => (no_rep' e).elim)⟩⟩ ⟨
            stepD_val (u10) nq hs (.inl rfl) rfl rfl (fun _ => rfl) (fun ls ac ws p hd hu hc kf hW => by
              have h11 : ls.getD 11 false = false := by
                cases hh : ls.getD 11 false with
                | false => rfl
                | true => exact (ft_no hu (hc 10 _ rfl (hc 11 _ rfl hh ⟨10, .data⟩ (by simp) rfl) ⟨0, .data⟩ (by simp) rfl)).elim
              have e10 := kf.evalYet 11 10 rfl h11 (v := u10) rfl
              generalize ac.eval = ρ at *
              exact ⟨ws, by simp [execOp, go_sem, e10], hW.same (by decide) (by decide) (by decide)⟩),
            stepD_val ((.agg #[.int .u8 (g.tos : Int), .int .u16 (g.id : Int), .bool g.hold, .bool g.more, .int .i64 g.at', .int .u8 (g.ttl : Int), .int .u8 (g.proto : Int), .int .u32 (g.frm : Int), .int .u32 (g.to : Int), .string g.op])) nq hs (.inl rfl) rfl rfl (fun _ => rfl) (fun ls ac ws p hd hu hc kf hW => by
              have h8 : ls.getD 8 false = false := by
                cases hh : ls.getD 8 false with
                | false => rfl
                | true => exact (ft_no hu (hc 8 _ rfl hh ⟨1, .data⟩ (by simp) rfl)).elim
              have hw := hW.s0 h8
              subst hw
              have e13 := kf.evalOut 13 (by decide) (v := .pointer (some ⟨qb, 0, none⟩)) rfl
              generalize ac.eval = ρ at *
              exact ⟨_, by simp [execOp, go_sem, e13, c0, c1, c2, c3, c4, c5, c6, c7, c8, c9], hW.same (by decide) (by decide) (by decide)⟩),
            stepD_val (.string d) nq hs (.inl rfl) rfl rfl (fun _ => rfl) (fun ls ac ws p hd hu hc kf hW => by
              have e1 := kf.evalOut 1 (by decide) (v := .string d) rfl
              generalize ac.eval = ρ at *
              exact ⟨ws, by simp [execOp, go_sem, e1], hW.same (by decide) (by decide) (by decide)⟩),
            stepD_val (.int .i64 (a : Int)) nq hs (.inl rfl) rfl rfl (fun _ => rfl) (fun ls ac ws p hd hu hc kf hW => by
              have e12 := kf.evalOut 12 (by decide) (v := .int .i64 (a : Int)) rfl
              generalize ac.eval = ρ at *
              exact ⟨ws, by simp [execOp, go_sem, e12], hW.same (by decide) (by decide) (by decide)⟩),
            stepD_val (.int .i64 (a : Int)) nq hs (.inl rfl) rfl rfl (fun _ => rfl) (fun ls ac ws p hd hu hc kf hW => by
              have e12 := kf.evalOut 12 (by decide) (v := .int .i64 (a : Int)) rfl
              generalize ac.eval = ρ at *
              exact ⟨ws, by simp [execOp, go_sem, e12], hW.same (by decide) (by decide) (by decide)⟩),
            stepD_val (.int .i64 (n : Int)) nq hs (.inl rfl) rfl rfl (fun _ => rfl) (fun ls ac ws p hd hu hc kf hW => by
              have e14 := kf.evalOut 14 (by decide) (v := .int .i64 (n : Int)) rfl
              generalize ac.eval = ρ at *
              exact ⟨ws, by simp [execOp, go_sem, e14], hW.same (by decide) (by decide) (by decide)⟩),
            stepD_val (.int .i64 ((a : Int) + (n : Int))) nq hs (.inl rfl) rfl rfl (fun _ => rfl) (fun ls ac ws p hd hu hc kf hW => by
              have e85 := kf.eval 4 rfl (hd ⟨4, .data⟩ (by simp) rfl) (v := .int .i64 (a : Int)) rfl
              have e86 := kf.eval 5 rfl (hd ⟨5, .data⟩ (by simp) rfl) (v := .int .i64 (n : Int)) rfl
              generalize ac.eval = ρ at *
              exact ⟨ws, by simp [execOp, go_sem, e85, e86, xa], hW.same (by decide) (by decide) (by decide)⟩),
            stepD_val (.string X) nq hs (.inl rfl) rfl rfl (fun _ => rfl) (fun ls ac ws p hd hu hc kf hW => by
              have e83 := kf.eval 2 rfl (hd ⟨2, .data⟩ (by simp) rfl) (v := .string d) rfl
              have e84 := kf.eval 3 rfl (hd ⟨3, .data⟩ (by simp) rfl) (v := .int .i64 (a : Int)) rfl
              have e87 := kf.eval 6 rfl (hd ⟨6, .data⟩ (by simp) rfl) (v := .int .i64 ((a : Int) + (n : Int))) rfl
              generalize ac.eval = ρ at *
              exact ⟨ws, by simp [execOp, go_sem, e83, e84, e87, hs1, hs2, hs5, ht1, ht2, hX], hW.same (by decide) (by decide) (by decide)⟩),
            stepD_pick (fun _ => .string Sx) nq hs (.inl rfl) rfl rfl (fun _ => rfl) (fun p p' j hj => by
                rcases j with _ | _ | _ | _ | _ | _ | _ | _ | j <;> first | rfl | omega)
              (fun ls hc j h1 h2 h3 => by
                have h2 : j < 12 := h2
                have k9 : ls.getD 9 false = true → ls.getD 8 false = true := fun h => hc 9 _ rfl h ⟨8, .data⟩ (by simp) rfl
                have k10 : ls.getD 10 false = true → ls.getD 9 false = true := fun h => hc 10 _ rfl h ⟨9, .data⟩ (by simp) rfl
                have k11 : ls.getD 11 false = true → ls.getD 10 false = true := fun h => hc 11 _ rfl h ⟨10, .data⟩ (by simp) rfl
                rcases (by omega : j = 9 ∨ j = 10 ∨ j = 11) with rfl | rfl | rfl
                · exact k9 h3
                · exact k9 (k10 h3)
                · exact k9 (k10 (k11 h3))) (fun _ => rfl)
              (fun ls ac ws p hd hu hc kf hW => by
                have e82 := kf.eval 1 rfl (hd ⟨1, .data⟩ (by simp) rfl) (v := (.agg #[.int .u8 (g.tos : Int), .int .u16 (g.id : Int), .bool g.hold, .bool g.more, .int .i64 g.at', .int .u8 (g.ttl : Int), .int .u8 (g.proto : Int), .int .u32 (g.frm : Int), .int .u32 (g.to : Int), .string g.op])) rfl
                have e88 := kf.eval 7 rfl (hd ⟨7, .data⟩ (by simp) rfl) (v := .string X) rfl
                have ef : ∀ f, ac.eval (.func f) = .func (.func f) #[] #[] := fun _ => rfl
                have hw := hW.s0 (getD_ft hu)
                have k9 : ls.getD 9 false = true → ls.getD 8 false = true := fun h => hc 9 _ rfl h ⟨8, .data⟩ (by simp) rfl
                have k10 : ls.getD 10 false = true → ls.getD 9 false = true := fun h => hc 10 _ rfl h ⟨9, .data⟩ (by simp) rfl
                subst hw
                generalize ac.eval = ρ at *
                refine ⟨22, #[(.agg #[.int .u8 (g.tos : Int), .int .u16 (g.id : Int), .bool g.hold, .bool g.more, .int .i64 g.at', .int .u8 (g.ttl : Int), .int .u8 (g.proto : Int), .int .u32 (g.frm : Int), .int .u32 (g.to : Int), .string g.op]), .string X], by simp [execOp, go_sem, ef, e82, e88], (hraw _).mono ?_⟩
                rintro e D0 ⟨rfl, b⟩
                obtain ⟨v2, D2, hg⟩ := hgood D0 b
                exact ⟨(D0, v2, D2), rfl, JW.at8 (p' := (D0, v2, D2)) hu k9 k10 hg⟩),
            stepD_turn (fun p => .slice (some ⟨p.1.heap.size, 0, none⟩) 1 1) nq hs (.inl rfl) rfl rfl (fun _ => rfl) (fun ls ac ws p hd hu hc kf hW => by
              have e89 := kf.eval 8 rfl (hd ⟨8, .data⟩ (by simp) rfl) (v := .string Sx) rfl
              have k10 : ls.getD 10 false = true → ls.getD 9 false = true := fun h => hc 10 _ rfl h ⟨9, .data⟩ (by simp) rfl
              have h8 : ls.getD 8 false = true := hd ⟨8, .data⟩ (by simp) rfl
              have hw := hW.s1 h8 (getD_ft hu)
              generalize ac.eval = ρ at *
              exact ⟨p.1.alloc (.cells #[.string Sx] 9), by rw [hw]; simp [execOp, go_sem, Instr.buildSlice, e89], hW.at9 h8 hu k10⟩),
            stepD_turn (fun p => p.2.1) nq hs (.inl rfl) rfl rfl (fun _ => rfl) (fun ls ac ws p hd hu hc kf hW => by
              have e81 := kf.eval 0 rfl (hd ⟨0, .data⟩ (by simp) rfl) (v := u10) rfl
              have e90 := kf.eval 9 rfl (hd ⟨9, .data⟩ (by simp) rfl) (v := .slice (some ⟨p.1.heap.size, 0, none⟩) 1 1) rfl
              have h9 : ls.getD 9 false = true := hd ⟨9, .data⟩ (by simp) rfl
              have h8 : ls.getD 8 false = true := hc 9 _ rfl h9 ⟨8, .data⟩ (by simp) rfl
              have hw := hW.s2 h9 (getD_ft hu)
              have hr := (hW.ok h8).1
              generalize ac.eval = ρ at *
              exact ⟨p.2.2, by rw [hw]; unfold execOp; simp only [resolve, invoke, builtin, Sem.run_bind, Sem.run_pure, Result.andThen_ok, List.map_toArray, List.map_cons, List.map_nil, e81, e90, hr], hW.at10 h8 h9 hu⟩),
            stepD_same (fun p => p.2.1) nq hs (.inl rfl) rfl rfl (fun _ => rfl) (fun ls ac ws p hd hu hc kf hW => by
              have e91 := kf.eval 10 rfl (hd ⟨10, .data⟩ (by simp) rfl) (v := p.2.1) rfl
              generalize ac.eval = ρ at *
              exact ⟨by simp [execOp, go_sem, e91], hW.same (by decide) (by decide) (by decide)⟩), trivial⟩ ?_
          intro p l5 w5 hal hW
          have hw5 := hW.s3 (hal 10 (by decide))
          have hg5 := hW.ok (hal 8 (by decide))
          obtain ⟨D0, v2, D2⟩ := p
          obtain ⟨_, hg6, hg7⟩ := hg5
          have HO := hide hg6
          have HB5 := hide (hbel3.trans hg7)
          clear hW hal nq hs hW0 hX xa hs1 hs2 hs5 ht1 ht2 hgood hraw hg6 hg7 c0 c1 c2 c3 c4 c5 c6 c7 c8 c9 hbel3
          subst hw5
          simp only [fill, List.setIfInBounds_toArray, List.set_cons_succ, List.set_cons_zero]
          go_wp2_with fail
          go_roundw
          case rel =>
            refine ⟨a + n, pre ++ [(g, X)], by go_num, hsum, unhide HAL2, ?_, unhide HB5⟩
            rw [unhide HPM, List.length_append]
            exact unhide HO
          case measure => simp [intOf]; omega
    · obtain rfl : a = d.size := by omega
      have hfin : all = pre := by
        have h1 := unhide HA
        unfold left at h1
        rw [if_neg (by omega), List.append_nil] at h1
        exact h1
      have hst := own_strs hown
      obtain ⟨sp5, sc5, hsv⟩ := row_shape hown
      rw [hsv] at hst
      rw [List.length_map] at hst hsv
      have HE : Hid (CutPost w (pieces K R h d) 0 (.returned (.tuple #[.slice sp5 pre.length sc5, .int .i64 0])) wr) := by
        rw [unhide HALLE, hfin]
        exact ⟨_, _, rfl, hst, by rw [unhide HQE]; exact (unhide HB).trans (hbel.mono (unhide hwz))⟩
      subst hsv
      clear hst hown hbel hfin
      go_wp2_with fail
      go_ret2
      exact unhide HE
end Go.Proofs.Ytefenejeppmfiaa
