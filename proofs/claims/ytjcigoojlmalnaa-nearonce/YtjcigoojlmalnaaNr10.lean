/- Hear of package near, over the loaded program. -/
import Derived.Test.YtjcigoojlmalnaaNr9
namespace Go.Proofs.Ytjcigoojlmalnaa
open Go.RowKit Go.Maps
attribute [local go_sem ↓] Go.wp_at_zero Go.wp_at_succ

section
variable {No : Nat → Prop} {w : World} {p b : Nat} {c : Cf} {last : Nat} {L : Ens}
/-- what is not the Near's own behind a Hear -/
def HNo (No : Nat → Prop) (f : Nat → Value) (ip : Nat) (L : Ens) : Nat → Prop := fun i => No i ∨ (lookN ip L ≠ none ∧ (f ip).ownBlock = some i)
theorem PNf.other' {f : Nat → Value} (h : PNf No w p b c last L f) {No' : Nat → Prop} (hN : ∀ i, No' i → i < w.heap.size ∧ (No i ∨ (i ≠ p ∧ i ≠ b ∧ ∀ x ∈ L, (f x.1).ownBlock ≠ some i))) : PNf No' w p b c last L f :=
  ⟨h.box, h.map, h.row, h.apart, fun k => (hN _ k).2.elim h.shp (fun q => q.1 rfl), fun k => (hN _ k).2.elim h.shb (fun q => q.2.1 rfl), fun x hx g hg k => (hN _ k).2.elim (h.shr x hx g hg) (fun q => q.2.2 x hx hg), h.wl, h.ok, fun i hi => (hN i hi).1⟩
/-- who is heard is laid in -/
theorem hear_store {f : Nat → Value} (h : PNf No w p b c last L f) {ip mac : Nat} (hip : ip < 12) (hm : mac < 18446744073709551616) :
    ∃ w2, (Instr.mapUpdate 53 (.map (some b)) (.int .u32 (ip : Int)) (.agg #[.int .u8 2, .int .u64 (mac : Int), .int .i64 ((last : Int) + (c.known : Int)), .int .i64 0, .slice none 0 0])).run Try.prog w = .ok () w2 ∧
      PN (HNo No f ip L) w2 p b c last (insN (ip, ⟨2, mac, last + c.known, 0, []⟩) L) ∧ Ks No w w2 ∧ w.grownBy w2 (some b) := by
  have h1 := h.wl.lst
  have h2 := h.ok.k2
  have hwl : WL c last (insN (ip, ⟨2, mac, last + c.known, 0, []⟩) L) := by
    refine h.wl.ins hip ⟨.inr (.inl rfl), hm, by show last + c.known ≤ _; omega, Nat.zero_le _, fun n hn => by simp at hn, fun e => by simp at e, fun _ => rfl⟩ ?_
    have h3 := h.wl.tot
    cases he : lookN ip L with
    | none => rw [tot_none _ he]; exact h3
    | some x =>
      have := tot_some (⟨2, mac, last + c.known, 0, []⟩ : En) h.wl.srt he
      simp only [List.length_nil] at this
      omega
  obtain ⟨w2, hrun, hp2, hk, hg⟩ := (h.x ip).store hip (e := ⟨2, mac, last + c.known, 0, []⟩) (v := .slice none 0 0) (World.ownsRow_nil _ _ _ _) (fun g hg => by simp [Value.ownBlock] at hg) (fun x _ _ g hg => by simp [Value.ownBlock] at hg) hwl
  refine ⟨w2, ?_, ⟨_, hp2.other' (fun i hi => ?_)⟩, hk, hg⟩
  · rw [← Int.natCast_add]
    exact hrun
  · rcases hi with hi | ⟨hn, hi⟩
    · exact ⟨hp2.nlt i hi, .inl hi⟩
    · obtain ⟨x, hx⟩ := Option.ne_none_iff_exists'.1 hn
      have hro := h.row (ip, x) (lookN_some hx)
      refine ⟨Nat.lt_of_lt_of_le (hro.lt i hi).2 hg.size, .inr ⟨fun e => row_ne_p h hro (e ▸ hi), fun e => row_ne_b h hro (e ▸ hi), fun y hy q => ?_⟩⟩
      by_cases e : y.1 = ip
      · rw [e, upd_same] at q
        simp [Value.ownBlock] at q
      · rw [upd_other _ _ e] at q
        exact h.apart (ip, x) (lookN_some hx) y (mem_insN_other hy e) (fun k => e k.symm) i hi q

/-- what stands behind a Hear -/
def HearTo (No NoX : Nat → Prop) (w w' : World) (p b : Nat) (c : Cf) (last : Nat) (L : Ens) : Prop :=
  PN NoX w' p b c last L ∧ Ks No w w' ∧ ∀ g, g < w.heap.size → g ≠ p → g ≠ b → w'.heap[g]? = w.heap[g]?

theorem hear_next {W : World} {f : Nat → Value} (h : PNf No w p b c last L f) {ip mac now sn sc : Nat} {s m t a : Int} {sp : Option Addr} (hip : ip < 12) (hm : mac < 18446744073709551616) (hn : now ≤ 17592186044416)
    (hW : ∃ n, W = (w.alloc (.cells #[.int .u8 s, .int .u64 m, .int .i64 t, .int .i64 a, .slice sp sn sc] 58)).drewN n) :
    ∃ w2, (Instr.mapUpdate 53 (.map (some b)) (.int .u32 (ip : Int)) (.agg #[.int .u8 2, .int .u64 (mac : Int), .int .i64 (((max last now : Nat) : Int) + (c.known : Int)), .int .i64 0, .slice none 0 0])).run Try.prog ((W.setCell ⟨p, 7, none⟩ (.int .i64 ((max last now : Nat) : Int))).drew) = .ok () w2 ∧
      HearTo No (HNo No f ip L) w w2 p b c (max last now) (insN (ip, ⟨2, mac, max last now + c.known, 0, []⟩) L) ∧ w2.cell? ⟨w.heap.size, 4, none⟩ = some (.slice sp sn sc) ∧
      W.cell? ⟨p, 6, none⟩ = some (.map (some b)) ∧ W.cell? ⟨p, 7, none⟩ = some (.int .i64 (last : Int)) ∧ W.frozen? ⟨p, 7, none⟩ = false ∧ W.cell? ⟨p, 3, none⟩ = some (.int .i64 (c.known : Int)) ∧ w.heap.size < W.heap.size := by
  obtain ⟨n, rfl⟩ := hW
  have hB : Below w.heap.size w ((w.alloc (.cells #[.int .u8 s, .int .u64 m, .int .i64 t, .int .i64 a, .slice sp sn sc] 58)).drewN n) := ⟨rfl, rfl, rfl, by simp, fun k hk => (below_one w (.cells #[.int .u8 s, .int .u64 m, .int .i64 t, .int .i64 a, .slice sp sn sc] 58)).block k hk⟩
  have hbx : ((w.alloc (.cells #[.int .u8 s, .int .u64 m, .int .i64 t, .int .i64 a, .slice sp sn sc] 58)).drewN n).heap[w.heap.size]? = some (.cells #[.int .u8 s, .int .u64 m, .int .i64 t, .int .i64 a, .slice sp sn sc] 58 (0, 0)) := heap_alloc_new w _
  generalize ((w.alloc (.cells #[.int .u8 s, .int .u64 m, .int .i64 t, .int .i64 a, .slice sp sn sc] 58)).drewN n) = W at *
  have hP := h.below hB
  have hp := h.plt
  have hb := h.blt
  have hlst := h.wl.lst
  have hS := hP.setLast (t := max last now) (h.wl.time (Nat.le_max_left _ _) (by omega))
  have hK := Ks.setCell (No := No) W ⟨p, 7, none⟩ (.int .i64 ((max last now : Nat) : Int)) h.shp
  have hSd := hS.below (Below.refl _ _).drew
  obtain ⟨w2, hrun, hP2, hK2, hg2⟩ := hear_store hSd hip hm
  have hblk : ∀ k, k < W.heap.size → k ≠ p → k ≠ b → w2.heap[k]? = W.heap[k]? := fun k hk h1 h2 => by
    rw [hg2.block k (by show k < (W.setCell _ _).heap.size; simpa using hk) (fun e => h2 (by cases e; rfl))]
    exact heap_setCell_other W _ k _ h1
  have hz : w.heap.size < W.heap.size := (Array.getElem?_eq_some_iff.1 hbx).1
  obtain ⟨q6, q7, qf, _, _⟩ := (show PN No W p b c last L from ⟨f, hP⟩).facts
  refine ⟨w2, hrun, ⟨hP2, ((Ks.of_below hB).trans hK).trans (Ks.trans (Ks.of_below (Below.refl _ _).drew) hK2), fun g hg h1 h2 => ?_⟩, ?_, q6, q7, qf, hP.cell rfl, hz⟩
  · rw [hblk g (Nat.lt_of_lt_of_le hg hB.size) h1 h2]
    exact hB.block g hg
  · have := (hblk w.heap.size hz (by omega) (by omega)).trans hbx
    simp [World.cell?, this]

set_option maxRecDepth 100000 in
set_option maxHeartbeats 1000000 in
theorem hear_there {f : Nat → Value} (hf : PNf No w p b c last L f) {ip mac now : Nat} {asked : Bool} (hip : ip < 12) (hm : mac < 18446744073709551616) (hn : now ≤ 17592186044416) {s m t a sn sc : Nat} {sp : Option Addr}
    (hl : (Instr.lookup 53 (.map (some b)) (.int .u32 (ip : Int)) true).run Try.prog w = .ok (.tuple #[.agg #[.int .u8 (s : Int), .int .u64 (m : Int), .int .i64 (t : Int), .int .i64 (a : Int), .slice sp sn sc], .bool true]) w) :
    Calls Try.prog 9 #[.pointer (some ⟨p, 0, none⟩), .int .u32 (ip : Int), .int .u64 (mac : Int), .bool asked, .int .i64 (now : Int)] w fun e w' => e = .returned (.slice sp sn sc) ∧ HearTo No (HNo No f ip L) w w' p b c (max last now) (insN (ip, ⟨2, mac, max last now + c.known, 0, []⟩) L) := by
  have h : PN No w p b c last L := ⟨f, hf⟩
  obtain ⟨c6, _, _, hp, _⟩ := h.facts
  have hlim : ((max last now : Nat) : Int) + (c.known : Int) ≤ 18691697672192 := by obtain ⟨f, h⟩ := h; have := h.wl.lst; have := h.ok.k2; omega
  have HM := hide (made_ok p b w c6)
  have HC := hide (fun W hW => counted_any p last now W hW hn)
  obtain ⟨w2, hrun, hto, h4, d6, d7, df, d3, hz⟩ := hear_next (W := w.alloc (.cells #[.int .u8 (s : Int), .int .u64 (m : Int), .int .i64 (t : Int), .int .i64 (a : Int), .slice sp sn sc] 58)) hf hip hm hn ⟨0, rfl⟩
  have HT := hide hto
  have HD := hide hrun
  have HE := hide (And.intro d6 (And.intro d7 (And.intro df d3)))
  clear h hf hto hn hm hrun d6 df d3 hz
  go_enter Try.func9, Try.ntmps9
  go_wp2_with fail
  refine (unhide HM).mono ?_
  rintro e w1 ⟨rfl, rfl⟩
  go_wp2_with fail
  refine (unhide HC _ d7).mono ?_
  rintro e w3 ⟨rfl, rfl⟩
  clear d7 hl c6
  have hp2 : p < (w1.alloc (.cells #[.int .u8 (s : Int), .int .u64 (m : Int), .int .i64 (t : Int), .int .i64 (a : Int), .slice sp sn sc] 58)).heap.size := by simp; omega
  have hrun := unhide HD
  obtain ⟨d6, d7, df, d3⟩ := unhide HE
  clear HD HE HM HC
  generalize w1.alloc (.cells #[.int .u8 (s : Int), .int .u64 (m : Int), .int .i64 (t : Int), .int .i64 (a : Int), .slice sp sn sc] 58) = W at *
  obtain ⟨T, hT⟩ : ∃ T : Nat, T = max last now := ⟨_, rfl⟩
  rw [← hT] at hrun hlim ⊢
  clear hT
  go_wp2_with fail
  go_region
  all_goals
    go_wp2
    go_ret
    exact ⟨rfl, unhide HT⟩

set_option maxRecDepth 100000 in
set_option maxHeartbeats 1000000 in
theorem hear_new (h : PN No w p b c last L) {ip mac now : Nat} (hip : ip < 12) (hm : mac < 18446744073709551616) (hn : now ≤ 17592186044416) (he : lookN ip L = none) (hf : L.length < c.most) :
    Calls Try.prog 9 #[.pointer (some ⟨p, 0, none⟩), .int .u32 (ip : Int), .int .u64 (mac : Int), .bool true, .int .i64 (now : Int)] w fun e w' => e = .returned (.slice none 0 0) ∧ HearTo No No w w' p b c (max last now) (insN (ip, ⟨2, mac, max last now + c.known, 0, []⟩) L) := by
  obtain ⟨c6, _, _, hp, _⟩ := h.facts
  have hl : (Instr.lookup 53 (.map (some b)) (.int .u32 (ip : Int)) true).run Try.prog w = .ok (.tuple #[.agg #[.int .u8 0, .int .u64 0, .int .i64 0, .int .i64 0, .slice none 0 0], .bool false]) w := by
    obtain ⟨f, h⟩ := h
    exact h.look_none hip he true
  have hlim : ((max last now : Nat) : Int) + (c.known : Int) ≤ 18691697672192 := by obtain ⟨f, h⟩ := h; have := h.wl.lst; have := h.ok.k2; omega
  have HM := hide (made_ok p b w c6)
  have HC := hide (fun W hW => counted_any p last now W hW hn)
  have HF := full_any (h.below (below_one w (.cells #[.int .u8 0, .int .u64 0, .int .i64 0, .int .i64 0, .slice none 0 0] 58)))
  rw [decide_eq_false (by omega)] at HF
  have HF := hide HF
  obtain ⟨f, h⟩ := h
  have HX := hide (fun n => hear_next (ip := ip) (mac := mac) (s := 0) (m := 0) (t := 0) (a := 0) (sn := 0) (sc := 0) (sp := none) (W := (w.alloc (.cells #[.int .u8 0, .int .u64 0, .int .i64 0, .int .i64 0, .slice none 0 0] 58)).drewN n) h hip hm hn ⟨n, rfl⟩)
  clear h hn hm hf
  go_enter Try.func9, Try.ntmps9
  go_wp2_with fail
  refine (unhide HM).mono ?_
  rintro e w1 ⟨rfl, rfl⟩
  go_wp2_with fail
  refine (unhide HF).mono ?_
  rintro e w4 ⟨rfl, n, rfl⟩
  obtain ⟨w2, hrun, hto, h4, d6, d7, df, d3, hz⟩ := unhide HX n
  have HT : Hid (HearTo No No w1 w2 p b c (max last now) (insN (ip, ⟨2, mac, max last now + c.known, 0, []⟩) L)) := ⟨hto.1.less (fun i hi => .inl hi), hto.2⟩
  have hp2 : p < ((w1.alloc (.cells #[.int .u8 0, .int .u64 0, .int .i64 0, .int .i64 0, .slice none 0 0] 58)).drewN n).heap.size := by omega
  clear hto hz hl c6 HM HF HX
  generalize (w1.alloc (.cells #[.int .u8 0, .int .u64 0, .int .i64 0, .int .i64 0, .slice none 0 0] 58)).drewN n = W at *
  go_wp2_with fail
  refine (unhide HC _ d7).mono ?_
  rintro e w3 ⟨rfl, rfl⟩
  obtain ⟨T, hT⟩ : ∃ T : Nat, T = max last now := ⟨_, rfl⟩
  rw [← hT] at hrun hlim ⊢
  clear hT HC
  go_wp2_with fail
  go_region
  all_goals
    go_wp2
    go_ret
    exact ⟨rfl, unhide HT⟩

set_option maxRecDepth 100000 in
set_option maxHeartbeats 1000000 in
theorem hear_not (h : PN No w p b c last L) {ip mac now : Nat} {asked : Bool} (hip : ip < 12) (he : lookN ip L = none) (hf : ¬ (asked = true ∧ L.length < c.most)) :
    Calls Try.prog 9 #[.pointer (some ⟨p, 0, none⟩), .int .u32 (ip : Int), .int .u64 (mac : Int), .bool asked, .int .i64 (now : Int)] w fun e w' => e = .returned (.slice none 0 0) ∧ PN No w' p b c last L ∧ Ks No w w' := by
  obtain ⟨c6, _, _, hp, _⟩ := h.facts
  have hl : (Instr.lookup 53 (.map (some b)) (.int .u32 (ip : Int)) true).run Try.prog w = .ok (.tuple #[.agg #[.int .u8 0, .int .u64 0, .int .i64 0, .int .i64 0, .slice none 0 0], .bool false]) w := by
    obtain ⟨f, h⟩ := h
    exact h.look_none hip he true
  have HM := hide (made_ok p b w c6)
  have hB := below_one w (.cells #[.int .u8 0, .int .u64 0, .int .i64 0, .int .i64 0, .slice none 0 0] 58)
  have HP := hide (h.below hB)
  have HB := hide (Ks.of_below (No := No) hB)
  cases asked with
  | true =>
    have HF := full_any (h.below hB)
    rw [decide_eq_true (Nat.not_lt.1 (fun k => hf ⟨rfl, k⟩))] at HF
    have HF := hide HF
    clear h he hf hB
    go_enter Try.func9, Try.ntmps9
    go_wp2_with fail
    refine (unhide HM).mono ?_
    rintro e w1 ⟨rfl, rfl⟩
    go_wp2_with fail
    refine (unhide HF).mono ?_
    rintro e w4 ⟨rfl, n, rfl⟩
    go_wp2
    go_ret
    have hd : ∀ W : World, Below W.heap.size W (W.drewN n) := fun W => ⟨rfl, rfl, rfl, Nat.le_refl _, fun _ _ => rfl⟩
    exact ⟨rfl, (unhide HP).below (hd _), (unhide HB).trans (Ks.of_below (hd _))⟩
  | false =>
    clear h he hf hB
    go_enter Try.func9, Try.ntmps9
    go_wp2_with fail
    refine (unhide HM).mono ?_
    rintro e w1 ⟨rfl, rfl⟩
    go_wp2
    go_ret
    exact ⟨rfl, unhide HP, unhide HB⟩

/-- what Hear leaves and answers -/
def HearEnd (No : Nat → Prop) (w w' : World) (p b : Nat) (c : Cf) (r : List Nat × Ens × Nat) (v : Value) : Prop :=
  w'.ownsRow 0 31 1 v r.1.length (u64s r.1) ∧ (∀ g, v.ownBlock = some g → ¬ No g) ∧ PN (fun i => No i ∨ v.ownBlock = some i) w' p b c r.2.2 r.2.1 ∧ Ks No w w'

theorem hear_any (h : PN No w p b c last L) {ip mac now : Nat} {asked : Bool} (hip : ip < 12) (hm : mac < 18446744073709551616) (hn : now ≤ 17592186044416) :
    Calls Try.prog 9 #[.pointer (some ⟨p, 0, none⟩), .int .u32 (ip : Int), .int .u64 (mac : Int), .bool asked, .int .i64 (now : Int)] w fun e w' =>
      ∃ sp sc, e = .returned (.slice sp (hearN c last L ip mac asked now).1.length sc) ∧ HearEnd No w w' p b c (hearN c last L ip mac asked now) (.slice sp (hearN c last L ip mac asked now).1.length sc) := by
  have h0 := h
  obtain ⟨f, h⟩ := h
  unfold hearN
  cases he : lookN ip L with
  | some x =>
    have hl := h.look_some hip he true
    simp only [if_true, evE] at hl
    have hro := h.row (ip, x) (lookN_some he)
    obtain ⟨sp, sc, hsl⟩ := row_shape hro
    have hno := h.shr (ip, x) (lookN_some he)
    have hnp := row_ne_p h hro
    have hnb := row_ne_b h hro
    simp only at hsl hro hno hnp hnb
    rw [hsl] at hl hro hno hnp hnb
    refine (hear_there h hip hm hn hl).mono ?_
    rintro e w' ⟨rfl, hP, hK, hB⟩
    refine ⟨sp, sc, rfl, row_at hro (fun g hg => hB g (hro.lt g hg).2 (fun e => hnp (e ▸ hg)) (fun e => hnb (e ▸ hg))), hno, hP.less (fun i hi => hi.imp id (fun q => ⟨by rw [he]; simp, by rw [hsl]; exact q⟩)), hK⟩
  | none =>
    simp only
    by_cases g : asked = true ∧ L.length < c.most
    · simp only [if_pos g]
      rw [g.1]
      refine (hear_new h0 hip hm hn he g.2).mono ?_
      rintro e w' ⟨rfl, hP, hK, _⟩
      exact ⟨none, 0, rfl, World.ownsRow_nil _ _ _ _, fun g hg => by simp [Value.ownBlock] at hg, hP.less (fun i hi => hi.elim id (fun q => by simp [Value.ownBlock] at q)), hK⟩
    · simp only [if_neg g]
      refine (hear_not h0 hip he g).mono ?_
      rintro e w' ⟨rfl, hP, hK⟩
      exact ⟨none, 0, rfl, World.ownsRow_nil _ _ _ _, fun g hg => by simp [Value.ownBlock] at hg, hP.less (fun i hi => hi.elim id (fun q => by simp [Value.ownBlock] at q)), hK⟩
end

end Go.Proofs.Ytjcigoojlmalnaa
