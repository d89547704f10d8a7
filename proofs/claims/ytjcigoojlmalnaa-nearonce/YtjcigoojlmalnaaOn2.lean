/- What a round of NearOnce's loop does, over the loaded program. -/
import Derived.Test.YtjcigoojlmalnaaOn1
namespace Go.Proofs.Ytjcigoojlmalnaa
open Go.RowKit Go.Maps

theorem conf_cells9 {W : World} {g : Nat} {a b c d e f : Value} {t : TypeId} (h : W.heap[g]? = some (.cells #[a, b, c, d, e, f] t (0, 0))) : W.cell? ⟨g, 1, none⟩ = some b ∧ W.cell? ⟨g, 2, none⟩ = some c ∧ W.cell? ⟨g, 3, none⟩ = some d ∧ W.cell? ⟨g, 4, none⟩ = some e ∧ W.cell? ⟨g, 5, none⟩ = some f :=
  ⟨(box_cell h (j := 1) rfl).1, (box_cell h (j := 2) rfl).1, (box_cell h (j := 3) rfl).1, (box_cell h (j := 4) rfl).1, (box_cell h (j := 5) rfl).1⟩

theorem PN.turned {No : Nat → Prop} {w w' : World} {p b : Nat} {c : Cf} {last : Nat} {L : Ens} (h : PN No w p b c last L) {r : Nat} (hg : w.grownBy w' (some r)) (hr : No r) : PN No w' p b c last L := by
  obtain ⟨f, h⟩ := h
  exact ⟨f, h.turn hg (fun e => h.shp (e ▸ hr)) (fun e => h.shb (e ▸ hr)) (fun x hx e => h.shr x hx r e hr)⟩
theorem PN.wl' {No : Nat → Prop} {w : World} {p b : Nat} {c : Cf} {last : Nat} {L : Ens} (h : PN No w p b c last L) : WL c last L ∧ c.Ok := by
  obtain ⟨f, h⟩ := h
  exact ⟨h.wl, h.ok⟩

/-- between two rounds -/
structure OS (No : Nat → Prop) (p b bm : Nat) (c : Cf) (n i N : Nat) (wr : World) (last : Nat) (L : Ens) (M : Nums) : Prop where
  pn : PN No wr p b c last L
  mp : MP wr bm M
  inv : Inv L M i
  tm : last ≤ N
  tail : n ≤ i → Tail (i - n) L
def OX (No : Nat → Prop) (p b bm : Nat) (c : Cf) (n i N : Nat) (wr : World) : Prop := ∃ last L M, OS No p b bm c n i N wr last L M
/-- numbers are to go -/
structure OG (No : Nat → Prop) (p b bm : Nat) (c : Cf) (n i N : Nat) (wr : World) (v : Value) (out : List Nat) (last : Nat) (L : Ens) (M : Nums) : Prop where
  pn : PN No wr p b c last L
  mp : MP wr bm M
  row : wr.ownsRow 0 31 1 v out.length (u64s out)
  nd : out.Nodup
  all : ∀ x ∈ out, lookN x M ≠ none
  inv : Inv L (delL out M) (i + 1)
  lt : ∀ x ∈ out, x < 18446744073709551616
  tm : last ≤ N
  tail : n ≤ i + 1 → Tail (i + 1 - n) L

section
variable {No N0 : Nat → Prop} {p b bm : Nat} {c : Cf} {n i N N2 ip mac : Nat} {wr W : World} {last : Nat} {L : Ens} {M : Nums}
theorem find_last : (findN c last L ip i N2).last ≤ max last N2 := by
  unfold findN
  cases lookN ip L with
  | none => simp only; split <;> simp only <;> omega
  | some e => simp only; split <;> (try split) <;> simp only <;> omega
theorem hear_last {asked : Bool} : (hearN c last L ip mac asked N2).2.2 ≤ max last N2 := by
  unfold hearN
  cases lookN ip L with
  | none => simp only; split <;> simp only <;> omega
  | some e => simp only; omega
theorem OS.on (h : OS No p b bm c n i N wr last L M) (hB : Below wr.heap.size wr W) : OS No p b bm c n i N W last L M :=
  ⟨h.pn.below hB, h.mp.at (hB.block bm h.mp.lt), h.inv, h.tm, h.tail⟩
theorem tail_first {last' : Nat} {L' : Ens} {w' : World} (h : PN No w' p b c last' L') (hin : i < n) : n ≤ i + 1 → Tail (i + 1 - n) L' := fun hn => by
  rw [show i + 1 - n = 0 by omega]
  exact tail_start (fun x hx hs => (h.wl'.1.so x hx hs).1)

def FindRes (No N0 : Nat → Prop) (p b bm : Nat) (c : Cf) (n i N : Nat) (W w' : World) : Prop := (∃ last L M, OG No p b bm c n i N w' (.slice none 0 0) [] last L M) ∧ Ks N0 W w'
theorem once_find (h : OS No p b bm c n i N wr last L M) (hB : Below wr.heap.size wr W) (hbm : No bm) (h0 : ∀ k, N0 k → No k) (hnb : ¬ N0 bm) (hip : ip < 12) (hi : i < 2000) (h1 : N ≤ N2) (h2 : N2 ≤ 17592186044416) (hin : i < n) :
    Calls Try.prog 8 #[.pointer (some ⟨p, 0, none⟩), .int .u32 (ip : Int), .int .u64 (i : Int), .int .i64 (N2 : Int)] W fun e w' => ∃ (mc : Nat) (known asks : Bool) (err : Nat), e = .returned (.tuple #[.int .u64 (mc : Int), .bool known, .bool asks, .int .i64 (err : Int)]) ∧
      ((known = false ∧ err = 0 ∧ ∃ w2, (Instr.mapUpdate 30 (.map (some bm)) (.int .u64 (i : Int)) (.int .u32 (ip : Int))).run Try.prog w' = .ok () w2 ∧ FindRes No N0 p b bm c n i N2 W w2) ∨ (known = true ∧ err = 0 ∧ FindRes No N0 p b bm c n i N2 W w') ∨ (known = false ∧ asks = false ∧ err = 6 ∧ FindRes No N0 p b bm c n i N2 W w')) := by
  have hW := h.on hB
  obtain ⟨hwl, _⟩ := hW.pn.wl'
  refine (find_any hW.pn (ip := ip) (num := i) (now := N2) hip (by omega) h2).mono ?_
  rintro e w' ⟨rfl, hP, hK⟩
  refine ⟨_, _, _, _, rfl, ?_⟩
  have hinv := inv_find (c := c) (last := last) hW.inv hwl.srt ip N2
  have hlast := find_last (c := c) (last := last) (L := L) (ip := ip) (i := i) (N2 := N2)
  have ht := hW.tm
  have hmp : MP w' bm M := hW.mp.at (hK.block bm hW.mp.lt hbm)
  simp only at hinv
  generalize findN c last L ip i N2 = r at *
  have htl : r.last ≤ N2 := by omega
  have hk0 : Ks N0 W w' := hK.mono h0
  have hlen : M.length ≤ 1024 := by rw [hW.inv.len]; exact Nat.le_trans hwl.tot h.pn.wl'.2.w
  rcases hinv with ⟨e1, e2, e3⟩ | ⟨e1, e2, e3⟩ | ⟨e1, e2, e3, e4⟩
  · refine .inl ⟨e2, e1, ?_⟩
    obtain ⟨w2, hrun, hm2, hg⟩ := hmp.store hW.inv.srt (by omega) (n := i) (ip := ip) (by omega)
    refine ⟨w2, hrun, ⟨_, _, _, ⟨hP.turned hg hbm, hm2, World.ownsRow_nil _ _ _ _, List.Pairwise.nil, fun x hx => by simp at hx, e3, fun x hx => by simp at hx, htl, tail_first hP hin⟩⟩, hk0.trans (Ks.of_grown hg (fun j hj => by cases hj; exact hnb))⟩
  · exact .inr (.inl ⟨e2, e1, ⟨_, _, _, ⟨hP, hmp, World.ownsRow_nil _ _ _ _, List.Pairwise.nil, fun x hx => by simp at hx, e3, fun x hx => by simp at hx, htl, tail_first hP hin⟩⟩, hk0⟩)
  · exact .inr (.inr ⟨e2, e3, e1, ⟨_, _, _, ⟨hP, hmp, World.ownsRow_nil _ _ _ _, List.Pairwise.nil, fun x hx => by simp at hx, e4, fun x hx => by simp at hx, htl, tail_first hP hin⟩⟩, hk0⟩)
def HearRes (No N0 : Nat → Prop) (p b bm : Nat) (c : Cf) (n i N ip : Nat) (W w' : World) (v : Value) (out : List Nat) : Prop :=
  ∃ last L M, OG No p b bm c n i N w' v out last L M ∧ out.Pairwise (· < ·) ∧ (∀ x ∈ out, lookN x M = some ip) ∧ Ks N0 W w'
theorem once_hear {asked : Bool} (h : OS No p b bm c n i N wr last L M) (hB : Below wr.heap.size wr W) (hbm : No bm) (h0 : ∀ k, N0 k → No k) (hip : ip < 12) (hm : mac < 18446744073709551616) (hi : i < 2000) (h1 : N ≤ N2) (h2 : N2 ≤ 17592186044416) (hin : i < n) :
    Calls Try.prog 9 #[.pointer (some ⟨p, 0, none⟩), .int .u32 (ip : Int), .int .u64 (mac : Int), .bool asked, .int .i64 (N2 : Int)] W fun e w' => ∃ (sp : Option Addr) (sc : Nat) (out : List Nat), e = .returned (.slice sp out.length sc) ∧ HearRes No N0 p b bm c n i N2 ip W w' (.slice sp out.length sc) out := by
  have hW := h.on hB
  obtain ⟨hwl, _⟩ := hW.pn.wl'
  refine (hear_any (asked := asked) hW.pn hip hm h2).mono ?_
  rintro e w' ⟨sp, sc, rfl, hrow, _, hP, hK⟩
  have hinv := inv_hear (c := c) (last := last) hW.inv hwl.srt ip mac N2 asked
  have hlast := hear_last (c := c) (last := last) (L := L) (ip := ip) (mac := mac) (N2 := N2) (asked := asked)
  have ht := hW.tm
  have hmp : MP w' bm M := hW.mp.at (hK.block bm hW.mp.lt hbm)
  simp only at hinv
  generalize hearN c last L ip mac asked N2 = r at *
  obtain ⟨out, L', T⟩ := r
  simp only at hinv hrow hP hlast
  obtain ⟨e1, e2, e3⟩ := hinv
  have hP' : PN No w' p b c T L' := hP.less (fun i hi => .inl hi)
  exact ⟨sp, sc, out, rfl, _, _, _, ⟨hP', hmp, hrow, inc_nodup e1, fun x hx => by rw [e2 x hx]; simp, e3, fun x hx => by have := hW.inv.lt _ (lookN_some (e2 x hx)); simp only at this; omega, by omega, tail_first hP' hin⟩, e1, e2, hK.mono h0⟩
theorem once_tick (h : OS No p b bm c n i N wr last L M) (hB : Below wr.heap.size wr W) (hbm : No bm) (h0 : ∀ k, N0 k → No k) (hi : i < 2000) (h1 : N ≤ N2) (h2 : N2 ≤ 17592186044416) (hpz : n ≤ i → N2 = N + c.pause) :
    Calls Try.prog 10 #[.pointer (some ⟨p, 0, none⟩), .int .i64 (N2 : Int)] W fun e w' => ∃ (sa : Option Addr) (na ca : Nat) (sb : Option Addr) (cb : Nat) (out : List Nat), e = .returned (.tuple #[.slice sa na ca, .slice sb out.length cb]) ∧ (∃ last L M, OG No p b bm c n i N2 w' (.slice sb out.length cb) out last L M) ∧ Ks N0 W w' := by
  have hW := h.on hB
  obtain ⟨hwl, _⟩ := hW.pn.wl'
  have ht := hW.tm
  have hT : max last N2 = N2 := by omega
  refine (tick_any hW.pn (now := N2) h2).mono ?_
  rintro e w' ⟨va, vl, rfl, hE⟩
  rw [hT] at hE
  obtain ⟨sa, ca, hva⟩ := row_shape hE.ra
  obtain ⟨sb, cb, hvl⟩ := row_shape hE.rl
  obtain ⟨e1, e2, e3⟩ := inv_tick (c := c) hW.inv hwl.srt hwl.no N2
  have hP' : PN No w' p b c N2 (tickN c N2 L) := hE.pn.less (fun i hi => .inl hi)
  have hmp : MP w' bm M := hW.mp.at (hE.ks.block bm hW.mp.lt hbm)
  refine ⟨sa, _, ca, sb, cb, lostN c (dueN N2 L), by rw [hva, hvl], ⟨_, _, _, ⟨hP', hmp, by rw [← hvl]; exact hE.rl, e1, e2, e3, fun x hx => ?_, Nat.le_refl _, ?_⟩⟩, hE.ks.mono h0⟩
  · cases hl : lookN x M with
    | none => exact absurd hl (e2 x hx)
    | some q => have := hW.inv.lt _ (lookN_some hl); simp only at this; omega
  · intro hn
    by_cases hin : i < n
    · exact tail_first hP' hin hn
    · have h3 := tail_tick (c := c) (t := N2) (hW.tail (by omega)) (fun x hx hs => by have := (hwl.so x hx hs).2; have := hpz (by omega); omega)
      rw [show i + 1 - n = i - n + 1 by omega]
      exact h3
/-- the k-th number goes -/
theorem once_drop {v : Value} {out : List Nat} (h : OG No p b bm c n i N W v out last L M) {wi : World} {k x : Nat} (hk : out[k]? = some x) (hm : MP wi bm (delL (out.take k) M)) :
    (∃ q, (Instr.lookup 30 (.map (some bm)) (.int .u64 (x : Int)) true).run Try.prog wi = .ok (.tuple #[.int .u32 ((q : Nat) : Int), .bool true]) wi) ∧
    ∃ w2, (Builtin.delete_ #[30, 31] 0 #[.map (some bm), .int .u64 (x : Int)]).run Try.prog wi = .ok (.tuple #[]) w2 ∧ MP w2 bm (delL (out.take (k + 1)) M) ∧ wi.grownBy w2 (some bm) := by
  have hx := h.lt x (List.mem_of_getElem? hk)
  obtain ⟨h1, h2⟩ := still h.nd h.all hk
  refine ⟨?_, ?_⟩
  · cases hl : lookN x M with
    | none => exact absurd hl h2
    | some q => exact ⟨q, (hm.look hx (h1.trans hl)).2⟩
  · rw [delL_take hk]
    exact hm.drop hx
end
end Go.Proofs.Ytjcigoojlmalnaa
