/- What wait of package near answers and leaves, over the loaded program. -/
import Derived.Test.YtjcigoojlmalnaaNr6
namespace Go.Proofs.Ytjcigoojlmalnaa
open Go.RowKit Go.Maps
attribute [local go_sem ↓] Go.wp_at_zero Go.wp_at_succ

theorem box_cell {w : World} {g : Nat} {cs : Array Value} {t : TypeId} (h : w.heap[g]? = some (.cells cs t (0, 0))) {j : Nat} {v : Value} (hj : cs[j]? = some v) : w.cell? ⟨g, j, none⟩ = some v ∧ w.frozen? ⟨g, j, none⟩ = false := by
  constructor
  · simp [World.cell?, h, hj]
  · simp [World.frozen?, h]
theorem box_grown {w w2 : World} {cs : Array Value} {t : TypeId} {o : Obj} {r : Option Nat} (hg : ((w.alloc (.cells cs t)).alloc o).grownBy w2 r) (hr : ∀ g, r = some g → g < w.heap.size) : w2.heap[w.heap.size]? = some (.cells cs t (0, 0)) := by
  rw [hg.block w.heap.size (by simp; omega) (fun e => by have := hr _ e.symm; omega), Below.heap_alloc _ _ _ (by simp)]
  exact heap_alloc_new w _
theorem new_one (w : World) (v : Value) (t : TypeId) : ∀ (j : Nat) (u : Value), [v][j]? = some u → (w.alloc (.cells #[v] t)).cell? ((⟨w.heap.size, 0, none⟩ : Addr).add j) = some u :=
  World.news_of_block (heap_alloc_new w _)
theorem u64s_snoc (l : List Nat) (n : Nat) : u64s (l ++ [n]) = u64s l ++ [.int .u64 (n : Int)] := by simp [u64s]

section
variable {No : Nat → Prop} {w : World} {p b : Nat} {c : Cf} {last : Nat} {L : Ens}

/-- behind the append: the row's new slice is put into the box, and the entry into the map -/
theorem put_row {f : Nat → Value} {w1 w2 : World} {sp : Option Addr} {k sc g cap B : Nat} {ws : List Nat} {num ip : Nat} {e : En} (h1 : PNf No w1 p b c last L f) (hr1 : w1.ownsRow 0 31 1 (.slice sp k sc) k (u64s ws))
    (hgrow : w1.grownBy w2 (Value.slice sp k sc).ownBlock) (hown : w2.ownsRow 0 31 1 (.slice (some ⟨g, 0, none⟩) (k + 1) cap) (k + 1) (u64s ws ++ [.int .u64 (num : Int)]))
    (hat : (Value.slice sp k sc).ownBlock = some g ∨ g = w1.heap.size) (hB : B < w1.heap.size) (hBn : ∀ g, (Value.slice sp k sc).ownBlock = some g → g < B) (hBp : p < B) (hBb : b < B) (hBr : ∀ x ∈ L, ∀ g, (f x.1).ownBlock = some g → g < B) (hNB : ¬ No B)
    (hno : ∀ g, (Value.slice sp k sc).ownBlock = some g → ¬ No g) (hap : ∀ x ∈ L, x.1 ≠ ip → ∀ g, (Value.slice sp k sc).ownBlock = some g → (f x.1).ownBlock ≠ some g)
    (hip : ip < 12) (hwl : WL c last (insN (ip, e) L)) (hws : e.ws = ws ++ [num]) (hk : ws.length = k) (u : Value) (d : Nat) :
    ∃ w4, (Instr.mapUpdate 53 (.map (some b)) (.int .u32 (ip : Int)) (.agg #[.int .u8 (e.st : Int), .int .u64 (e.mac : Int), .int .i64 (e.tm : Int), .int .i64 (e.asked : Int), .slice (some ⟨g, 0, none⟩) (k + 1) cap])).run Try.prog ((w2.setCell ⟨B, d, none⟩ u).drew) = .ok () w4 ∧
      PN No w4 p b c last (insN (ip, e) L) ∧ Ks No w1 w4 ∧ w2.cell? ⟨p, 6, none⟩ = some (.map (some b)) := by
  have hx := h1.grow ip hgrow (fun g hg => ⟨_, _, _, hr1, hg, fun x hx hi => hap x hx hi g hg⟩)
  have hB2 : ∀ i, i ≠ B → ((w2.setCell ⟨B, d, none⟩ u).drew).heap[i]? = w2.heap[i]? := fun i hi => heap_setCell_other w2 _ i u hi
  have hx3 : PNx ip No ((w2.setCell ⟨B, d, none⟩ u).drew) p b c last L f := hx.at (by show w2.heap.size ≤ (w2.setCell ⟨B, d, none⟩ u).heap.size; simp) (hB2 p (by omega)) (hB2 b (by omega)) (fun x hxx _ g hg => hB2 g (by have := hBr x hxx g hg; omega))
  have hgB : g ≠ B := by
    rcases hat with h | h
    · have := hBn g h; omega
    · omega
  have hown3 : ((w2.setCell ⟨B, d, none⟩ u).drew).ownsRow 0 31 1 (.slice (some ⟨g, 0, none⟩) (k + 1) cap) e.ws.length (u64s e.ws) := by
    rw [hws, u64s_snoc, List.length_append, hk]
    exact row_at hown (fun g' hg' => hB2 g' (by simp [Value.ownBlock] at hg'; omega))
  have A1 : ∀ g', (Value.slice (some ⟨g, 0, none⟩) (k + 1) cap).ownBlock = some g' → ¬ No g' := by
    intro g' hg'
    have e1 : g = g' := by simpa [Value.ownBlock] using hg'
    subst e1
    rcases hat with h | h
    · exact hno g h
    · intro hn
      have := h1.nlt g hn
      omega
  have A2 : ∀ x ∈ L, x.1 ≠ ip → ∀ g', (Value.slice (some ⟨g, 0, none⟩) (k + 1) cap).ownBlock = some g' → (f x.1).ownBlock ≠ some g' := by
    intro x hx hi g' hg'
    have e1 : g = g' := by simpa [Value.ownBlock] using hg'
    subst e1
    rcases hat with h | h
    · exact hap x hx hi g h
    · intro hn
      have := ((h1.row x hx).lt g hn).2
      omega
  obtain ⟨w4, hrun, hp4, hk4, _⟩ := hx3.store hip (e := e) hown3 A1 A2 hwl
  · refine ⟨w4, hrun, ⟨_, hp4⟩, ?_⟩
    have k1 : Ks No w1 w2 := Ks.of_grown hgrow hno
    have k2 : Ks No w2 ((w2.setCell ⟨B, d, none⟩ u).drew) := ⟨rfl, rfl, rfl, by show w2.heap.size ≤ (w2.setCell ⟨B, d, none⟩ u).heap.size; simp, fun i _ hi => hB2 i (fun e => hNB (e ▸ hi))⟩
    exact ⟨(k1.trans k2).trans hk4, by simp [World.cell?, hx.box, boxOf]⟩

set_option maxRecDepth 100000 in
set_option maxHeartbeats 2000000 in
theorem wait_some (h : PN No w p b c last L) {ip num : Nat} (hip : ip < 12) (hnum : num < 18446744073709551616) {x : En} (he : lookN ip L = some x) (hs : x.st = 1) (hroom : tot L < c.waits) :
    Calls Try.prog 21 #[.pointer (some ⟨p, 0, none⟩), .int .u32 (ip : Int), .int .u64 (num : Int)] w fun e w' => e = .returned (.bool false) ∧ PN No w' p b c last (insN (ip, { x with ws := x.ws ++ [num] }) L) ∧ Ks No w w' := by
  obtain ⟨f, h⟩ := h
  have hc := box6 h
  have hp := h.plt
  have hl := h.look_some hip he true
  simp only [if_true, evE] at hl
  have hro := h.row (ip, x) (lookN_some he)
  obtain ⟨sp, sc, hsl⟩ := row_shape hro
  simp only at hsl
  rw [hsl] at hl
  have hx := h.wl.look he
  have hlen : x.ws.length ≤ 1024 := Nat.le_trans (tot_mem (lookN_some he)) (Nat.le_trans h.wl.tot h.ok.w)
  have hnw : WL c last (insN (ip, { x with ws := x.ws ++ [num] }) L) := by
    refine h.wl.ins hip ⟨hx.st, hx.mac, hx.tm, hx.asked, fun n hn => ?_, hx.so, fun e => absurd hs e⟩ ?_
    · rcases List.mem_append.1 hn with hn | hn
      · exact hx.num n hn
      · rw [List.mem_singleton.1 hn]; exact hnum
    · have := tot_some { x with ws := x.ws ++ [num] } h.wl.srt he
      simp only [List.length_append, List.length_singleton] at this
      omega
  have hap : ∀ y ∈ L, y.1 ≠ ip → ∀ g, (f ip).ownBlock = some g → (f y.1).ownBlock ≠ some g := fun y hy hne => h.apart (ip, x) (lookN_some he) y hy (fun e => hne e.symm)
  have hno := h.shr (ip, x) (lookN_some he)
  have hblt := h.blt
  have hrlt : ∀ y ∈ L, ∀ g, (f y.1).ownBlock = some g → g < w.heap.size := fun y hy g hg => ((h.row y hy).lt g hg).2
  have hilt : ∀ g, (f ip).ownBlock = some g → g < w.heap.size := hrlt (ip, x) (lookN_some he)
  have hnB : ¬ No w.heap.size := fun k => by have := h.nlt _ k; omega
  simp only at hro hno
  rw [hsl] at hap hno hilt hro
  obtain ⟨i0, hi, hz0, hz1, hz2⟩ := info_parts (P := Try.prog) (e := 31) (z := .int .u64 0) (size := 1) (bytes := 8) (by kernel_rfl)
  have HP : Hid (∀ {w1 w2 : World} {g cap : Nat}, Below w.heap.size w w1 → w.heap.size < w1.heap.size → w1.grownBy w2 (Value.slice sp x.ws.length sc).ownBlock → w2.ownsRow 0 31 1 (.slice (some ⟨g, 0, none⟩) (x.ws.length + 1) cap) (x.ws.length + 1) (u64s x.ws ++ [.int .u64 (num : Int)]) →
      ((Value.slice sp x.ws.length sc).ownBlock = some g ∨ g = w1.heap.size) → ∀ u d, ∃ w4, (Instr.mapUpdate 53 (.map (some b)) (.int .u32 (ip : Int)) (.agg #[.int .u8 (x.st : Int), .int .u64 (x.mac : Int), .int .i64 (x.tm : Int), .int .i64 (x.asked : Int), .slice (some ⟨g, 0, none⟩) (x.ws.length + 1) cap])).run Try.prog ((w2.setCell ⟨w.heap.size, d, none⟩ u).drew) = .ok () w4 ∧
        PN No w4 p b c last (insN (ip, { x with ws := x.ws ++ [num] }) L) ∧ Ks No w w4 ∧ w2.cell? ⟨p, 6, none⟩ = some (.map (some b))) := by
    intro w1 w2 g cap hb1 hlt hgrow hown hat u d
    have h1 := h.below hb1
    obtain ⟨w4, hrun, hp4, hk4, hc4⟩ := put_row h1 (row_at hro (fun g hg => hb1.block g (hilt g hg))) hgrow hown hat hlt hilt hp hblt hrlt hnB hno hap hip (e := { x with ws := x.ws ++ [num] }) hnw rfl rfl u d
    exact ⟨w4, hrun, hp4, (Ks.of_below hb1).trans hk4, hc4⟩
  have HR : Hid (∀ w1, Below w.heap.size w w1 → w1.ownsRow 0 31 1 (.slice sp x.ws.length sc) x.ws.length (u64s x.ws)) := fun w1 hb1 => row_at hro (fun g hg => hb1.block g (hilt g hg))
  have HI := hide hilt
  clear hnw hap hno hx hro hsl h hrlt hilt he hroom hnum
  obtain ⟨s, m, t, a, ws⟩ := x
  simp only at hs hl hlen HP HR HI ⊢
  generalize ws.length = k at *
  subst hs
  have hB1 := below_one w (.cells #[.int .u8 1, .int .u64 (m : Int), .int .i64 (t : Int), .int .i64 (a : Int), .slice sp k sc] 58)
  have hB2 := tr2 hB1 (below_one _ (.cells #[.int .u64 (num : Int)] 31))
  have HRW := unhide HR _ hB2
  have hkm : (k : Int) ≤ 1024 := by omega
  have hnew := new_one (w.alloc (.cells #[.int .u8 1, .int .u64 (m : Int), .int .i64 (t : Int), .int .i64 (a : Int), .slice sp k sc] 58)) (.int .u64 (num : Int)) 31
  rw [World.size_alloc] at hnew
  rw [show ((1 : Nat) : Int) = 1 from rfl] at hl HP
  go_enter Try.func21, Try.ntmps21
  go_wp2_with (at_builtin; refine wpList_append_lies _ rfl _ _ 36 rfl 0 31 i0 _ 1 8 Try.underlying36 hi hz0 hz1 hz2 rfl (by decide) (.slice sp k sc) k _ rfl HRW ⟨w.heap.size + 1, 0, none⟩ 1 1 [.int .u64 (num : Int)] rfl rfl hnew (by simp [Value.oneCell']) (by decide) (by unfold maxLen; omega) (by omega) (Nat.zero_le _) _ rfl ?_; intro g cap w2 hown2 hgrow2 hat2 hlt2; have bx := box_grown hgrow2 (unhide HI); obtain ⟨c0, f0⟩ := box_cell bx (j := 0) (v := .int .u8 1) rfl; obtain ⟨c1, f1⟩ := box_cell bx (j := 1) (v := .int .u64 (m : Int)) rfl; obtain ⟨c2, f2⟩ := box_cell bx (j := 2) (v := .int .i64 (t : Int)) rfl; obtain ⟨c3, f3⟩ := box_cell bx (j := 3) (v := .int .i64 (a : Int)) rfl; obtain ⟨c4, f4⟩ := box_cell bx (j := 4) (v := .slice sp k sc) rfl; clear HRW hnew)
  obtain ⟨w4, hrun, hP4, hK4, hc2⟩ := unhide HP hB2 (by simp; omega) hgrow2 hown2 (by rcases hat2 with h | h; exact .inl h; exact .inr (by simpa using h)) (.slice (some ⟨g, 0, none⟩) (k + 1) cap) 4
  clear hgrow2 hown2 hat2 bx HP HR HI hB1 hB2
  go_region
  all_goals (go_wp2; go_ret; exact ⟨rfl, hP4, hK4⟩)
end

end Go.Proofs.Ytjcigoojlmalnaa
