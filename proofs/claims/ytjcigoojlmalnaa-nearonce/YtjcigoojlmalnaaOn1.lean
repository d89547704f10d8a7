/- Waits of package near, and a law's own map of numbers, over the loaded program. -/
import Derived.Test.YtjcigoojlmalnaaInp9
import Derived.Test.YtjcigoojlmalnaaOn0
import Derived.Deep.Slices
namespace Go.Proofs.Ytjcigoojlmalnaa
open Go.RowKit Go.Maps

theorem tot_take {L : Ens} {k : Nat} {x : Nat × En} (h : L[k]? = some x) : tot (L.take (k + 1)) = tot (L.take k) + x.2.ws.length := by
  rw [List.take_add_one, h]
  have : ∀ (A B : Ens), tot (A ++ B) = tot A + tot B := by
    intro A
    induction A with
    | nil => intro B; simp [tot]
    | cons y r ih => intro B; simp only [List.cons_append, tot, ih]; omega
  rw [this]
  simp [tot]
theorem tot_le {L : Ens} (k : Nat) : tot (L.take k) ≤ tot L := tot_sub (List.take_sublist k L)
/-- an element of a row -/
theorem row_at_k {e : Nat} {base : Nat} {w : World} {sp : Option Addr} {n cap k : Nat} {us : List Value} {u : Value} (h : w.ownsRow base e 1 (.slice sp n cap) n us) (hk : us[k]? = some u) (hn : k < n) : ∃ g, sp = some ⟨g, 0, none⟩ ∧ w.cell? ⟨g, k, none⟩ = some u ∧ n ≤ cap := by
  rcases h.2 with ⟨h1, h2⟩ | ⟨g, cap', cur, h1, _, _, h3, _⟩
  · omega
  · simp at h1
    obtain ⟨rfl, rfl⟩ := h1
    exact ⟨g, rfl, by rw [h.cellAt k (by omega)]; exact hk, h3⟩

section
variable {No : Nat → Prop} {p b : Nat} {c : Cf} {last : Nat} {L : Ens}
set_option maxRecDepth 100000 in
set_option maxHeartbeats 2000000 in
theorem waits_any (w : World) (h : PN No w p b c last L) :
    Calls Try.prog 11 #[.pointer (some ⟨p, 0, none⟩)] w fun e w' => ∃ sp cap, e = .returned (.slice sp (tot L) cap) ∧ Below w.heap.size w w' := by
  obtain ⟨c6, _, _, hp, _⟩ := h.facts
  have H := hide (made_ok p b w c6)
  have HA := hide (addr_any h)
  have HP := hide h
  have hlen : L.length ≤ 12 := by obtain ⟨f, h⟩ := h; exact h.wl.len
  have htot : tot L ≤ 1024 := by obtain ⟨f, h⟩ := h; exact Nat.le_trans h.wl.tot h.ok.w
  obtain ⟨i0, hi, hz0, hz1, hz2⟩ := info_parts (P := Try.prog) (e := 69) (z := .agg #[.int .u32 0, .int .u64 0]) (size := 2) (bytes := 16) (by kernel_rfl)
  clear h c6
  go_enter Try.func11, Try.ntmps11
  go_wp2_with fail
  refine (unhide H).mono ?_
  rintro e w1 ⟨rfl, rfl⟩
  go_wp2_with fail
  refine (unhide HA).mono ?_
  rintro e W2 ⟨sp, cap, rfl, hrow, hB2⟩
  have HROW := hide hrow
  have HP2 := hide ((unhide HP).below hB2)
  have HB2 := hide hB2
  clear hrow hB2 H HA HP
  go_wp2
  go_loopw [3, 14] (fun v i wr => ∃ (k : Nat) (us : List Value), k ≤ L.length ∧ i = .int .i64 (k : Int) ∧ wr.ownsRow W2.heap.size 69 2 v (tot (L.take k)) us ∧ Below W2.heap.size W2 wr) (fun _ i _ => L.length - (intOf i).toNat)
  case atStart => exact ⟨0, [], Nat.zero_le _, rfl, World.ownsRow_nil _ _ _ _, Below.refl _ _⟩
  case round =>
    obtain ⟨k, us, hk, rfl, hown, hbel⟩ := hrel
    by_cases hlt : k < L.length
    · obtain ⟨x, hx⟩ : ∃ x, L[k]? = some x := ⟨L[k], List.getElem?_eq_getElem hlt⟩
      obtain ⟨g, rfl, hck, hcap⟩ := row_at_k (k := k) (u := .int .u32 (x.1 : Int)) (unhide HROW) (by simp [keysN, hx, v32]) hlt
      have hglt : g < W2.heap.size := World.block_lt_of_cell? W2 ⟨g, k, none⟩ hck
      have dck := (hbel.cell (p := ⟨g, k, none⟩) hglt).trans hck
      obtain ⟨f, hPf2⟩ := unhide HP2
      have hPf := hPf2.below hbel
      obtain ⟨c6, _, _, hp, _⟩ := (show PN No wr p b c last L from ⟨f, hPf⟩).facts
      have hmem : x ∈ L := List.mem_of_getElem? hx
      have hxk := hPf.wl.key x hmem
      have hl := hPf.look_some hxk (lookN_mem hPf.wl.srt hmem) false
      simp only [Bool.false_eq_true, if_false, evE] at hl
      have hxr := hPf2.row x hmem
      obtain ⟨sq, sc, hsl⟩ := row_shape hxr
      rw [hsl] at hl hxr
      have htk := tot_take hx
      have htl := tot_le (L := L) (k + 1)
      obtain ⟨ip, ⟨s, m, t, a, ws⟩⟩ := x
      simp only at hl hxr htk dck hxk
      have hf : ∀ w, (Instr.field 58 (.agg #[.int .u8 (s : Int), .int .u64 (m : Int), .int .i64 (t : Int), .int .i64 (a : Int), .slice sq ws.length sc]) 4).run Try.prog w = .ok (.slice sq ws.length sc) w := fun _ => by kernel_rfl
      have HXR := hide hxr
      have HTK := hide htk
      have HOWN := hide hown
      have hi1 : (0 : Int) ≤ (k : Int) := by omega
      have hi2 : (k : Int) < (L.length : Int) := by omega
      have hi3 : (L.length : Int) ≤ (cap : Int) := by omega
      have hsz := hbel.size
      obtain ⟨T0, hT0⟩ : ∃ T0, T0 = tot (L.take k) := ⟨_, rfl⟩
      have HT0 := hide hT0
      have hT0b : T0 + ws.length ≤ 1024 := by omega
      clear hxr htk hown hPf hPf2 hck hx hmem hsl htl hT0
      generalize hwn : ws.length = wn at *
      have HWN := hide hwn
      clear hwn
      go_wp2_with fail
      go_loopw [3, 26] (fun v i wi => ∃ (j : Nat) (us : List Value), j ≤ wn ∧ i = .int .i64 (j : Int) ∧ wi.ownsRow W2.heap.size 69 2 v (T0 + j) us ∧ Below W2.heap.size W2 wi) (fun _ i _ => wn - (intOf i).toNat)
      case atStart => exact ⟨0, us, Nat.zero_le _, rfl, by rw [unhide HT0]; exact unhide HOWN, hbel⟩
      case round =>
        obtain ⟨j, us2, hj, rfl, hown2, hbel2⟩ := hrel
        by_cases hjl : j < wn
        · obtain ⟨n, hnj⟩ : ∃ n, ws[j]? = some n := ⟨_, List.getElem?_eq_getElem (by rw [unhide HWN]; exact hjl)⟩
          obtain ⟨g2, rfl, hcn, hcap2⟩ := row_at_k (k := j) (u := .int .u64 (n : Int)) (unhide HXR) (by simp [u64s, hnj]) hjl
          have hg2 : g2 < W2.heap.size := World.block_lt_of_cell? W2 ⟨g2, j, none⟩ hcn
          have dcn := (hbel2.cell (p := ⟨g2, j, none⟩) hg2).trans hcn
          have hj1 : (0 : Int) ≤ (j : Int) := by omega
          have hj2 : (j : Int) < (wn : Int) := by omega
          have hj3 : (wn : Int) ≤ (sc : Int) := by omega
          have hsz2 := hbel2.size
          have hlt2 := hown2.lt
          clear hcn hnj hl hf dck c6
          go_wp2_with (at_builtin; refine wpList_append_lies _ rfl _ _ 44 rfl W2.heap.size 69 i0 _ 2 16 Try.underlying44 hi hz0 hz1 hz2 rfl (by decide) u3 (T0 + j) _ rfl (hown2.alloc _) ⟨wr.heap.size, 0, none⟩ 1 1 [.int .u32 (ip : Int), .int .u64 (n : Int)] rfl rfl (World.news_of_block (heap_alloc_new wr _)) (by intro u hu; simp at hu; rcases hu with rfl | rfl <;> rfl) (by decide) (by unfold maxLen; omega) (by omega) (by simp; omega) _ rfl ?_; intro g3 cap3 w5 hown5 hgrow5 hat5 hlt5)
          refine ⟨⟨j + 1, _, by omega, by go_num, hown5, (hbel2.alloc hsz2 _).grown hgrow5 (by simp; omega) (fun j hj => (hlt2 j hj).1)⟩, by simp [intOf]; omega⟩
        · obtain rfl : j = wn := by omega
          go_wp2
          refine ⟨⟨k + 1, us2, by omega, by go_num, ?_, hbel2⟩, by simp [intOf]; omega⟩
          rw [unhide HTK, ← unhide HT0]
          exact hown2
    · obtain rfl : k = L.length := by omega
      rw [List.take_length] at hown
      obtain ⟨sp3, cap3, rfl⟩ := row_shape hown
      go_wp2
      go_ret
      exact ⟨_, _, rfl, tr2 (unhide HB2) hbel⟩
end

/-! ### a law's own map: numbers to addresses -/
def encM (x : Nat × Nat) : Value := .int .u32 (x.2 : Int)
def MP (w : World) (bm : Nat) (M : Nums) : Prop := w.ownsMap Try.prog 31 vE bm M.length (dmN .u64 encM M)
theorem law64 : Keyed Try.prog 31 := int_keyed Try.underlying31
theorem zero32 (w : World) : (zeroValue 35).run Try.prog w = .ok (.int .u32 0) w := by kernel_rfl
theorem wf64 {k : Nat} (h : k < 18446744073709551616) : (Lit.int .u64 (k : Int)).wf = true := by
  simp [Lit.wf, IntKind.min, IntKind.max, IntKind.signed, IntKind.bits]
  omega
theorem key64 {k : Nat} (h : k < 18446744073709551616) : keyOf Try.prog 31 (.int .u64 (k : Int)) = some (.int .u64 (k : Int)) := keyOf_int_mk Try.underlying31 (wf64 h)
section
variable {w w' : World} {bm : Nat} {M : Nums}
theorem MP.look (h : MP w bm M) {n ip : Nat} (hn : n < 18446744073709551616) (he : lookN n M = some ip) :
    (Instr.lookup 30 (.map (some bm)) (.int .u64 (n : Int)) false).run Try.prog w = .ok (.int .u32 (ip : Int)) w ∧ (Instr.lookup 30 (.map (some bm)) (.int .u64 (n : Int)) true).run Try.prog w = .ok (.tuple #[.int .u32 (ip : Int), .bool true]) w := by
  have fin : ∀ v ps, vE v = some ((dmN .u64 encM M).atKey (.int .u64 (n : Int)) (.held (.int .u32 0)), ps) → v = .int .u32 (ip : Int) := by
    intro v ps hv
    rw [dmN_at, he] at hv
    simp [vE, encM] at hv
    exact hv.1
  constructor
  · obtain ⟨v, ps, hrun, hv⟩ := World.ownsMap.lookup h law64 Try.underlying30 (zero32 w) (zd := .held (.int .u32 0)) (zp := []) rfl (key64 hn)
    rw [hrun, fin v ps hv]
  · obtain ⟨v, ps, hrun, hv⟩ := World.ownsMap.look_ok h law64 Try.underlying30 (zero32 w) (zd := .held (.int .u32 0)) (zp := []) rfl (key64 hn)
    rw [hrun, fin v ps hv, dmN_has, he]
    rfl
theorem MP.size (h : MP w bm M) : (Builtin.len_ #[30] 3 #[.map (some bm)]).run Try.prog w = .ok (.int .i64 (M.length : Int)) w := by
  have := World.ownsMap.len h Try.underlying30 3
  rwa [dmN_size] at this
theorem MP.store (h : MP w bm M) (hS : SrtN M) (hl : M.length < 1000000) {n ip : Nat} (hn : n < 18446744073709551616) :
    ∃ w2, (Instr.mapUpdate 30 (.map (some bm)) (.int .u64 (n : Int)) (.int .u32 (ip : Int))).run Try.prog w = .ok () w2 ∧ MP w2 bm (insN (n, ip) M) ∧ w.grownBy w2 (some bm) := by
  have hroom : M.length < maxLen := Nat.lt_of_lt_of_le hl (by decide)
  obtain ⟨w2, hrun, hown, hturn⟩ := World.ownsMap.store h (val := .int .u32 (ip : Int)) law64 Try.underlying30 hroom (key64 hn) rfl
  have e2 := dmN_put .u64 encM (n, ip) hS
  simp only [encM] at e2
  rw [e2] at hown
  exact ⟨w2, hrun, owns_len hown, hturn.grown⟩
theorem MP.drop (h : MP w bm M) {n : Nat} (hn : n < 18446744073709551616) :
    ∃ w2, (Builtin.delete_ #[30, 31] 0 #[.map (some bm), .int .u64 (n : Int)]).run Try.prog w = .ok (.tuple #[]) w2 ∧ MP w2 bm (delN n M) ∧ w.grownBy w2 (some bm) := by
  obtain ⟨w2, hrun, hown, hturn⟩ := World.ownsMap.drop h law64 Try.underlying30 (key64 hn) 0
  rw [dmN_del] at hown
  exact ⟨w2, hrun, owns_len hown, hturn.grown⟩
theorem MP.at (h : MP w bm M) (e : w'.heap[bm]? = w.heap[bm]?) : MP w' bm M := owns_at h e
theorem MP.lt (h : MP w bm M) : bm < w.heap.size := World.ownsMap.lt h
end

/-! ### calls that came in -/
abbrev Cl := Nat × Nat × Nat × Int
structure ClOk (x : Cl) : Prop where
  d : x.1 < 256
  i : x.2.1 < 256
  m : x.2.2.1 < 18446744073709551616
  b : (Lit.int .i64 x.2.2.2).wf = true
def IsCalls (w : World) (v : Value) (l : List Cl) : Prop :=
  (((∃ a c, v = .slice a 0 c) ∧ l = []) ∨ ∃ b off c, v = .slice (some ⟨b, off, none⟩) l.length c ∧ l.length ≤ c ∧ b < w.heap.size ∧
    ∀ k x, l[k]? = some x → w.cell? ⟨b, off + k * 4, none⟩ = some (.int .u8 (x.1 : Int)) ∧ w.cell? ⟨b, off + k * 4 + 1, none⟩ = some (.int .u8 (x.2.1 : Int)) ∧ w.cell? ⟨b, off + k * 4 + 2, none⟩ = some (.int .u64 (x.2.2.1 : Int)) ∧ w.cell? ⟨b, off + k * 4 + 3, none⟩ = some (.int .i64 x.2.2.2)) ∧
  l.length ≤ maxLen ∧ ∀ x ∈ l, ClOk x
theorem list4 {α : Type} (l : List α) (h : l.length = 4) : ∃ a b c d, l = [a, b, c, d] := match l, h with
  | [a, b, c, d], _ => ⟨a, b, c, d, rfl⟩
theorem pick {α : Type} {p : Nat → α → Prop} : ∀ m, (∀ i, i < m → ∃ x, p i x) → ∃ l : List α, l.length = m ∧ ∀ i x, l[i]? = some x → p i x
  | 0, _ => ⟨[], rfl, by simp⟩
  | m + 1, h => by
    obtain ⟨l, hl, hp⟩ := pick m (fun i hi => h i (by omega))
    obtain ⟨x, hx⟩ := h m (by omega)
    refine ⟨l ++ [x], by simp [hl], fun i y hy => ?_⟩
    rcases Nat.lt_trichotomy i m with g | g | g
    · rw [List.getElem?_append_left (by omega)] at hy
      exact hp i y hy
    · subst g
      rw [List.getElem?_append_right (by omega), hl] at hy
      simp at hy
      subst hy
      exact hx
    · rw [List.getElem?_append_right (by omega), hl] at hy
      have : i - m ≠ 0 := by omega
      simp [this] at hy
set_option maxRecDepth 100000 in
theorem isCalls_of {H : Type} {enc : TypeId × Value → H} {W : World} {a0 : Option Addr} {len0 cap0 : Nat} {d : DataW H} {ps : List MemPlace}
    (h : DataW.Trod enc Try.prog W 0 (fun _ => true) true 24 (.slice a0 len0 cap0) d ps) : ∃ l, IsCalls W (.slice a0 len0 cap0) l := by
  obtain ⟨fuel, hf⟩ := h
  rcases Go.Deep.open_slice Try.underlying24 hf with ⟨hcs, _⟩ | ⟨a, len, cap, m, n, D, Pl, hcs, _, hl, hm, hmm, _, hx⟩
  · simp [Value.cells] at hcs
    obtain ⟨rfl, rfl, rfl⟩ := hcs
    exact ⟨[], .inl ⟨⟨_, _, rfl⟩, rfl⟩, by simp, by simp⟩
  · simp [Value.cells] at hcs
    obtain ⟨rfl, rfl, rfl⟩ := hcs
    simp only [if_true] at hmm
    subst hmm
    have hce : Try.prog.cellsOf 34 = 4 := by kernel_rfl
    rw [hce] at hx
    have k5 : Try.prog.cellsOf 5 = 1 := by kernel_rfl
    have k1 : Try.prog.cellsOf 32 = 1 := by kernel_rfl
    have k2 : Try.prog.cellsOf 2 = 1 := by kernel_rfl
    have step : ∀ i, i < m → ∃ x : Cl, ClOk x ∧ W.cell? (a.add (i * 4)) = some (.int .u8 (x.1 : Int)) ∧ W.cell? ((a.add (i * 4)).add 1) = some (.int .u8 (x.2.1 : Int)) ∧ W.cell? ((a.add (i * 4)).add 2) = some (.int .u64 (x.2.2.1 : Int)) ∧ W.cell? ((a.add (i * 4)).add 3) = some (.int .i64 x.2.2.2) := by
      intro i hi
      obtain ⟨cs', h1, h2⟩ := hx i hi
      obtain ⟨_, hl4, hc⟩ := World.cells?_some h1
      obtain ⟨u0, u1, u2, u3, rfl⟩ := list4 cs' hl4
      obtain ⟨xs, q, _, _, _, hlen, ht⟩ := DataW.trod_struct Try.underlying34 h2
      obtain ⟨y0, y1, y2, y3, rfl⟩ := list4 xs hlen
      have e0 : DataW.trod enc Try.prog W 0 (fun _ => true) true q 5 [u0] = some y0 := by simpa [k5] using ht 0 _ rfl
      have e1 : DataW.trod enc Try.prog W 0 (fun _ => true) true q 5 [u1] = some y1 := by simpa [k5] using ht 1 _ rfl
      have e2 : DataW.trod enc Try.prog W 0 (fun _ => true) true q 32 [u2] = some y2 := by simpa [k1] using ht 2 _ rfl
      have e3 : DataW.trod enc Try.prog W 0 (fun _ => true) true q 2 [u3] = some y3 := by simpa [k2] using ht 3 _ rfl
      obtain ⟨n0, g0, _, w0⟩ := DataW.trod_int Try.underlying5 e0
      obtain ⟨n1, g1, _, w1⟩ := DataW.trod_int Try.underlying5 e1
      obtain ⟨n2, g2, _, w2⟩ := DataW.trod_int Try.underlying32 e2
      obtain ⟨n3, g3, _, w3⟩ := DataW.trod_int Try.underlying2 e3
      obtain rfl : u0 = .int .u8 n0 := by simpa using g0
      obtain rfl : u1 = .int .u8 n1 := by simpa using g1
      obtain rfl : u2 = .int .u64 n2 := by simpa using g2
      obtain rfl : u3 = .int .i64 n3 := by simpa using g3
      obtain ⟨z0, rfl, hz0⟩ := nat8 w0
      obtain ⟨z1, rfl, hz1⟩ := nat8 w1
      obtain ⟨z2, rfl, hz2⟩ := nat64 w2
      refine ⟨(z0, z1, z2, n3), ⟨hz0, hz1, hz2, w3⟩, ?_, ?_, ?_, ?_⟩
      · have := hc 0 (by omega); simpa [Addr.add] using this
      · have := hc 1 (by omega); simpa using this
      · have := hc 2 (by omega); simpa using this
      · have := hc 3 (by omega); simpa using this
    obtain ⟨l, hlen, hp⟩ := pick len0 (fun i hi => step i (by omega))
    refine ⟨l, ?_, by omega, fun x hx => ?_⟩
    · by_cases h0 : len0 = 0
      · subst h0
        exact .inl ⟨⟨_, _, rfl⟩, List.eq_nil_of_length_eq_zero hlen⟩
      · obtain ⟨b, off, spot⟩ := a
        obtain ⟨x0, hx0⟩ : ∃ x, l[0]? = some x := ⟨l[0], List.getElem?_eq_getElem (by omega)⟩
        have hc := (hp 0 x0 hx0).2.1
        have hspot : spot = none := by simpa [Addr.add] using World.cell?_spot hc
        subst hspot
        have hadd : ∀ o j : Nat, (⟨b, o, none⟩ : Addr).add j = ⟨b, o + j, none⟩ := fun o j => by unfold Addr.add; split <;> simp_all
        refine .inr ⟨b, off, m, by rw [hlen], by omega, ?_, fun k x hx => ?_⟩
        · rw [hadd] at hc
          exact World.block_lt_of_cell? W _ hc
        · obtain ⟨_, g0, g1, g2, g3⟩ := hp k x hx
          rw [hadd] at g0
          rw [hadd, hadd] at g1 g2 g3
          exact ⟨g0, g1, g2, g3⟩
    · obtain ⟨k, hk⟩ := List.getElem?_of_mem hx
      exact (hp k x hk).1
end Go.Proofs.Ytjcigoojlmalnaa
