/- What a round of Tick's loop does to memory: an entry is stale, goes, or is asked again; what is lost, and who is asked, is appended. -/
import Derived.Test.YtjcigoojlmalnaaNt2
import Derived.Deep.Upon
namespace Go.Proofs.Ytjcigoojlmalnaa
open Go.RowKit Go.Shelf Go.Maps

/-- an append, as a run that is known -/
theorem wpListIn_app {F : Fence} {n : Nat} {P : Program} {ops : Array Oper} {rest : List Oper} {o : Oper} {a : Act} {Q : Exit → Act → World → Prop} {w w' : World} {v u v' : Value}
    (hg : o.guard = none) (s x : Operand) (t : TypeId) (hop : o.op = Op.call { callee := Callee.builtin Builtin.append, args := #[s, x], argTypes := #[t, t] }) (hs : a.eval s = v) (hx : a.eval x = u)
    (hrun : (Builtin.append_ #[t, t] o.type #[v, u]).run P w = .ok v' w') (h : wpListIn F n P ops Q rest (a.put o.dst v') w') : wpListIn F n P ops Q (o :: rest) a w := by
  refine wpListIn_plain hg fun K hK' => ?_
  unfold Oper.wpIn
  refine ⟨?_, ?_⟩
  · simp [Oper.about, hop, resolve, Target.leads, Sem.run_pure]
  · rw [Oper.semAt_plain F _ _ (by rw [hop]; intro c hc'; cases hc')]
    simp [execOp, hop, resolve, invoke, builtin, hs, hx, hrun, Result.andThen]
    exact hK' _ _ h

/-- a row is appended to a row -/
theorem app_row {W : World} (t ty e : TypeId) (z : Value) (bytes : Nat) (ht : Try.prog.underlying t = some (.slice e)) {i : TypeInfo} (hi : Try.prog.info? e = some i) (hz0 : i.zero = some z) (hz1 : i.size = 1) (hz2 : i.bytes = bytes) (hzc : z.cells.size = 1) (hb : bytes ≤ 8)
    {v u : Value} {n m : Nat} {xs ys : List Value} (hv : W.ownsRow 0 e 1 v n xs) (hu : W.ownsRow 0 e 1 u m ys) (h1 : ∀ y ∈ ys, y.oneCell' = true) (hnm : n + m ≤ 100000) :
    ∃ sp cap w', (Builtin.append_ #[t, t] ty #[v, u]).run Try.prog W = .ok (.slice sp (n + m) cap) w' ∧ w'.ownsRow 0 e 1 (.slice sp (n + m) cap) (n + m) (xs ++ ys) ∧ W.grownBy w' v.ownBlock ∧
      ((Value.slice sp (n + m) cap).ownBlock = v.ownBlock ∨ (Value.slice sp (n + m) cap).ownBlock = some W.heap.size) := by
  have hbb : (n + m) * bytes ≤ 140737488355328 := Nat.le_trans (Nat.mul_le_mul hnm hb) (by decide)
  rcases hu.2 with ⟨rfl, rfl⟩ | ⟨g, cap, cur, rfl, _, hg, h2, h3, h4, h5⟩
  · obtain rfl : ys = [] := List.eq_nil_of_length_eq_zero (by have := hu.1; simpa using this)
    obtain ⟨sp, sc, rfl⟩ := row_shape hv
    have hle : n ≤ sc := by
      rcases hv.2 with ⟨h, rfl⟩ | ⟨g, cap, cur, h, _, _, h2, _⟩
      · exact Nat.zero_le _
      · cases h; exact h2
    refine ⟨sp, sc, W, ?_, by simpa using hv, World.grownBy.refl _ _, .inl rfl⟩
    exact run_append_nothing W t t ty e i ht hi sp n sc hle _ (Src.ofNil W ht 0)
  · have hnews : ∀ j y, ys[j]? = some y → W.cell? ((⟨g, 0, none⟩ : Addr).add j) = some y := fun j y hj => by
      have hj' : j < m := by have := (List.getElem?_eq_some_iff.1 hj).1; rw [hu.1] at this; omega
      have : (cur.toList.take (m * 1))[j]? = some y := by rw [h5]; exact hj
      rw [List.getElem?_take_of_lt (by omega)] at this
      by_cases hj0 : j = 0
      · subst hj0
        simpa [Addr.add, World.cell?, hg] using this
      · simpa [Addr.add, hj0, World.cell?, hg] using this
    obtain ⟨v', w', hr, h6, h7, _, h9⟩ := run_append_own_at (P := Try.prog) W 0 t ty e i z 1 bytes ht hi hz0 hz1 hz2 hzc Nat.one_pos v n xs hv ⟨g, 0, none⟩ m cap ys hu.1 hnews h1 (by unfold maxLen; omega) hbb (Nat.zero_le _)
    obtain ⟨sp, sc, rfl⟩ := row_shape h6
    exact ⟨sp, sc, w', hr, h6, h7, h9⟩

section
variable {No : Nat → Prop} {w : World} {p b : Nat} {c : Cf} {last : Nat} {L : Ens} {f : Nat → Value}
/-- other blocks are counted as foreign -/
theorem PNf.other (h : PNf No w p b c last L f) {No' : Nat → Prop} (hN : ∀ i, No' i → i < w.heap.size ∧ (No i ∨ (i ≠ p ∧ i ≠ b ∧ ∀ x ∈ L, (f x.1).ownBlock ≠ some i))) : PNf No' w p b c last L f :=
  ⟨h.box, h.map, h.row, h.apart, fun k => (hN _ k).2.elim h.shp (fun q => q.1 rfl), fun k => (hN _ k).2.elim h.shb (fun q => q.2.1 rfl), fun x hx g hg k => (hN _ k).2.elim (h.shr x hx g hg) (fun q => q.2.2 x hx hg), h.wl, h.ok, fun i hi => (hN i hi).1⟩
end

/-- between two rounds, plainly -/
structure TG (Ba Bl p b : Nat) (c : Cf) (t : Nat) (No : Nat → Prop) (Lc : Ens) (A O : List Nat) (f : Nat → Value) (va vl : Value) (W : World) : Prop where
  pn : PNf (NT No Ba Bl va vl) W p b c t Lc f
  ba : W.heap[Ba]? = some (.cells #[va] 40 (0, 0))
  bl : W.heap[Bl]? = some (.cells #[vl] 36 (0, 0))
  ra : W.ownsRow 0 35 1 va A.length (A.map v32)
  rl : W.ownsRow 0 31 1 vl O.length (u64s O)
  na : ¬ No Ba
  nl : ¬ No Bl
  nra : ∀ g, va.ownBlock = some g → ¬ No g
  nrl : ∀ g, vl.ownBlock = some g → ¬ No g

section
variable {Ba Bl p b : Nat} {c : Cf} {t : Nat} {L D Lc : Ens} {A O : List Nat} {No : Nat → Prop} {f : Nat → Value} {va vl : Value} {W W' : World}
theorem TI.tg (h : TI Ba Bl p b c t L No D f va vl W) : TG Ba Bl p b c t No (stepsN c t L D) (asksN c D) (lostN c D) f va vl W := ⟨h.pn, h.ba, h.bl, h.ra, h.rl, h.na, h.nl, h.nra, h.nrl⟩
theorem TG.ti (h : TG Ba Bl p b c t No (stepsN c t L D) (asksN c D) (lostN c D) f va vl W) : TI Ba Bl p b c t L No D f va vl W := ⟨h.pn, h.ba, h.bl, h.ra, h.rl, h.na, h.nl, h.nra, h.nrl⟩
theorem TG.below (h : TG Ba Bl p b c t No Lc A O f va vl W) (k : Below W.heap.size W W') : TG Ba Bl p b c t No Lc A O f va vl W' :=
  ⟨h.pn.below k, (k.block _ (Array.getElem?_eq_some_iff.1 h.ba).1).trans h.ba, (k.block _ (Array.getElem?_eq_some_iff.1 h.bl).1).trans h.bl, row_at h.ra (fun g hg => k.block g (h.ra.lt g hg).2), row_at h.rl (fun g hg => k.block g (h.rl.lt g hg).2), h.na, h.nl, h.nra, h.nrl⟩
theorem TG.less (h : TG Ba Bl p b c t No Lc A O f va vl W) {No' : Nat → Prop} (hN : ∀ i, No' i → No i) : TG Ba Bl p b c t No' Lc A O f va vl W :=
  ⟨h.pn.less (fun i hi => hi.elim (fun q => .inl (hN i q)) .inr), h.ba, h.bl, h.ra, h.rl, fun k => h.na (hN _ k), fun k => h.nl (hN _ k), fun g hg k => h.nra g hg (hN _ k), fun g hg k => h.nrl g hg (hN _ k)⟩
theorem nt_has (No : Nat → Prop) (Ba Bl : Nat) (va vl : Value) : (∀ i, No i → NT No Ba Bl va vl i) ∧ NT No Ba Bl va vl Ba ∧ NT No Ba Bl va vl Bl ∧ (∀ g, va.ownBlock = some g → NT No Ba Bl va vl g) ∧ (∀ g, vl.ownBlock = some g → NT No Ba Bl va vl g) :=
  ⟨fun _ h => .inl h, .inr (.inl rfl), .inr (.inr (.inl rfl)), fun _ h => .inr (.inr (.inr (.inl h))), fun _ h => .inr (.inr (.inr (.inr h)))⟩
/-- the entries turn, nothing else -/
theorem TG.entries (h : TG Ba Bl p b c t No Lc A O f va vl W) {Lc' : Ens} {f' : Nat → Value} (hp : PNf (NT No Ba Bl va vl) W' p b c t Lc' f') (hk : Ks (NT No Ba Bl va vl) W W') : TG Ba Bl p b c t No Lc' A O f' va vl W' ∧ Ks No W W' := by
  obtain ⟨n1, n2, n3, n4, n5⟩ := nt_has No Ba Bl va vl
  exact ⟨⟨hp, (hk.block _ (Array.getElem?_eq_some_iff.1 h.ba).1 n2).trans h.ba, (hk.block _ (Array.getElem?_eq_some_iff.1 h.bl).1 n3).trans h.bl, row_at h.ra (fun g hg => hk.block g (h.ra.lt g hg).2 (n4 g hg)), row_at h.rl (fun g hg => hk.block g (h.rl.lt g hg).2 (n5 g hg)), h.na, h.nl, h.nra, h.nrl⟩, hk.mono n1⟩
theorem TG.ne (h : TG Ba Bl p b c t No Lc A O f va vl W) : Ba ≠ Bl := fun e => by
  have h1 := h.ba
  rw [e, h.bl] at h1
  cases h1
theorem row31_ne {v : Value} {n k : Nat} {xs : List Value} (h : W.ownsRow 0 31 1 v n xs) {o : Array Value} {ty : TypeId} (hk : W.heap[k]? = some (.cells o ty (0, 0))) (hty : ty ≠ 31) : v.ownBlock ≠ some k := fun e => by
  obtain ⟨cur, hc⟩ := row_cells h e
  rw [hk] at hc
  cases hc
  exact hty rfl
theorem row35_ne {v : Value} {n k : Nat} {xs : List Value} (h : W.ownsRow 0 35 1 v n xs) {o : Array Value} {ty : TypeId} (hk : W.heap[k]? = some (.cells o ty (0, 0))) (hty : ty ≠ 35) : v.ownBlock ≠ some k := fun e => by
  obtain ⟨cur, hc⟩ := row_cells h e
  rw [hk] at hc
  cases hc
  exact hty rfl

/-- what is lost is appended -/
theorem TG.lose (h : TG Ba Bl p b c t No Lc A O f va vl W) {u : Value} {ws : List Nat} (hu : W.ownsRow 0 31 1 u ws.length (u64s ws)) (hlen : O.length + ws.length ≤ 100000) :
    ∃ sp cap w2, (Builtin.append_ #[36, 36] 36 #[vl, u]).run Try.prog W = .ok (.slice sp (O.length + ws.length) cap) w2 ∧ w2.cell? ⟨Bl, 0, none⟩ = some vl ∧ w2.frozen? ⟨Bl, 0, none⟩ = false ∧
      TG Ba Bl p b c t No Lc A (O ++ ws) f va (.slice sp (O.length + ws.length) cap) (w2.setCell ⟨Bl, 0, none⟩ (.slice sp (O.length + ws.length) cap)) ∧ Ks No W (w2.setCell ⟨Bl, 0, none⟩ (.slice sp (O.length + ws.length) cap)) := by
  obtain ⟨i0, hi, hz0, hz1, hz2⟩ := info_parts (P := Try.prog) (e := 31) (z := .int .u64 0) (size := 1) (bytes := 8) (by kernel_rfl)
  obtain ⟨sp, cap, w2, hrun, hown, hg, hat⟩ := app_row 36 36 31 (.int .u64 0) 8 Try.underlying36 hi hz0 hz1 hz2 rfl (Nat.le_refl _) h.rl hu (fun y hy => by obtain ⟨k, _, rfl⟩ := List.mem_map.1 hy; rfl) hlen
  have lBl := (Array.getElem?_eq_some_iff.1 h.bl).1
  have lBa := (Array.getElem?_eq_some_iff.1 h.ba).1
  have n1 : vl.ownBlock ≠ some Bl := row31_ne h.rl h.bl (by decide)
  have n2 : vl.ownBlock ≠ some Ba := row31_ne h.rl h.ba (by decide)
  have hbl2 : w2.heap[Bl]? = some (.cells #[vl] 36 (0, 0)) := (hg.block Bl lBl (fun e => n1 e.symm)).trans h.bl
  refine ⟨sp, cap, w2, hrun, by simp [World.cell?, hbl2], by simp [World.frozen?, hbl2], ?_⟩
  generalize Value.slice sp (O.length + ws.length) cap = vl' at *
  have hold : ∀ k, k < W.heap.size → k ≠ Bl → vl.ownBlock ≠ some k → (w2.setCell ⟨Bl, 0, none⟩ vl').heap[k]? = W.heap[k]? := fun k hk h1 h2 => by
    rw [heap_setCell_other w2 _ k _ h1]
    exact hg.block k hk (fun e => h2 e.symm)
  have hsz : W.heap.size ≤ (w2.setCell ⟨Bl, 0, none⟩ vl').heap.size := by simpa using hg.size
  have hp1 : PNf (NT No Ba Bl va vl) (w2.setCell ⟨Bl, 0, none⟩ vl') p b c t Lc f := by
    refine h.pn.at hsz (hold p h.pn.plt (fun e => h.pn.shp (e ▸ .inr (.inr (.inl rfl)))) (fun e => h.pn.shp (.inr (.inr (.inr (.inr e)))))) (hold b h.pn.blt (fun e => h.pn.shb (e ▸ .inr (.inr (.inl rfl)))) (fun e => h.pn.shb (.inr (.inr (.inr (.inr e))))))
      (fun x hx g hgx => hold g ((h.pn.row x hx).lt g hgx).2 (fun e => h.pn.shr x hx g hgx (e ▸ .inr (.inr (.inl rfl)))) (fun e => h.pn.shr x hx g hgx (.inr (.inr (.inr (.inr e))))))
  have hlt' : ∀ g, vl'.ownBlock = some g → g < (w2.setCell ⟨Bl, 0, none⟩ vl').heap.size := fun g hg' => by have := (hown.lt g hg').2; simpa using this
  have hp2 : PNf (NT No Ba Bl va vl') (w2.setCell ⟨Bl, 0, none⟩ vl') p b c t Lc f := by
    refine hp1.other (fun i hi => ?_)
    rcases hi with hi | rfl | rfl | hi | hi
    · exact ⟨hp1.nlt i (.inl hi), .inl (.inl hi)⟩
    · exact ⟨hp1.nlt i (.inr (.inl rfl)), .inl (.inr (.inl rfl))⟩
    · exact ⟨hp1.nlt i (.inr (.inr (.inl rfl))), .inl (.inr (.inr (.inl rfl)))⟩
    · exact ⟨hp1.nlt i (.inr (.inr (.inr (.inl hi)))), .inl (.inr (.inr (.inr (.inl hi))))⟩
    · refine ⟨hlt' i hi, ?_⟩
      rcases hat with hat | hat
      · exact .inl (.inr (.inr (.inr (.inr (hat.symm.trans hi)))))
      · have e : i = W.heap.size := by rw [hi] at hat; simpa using hat
        refine .inr ⟨fun q => ?_, fun q => ?_, fun x hx q => ?_⟩
        · have := h.pn.plt; omega
        · have := h.pn.blt; omega
        · have := ((h.pn.row x hx).lt i q).2; omega
  have hnb : vl'.ownBlock ≠ some Bl := row31_ne hown hbl2 (by decide)
  have nvl' : ∀ g, vl'.ownBlock = some g → ¬ No g := fun g hg' => by
    rcases hat with hat | hat
    · exact h.nrl g (hat.symm.trans hg')
    · have e : g = W.heap.size := by rw [hg'] at hat; simpa using hat
      intro k
      have := h.pn.nlt g (.inl k)
      omega
  refine ⟨⟨hp2, ?_, ?_, row_at h.ra (fun g hg' => hold g (h.ra.lt g hg').2 (fun e => row35_ne h.ra h.bl (by decide) (e ▸ hg')) (fun e => ?_)), ?_, h.na, h.nl, h.nra, nvl'⟩, ⟨hg.os, hg.tape, hg.output, hsz, fun k hk hn => hold k hk (fun e => h.nl (e ▸ hn)) (fun e => h.nrl k e hn)⟩⟩
  · rw [hold Ba lBa h.ne n2]; exact h.ba
  · rw [heap_setCell_same w2 Bl 0 _ _ _ hbl2]; rfl
  · obtain ⟨c1, hc1⟩ := row_cells h.rl e
    exact row35_ne h.ra hc1 (by decide) hg'
  · have := row_at hown (w' := w2.setCell ⟨Bl, 0, none⟩ vl') (fun g hg' => heap_setCell_other w2 _ g _ (fun e => hnb (by rw [hg', e])))
    rw [List.length_append, u64s, List.map_append]
    exact this

/-- who is asked is appended -/
theorem TG.ask (h : TG Ba Bl p b c t No Lc A O f va vl W) {ip : Nat} {u : Value} (hu : W.ownsRow 0 35 1 u 1 [v32 ip]) (hlen : A.length + 1 ≤ 100000) :
    ∃ sp cap w2, (Builtin.append_ #[40, 40] 40 #[va, u]).run Try.prog W = .ok (.slice sp (A.length + 1) cap) w2 ∧ w2.cell? ⟨Ba, 0, none⟩ = some va ∧ w2.frozen? ⟨Ba, 0, none⟩ = false ∧
      TG Ba Bl p b c t No Lc (A ++ [ip]) O f (.slice sp (A.length + 1) cap) vl (w2.setCell ⟨Ba, 0, none⟩ (.slice sp (A.length + 1) cap)) ∧ Ks No W (w2.setCell ⟨Ba, 0, none⟩ (.slice sp (A.length + 1) cap)) := by
  obtain ⟨i0, hi, hz0, hz1, hz2⟩ := info_parts (P := Try.prog) (e := 35) (z := .int .u32 0) (size := 1) (bytes := 4) (by kernel_rfl)
  obtain ⟨sp, cap, w2, hrun, hown, hg, hat⟩ := app_row 40 40 35 (.int .u32 0) 4 Try.underlying40 hi hz0 hz1 hz2 rfl (by decide) h.ra hu (fun y hy => by rw [List.mem_singleton.1 hy]; rfl) hlen
  have lBl := (Array.getElem?_eq_some_iff.1 h.bl).1
  have lBa := (Array.getElem?_eq_some_iff.1 h.ba).1
  have n1 : va.ownBlock ≠ some Ba := row35_ne h.ra h.ba (by decide)
  have n2 : va.ownBlock ≠ some Bl := row35_ne h.ra h.bl (by decide)
  have hba2 : w2.heap[Ba]? = some (.cells #[va] 40 (0, 0)) := (hg.block Ba lBa (fun e => n1 e.symm)).trans h.ba
  refine ⟨sp, cap, w2, hrun, by simp [World.cell?, hba2], by simp [World.frozen?, hba2], ?_⟩
  generalize Value.slice sp (A.length + 1) cap = va' at *
  have hold : ∀ k, k < W.heap.size → k ≠ Ba → va.ownBlock ≠ some k → (w2.setCell ⟨Ba, 0, none⟩ va').heap[k]? = W.heap[k]? := fun k hk h1 h2 => by
    rw [heap_setCell_other w2 _ k _ h1]
    exact hg.block k hk (fun e => h2 e.symm)
  have hsz : W.heap.size ≤ (w2.setCell ⟨Ba, 0, none⟩ va').heap.size := by simpa using hg.size
  have hp1 : PNf (NT No Ba Bl va vl) (w2.setCell ⟨Ba, 0, none⟩ va') p b c t Lc f := by
    refine h.pn.at hsz (hold p h.pn.plt (fun e => h.pn.shp (e ▸ .inr (.inl rfl))) (fun e => h.pn.shp (.inr (.inr (.inr (.inl e)))))) (hold b h.pn.blt (fun e => h.pn.shb (e ▸ .inr (.inl rfl))) (fun e => h.pn.shb (.inr (.inr (.inr (.inl e))))))
      (fun x hx g hgx => hold g ((h.pn.row x hx).lt g hgx).2 (fun e => h.pn.shr x hx g hgx (e ▸ .inr (.inl rfl))) (fun e => h.pn.shr x hx g hgx (.inr (.inr (.inr (.inl e))))))
  have hlt' : ∀ g, va'.ownBlock = some g → g < (w2.setCell ⟨Ba, 0, none⟩ va').heap.size := fun g hg' => by have := (hown.lt g hg').2; simpa using this
  have hp2 : PNf (NT No Ba Bl va' vl) (w2.setCell ⟨Ba, 0, none⟩ va') p b c t Lc f := by
    refine hp1.other (fun i hi => ?_)
    rcases hi with hi | rfl | rfl | hi | hi
    · exact ⟨hp1.nlt i (.inl hi), .inl (.inl hi)⟩
    · exact ⟨hp1.nlt i (.inr (.inl rfl)), .inl (.inr (.inl rfl))⟩
    · exact ⟨hp1.nlt i (.inr (.inr (.inl rfl))), .inl (.inr (.inr (.inl rfl)))⟩
    · refine ⟨hlt' i hi, ?_⟩
      rcases hat with hat | hat
      · exact .inl (.inr (.inr (.inr (.inl (hat.symm.trans hi)))))
      · have e : i = W.heap.size := by rw [hi] at hat; simpa using hat
        refine .inr ⟨fun q => ?_, fun q => ?_, fun x hx q => ?_⟩
        · have := h.pn.plt; omega
        · have := h.pn.blt; omega
        · have := ((h.pn.row x hx).lt i q).2; omega
    · exact ⟨hp1.nlt i (.inr (.inr (.inr (.inr hi)))), .inl (.inr (.inr (.inr (.inr hi))))⟩
  have hnb : va'.ownBlock ≠ some Ba := row35_ne hown hba2 (by decide)
  have nva' : ∀ g, va'.ownBlock = some g → ¬ No g := fun g hg' => by
    rcases hat with hat | hat
    · exact h.nra g (hat.symm.trans hg')
    · have e : g = W.heap.size := by rw [hg'] at hat; simpa using hat
      intro k
      have := h.pn.nlt g (.inl k)
      omega
  refine ⟨⟨hp2, ?_, ?_, ?_, row_at h.rl (fun g hg' => hold g (h.rl.lt g hg').2 (fun e => row31_ne h.rl h.ba (by decide) (e ▸ hg')) (fun e => ?_)), h.na, h.nl, nva', h.nrl⟩, ⟨hg.os, hg.tape, hg.output, hsz, fun k hk hn => hold k hk (fun e => h.na (e ▸ hn)) (fun e => h.nra k e hn)⟩⟩
  · rw [heap_setCell_same w2 Ba 0 _ _ _ hba2]; rfl
  · rw [hold Bl lBl (fun e => h.ne e.symm) n2]; exact h.bl
  · have := row_at hown (w' := w2.setCell ⟨Ba, 0, none⟩ va') (fun g hg' => heap_setCell_other w2 _ g _ (fun e => hnb (by rw [hg', e])))
    rw [List.length_append, List.map_append]
    exact this
  · obtain ⟨c1, hc1⟩ := row_cells h.ra e
    exact row31_ne h.rl hc1 (by decide) hg'

theorem steps_snoc (c : Cf) (t : Nat) (L D : Ens) (y : Nat × En) : stepsN c t L (D ++ [y]) = stepN c t (stepsN c t L D) y := by simp [stepsN, List.foldl_append]
theorem asks_snoc (c : Cf) (D : Ens) (y : Nat × En) : asksN c (D ++ [y]) = if asksE c y.2 = true then asksN c D ++ [y.1] else asksN c D := by
  unfold asksN
  rw [List.filter_append, List.map_append]
  by_cases h : asksE c y.2 = true
  · simp [h]
  · simp [h]
theorem lost_snoc (c : Cf) (D : Ens) (y : Nat × En) : lostN c (D ++ [y]) = if goesE c y.2 = true then lostN c D ++ y.2.ws else lostN c D := by
  unfold lostN
  rw [List.filter_append, List.flatMap_append]
  by_cases h : goesE c y.2 = true
  · simp [h]
  · simp [h]

/-- an entry that was known is stale -/
theorem TG.stale (h : TG Ba Bl p b c t No Lc A O f va vl W) {ip : Nat} {e : En} (he : lookN ip Lc = some e) :
    ∃ w2, (Instr.mapUpdate 53 (.map (some b)) (.int .u32 (ip : Int)) (.agg #[.int .u8 3, .int .u64 (e.mac : Int), .int .i64 ((t : Int) + (c.known : Int)), .int .i64 0, .slice none 0 0])).run Try.prog W = .ok () w2 ∧
      (∃ f', TG Ba Bl p b c t No (insN (ip, ⟨3, e.mac, t + c.known, 0, []⟩) Lc) A O f' va vl w2) ∧ Ks No W w2 := by
  have hx := h.pn.wl.look he
  have h1 := h.pn.wl.lst
  have h2 := h.pn.ok.k2
  have hip : ip < 12 := h.pn.wl.key _ (lookN_some he)
  have hwl : WL c t (insN (ip, ⟨3, e.mac, t + c.known, 0, []⟩) Lc) := by
    refine h.pn.wl.ins hip ⟨.inr (.inr rfl), hx.mac, by show t + c.known ≤ _; omega, Nat.zero_le _, fun n hn => by simp at hn, fun q => by simp at q, fun _ => rfl⟩ ?_
    have h3 := h.pn.wl.tot
    have := tot_some (⟨3, e.mac, t + c.known, 0, []⟩ : En) h.pn.wl.srt he
    simp only [List.length_nil] at this
    omega
  obtain ⟨w2, hrun, hp2, hk, _⟩ := (h.pn.x ip).store hip (e := ⟨3, e.mac, t + c.known, 0, []⟩) (v := .slice none 0 0) (World.ownsRow_nil _ _ _ _) (fun g hg => by simp [Value.ownBlock] at hg) (fun x _ _ g hg => by simp [Value.ownBlock] at hg) hwl
  obtain ⟨r1, r2⟩ := h.entries hp2 hk
  refine ⟨w2, ?_, ⟨_, r1⟩, r2⟩
  rw [← Int.natCast_add]
  exact hrun
/-- an entry goes -/
theorem TG.go (h : TG Ba Bl p b c t No Lc A O f va vl W) {ip : Nat} {e : En} (he : lookN ip Lc = some e) :
    ∃ w2, (Builtin.delete_ #[53, 35] 0 #[.map (some b), .int .u32 (ip : Int)]).run Try.prog W = .ok (.tuple #[]) w2 ∧
      TG Ba Bl p b c t No (delN ip Lc) A O f va vl w2 ∧ Ks No W w2 ∧ w2.ownsRow 0 31 1 (f ip) e.ws.length (u64s e.ws) := by
  have hip : ip < 12 := h.pn.wl.key _ (lookN_some he)
  obtain ⟨w2, hrun, hp2, hk, hg⟩ := h.pn.drop hip (h.pn.wl.del ip)
  obtain ⟨r1, r2⟩ := h.entries hp2 hk
  have hr := h.pn.row _ (lookN_some he)
  refine ⟨w2, hrun, r1, r2, row_at hr (fun g hg' => hg.block g (hr.lt g hg').2 (fun q => row_ne_b h.pn hr (by rw [hg']; exact q)))⟩
/-- an entry is asked again -/
theorem TG.again (h : TG Ba Bl p b c t No Lc A O f va vl W) {ip : Nat} {e : En} (he : lookN ip Lc = some e) (ha : ¬ (e.asked = 0 ∨ e.asked = c.asks)) :
    ∃ w2, (Instr.mapUpdate 53 (.map (some b)) (.int .u32 (ip : Int)) (.agg #[.int .u8 (e.st : Int), .int .u64 (e.mac : Int), .int .i64 ((t + c.pause : Nat) : Int), .int .i64 ((e.asked + 1 : Nat) : Int), f ip])).run Try.prog W = .ok () w2 ∧
      (∃ f', TG Ba Bl p b c t No (insN (ip, { e with asked := e.asked + 1, tm := t + c.pause }) Lc) A O f' va vl w2) ∧ Ks No W w2 := by
  have hx := h.pn.wl.look he
  have h1 := h.pn.wl.lst
  have h2 := h.pn.ok.p2
  have hip : ip < 12 := h.pn.wl.key _ (lookN_some he)
  have hwl : WL c t (insN (ip, { e with asked := e.asked + 1, tm := t + c.pause }) Lc) := by
    have h4 := hx.asked
    refine h.pn.wl.ins hip ⟨hx.st, hx.mac, by show t + c.pause ≤ _; omega, by show e.asked + 1 ≤ _; omega, hx.num, fun q => ⟨by show 1 ≤ e.asked + 1; omega, Nat.le_refl _⟩, hx.no⟩ ?_
    have h3 := h.pn.wl.tot
    have := tot_some { e with asked := e.asked + 1, tm := t + c.pause } h.pn.wl.srt he
    simp only at this
    omega
  obtain ⟨w2, hrun, hp2, hk, _⟩ := (h.pn.x ip).store hip (e := { e with asked := e.asked + 1, tm := t + c.pause }) (v := f ip) (h.pn.row _ (lookN_some he)) (h.pn.shr _ (lookN_some he)) (fun y hy hne => h.pn.apart _ (lookN_some he) y hy (fun q => hne q.symm)) hwl
  obtain ⟨r1, r2⟩ := h.entries hp2 hk
  exact ⟨w2, hrun, ⟨_, r1⟩, r2⟩
end
end Go.Proofs.Ytjcigoojlmalnaa
