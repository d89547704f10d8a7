/- What a Gather holds comes of the calls that were made, and stays no longer than its time. No program in it. -/
import Derived.Test.YtekljiakofmhnaaGv1
import Derived.Test.YtekljiakofmhnaaGu6
namespace Go.Proofs.Ytekljiakofmhnaa
open Go.RowKit Go.Shelf

/-- a call's head and data -/
abbrev Ps := Rh × ByteArray
/-- a gathering comes of those -/
structure FromX (c : Cf) (H : List Ps) (last : Int) (k : Pk) (x : Ga) : Prop where
  ps : ∀ q ∈ x.ps, ∃ y ∈ H, pkOf y.1 = k ∧ y.1.at' = q.pa ∧ y.2 = q.pd
  hd : head0 x.ps = true → x.hd.at' = 0 ∧ pkOf x.hd = k
  ov : x.ov ≤ last + c.tm
def FromE (c : Cf) (H : List Ps) (last : Int) (L : List En) : Prop := ∀ e ∈ L, FromX c H last e.k e.a
theorem FromX.mono {c : Cf} {H H' : List Ps} {last last' : Int} {k : Pk} {x : Ga} (h : FromX c H last k x) (hH : ∀ y ∈ H, y ∈ H') (hl : last ≤ last') : FromX c H' last' k x :=
  ⟨fun q hq => by obtain ⟨y, hy, r⟩ := h.ps q hq; exact ⟨y, hH y hy, r⟩, h.hd, by have := h.ov; omega⟩
theorem FromE.mono {c : Cf} {H H' : List Ps} {last last' : Int} {L : List En} (h : FromE c H last L) (hH : ∀ y ∈ H, y ∈ H') (hl : last ≤ last') : FromE c H' last' L := fun e he => (h e he).mono hH hl
theorem FromE.drop {c : Cf} {H : List Ps} {last : Int} {L : List En} (h : FromE c H last L) (n : Nat) : FromE c H last (L.drop n) := fun e he => h e (List.mem_of_mem_drop he)
theorem FromE.dropE {c : Cf} {H : List Ps} {last : Int} {L : List En} (h : FromE c H last L) (k : Pk) : FromE c H last (dropE k L) := fun e he => h e (List.mem_filter.1 he).1
theorem FromE.xof {c : Cf} {H : List Ps} {last : Int} {L : List En} (h : FromE c H last L) (h0 : 0 ≤ last) (k : Pk) : FromX c H last k (xOf L k) := by
  unfold xOf
  rcases he : lookE k L with _ | e
  · exact ⟨by simp, by simp [head0], by show (0 : Int) ≤ _; omega⟩
  · have := lookE_some he
    have hx := h e this.1
    rw [this.2] at hx
    exact hx
theorem FromE.set {c : Cf} {H : List Ps} {last : Int} {L : List En} (h : FromE c H last L) {k : Pk} {y : Ga} {v : Value} (hy : FromX c H last k y) : FromE c H last (setE k y v L) := by
  intro e he
  rcases mem_set he with rfl | he
  · exact hy
  · exact h e he
theorem cnt_ge (last now : Int) : last ≤ cntT last now := by unfold cntT; omega
theorem head0_ins {p : Pt} {l : List Pt} (h : head0 (insP p l) = true) : p.pa = 0 ∨ head0 l = true := by
  cases l with
  | nil =>
    left
    simpa [insP, head0] using h
  | cons q r =>
    simp only [insP] at h
    split at h
    · left
      simpa [head0] using h
    · right
      simpa [head0] using h
theorem FromE.taken {c : Cf} {H : List Ps} {L : List En} {last now last' : Int} {h : Rh} {d : ByteArray} {y : Ga} (hf : FromE c H last L) (h0 : 0 ≤ last)
    (hr : takeS c L last h ⟨h.at', d, h.more⟩ now = .ok y last') : last ≤ last' ∧ FromX c (H ++ [(h, d)]) last' (pkOf h) y := by
  have hx := hf.xof h0 (pkOf h)
  unfold takeS at hr
  split at hr
  · cases hr
  split at hr
  · cases hr
  split at hr
  · cases hr
  split at hr
  · cases hr
  split at hr
  · cases hr
  injection hr with hy hl
  have hps : y.ps = insP ⟨h.at', d, h.more⟩ (xOf L (pkOf h)).ps := by rw [← hy]
  have hhd : y.hd = if h.at' = 0 then h else (xOf L (pkOf h)).hd := by rw [← hy]; rfl
  have hov : y.ov = if thereB L (pkOf h) = true then (xOf L (pkOf h)).ov else cntT last now + (c.tm : Int) := by rw [← hy]
  have hge := cnt_ge last now
  have hxo := hx.ov
  refine ⟨by rw [← hl]; exact hge, ?_, ?_, ?_⟩
  · intro q hq
    rw [hps] at hq
    rcases insP_mem.1 hq with rfl | hq
    · exact ⟨(h, d), by simp, rfl, rfl, rfl⟩
    · obtain ⟨z, hz, r⟩ := hx.ps q hq
      exact ⟨z, by simp [hz], r⟩
  · intro h1
    rw [hps] at h1
    rw [hhd]
    split
    · rename_i ha
      exact ⟨ha, rfl⟩
    · rename_i ha
      exact hx.hd ((head0_ins h1).resolve_left ha)
  · rw [hov, ← hl]
    split <;> omega
/-- each byte comes of a part, at its place -/
theorem datB_made : ∀ {l : List Pt} {n : Int} {m : Bool}, wholeF n m l = true → ∀ i, i < (datB l).length → ∃ q ∈ l, ∃ j, j < q.pd.size ∧ q.pa + (j : Int) = n + (i : Int) ∧ (datB l)[i]? = q.pd.data.toList[j]?
  | [], _, _, _, i, hi => by simp [datB] at hi
  | p :: r, n, m, h, i, hi => by
    simp only [wholeF] at h
    split at h
    · rename_i hp
      have hs : p.pd.data.toList.length = p.pd.size := (Lib.size_eq p.pd).symm
      have e : datB (p :: r) = p.pd.data.toList ++ datB r := by simp [datB]
      rw [e, List.length_append, hs] at hi
      rw [e]
      by_cases hlt : i < p.pd.size
      · exact ⟨p, by simp, i, hlt, by omega, by rw [List.getElem?_append_left (by omega)]⟩
      · obtain ⟨q, hq, j, h1, h2, h3⟩ := datB_made h (i - p.pd.size) (by omega)
        refine ⟨q, by simp [hq], j, h1, ?_, ?_⟩
        · rw [h2]
          unfold Pt.fin
          omega
        · rw [List.getElem?_append_right (by omega), hs]
          exact h3
    · cases h
theorem whole_head {l : List Pt} (h : wholeF 0 true l = true) : head0 l = true := by
  cases l with
  | nil => simp [wholeF] at h
  | cons p r =>
    simp only [wholeF] at h
    split at h
    · rename_i hp
      simpa [head0] using hp
    · cases h

/-- each byte of a text stands in a part that came, at its place -/
def MadeB (H : List Ps) (k : Pk) (s : ByteArray) : Prop := ∀ i, i < s.size → ∃ y ∈ H, pkOf y.1 = k ∧ ∃ j : Nat, j < y.2.size ∧ y.1.at' + (j : Int) = (i : Int) ∧ s.data.toList[i]? = y.2.data.toList[j]?
/-- what Put answers, as far as the law asks -/
inductive PutR (H : List Ps) (k : Pk) : Ending → Prop where
  | no (e : Int) : PutR H k (noR e)
  | whole (h : Rh) (s : ByteArray) (hk : pkOf h = k) (ha : h.at' = 0) (hm : h.more = false) (hs : s.size ≤ 65535) (hb : MadeB H k s) : PutR H k (.returned (.tuple #[hdV h, .string s, .bool true, .int .i64 0]))

theorem cnt_le (last now : Int) : cntT last now ≤ max last now := by unfold cntT; omega
theorem put_from {No : Nat → Prop} {w w' : World} {p b : Nat} {c : Cf} {H : List Ps} {L : List En} {last now : Int} {h : Rh} {d : ByteArray} {x : Ending} (hw : WF c L last) (hf : FromE c H last L) (hin : h.In) (hop : h.op.size ≤ 1073741824) (hp : PutPost No w p b c L last h d now x w') :
    ∃ L' last', GQ No w' p b c L' last' ∧ WF c L' last' ∧ FromE c (H ++ [(h, d)]) last' L' ∧ last ≤ last' ∧ last' ≤ max last now ∧ PutR (H ++ [(h, d)]) (pkOf h) x := by
  have hsub : ∀ y ∈ H, y ∈ H ++ [(h, d)] := fun y hy => by simp [hy]
  obtain ⟨-, hp⟩ := hp
  split at hp
  · obtain ⟨rfl, hp⟩ := hp
    exact ⟨L, last, hp, hw, hf.mono hsub (Int.le_refl _), Int.le_refl _, by omega, .no _⟩
  rename_i he
  have he0 : encE h d.size = 0 := by simpa using he
  obtain ⟨m1, m2, m3⟩ := encE_zero he0
  have hpt : Pt.In ⟨h.at', d, h.more⟩ := by
    obtain ⟨a1, a2, a3, a4, a5⟩ := m1
    unfold roomB at m3
    exact ⟨a1, by show h.at' ≤ 65535; omega, by show d.size ≤ 65535; omega⟩
  have hge := cnt_ge last now
  have hle := cnt_le last now
  split at hp
  · rename_i hn
    obtain ⟨rfl, hp⟩ := hp
    refine ⟨L, _, hp, hw.now now, hf.mono hsub hge, hge, hle, .whole h d rfl hn.1 hn.2 hpt.sz ?_⟩
    intro i hi
    exact ⟨(h, d), by simp, rfl, i, hi, by show h.at' + _ = _; omega, rfl⟩
  rename_i hn
  rcases hr : takeS c L last h ⟨h.at', d, h.more⟩ now with e | _ | ⟨y, l'⟩
  · rw [hr] at hp
    obtain ⟨rfl, hp⟩ := hp
    exact ⟨L, last, hp, hw, hf.mono hsub (Int.le_refl _), Int.le_refl _, by omega, .no _⟩
  · rw [hr] at hp
    obtain ⟨rfl, hp⟩ := hp
    have hx := (hf.mono hsub (Int.le_refl _)).xof hw.l0 (pkOf h)
    exact ⟨_, last, hp, hw.spoilt hin hn hr, (hf.mono hsub (Int.le_refl _)).set ⟨by simp [spoiltG], by simp [spoiltG, head0], hx.ov⟩, Int.le_refl _, by omega, .no _⟩
  · rw [hr] at hp
    obtain ⟨h1, hy⟩ := hf.taken hw.l0 hr
    have hl : l' = cntT last now := by
      unfold takeS at hr
      split at hr
      · cases hr
      split at hr
      · cases hr
      split at hr
      · cases hr
      split at hr
      · cases hr
      split at hr
      · cases hr
      injection hr with _ hl
      exact hl.symm
    simp only [takenQ] at hp
    split at hp
    · rename_i hwh
      obtain ⟨rfl, hp⟩ := hp
      obtain ⟨wf, -, hlen⟩ := hw.taken hin hop hpt hr (.slice none 0 0)
      have hsz := hlen hwh
      have wf2 := wf.drop (lookE_setE_same _ _ _ _)
      rw [drop_set] at wf2
      obtain ⟨e1, e2⟩ := hy.hd (whole_head hwh)
      have hs : (⟨(datB y.ps).toArray⟩ : ByteArray).size = sumP y.ps := by rw [← datB_len]; rfl
      refine ⟨_, _, hp, wf2, (hf.mono hsub h1).dropE _, h1, by omega, .whole ⟨y.hd.tos, y.hd.id, y.hd.hold, false, y.hd.at', y.hd.ttl, y.hd.proto, y.hd.frm, y.hd.to, y.hd.op⟩ _ ?_ e1 rfl (by omega) ?_⟩
      · rw [← e2]
      · intro i hi
        rw [hs, ← datB_len] at hi
        obtain ⟨q, hq, j, q1, q2, q3⟩ := datB_made hwh i hi
        obtain ⟨z, hz, z1, z2, z3⟩ := hy.ps q hq
        refine ⟨z, hz, z1, j, by rw [z3]; exact q1, by rw [z2, q2]; omega, ?_⟩
        rw [z3, ← q3]
    · obtain ⟨rfl, v, hp⟩ := hp
      exact ⟨_, _, hp, (hw.taken hin hop hpt hr v).1, (hf.mono hsub h1).set hy, h1, by omega, .no _⟩

/-- behind Tick: what is left is not over, and stays no longer than its time -/
theorem tick_first {t : Int} : ∀ {L : List En} {e : En} {r : List En}, L.drop (tickN t L) = e :: r → t < e.a.ov
  | [], e, r, h => by simp [tickN] at h
  | y :: l, e, r, h => by
    simp only [tickN] at h
    split at h
    · exact tick_first (by simpa using h)
    · rename_i hy
      simp only [List.drop_zero, List.cons.injEq] at h
      rw [← h.1]
      omega
theorem wf_dropn {c : Cf} {L : List En} {last : Int} (h : WF c L last) : ∀ n, WF c (L.drop n) last := by
  intro n
  induction n generalizing L with
  | zero => exact h
  | succ n ih =>
    cases L with
    | nil => exact h
    | cons e r => exact ih h.first

end Go.Proofs.Ytekljiakofmhnaa
