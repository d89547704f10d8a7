/- Routes as a list, those of more bits first, then by rising nets: put in, taken out, looked up, found. No program in it but for its name. -/
import Derived.Test.YtmicgkoicmeflaaMk11
namespace Go.Proofs.Ytmicgkoicmeflaa
open Go.RowKit

structure Rt where
  n : Nat
  b : Int
  v : Nat
  c : Int
  s : Nat
theorem Rt.ext' {x y : Rt} (h1 : x.n = y.n) (h2 : x.b = y.b) (h3 : x.v = y.v) (h4 : x.c = y.c) (h5 : x.s = y.s) : x = y := by
  cases x; cases y; simp_all
instance : DecidableEq Rt := fun x y =>
  if h : x.n = y.n ∧ x.b = y.b ∧ x.v = y.v ∧ x.c = y.c ∧ x.s = y.s then .isTrue (Rt.ext' h.1 h.2.1 h.2.2.1 h.2.2.2.1 h.2.2.2.2)
  else .isFalse (fun e => h (e ▸ ⟨rfl, rfl, rfl, rfl, rfl⟩))

/-- one comes ahead of another one -/
def ahd (x y : Rt) : Prop := y.b < x.b ∨ (x.b = y.b ∧ x.n < y.n)
instance (x y : Rt) : Decidable (ahd x y) := by unfold ahd; infer_instance
/-- they have one prefix -/
def keyE (x : Rt) (n : Nat) (b : Int) : Prop := x.n = n ∧ x.b = b
instance (x : Rt) (n : Nat) (b : Int) : Decidable (keyE x n b) := by unfold keyE; infer_instance
def Srt (L : List Rt) : Prop := L.Pairwise ahd
def delR (n : Nat) (b : Int) (L : List Rt) : List Rt := L.filter (fun y => !decide (keyE y n b))
def putR (x : Rt) : List Rt → List Rt
  | [] => [x]
  | y :: r => if ahd x y then x :: y :: r else y :: putR x r
def addR (x : Rt) (L : List Rt) : List Rt := putR x (delR x.n x.b L)
def lookR (n : Nat) (b : Int) (L : List Rt) : Option Rt := L.find? (fun y => decide (keyE y n b))
def findR (ip : Nat) (L : List Rt) : Option Rt := L.find? (fun y => inB ip y.n (clip y.b))

theorem ahd_trans {x y z : Rt} (h : ahd x y) (k : ahd y z) : ahd x z := by unfold ahd at *; omega
theorem ahd_irrefl (x : Rt) : ¬ ahd x x := by unfold ahd; omega
theorem ahd_total {x y : Rt} (h : ¬ keyE y x.n x.b) : ahd x y ∨ ahd y x := by unfold ahd; unfold keyE at h; omega
theorem ahd_key {x y : Rt} (h : ahd x y) : ¬ keyE y x.n x.b := by unfold ahd at h; unfold keyE; omega

theorem mem_delR {n : Nat} {b : Int} {L : List Rt} {y : Rt} : y ∈ delR n b L ↔ y ∈ L ∧ ¬ keyE y n b := by
  unfold delR
  rw [List.mem_filter]
  simp
theorem mem_putR {x y : Rt} : ∀ {L : List Rt}, y ∈ putR x L ↔ y = x ∨ y ∈ L
  | [] => by simp [putR]
  | z :: r => by
    unfold putR
    split
    · simp
    · rw [List.mem_cons, mem_putR, List.mem_cons]
      constructor
      · rintro (h | h | h) <;> simp [h]
      · rintro (h | h | h) <;> simp [h]
theorem mem_addR {x y : Rt} {L : List Rt} : y ∈ addR x L ↔ y = x ∨ (y ∈ L ∧ ¬ keyE y x.n x.b) := by
  unfold addR
  rw [mem_putR, mem_delR]
theorem srt_del {L : List Rt} (h : Srt L) (n : Nat) (b : Int) : Srt (delR n b L) := h.filter _
theorem srt_put (x : Rt) : ∀ {L : List Rt}, Srt L → (∀ y ∈ L, ¬ keyE y x.n x.b) → Srt (putR x L)
  | [], _, _ => by simp [putR, Srt]
  | y :: r, h, hk => by
    obtain ⟨h1, h2⟩ := List.pairwise_cons.1 h
    unfold putR
    by_cases g : ahd x y
    · rw [if_pos g]
      refine List.pairwise_cons.2 ⟨fun z hz => ?_, h⟩
      rcases List.mem_cons.1 hz with rfl | hz
      · exact g
      · exact ahd_trans g (h1 z hz)
    · rw [if_neg g]
      have g2 : ahd y x := (ahd_total (hk y (by simp))).resolve_left g
      refine List.pairwise_cons.2 ⟨fun z hz => ?_, srt_put x h2 (fun z hz => hk z (by simp [hz]))⟩
      rcases mem_putR.1 hz with rfl | hz
      · exact g2
      · exact h1 z hz
theorem srt_add {L : List Rt} (h : Srt L) (x : Rt) : Srt (addR x L) := srt_put x (srt_del h _ _) (fun _ hy => (mem_delR.1 hy).2)
theorem srt_uniq {L : List Rt} (h : Srt L) {x y : Rt} (hx : x ∈ L) (hy : y ∈ L) (hk : keyE x y.n y.b) : x = y := by
  induction L with
  | nil => simp at hx
  | cons z r ih =>
    obtain ⟨h1, h2⟩ := List.pairwise_cons.1 h
    have hk' : keyE y x.n x.b := ⟨hk.1.symm, hk.2.symm⟩
    rcases List.mem_cons.1 hx with ex | hx
    · rcases List.mem_cons.1 hy with ey | hy
      · rw [ex, ey]
      · exact absurd hk' (ahd_key (ex ▸ h1 y hy))
    · rcases List.mem_cons.1 hy with ey | hy
      · exact absurd hk (ahd_key (ey ▸ h1 x hx))
      · exact ih h2 hx hy
theorem srt_same : ∀ {l l' : List Rt}, Srt l → Srt l' → (∀ x, x ∈ l ↔ x ∈ l') → l = l'
  | [], [], _, _, _ => rfl
  | [], y :: r, _, _, h => by have := (h y).2 (by simp); simp at this
  | x :: r, [], _, _, h => by have := (h x).1 (by simp); simp at this
  | x :: r, y :: q, hx, hy, h => by
    obtain ⟨a1, a2⟩ := List.pairwise_cons.1 hx
    obtain ⟨b1, b2⟩ := List.pairwise_cons.1 hy
    have e : x = y := by
      rcases List.mem_cons.1 ((h x).1 (by simp)) with h1 | h1
      · exact h1
      · rcases List.mem_cons.1 ((h y).2 (by simp)) with h2 | h2
        · exact h2.symm
        · exact absurd (ahd_trans (b1 x h1) (a1 y h2)) (ahd_irrefl _)
    subst e
    rw [srt_same a2 b2 (fun z => ?_)]
    have := h z
    constructor
    · intro hz
      rcases List.mem_cons.1 (this.1 (by simp [hz])) with e | e
      · exact absurd (e ▸ a1 z hz) (ahd_irrefl _)
      · exact e
    · intro hz
      rcases List.mem_cons.1 (this.2 (by simp [hz])) with e | e
      · exact absurd (e ▸ b1 z hz) (ahd_irrefl _)
      · exact e

theorem look_some {n : Nat} {b : Int} {L : List Rt} {y : Rt} (h : lookR n b L = some y) : y ∈ L ∧ keyE y n b := by
  unfold lookR at h
  exact ⟨List.mem_of_find?_eq_some h, by simpa using List.find?_some h⟩
theorem look_none {n : Nat} {b : Int} {L : List Rt} : lookR n b L = none ↔ ∀ y ∈ L, ¬ keyE y n b := by
  unfold lookR
  rw [List.find?_eq_none]
  simp
theorem look_mem {L : List Rt} (h : Srt L) {y : Rt} (hy : y ∈ L) : lookR y.n y.b L = some y := by
  cases e : lookR y.n y.b L with
  | none => exact absurd ⟨rfl, rfl⟩ (look_none.1 e y hy)
  | some z =>
    obtain ⟨h1, h2⟩ := look_some e
    rw [srt_uniq h h1 hy h2]
theorem look_iff {L : List Rt} (h : Srt L) {n : Nat} {b : Int} {y : Rt} : lookR n b L = some y ↔ y ∈ L ∧ keyE y n b := by
  constructor
  · exact look_some
  · rintro ⟨h1, h2⟩
    have := look_mem h h1
    rw [h2.1, h2.2] at this
    exact this
theorem look_add {L : List Rt} (h : Srt L) (x : Rt) (n : Nat) (b : Int) : lookR n b (addR x L) = if keyE x n b then some x else lookR n b L := by
  by_cases g : keyE x n b
  · rw [if_pos g, look_iff (srt_add h x)]
    exact ⟨mem_addR.2 (.inl rfl), g⟩
  · rw [if_neg g]
    cases e : lookR n b L with
    | none =>
      rw [look_none]
      intro y hy
      rcases mem_addR.1 hy with rfl | hy
      · exact g
      · exact look_none.1 e y hy.1
    | some z =>
      obtain ⟨h1, h2⟩ := look_some e
      rw [look_iff (srt_add h x)]
      refine ⟨mem_addR.2 (.inr ⟨h1, fun k => g ?_⟩), h2⟩
      unfold keyE at *
      omega
theorem look_del {L : List Rt} (h : Srt L) (m : Nat) (d : Int) (n : Nat) (b : Int) : lookR n b (delR m d L) = if m = n ∧ d = b then none else lookR n b L := by
  by_cases g : m = n ∧ d = b
  · rw [if_pos g, look_none]
    intro y hy
    have := (mem_delR.1 hy).2
    unfold keyE at *
    omega
  · rw [if_neg g]
    cases e : lookR n b L with
    | none =>
      rw [look_none]
      intro y hy
      exact look_none.1 e y (mem_delR.1 hy).1
    | some z =>
      obtain ⟨h1, h2⟩ := look_some e
      rw [look_iff (srt_del h m d)]
      refine ⟨mem_delR.2 ⟨h1, ?_⟩, h2⟩
      unfold keyE at *
      omega
theorem del_none {n : Nat} {b : Int} {L : List Rt} (h : lookR n b L = none) : delR n b L = L := by
  unfold delR
  rw [List.filter_eq_self]
  intro y hy
  simpa using look_none.1 h y hy
theorem len_put (x : Rt) : ∀ L : List Rt, (putR x L).length = L.length + 1
  | [] => rfl
  | y :: r => by
    unfold putR
    split
    · rfl
    · rw [List.length_cons, len_put x r, List.length_cons]
theorem len_del {L : List Rt} (h : Srt L) (n : Nat) (b : Int) : (delR n b L).length + (if (lookR n b L).isSome then 1 else 0) = L.length := by
  induction L with
  | nil => rfl
  | cons y r ih =>
    obtain ⟨h1, h2⟩ := List.pairwise_cons.1 h
    have ih := ih h2
    by_cases g : keyE y n b
    · have e1 : lookR n b (y :: r) = some y := by unfold lookR; rw [List.find?_cons_of_pos (by simpa using g)]
      have e2 : lookR n b r = none := look_none.2 (fun z hz k => ahd_key (h1 z hz) ⟨k.1.trans g.1.symm, k.2.trans g.2.symm⟩)
      rw [e2] at ih
      rw [e1]
      unfold delR
      rw [List.filter_cons_of_neg (by simpa using g)]
      unfold delR at ih
      simp at ih ⊢
      exact ih
    · have e1 : lookR n b (y :: r) = lookR n b r := by unfold lookR; rw [List.find?_cons_of_neg (by simpa using g)]
      rw [e1]
      unfold delR
      rw [List.filter_cons_of_pos (by simpa using g)]
      unfold delR at ih
      simp only [List.length_cons]
      omega
theorem len_add {L : List Rt} (h : Srt L) (x : Rt) : (addR x L).length = if (lookR x.n x.b L).isSome then L.length else L.length + 1 := by
  have := len_del h x.n x.b
  unfold addR
  rw [len_put]
  split <;> rename_i g <;> simp [g] at this <;> omega
theorem del_lt {L : List Rt} (h : Srt L) (n : Nat) (b : Int) : decide ((delR n b L).length < L.length) = (lookR n b L).isSome := by
  have := len_del h n b
  cases e : (lookR n b L).isSome
  · rw [e] at this; simp at this; simp; omega
  · rw [e] at this; simp at this; simp; omega

/-- a route may be -/
def mayR (r : Rt) : Prop := (0 ≤ r.b ∧ r.b ≤ 32) ∧ 0 ≤ r.c ∧ r.n &&& mk (clip r.b) = r.n
instance (r : Rt) : Decidable (mayR r) := by unfold mayR; infer_instance
/-- its numbers are of their kinds -/
structure Rin (r : Rt) : Prop where
  n : r.n < 4294967296
  b1 : -9223372036854775808 ≤ r.b
  b2 : r.b ≤ 9223372036854775807
  v : r.v < 4294967296
  c1 : -9223372036854775808 ≤ r.c
  c2 : r.c ≤ 9223372036854775807
  s : r.s < 4294967296
/-- the routes of a table -/
structure OkL (L : List Rt) : Prop where
  srt : Srt L
  may : ∀ r ∈ L, mayR r
  fit : ∀ r ∈ L, Rin r
  len : L.length ≤ 1024
theorem OkL.nil : OkL [] := ⟨List.Pairwise.nil, by simp, by simp, by simp⟩
theorem OkL.del {L : List Rt} (h : OkL L) (n : Nat) (b : Int) : OkL (delR n b L) :=
  ⟨srt_del h.srt n b, fun r hr => h.may r (mem_delR.1 hr).1, fun r hr => h.fit r (mem_delR.1 hr).1, Nat.le_trans (List.length_filter_le _ _) h.len⟩
def addE (r : Rt) (L : List Rt) : Int := if ¬ mayR r then 2 else if (lookR r.n r.b L).isSome = false ∧ 1024 ≤ L.length then 6 else 0
def addT (r : Rt) (L : List Rt) : List Rt := if addE r L = 0 then addR r L else L
theorem OkL.add {L : List Rt} (h : OkL L) {r : Rt} (hr : Rin r) : OkL (addT r L) := by
  unfold addT
  split
  · rename_i e
    unfold addE at e
    split at e
    · cases e
    · rename_i g
      split at e
      · cases e
      · rename_i g2
        refine ⟨srt_add h.srt r, fun y hy => ?_, fun y hy => ?_, ?_⟩
        · rcases mem_addR.1 hy with rfl | hy
          · exact Classical.not_not.1 g
          · exact h.may y hy.1
        · rcases mem_addR.1 hy with rfl | hy
          · exact hr
          · exact h.fit y hy.1
        · rw [len_add h.srt]
          have := h.len
          split
          · exact this
          · rename_i g3
            have : ¬ 1024 ≤ L.length := fun k => g2 ⟨by simpa using g3, k⟩
            omega
  · exact h

theorem may_clip {r : Rt} (h : mayR r) : ((clip r.b : Nat) : Int) = r.b := by
  obtain ⟨⟨h1, h2⟩, _⟩ := h
  unfold clip
  split
  · omega
  · split
    · omega
    · omega
theorem in_iff {ip : Nat} {r : Rt} (hip : ip < 4294967296) (h : mayR r) (hn : r.n < 4294967296) : inB ip r.n (clip r.b) = true ↔ ip &&& mk (clip r.b) = r.n := by
  rw [← and_eq_iff ip r.n _ hip hn (clip_le _), h.2.2]

/-- the first of the prefixes that an address is in of which there is a route -/
theorem find_at {L : List Rt} (h : OkL L) {ip k : Nat} (hip : ip < 4294967296) {y : Rt} (hy : lookR (ip &&& mk k) (k : Int) L = some y) (hno : ∀ j : Nat, k < j → j ≤ 32 → lookR (ip &&& mk j) (j : Int) L = none) : findR ip L = some y := by
  obtain ⟨h1, h2⟩ := look_some hy
  have hc := may_clip (h.may y h1)
  have hck : clip y.b = k := by have := h2.2; omega
  have hin : inB ip y.n (clip y.b) = true := (in_iff hip (h.may y h1) (h.fit y h1).n).2 (by rw [hck]; exact h2.1.symm)
  unfold findR
  cases e : L.find? (fun y => inB ip y.n (clip y.b)) with
  | none =>
    rw [List.find?_eq_none] at e
    exact absurd hin (e y h1)
  | some z =>
    obtain ⟨hz, qs, bs, rfl, has⟩ := List.find?_eq_some_iff_append.1 e
    have hzm : z ∈ qs ++ z :: bs := by simp
    have hzc := may_clip (h.may z hzm)
    have hzi := (in_iff hip (h.may z hzm) (h.fit z hzm).n).1 hz
    rcases List.mem_append.1 h1 with g | g
    · have := has y g
      rw [hin] at this
      cases this
    · rcases List.mem_cons.1 g with g | g
      · rw [g]
      · have ha : ahd z y := by
          have := (List.pairwise_append.1 h.srt).2.1
          exact (List.pairwise_cons.1 this).1 y g
        exfalso
        rcases ha with ha | ⟨ha, ha2⟩
        · have hz32 := clip_le z.b
          have h3 := hno (clip z.b) (by have := h2.2; omega) hz32
          exact look_none.1 h3 z hzm ⟨hzi.symm, hzc.symm⟩
        · have : clip z.b = k := by have := h2.2; omega
          rw [this] at hzi
          have := h2.1
          omega
theorem find_no {L : List Rt} (h : OkL L) {ip : Nat} (hip : ip < 4294967296) (hno : ∀ j : Nat, j ≤ 32 → lookR (ip &&& mk j) (j : Int) L = none) : findR ip L = none := by
  unfold findR
  rw [List.find?_eq_none]
  intro y hy hin
  have h3 := hno (clip y.b) (clip_le _)
  exact look_none.1 h3 y hy ⟨((in_iff hip (h.may y hy) (h.fit y hy).n).1 hin).symm, (may_clip (h.may y hy)).symm⟩
end Go.Proofs.Ytmicgkoicmeflaa
