/- Package near without the program: confs, entries, what Find, Hear, Tick do with them. -/
import Derived.Test.YtjcigoojlmalnaaNl0
namespace Go.Proofs.Ytjcigoojlmalnaa
open Go.RowKit

structure Cf where
  most : Nat
  waits : Nat
  each : Nat
  known : Nat
  asks : Nat
  pause : Nat
structure Cf.Ok (c : Cf) : Prop where
  m1 : 1 ≤ c.most
  m2 : c.most ≤ 1024
  w : c.waits ≤ 1024
  e : c.each < 9223372036854775808
  k1 : 1 ≤ c.known
  k2 : c.known ≤ 1099511627776
  a1 : 1 ≤ c.asks
  a2 : c.asks ≤ 1048576
  p1 : 1 ≤ c.pause
  p2 : c.pause ≤ 1099511627776
structure En where
  st : Nat
  mac : Nat
  tm : Nat
  asked : Nat
  ws : List Nat
abbrev Ens := List (Nat × En)
def tot : Ens → Nat
  | [] => 0
  | y :: r => y.2.ws.length + tot r

/-- entries as they may be -/
structure WL (c : Cf) (last : Nat) (L : Ens) : Prop where
  srt : SrtN L
  key : ∀ x ∈ L, x.1 < 12
  st : ∀ x ∈ L, x.2.st = 1 ∨ x.2.st = 2 ∨ x.2.st = 3
  mac : ∀ x ∈ L, x.2.mac < 18446744073709551616
  tm : ∀ x ∈ L, x.2.tm ≤ 18691697672192
  asked : ∀ x ∈ L, x.2.asked ≤ c.asks
  num : ∀ x ∈ L, ∀ n ∈ x.2.ws, n < 18446744073709551616
  tot : tot L ≤ c.waits
  lst : last ≤ 17592186044416
  so : ∀ x ∈ L, x.2.st = 1 → 1 ≤ x.2.asked ∧ x.2.tm ≤ last + c.pause
  no : ∀ x ∈ L, x.2.st ≠ 1 → x.2.ws = []

theorem srt_len {β : Type} : ∀ {L : List (Nat × β)} {lo : Nat}, SrtN L → (∀ x ∈ L, lo ≤ x.1 ∧ x.1 < 12) → L.length ≤ 12 - lo
  | [], _, _, _ => by simp
  | y :: r, lo, h, hb => by
    obtain ⟨h1, h2⟩ := List.pairwise_cons.1 h
    have b := hb y (by simp)
    have := srt_len (L := r) (lo := y.1 + 1) h2 (fun x hx => ⟨h1 x hx, (hb x (by simp [hx])).2⟩)
    rw [List.length_cons]
    omega
theorem WL.len {c : Cf} {last : Nat} {L : Ens} (h : WL c last L) : L.length ≤ 12 := srt_len (lo := 0) h.srt (fun x hx => ⟨Nat.zero_le _, h.key x hx⟩)

theorem tot_mem : ∀ {L : Ens} {x : Nat × En}, x ∈ L → x.2.ws.length ≤ tot L
  | [], x, h => by simp at h
  | y :: r, x, h => by
    unfold tot
    rcases List.mem_cons.1 h with rfl | h
    · omega
    · have := tot_mem h; omega
theorem tot_none {k : Nat} (e : En) : ∀ {L : Ens}, lookN k L = Option.none → tot (insN (k, e) L) = tot L + e.ws.length
  | [], _ => by simp [insN, tot]
  | y :: r, h => by
    have hy : y.1 ≠ k := lookN_none.1 h y (by simp)
    rw [lookN_ne hy] at h
    unfold insN
    simp only
    by_cases g : k < y.1
    · rw [if_pos g]; simp only [tot]; omega
    · rw [if_neg g, if_neg (fun e => hy e.symm)]
      simp only [tot, tot_none e h]; omega
theorem tot_some {k : Nat} (e : En) {e0 : En} : ∀ {L : Ens}, SrtN L → lookN k L = Option.some e0 → tot (insN (k, e) L) + e0.ws.length = tot L + e.ws.length
  | [], _, h => by simp [lookN] at h
  | y :: r, hS, h => by
    obtain ⟨h1, h2⟩ := List.pairwise_cons.1 hS
    unfold insN
    simp only
    by_cases g : y.1 = k
    · rw [lookN_eq g] at h
      have h' : y.2 = e0 := by simpa using h
      rw [if_neg (by omega), if_pos g.symm]
      simp only [tot, h']; omega
    · rw [lookN_ne g] at h
      have : y.1 < k := h1 _ (lookN_some h)
      rw [if_neg (by omega), if_neg (fun e => g e.symm)]
      simp only [tot]
      have := tot_some e h2 h
      omega

/-- what Find answers, the entries and the time behind it -/
structure Fr where
  mac : Nat
  known : Bool
  asks : Bool
  err : Nat
  L : Ens
  last : Nat
def findN (c : Cf) (last : Nat) (L : Ens) (ip num now : Nat) : Fr :=
  match lookN ip L with
  | Option.some e =>
    if e.st = 1 then
      if e.ws.length < c.each ∧ tot L < c.waits then ⟨0, false, false, 0, insN (ip, { e with ws := e.ws ++ [num] }) L, max last now⟩ else ⟨0, false, false, 6, L, last⟩
    else if e.st = 3 ∧ e.asked = 0 then ⟨e.mac, true, true, 0, insN (ip, { e with asked := 1, tm := max last now + c.pause }) L, max last now⟩
    else ⟨e.mac, true, false, 0, L, max last now⟩
  | Option.none =>
    if L.length < c.most ∧ 0 < c.each ∧ tot L < c.waits then ⟨0, false, true, 0, insN (ip, ⟨1, 0, max last now + c.pause, 1, [num]⟩) L, max last now⟩ else ⟨0, false, false, 6, L, last⟩

/-- what Hear answers, the entries and the time behind it -/
def hearN (c : Cf) (last : Nat) (L : Ens) (ip mac : Nat) (asked : Bool) (now : Nat) : List Nat × Ens × Nat :=
  match lookN ip L with
  | Option.some e => (e.ws, insN (ip, ⟨2, mac, max last now + c.known, 0, []⟩) L, max last now)
  | Option.none => if asked = true ∧ L.length < c.most then ([], insN (ip, ⟨2, mac, max last now + c.known, 0, []⟩) L, max last now) else ([], L, last)

/-- what a due entry becomes -/
def stepE (c : Cf) (t : Nat) (e : En) : Option En :=
  if e.st = 2 then Option.some ⟨3, e.mac, t + c.known, 0, []⟩
  else if e.asked = 0 ∨ e.asked = c.asks then Option.none
  else Option.some { e with asked := e.asked + 1, tm := t + c.pause }
def tickE (c : Cf) (t : Nat) (e : En) : Option En := if e.tm ≤ t then stepE c t e else Option.some e
def goesE (c : Cf) (e : En) : Bool := !(e.st == 2) && (e.asked == 0 || e.asked == c.asks)
def asksE (c : Cf) (e : En) : Bool := !(e.st == 2) && !(e.asked == 0 || e.asked == c.asks)
def tickN (c : Cf) (t : Nat) : Ens → Ens
  | [] => []
  | y :: r => match tickE c t y.2 with
    | Option.some e => (y.1, e) :: tickN c t r
    | Option.none => tickN c t r
theorem tick_none {c : Cf} {t : Nat} {y : Nat × En} {r : Ens} (h : tickE c t y.2 = Option.none) : tickN c t (y :: r) = tickN c t r := by
  rw [tickN]; simp only [h]
theorem tick_some {c : Cf} {t : Nat} {y : Nat × En} {r : Ens} {e : En} (h : tickE c t y.2 = Option.some e) : tickN c t (y :: r) = (y.1, e) :: tickN c t r := by
  rw [tickN]; simp only [h]
/-- who is asked, what is lost, of what was due -/
def asksN (c : Cf) (D : Ens) : List Nat := (D.filter (fun y => asksE c y.2)).map (·.1)
def lostN (c : Cf) (D : Ens) : List Nat := (D.filter (fun y => goesE c y.2)).flatMap (·.2.ws)
def dueN (t : Nat) (L : Ens) : Ens := L.filter (fun y => decide (y.2.tm ≤ t))
/-- the entries when those of D are done, one behind the other -/
def stepN (c : Cf) (t : Nat) (L : Ens) (y : Nat × En) : Ens := match stepE c t y.2 with
  | Option.some e => insN (y.1, e) L
  | Option.none => delN y.1 L
def stepsN (c : Cf) (t : Nat) (L D : Ens) : Ens := D.foldl (stepN c t) L

theorem lookN_tick (c : Cf) (t : Nat) (k : Nat) : ∀ {L : Ens}, SrtN L → lookN k (tickN c t L) = (lookN k L).bind (tickE c t)
  | [], _ => rfl
  | y :: r, h => by
    obtain ⟨h1, h2⟩ := List.pairwise_cons.1 h
    have ih := lookN_tick c t k h2
    by_cases g : y.1 = k
    · rw [lookN_eq g]
      show _ = tickE c t y.2
      cases e : tickE c t y.2 with
      | none => rw [tick_none e, ih, lookN_head h1 (by omega)]; rfl
      | some e' => rw [tick_some e]; exact lookN_eq (y := (y.1, e')) g
    · rw [lookN_ne g, ← ih]
      cases e : tickE c t y.2 with
      | none => rw [tick_none e]
      | some e' => rw [tick_some e]; exact lookN_ne (y := (y.1, e')) g
theorem mem_tick (c : Cf) (t : Nat) : ∀ {L : Ens} {x : Nat × En}, x ∈ tickN c t L → ∃ y ∈ L, y.1 = x.1 ∧ tickE c t y.2 = Option.some x.2
  | [], x, h => by simp [tickN] at h
  | y :: r, x, h => by
    cases e : tickE c t y.2 with
    | none =>
      rw [tick_none e] at h
      obtain ⟨z, hz, h2⟩ := mem_tick c t h
      exact ⟨z, by simp [hz], h2⟩
    | some e' =>
      rw [tick_some e] at h
      rcases List.mem_cons.1 h with rfl | h
      · exact ⟨y, by simp, rfl, e⟩
      · obtain ⟨z, hz, h2⟩ := mem_tick c t h
        exact ⟨z, by simp [hz], h2⟩
theorem srt_tick (c : Cf) (t : Nat) : ∀ {L : Ens}, SrtN L → SrtN (tickN c t L)
  | [], _ => List.Pairwise.nil
  | y :: r, h => by
    obtain ⟨h1, h2⟩ := List.pairwise_cons.1 h
    cases e : tickE c t y.2 with
    | none => rw [tick_none e]; exact srt_tick c t h2
    | some e' =>
      rw [tick_some e]
      refine List.pairwise_cons.2 ⟨fun z hz => ?_, srt_tick c t h2⟩
      obtain ⟨z', hz', e1, _⟩ := mem_tick c t hz
      rw [← e1]
      exact h1 z' hz'
theorem srt_step (c : Cf) (t : Nat) {L : Ens} (y : Nat × En) (h : SrtN L) : SrtN (stepN c t L y) := by
  unfold stepN
  split
  · exact srt_insN _ h
  · exact srt_delN _ h
theorem lookN_step (c : Cf) (t : Nat) (L : Ens) (y : Nat × En) (k : Nat) : lookN k (stepN c t L y) = if k = y.1 then stepE c t y.2 else lookN k L := by
  unfold stepN
  cases e : stepE c t y.2 with
  | none => simp only; rw [lookN_delN]
  | some e' =>
    simp only
    rw [lookN_insN]
    by_cases g : k = y.1
    · rw [if_pos g.symm, if_pos g]
    · rw [if_neg (fun e => g e.symm), if_neg g]
theorem srt_steps (c : Cf) (t : Nat) : ∀ {D L : Ens}, SrtN L → SrtN (stepsN c t L D)
  | [], _, h => h
  | y :: r, L, h => srt_steps c t (D := r) (L := stepN c t L y) (srt_step c t y h)
theorem lookN_steps (c : Cf) (t : Nat) (k : Nat) : ∀ {D L : Ens}, SrtN D → lookN k (stepsN c t L D) = match lookN k D with | Option.some e => stepE c t e | Option.none => lookN k L
  | [], L, _ => rfl
  | y :: r, L, h => by
    obtain ⟨h1, h2⟩ := List.pairwise_cons.1 h
    have ih := lookN_steps c t k (D := r) (L := stepN c t L y) h2
    show lookN k (stepsN c t (stepN c t L y) r) = _
    rw [ih]
    by_cases g : y.1 = k
    · rw [lookN_eq g, lookN_head h1 (by omega)]
      simp only
      rw [lookN_step, if_pos g.symm]
    · rw [lookN_ne g]
      cases lookN k r with
      | none => simp only; rw [lookN_step, if_neg (fun e => g e.symm)]
      | some e => rfl
theorem lookN_due (t k : Nat) : ∀ {L : Ens}, SrtN L → lookN k (dueN t L) = (lookN k L).filter (fun e => decide (e.tm ≤ t))
  | [], _ => rfl
  | y :: r, h => by
    obtain ⟨h1, h2⟩ := List.pairwise_cons.1 h
    have ih := lookN_due t k h2
    unfold dueN at ih ⊢
    rw [List.filter_cons]
    by_cases g : y.1 = k
    · rw [lookN_eq g]
      by_cases d : y.2.tm ≤ t
      · rw [if_pos (decide_eq_true d), lookN_eq g]; simp [Option.filter, d]
      · rw [if_neg (by simp; omega), ih, lookN_head h1 (by omega)]; simp [Option.filter, d]
    · rw [lookN_ne g]
      by_cases d : y.2.tm ≤ t
      · rw [if_pos (decide_eq_true d), lookN_ne g, ih]
      · rw [if_neg (by simp; omega), ih]
theorem srt_due (t : Nat) {L : Ens} (h : SrtN L) : SrtN (dueN t L) := List.Pairwise.filter _ h
/-- all that is due, one behind the other -/
theorem steps_tick (c : Cf) (t : Nat) {L : Ens} (h : SrtN L) : stepsN c t L (dueN t L) = tickN c t L := by
  refine srt_ext (srt_steps c t h) (srt_tick c t h) (fun k => ?_)
  rw [lookN_steps c t k (srt_due t h), lookN_tick c t k h, lookN_due t k h]
  cases e : lookN k L with
  | none => rfl
  | some e' =>
    by_cases d : e'.tm ≤ t
    · simp [Option.filter, d, tickE]
    · simp [Option.filter, d, tickE]

end Go.Proofs.Ytjcigoojlmalnaa
