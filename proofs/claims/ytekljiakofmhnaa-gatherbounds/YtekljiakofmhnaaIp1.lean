/- Options of IPv4 heads without the program: their bytes, how they are read, that what was written is read. -/
import Derived.Test.YtekljiakofmhnaaIp0
namespace Go.Proofs.Ytekljiakofmhnaa

abbrev Opt := Nat × List UInt8
def optMay (o : Opt) : Prop := (o.1 = 1 ∧ o.2 = []) ∨ 1 < o.1
def optB (o : Opt) : List UInt8 := if o.1 ≤ 1 then [byt o.1 0] else byt o.1 0 :: byt (o.2.length + 2) 0 :: o.2
def optsB (l : List Opt) : List UInt8 := l.flatMap optB
def padN (n : Nat) : Nat := (4 - n % 4) % 4
def pad4 (s : List UInt8) : List UInt8 := s ++ List.replicate (padN s.length) 0
theorem pad4_len (s : List UInt8) : (pad4 s).length = s.length + padN s.length := by simp [pad4]
theorem pad4_four (s : List UInt8) : (pad4 s).length % 4 = 0 := by rw [pad4_len]; unfold padN; omega
theorem pad4_le (s : List UInt8) {n : Nat} (h : s.length ≤ n) : (pad4 s).length ≤ (n + 3) / 4 * 4 := by rw [pad4_len]; unfold padN; omega
/-- what is read, with so many bytes at most to come; none: they are no options -/
def optR : Nat → List UInt8 → Option (List Opt)
  | 0, _ => some []
  | _ + 1, [] => some []
  | f + 1, c :: r =>
    if c.toNat = 0 then some []
    else if c.toNat = 1 then (optR f r).map (fun l => (1, []) :: l)
    else match r with
      | [] => none
      | n :: r2 => if n.toNat < 2 ∨ r2.length + 2 < n.toNat then none else (optR f (r2.drop (n.toNat - 2))).map (fun l => (c.toNat, r2.take (n.toNat - 2)) :: l)
theorem optR_zeros (f k : Nat) : optR f (List.replicate k (0 : UInt8)) = some [] := by
  cases f with
  | zero => rfl
  | succ f =>
    cases k with
    | zero => rfl
    | succ k => simp [List.replicate_succ, optR]
theorem optB_pos (o : Opt) : 0 < (optB o).length := by unfold optB; split <;> simp
/-- what was written is read, whatever bytes 0 stand behind it -/
theorem opt_back : ∀ (l : List Opt), (∀ o ∈ l, optMay o ∧ o.1 < 256) → (optsB l).length ≤ 255 → ∀ (k f : Nat), (optsB l).length + k ≤ f → optR f (optsB l ++ List.replicate k 0) = some l
  | [], _, _, k, f, _ => by rw [show optsB [] = [] from rfl, List.nil_append]; exact optR_zeros f k
  | o :: l, hm, hl, k, f, hf => by
    have e : optsB (o :: l) = optB o ++ optsB l := by simp [optsB]
    rw [e] at hl hf ⊢
    rw [List.length_append] at hl hf
    have hp := optB_pos o
    obtain ⟨f, rfl⟩ : ∃ g, f = g + 1 := ⟨f - 1, by omega⟩
    have ih := opt_back l (fun x hx => hm x (by simp [hx])) (by omega) k f (by omega)
    obtain ⟨h1, h2⟩ := hm o (by simp)
    obtain ⟨kd, dt⟩ := o
    simp only at h2
    rcases h1 with ⟨h1, h3⟩ | h1
    · simp only at h1 h3
      subst h1 h3
      show optR (f + 1) (byt 1 0 :: (optsB l ++ List.replicate k 0)) = _
      have b1 : (byt 1 0).toNat = 1 := by rw [byt_toNat]
      rw [optR.eq_def]
      simp only
      rw [if_neg (by rw [b1]; decide), if_pos b1, ih]
      rfl
    · simp only at h1
      have eb : optB (kd, dt) = byt kd 0 :: byt (dt.length + 2) 0 :: dt := by unfold optB; rw [if_neg (by simp only; omega)]
      rw [eb] at hl hf ⊢
      simp only [List.length_cons] at hl hf
      have b0 : (byt kd 0).toNat = kd := by rw [byt_toNat]; omega
      have b1 : (byt (dt.length + 2) 0).toNat = dt.length + 2 := by rw [byt_toNat]; omega
      show optR (f + 1) (byt kd 0 :: byt (dt.length + 2) 0 :: (dt ++ optsB l ++ List.replicate k 0)) = _
      rw [optR.eq_def]
      simp only
      rw [if_neg (by rw [b0]; omega), if_neg (by rw [b0]; omega)]
      simp only [b0, b1]
      have e2 : dt.length + 2 - 2 = dt.length := by omega
      rw [if_neg (by simp only [List.length_append]; omega), e2, List.append_assoc, List.drop_left, List.take_left, ih]
      rfl
/-- what is read may be written, and is no longer -/
theorem opt_read : ∀ (f : Nat) (s : List UInt8) (m : List Opt), s.length ≤ f → optR f s = some m → (∀ o ∈ m, optMay o ∧ o.1 < 256) ∧ (optsB m).length ≤ s.length
  | 0, s, m, hf, h => by
    simp [optR] at h
    subst h
    exact ⟨fun o ho => by simp at ho, by simp [optsB]⟩
  | f + 1, [], m, hf, h => by
    simp [optR] at h
    subst h
    exact ⟨fun o ho => by simp at ho, by simp [optsB]⟩
  | f + 1, c :: r, m, hf, h => by
    rw [optR.eq_def] at h
    simp only at h
    simp only [List.length_cons] at hf
    by_cases h0 : c.toNat = 0
    · rw [if_pos h0] at h
      simp at h
      subst h
      exact ⟨fun o ho => by simp at ho, by simp [optsB]⟩
    · rw [if_neg h0] at h
      by_cases h1 : c.toNat = 1
      · rw [if_pos h1] at h
        obtain ⟨m', hm', rfl⟩ := Option.map_eq_some_iff.1 h
        obtain ⟨a, b⟩ := opt_read f r m' (by omega) hm'
        refine ⟨fun o ho => ?_, ?_⟩
        · rcases List.mem_cons.1 ho with rfl | ho
          · exact ⟨.inl ⟨rfl, rfl⟩, by simp⟩
          · exact a o ho
        · have : optsB ((1, []) :: m') = byt 1 0 :: optsB m' := by simp [optsB, optB]
          rw [this]
          simp only [List.length_cons]
          omega
      · rw [if_neg h1] at h
        cases r with
        | nil => simp at h
        | cons n r2 =>
          simp only at h
          by_cases h2 : n.toNat < 2 ∨ r2.length + 2 < n.toNat
          · rw [if_pos h2] at h; cases h
          · rw [if_neg h2] at h
            obtain ⟨m', hm', rfl⟩ := Option.map_eq_some_iff.1 h
            simp only [List.length_cons] at hf
            obtain ⟨a, b⟩ := opt_read f (r2.drop (n.toNat - 2)) m' (by rw [List.length_drop]; omega) hm'
            rw [List.length_drop] at b
            have hc := c.toNat_lt
            refine ⟨fun o ho => ?_, ?_⟩
            · rcases List.mem_cons.1 ho with rfl | ho
              · exact ⟨.inr (by simp only; omega), hc⟩
              · exact a o ho
            · have : optsB ((c.toNat, r2.take (n.toNat - 2)) :: m') = optB (c.toNat, r2.take (n.toNat - 2)) ++ optsB m' := by simp [optsB]
              rw [this, List.length_append]
              unfold optB
              rw [if_neg (by simp only; omega)]
              simp only [List.length_cons, List.length_take]
              omega
/-- what is read, and written, is read as the same -/
theorem opt_again {s : List UInt8} {m : List Opt} (hs : s.length ≤ 40) (h : optR s.length s = some m) : (optsB m).length ≤ 40 ∧ (∀ o ∈ m, optMay o ∧ o.1 < 256) ∧ optR (pad4 (optsB m)).length (pad4 (optsB m)) = some m ∧ (pad4 (optsB m)).length ≤ (s.length + 3) / 4 * 4 := by
  obtain ⟨a, b⟩ := opt_read s.length s m (Nat.le_refl _) h
  refine ⟨by omega, a, ?_, pad4_le _ b⟩
  exact opt_back m a (by omega) _ _ (by rw [pad4_len]; exact Nat.le_refl _)
end Go.Proofs.Ytekljiakofmhnaa
