/- What Total of package meter answers. -/
import Derived.Test.YtfbbdfeigenodaaMt3
import Derived.Maps.RangeWalk
import Derived.Sort.EncStr
namespace Go.Proofs.Ytfbbdfeigenodaa
open Go.RowKit Go.Maps

def M52 : Nat := 4503599627370496
def sumOf (f : List UInt8 → Bool) (g : Nat × Nat → Nat) : List Ent → Nat
  | [] => 0
  | y :: r => (if f y.1 then 0 else g y.2) + sumOf f g r
def sumA (L : List Ent) : Nat := sumOf (fun _ => false) (·.1) L
def sumB (L : List Ent) : Nat := sumOf (fun _ => false) (·.2) L
theorem sumOf_all (g : Nat × Nat → Nat) (f : List UInt8 → Bool) : ∀ L : List Ent, (∀ x ∈ L, f x.1 = true) → sumOf f g L = 0
  | [], _ => rfl
  | y :: r, h => by
    unfold sumOf
    rw [h y (by simp), sumOf_all g f r (fun x hx => h x (by simp [hx]))]
    rfl
theorem sumOf_eq (g : Nat × Nat → Nat) {f f' : List UInt8 → Bool} : ∀ {L : List Ent}, (∀ x ∈ L, f x.1 = f' x.1) → sumOf f g L = sumOf f' g L
  | [], _ => rfl
  | y :: r, h => by
    unfold sumOf
    rw [h y (by simp), sumOf_eq g (L := r) (fun x hx => h x (by simp [hx]))]
theorem sumOf_step (g : Nat × Nat → Nat) {f : List UInt8 → Bool} {s : List UInt8} {q : Nat × Nat} : ∀ {L : List Ent}, Srt L → lookE s L = some q → f s = true → sumOf (fun z => f z && !(z == s)) g L = sumOf f g L + g q
  | [], _, h, _ => by simp [lookE] at h
  | y :: r, hS, h, hf => by
    obtain ⟨h1, h2⟩ := List.pairwise_cons.1 hS
    rw [lookE_cons] at h
    unfold sumOf
    by_cases e : y.1 = s
    · rw [if_pos e] at h
      have hq : y.2 = q := by simpa using h
      rw [sumOf_eq g (f' := f) (L := r)]
      · rw [e, hf, hq]
        simp
        omega
      · intro x hx
        have : (x.1 == s) = false := beq_eq_false_iff_ne.2 (fun k => lt_ne (h1 x hx) (e.trans k.symm))
        rw [this]; simp
    · rw [if_neg e] at h
      rw [sumOf_step g h2 h hf]
      have : (y.1 == s) = false := beq_eq_false_iff_ne.2 e
      rw [this]
      simp
      omega

theorem min_step (t a : Nat) : min (min t 4503599627370496 + a) 4503599627370496 = min (t + a) 4503599627370496 := by omega

def mkC (p : Nat × Nat) : Value := .complex .f64 p.1 p.2
theorem invC (v : Value) (y : DataW Unit × List MemPlace) (h : cElem v = some y) : ∃ c, v = mkC c := by
  obtain ⟨a, b, rfl, _⟩ := cElem_inv h
  exact ⟨(a, b), rfl⟩
theorem invS (key : Value) (kl : Lit) (h : keyOf Try.prog 9 key = some kl) : ∃ x, key = encStr x := by
  obtain ⟨x, hx, _⟩ := Maps.keyOf_str Try.underlying9 h
  exact ⟨x, hx⟩

theorem at_entry {L : List Ent} {s : List UInt8} {c : Nat × Nat} (h : ∀ zd, (dm L).atKey (.string s) zd = cd c.1 c.2) : ∃ q, lookE s L = some q ∧ c = (F q.1, F q.2) := by
  cases hl : lookE s L with
  | none =>
    have h1 := h .nil
    rw [dm_at, hl] at h1
    simp [cd] at h1
  | some q =>
    have h1 := h .nil
    rw [dm_at, hl] at h1
    simp [cd] at h1
    exact ⟨q, rfl, Prod.ext h1.1.symm h1.2.symm⟩

set_option maxRecDepth 100000 in
set_option maxHeartbeats 1000000 in
theorem total_any (p b : Nat) (L : List Ent) (w : World) (h : PM w p b L) (hL : Cnt L) :
    Calls Try.prog 20 #[.pointer (some ⟨p, 0, none⟩)] w fun e w' => e = .returned (.complex .f64 (F (min (sumA L) 4503599627370496)) (F (min (sumB L) 4503599627370496))) ∧ Below w.heap.size w w' := by
  have H := hide (made_ok p b w h.cell)
  have hc := h.cell
  have hown := h.map
  have hlt := h.blt
  generalize L.length = n at hown
  have HB := hide (fun (x y : Nat) (w : World) => bounded_any x y w)
  clear h
  go_enter Try.func20, Try.ntmps20
  go_wp2_with fail
  refine (unhide H).mono ?_
  rintro e w1 ⟨rfl, rfl⟩
  go_wp2_with (first
    | (at_range; refine wpList_range_own _ rfl _ 62 rfl 9 32 law Try.underlying62 _ b n _ rfl hown ?_; intro w0 hrg0 hg0 hs0)
    | go_in)
  go_frame
  go_loopw [3] (fun sm wr => ∃ (left : Lit → Bool) (cnt : Nat) (f : List UInt8 → Bool), wr.ranges Try.prog 9 cElem b w1.heap.size n (dm L) left cnt ∧ (∀ x ∈ L, left (.string x.1) = f x.1)
      ∧ sm = .complex .f64 (F (min (sumOf f (·.1) L) 4503599627370496)) (F (min (sumOf f (·.2) L) 4503599627370496)) ∧ Below w1.heap.size w1 wr)
    (fun _ wr => wr.rangeLeft b w1.heap.size)
  case atStart =>
    refine ⟨_, _, fun _ => true, hrg0, fun x hx => ?_, ?_, (Below.refl _ _).grown hg0 (Nat.le_refl _) (by simp)⟩
    · rw [dm_has]
      cases hl : lookE x.1 L with
      | none => exact absurd rfl (lookE_none.1 hl x hx)
      | some q => rfl
    · rw [sumOf_all _ _ L (fun _ _ => rfl), sumOf_all _ _ L (fun _ _ => rfl)]
      simp [F_zero]
  case round =>
    obtain ⟨left, cnt, f, hrg, hleft, rfl, hbel⟩ := hrel
    go_wp2_with (first
      | (at_next; refine wpList_next_ranges _ rfl _ rfl 9 law cElem encStr mkC invS invC b w1.heap.size n _ _ _ rfl hrg ?_ ?_)
      | go_in)
    · intro hc0 hl0
      have HT : Hid (sumOf f (·.1) L = sumA L ∧ sumOf f (·.2) L = sumB L) := by
        have e : ∀ x ∈ L, f x.1 = false := fun x hx => by rw [← hleft x hx, hl0]
        exact ⟨sumOf_eq _ e, sumOf_eq _ e⟩
      go_wp2
      go_ret
      refine ⟨?_, hbel⟩
      rw [← (unhide HT).1, ← (unhide HT).2]
      rfl
    · intro x c1 c2 kl yd yp w2 cnt2 hkey hlk hv hat hrg2 hlt2 hg2 hs2 hen
      clear hs2 hs0
      obtain ⟨x', ex, rfl, _⟩ := Maps.keyOf_str Try.underlying9 hkey
      obtain rfl : x = x' := by simpa [encStr] using ex
      have hyd : yd = cd c1 c2 := by
        have : cElem (mkC (c1, c2)) = some (cd c1 c2, []) := rfl
        rw [this] at hv
        simp at hv
        exact hv.1.symm
      subst hyd
      obtain ⟨q, hq, hcq⟩ := at_entry (c := (c1, c2)) hat
      obtain ⟨rfl, rfl⟩ : c1 = F q.1 ∧ c2 = F q.2 := by simpa using hcq
      clear hcq
      have hcap := hL.at hq
      have hfx : f x = true := by rw [← hleft (x, q) (lookE_some hq)]; exact hlk
      have e53 : (2 : Nat) ^ 53 = 9007199254740992 := by decide
      have e52 : (2 : Nat) ^ 52 = 4503599627370496 := by decide
      have HA := hide (And.intro (sumOf_step (·.1) hL.srt hq hfx) (sumOf_step (·.2) hL.srt hq hfx))
      have hb2 := hbel.grown hg2 hbel.size (by rintro k ⟨⟩; exact Nat.le_refl _)
      obtain ⟨t, ht⟩ : ∃ t, t = sumOf f (·.1) L := ⟨_, rfl⟩
      obtain ⟨t', ht'⟩ : ∃ t', t' = sumOf f (·.2) L := ⟨_, rfl⟩
      rw [← ht, ← ht'] at HA
      rw [← ht, ← ht']
      have HT := hide (And.intro ht ht')
      clear ht ht'
      have a1 := add_F (a := min t 4503599627370496) (b := q.1) (by omega) (by omega)
      have a2 := add_F (a := min t' 4503599627370496) (b := q.2) (by omega) (by omega)
      have hadd := fun w => run_complex_sum (P := Try.prog) w .add (.inl rfl) 32 .f64 (F (min t 4503599627370496)) (F (min t' 4503599627370496)) (F q.1) (F q.2) _ _ (by unfold cSumBits; rw [a1, a2]; rfl)
      have HB2 := fun w => bounded_any (min t 4503599627370496 + q.1) (min t' 4503599627370496 + q.2) w (by omega) (by omega)
      rw [e52, min_step, min_step] at HB2
      have HB2 := hide HB2
      clear hat hv hlk hkey hcap e53 e52 a1 a2 hg2
      generalize F (min t 4503599627370496 + q.1) = X at *
      generalize F (min t' 4503599627370496 + q.2) = Y at *
      generalize F (min t 4503599627370496) = X0 at *
      generalize F (min t' 4503599627370496) = Y0 at *
      generalize F q.1 = X1 at *
      generalize F q.2 = Y1 at *
      unfold mkC at hen ⊢
      simp only at hen ⊢
      go_wp2_with fail
      refine (unhide HB2 _).mono ?_
      rintro e w3 ⟨rfl, rfl⟩
      go_wp2
      go_roundw
      case rel =>
        refine ⟨_, cnt2, fun z => f z && !(z == x), hrg2, fun y hy => ?_, ?_, hb2⟩
        · show (left (.string y.1) && !(Lit.string y.1).sameKey (.string x)) = _
          rw [hleft y hy]
          rfl
        · rw [(unhide HA).1, (unhide HA).2]
      case measure => rw [hrg2.left_eq, hrg.left_eq]; exact hlt2

end Go.Proofs.Ytfbbdfeigenodaa
