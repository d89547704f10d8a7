/- How many packets wait, over the loaded program. -/
import Derived.Test.YtjcigoojlmalnaaNr3
namespace Go.Proofs.Ytjcigoojlmalnaa
open Go.RowKit Go.Maps

/-- how many wait for those that f leaves out -/
def sumF (f : Nat → Bool) : Ens → Nat
  | [] => 0
  | y :: r => (if f y.1 then 0 else y.2.ws.length) + sumF f r
theorem sumF_all (f : Nat → Bool) : ∀ L : Ens, (∀ x ∈ L, f x.1 = true) → sumF f L = 0
  | [], _ => rfl
  | y :: r, h => by
    unfold sumF
    rw [h y (by simp), sumF_all f r (fun x hx => h x (by simp [hx]))]
    rfl
theorem sumF_eq {f f' : Nat → Bool} : ∀ {L : Ens}, (∀ x ∈ L, f x.1 = f' x.1) → sumF f L = sumF f' L
  | [], _ => rfl
  | y :: r, h => by
    unfold sumF
    rw [h y (by simp), sumF_eq (L := r) (fun x hx => h x (by simp [hx]))]
theorem sumF_tot : ∀ {L : Ens} {f : Nat → Bool}, (∀ x ∈ L, f x.1 = false) → sumF f L = tot L
  | [], _, _ => rfl
  | y :: r, f, h => by
    unfold sumF tot
    rw [h y (by simp), sumF_tot (L := r) (fun x hx => h x (by simp [hx]))]
    rfl
theorem sumF_le (f : Nat → Bool) : ∀ L : Ens, sumF f L ≤ tot L
  | [] => Nat.le_refl _
  | y :: r => by
    unfold sumF tot
    have := sumF_le f r
    split <;> omega
theorem sumF_step {f : Nat → Bool} {s : Nat} {q : En} : ∀ {L : Ens}, SrtN L → lookN s L = some q → f s = true → sumF (fun z => f z && !(z == s)) L = sumF f L + q.ws.length
  | [], _, h, _ => by simp [lookN] at h
  | y :: r, hS, h, hf => by
    obtain ⟨h1, h2⟩ := List.pairwise_cons.1 hS
    unfold sumF
    by_cases e : y.1 = s
    · rw [lookN_eq e] at h
      have hq : y.2 = q := by simpa using h
      rw [sumF_eq (f' := f) (L := r)]
      · rw [e, hf, hq]
        simp
        omega
      · intro x hx
        have : (x.1 == s) = false := beq_eq_false_iff_ne.2 (by have := h1 x hx; omega)
        rw [this]; simp
    · rw [lookN_ne e] at h
      rw [sumF_step h2 h hf]
      have : (y.1 == s) = false := beq_eq_false_iff_ne.2 e
      rw [this]
      simp
      omega

theorem invV (v : Value) (y : DataW Value × List MemPlace) (_ : vE v = some y) : ∃ c, v = id c := ⟨v, rfl⟩
theorem invK (key : Value) (kl : Lit) (h : keyOf Try.prog 35 key = some kl) : ∃ x, key = Value.int .u32 x := by
  obtain ⟨x, hx, _⟩ := Maps.keyOf_int_inv Try.underlying35 h
  exact ⟨x, hx⟩
/-- an element that comes of the map -/
theorem at_entry {f : Nat → Value} {L : Ens} {x : Int} {v : Value} (hw : (Lit.int .u32 x).wf = true) (h : ∀ zd, (dmN .u32 (evE f) L).atKey (.int .u32 x) zd = .held v) : ∃ k e, x = ((k : Nat) : Int) ∧ lookN k L = some e ∧ v = evE f (k, e) := by
  obtain ⟨k, rfl, _⟩ := nat32 hw
  refine ⟨k, ?_⟩
  cases hl : lookN k L with
  | none =>
    have h1 := h .nil
    rw [dmN_at, hl] at h1
    simp at h1
  | some e =>
    have h1 := h .nil
    rw [dmN_at, hl] at h1
    simp at h1
    exact ⟨e, rfl, rfl, h1.symm⟩

section
variable {No : Nat → Prop} {w : World} {p b : Nat} {c : Cf} {last : Nat} {L : Ens}
set_option maxRecDepth 100000 in
set_option maxHeartbeats 1000000 in
theorem waiting_any (h : PN No w p b c last L) :
    Calls Try.prog 26 #[.pointer (some ⟨p, 0, none⟩)] w fun e w' => e = .returned (.int .i64 (tot L : Int)) ∧ Below w.heap.size w w' := by
  obtain ⟨f, h⟩ := h
  have hc := box6 h
  have hown := h.map
  have hrow : Hid (∀ x ∈ L, ∃ sp sc, f x.1 = .slice sp x.2.ws.length sc) := fun x hx => row_shape (h.row x hx)
  have hS : Hid (SrtN L) := h.wl.srt
  have htot : tot L ≤ 1024 := Nat.le_trans h.wl.tot h.ok.w
  generalize L.length = n at hown
  clear h
  go_enter Try.func26, Try.ntmps26
  go_wp2_with (first
    | (at_range; refine wpList_range_own _ rfl _ 53 rfl 35 58 law32 Try.underlying53 _ b n _ rfl hown ?_; intro w0 hrg0 hg0 hs0)
    | go_in)
  go_frame
  go_loopw [3] (fun sm wr => ∃ (left : Lit → Bool) (cnt : Nat) (g : Nat → Bool), wr.ranges Try.prog 35 vE b w.heap.size n (dmN .u32 (evE f) L) left cnt ∧ (∀ x ∈ L, left (.int .u32 (x.1 : Int)) = g x.1)
      ∧ sm = .int .i64 (sumF g L : Int) ∧ Below w.heap.size w wr)
    (fun _ wr => wr.rangeLeft b w.heap.size)
  case atStart =>
    refine ⟨_, _, fun _ => true, hrg0, fun x hx => ?_, ?_, (Below.refl _ _).grown hg0 (Nat.le_refl _) (by simp)⟩
    · rw [dmN_has, lookN_mem (unhide hS) hx]; rfl
    · rw [sumF_all _ L (fun _ _ => rfl)]; rfl
  case round =>
    obtain ⟨left, cnt, g, hrg, hleft, rfl, hbel⟩ := hrel
    go_wp2_with (first
      | (at_next; refine wpList_next_ranges _ rfl _ rfl 35 law32 vE (Value.int .u32) id invK invV b w.heap.size n _ _ _ rfl hrg ?_ ?_)
      | go_in)
    · intro hc0 hl0
      have HT : Hid (sumF g L = tot L) := sumF_tot (fun x hx => by rw [← hleft x hx, hl0])
      go_wp2
      go_ret
      refine ⟨?_, hbel⟩
      rw [← unhide HT]
      rfl
    · intro x v kl yd yp w2 cnt2 hkey hlk hv hat hrg2 hlt2 hg2 hs2 hen
      clear hs2 hs0
      obtain ⟨x', ex, rfl, hwf⟩ := Maps.keyOf_int_inv Try.underlying35 hkey
      obtain rfl : x = x' := by simpa using ex
      have hyd : yd = .held v := by
        have : vE v = some (.held v, []) := rfl
        rw [this] at hv
        simp at hv
        exact hv.1.symm
      subst hyd
      obtain ⟨k, q, rfl, hq, rfl⟩ := at_entry hwf hat
      obtain ⟨sp, sc, hsl⟩ := unhide hrow (k, q) (lookN_some hq)
      simp only at hsl
      have hfx : g k = true := by rw [← hleft (k, q) (lookN_some hq)]; exact hlk
      have HA := hide (sumF_step (unhide hS) hq hfx)
      have hle := sumF_le (fun z => g z && !(z == k)) L
      rw [unhide HA] at hle
      have hb2 := hbel.grown hg2 hbel.size (by rintro k ⟨⟩; exact Nat.le_refl _)
      have h1 : ((sumF g L : Nat) : Int) + (q.ws.length : Int) ≤ 1024 := by omega
      clear hat hv hkey hg2 hq hwf hle htot
      obtain ⟨s, m, t, a, ws⟩ := q
      simp only [evE, hsl] at hen ⊢
      simp only at HA h1
      clear hsl
      generalize ws.length = wl at *
      obtain ⟨S0, hS0⟩ : ∃ S0, S0 = sumF g L := ⟨_, rfl⟩
      rw [← hS0] at HA h1 ⊢
      have HS0 := hide hS0
      clear hS0
      go_wp2
      go_roundw
      case rel =>
        refine ⟨_, cnt2, fun z => g z && !(z == k), hrg2.alloc _, fun y hy => ?_, ?_, hb2.alloc hb2.size _⟩
        · show (left (.int .u32 (y.1 : Int)) && !(Lit.int .u32 (y.1 : Int)).sameKey (.int .u32 (k : Int))) = _
          rw [hleft y hy, same_int]
        · rw [unhide HA]; rfl
      case measure => rw [(hrg2.alloc _).left_eq, hrg.left_eq]; exact hlt2
end

end Go.Proofs.Ytjcigoojlmalnaa
