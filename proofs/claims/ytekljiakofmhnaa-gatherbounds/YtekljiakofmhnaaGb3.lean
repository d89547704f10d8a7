/- What Put answers is known ahead; what calls were made. No program in it but Put's own contract. -/
import Derived.Test.YtekljiakofmhnaaGb1
import Derived.Test.YtekljiakofmhnaaGb2
import Derived.Test.YtekljiakofmhnaaGb4
namespace Go.Proofs.Ytekljiakofmhnaa
open Go.RowKit Go.Shelf

/-- what Put answers -/
def putX (c : Cf) (L : List En) (last : Int) (h : Rh) (d : ByteArray) (now : Int) : Ending :=
  if encE h d.size ≠ 0 then noR 2
  else if h.at' = 0 ∧ h.more = false then .returned (.tuple #[hdV h, .string d, .bool true, .int .i64 0])
  else match takeS c L last h ⟨h.at', d, h.more⟩ now with
    | .no e => noR e
    | .spoil => noR 3
    | .ok y _ => if wholeF 0 true y.ps = true then .returned (.tuple #[hdV ⟨y.hd.tos, y.hd.id, y.hd.hold, false, y.hd.at', y.hd.ttl, y.hd.proto, y.hd.frm, y.hd.to, y.hd.op⟩, .string ⟨(datB y.ps).toArray⟩, .bool true, .int .i64 0]) else noR 0
theorem putX_of {No : Nat → Prop} {w w' : World} {p b : Nat} {c : Cf} {L : List En} {last now : Int} {h : Rh} {d : ByteArray} {x : Ending} (hp : PutPost No w p b c L last h d now x w') : x = putX c L last h d now := by
  obtain ⟨-, hp⟩ := hp
  unfold putX
  split at hp
  · rename_i he
    rw [if_pos he]
    exact hp.1
  rename_i he
  rw [if_neg he]
  split at hp
  · rename_i hn
    rw [if_pos hn]
    exact hp.1
  rename_i hn
  rw [if_neg hn]
  rcases hr : takeS c L last h ⟨h.at', d, h.more⟩ now with e | _ | ⟨y, l'⟩
  · rw [hr] at hp
    exact hp.1
  · rw [hr] at hp
    exact hp.1
  · rw [hr] at hp
    simp only [takenQ] at hp
    split at hp
    · rename_i hq
      simp only
      rw [if_pos hq]
      exact hp.1
    · rename_i hq
      simp only
      rw [if_neg hq]
      exact hp.1
theorem putX_cases (c : Cf) (L : List En) (last : Int) (h : Rh) (d : ByteArray) (now : Int) : (∃ e, putX c L last h d now = noR e) ∨ ∃ hr s, putX c L last h d now = .returned (.tuple #[hdV hr, .string s, .bool true, .int .i64 0]) := by
  unfold putX
  split
  · exact .inl ⟨_, rfl⟩
  split
  · exact .inr ⟨_, _, rfl⟩
  split
  · exact .inl ⟨_, rfl⟩
  · exact .inl ⟨_, rfl⟩
  · split
    · exact .inr ⟨_, _, rfl⟩
    · exact .inl ⟨_, rfl⟩
theorem putX_shape (c : Cf) (L : List En) (last : Int) (h : Rh) (d : ByteArray) (now : Int) : ∃ hr s isb ee, putX c L last h d now = .returned (.tuple #[hdV hr, .string s, .bool isb, .int .i64 ee]) ∧ (isb = false ∨ (isb = true ∧ ee = 0)) := by
  rcases putX_cases c L last h d now with ⟨e, he⟩ | ⟨hr, s, he⟩
  · exact ⟨rh0, ⟨#[]⟩, false, e, he, .inl rfl⟩
  · exact ⟨hr, s, true, 0, he, .inr ⟨rfl, rfl⟩⟩
theorem hdV_inj {a b : Rh} (h : hdV a = hdV b) : a = b := by
  obtain ⟨a0, a1, a2, a3, a4, a5, a6, a7, a8, a9⟩ := a
  obtain ⟨b0, b1, b2, b3, b4, b5, b6, b7, b8, b9⟩ := b
  simp only [Value.agg.injEq, Array.mk.injEq, List.cons.injEq, Value.int.injEq, Value.bool.injEq, Value.string.injEq, true_and, and_true, Int.natCast_inj] at h
  obtain ⟨rfl, rfl, rfl, rfl, rfl, rfl, rfl, rfl, rfl, rfl⟩ := h
  rfl
/-- a whole one -/
theorem PutR.get {H : List Ps} {k : Pk} {hr : Rh} {s : ByteArray} (h : PutR H k (.returned (.tuple #[hdV hr, .string s, .bool true, .int .i64 0]))) : pkOf hr = k ∧ hr.at' = 0 ∧ hr.more = false ∧ s.size ≤ 65535 ∧ MadeB H k s := by
  generalize hx : Ending.returned (.tuple #[hdV hr, .string s, .bool true, .int .i64 0]) = x at h
  cases h with
  | no e =>
    simp only [noR, Ending.returned.injEq, Value.tuple.injEq, Array.mk.injEq, List.cons.injEq, Value.bool.injEq] at hx
    have := hx.2.2.1
    cases this
  | whole h' s' hk ha hm hs hb =>
    simp only [Ending.returned.injEq, Value.tuple.injEq, Array.mk.injEq, List.cons.injEq, Value.string.injEq, and_true] at hx
    obtain ⟨h1, h2⟩ := hx
    obtain rfl := hdV_inj h1
    subst h2
    exact ⟨hk, ha, hm, hs, hb⟩

theorem put_law {p b : Nat} {c : Cf} {L : List En} {last : Int} {H : List Ps} (hw : WF c L last) (hf : FromE c H last L) (h : Rh) (hin : h.In) (d : ByteArray) (now : Int) (hd : d.size ≤ 1073741824) (hop : h.op.size ≤ 1073741824) (No : Nat → Prop) (W : World) (hg : GQ No W p b c L last) :
    Calls Try.prog 10 #[.pointer (some ⟨p, 0, none⟩), hdV h, .string d, .int .i64 now] W fun x w' => x = putX c L last h d now ∧ Ks No W w' ∧ AftP c (H ++ [(h, d)]) (pkOf h) (putX c L last h d now) last now p b No w' := by
  obtain ⟨o, g⟩ := hg
  refine (put_any g hw h hin d now hd hop).mono ?_
  intro x w' hp
  obtain ⟨L', last', h1, h2, h3, h4, h5, h6⟩ := put_from hw hf hin hop hp
  have hx := putX_of hp
  refine ⟨hx, hp.1, L', last', h1, h2, h3, h4, h5, ?_⟩
  rw [← hx]
  exact h6

/-- the heads and data that were put -/
def hist (L : List Cl) : List Ps := (L.filter (fun x => decide (x.d % 6 ≠ 5))).map (fun x => (x.h, x.s))
theorem hist_put {L : List Cl} {k : Nat} {x : Cl} (hx : L[k]? = some x) (hd : x.d % 6 ≠ 5) : hist (L.take (k + 1)) = hist (L.take k) ++ [(x.h, x.s)] := by
  obtain ⟨hlt, he⟩ := List.getElem?_eq_some_iff.1 hx
  rw [take_snoc' L k hlt, he]
  unfold hist
  rw [List.filter_append, List.map_append]
  congr 1
  rw [List.filter_cons_of_pos (by simpa using hd)]
  rfl
theorem hist_tick {L : List Cl} {k : Nat} {x : Cl} (hx : L[k]? = some x) (hd : x.d % 6 = 5) : hist (L.take (k + 1)) = hist (L.take k) := by
  obtain ⟨hlt, he⟩ := List.getElem?_eq_some_iff.1 hx
  rw [take_snoc' L k hlt, he]
  unfold hist
  rw [List.filter_append, List.map_append, List.filter_cons_of_neg (by simpa using hd)]
  simp
theorem madeC_of {L : List Cl} {k : Pk} {s : ByteArray} (h : MadeB (hist L) k s) : MadeC L k s := by
  intro i hi
  obtain ⟨y, hy, hk, q, h1, h2, h3⟩ := h i hi
  unfold hist at hy
  obtain ⟨x, hx, rfl⟩ := List.mem_map.1 hy
  obtain ⟨hx1, hx2⟩ := List.mem_filter.1 hx
  obtain ⟨j, hj⟩ := List.mem_iff_getElem?.1 hx1
  exact ⟨j, x, hj, by simpa using hx2, hk, q, h1, h2, h3⟩
theorem ClsAt.take {w : World} {a : Option Addr} {n cap : Nat} {L : List Cl} (h : ClsAt w (.slice a n cap) L) {i : Nat} (hi : i ≤ L.length) (h0 : 0 < L.length) : ClsAt w (.slice a i cap) (L.take i) := by
  rcases h with ⟨_, e⟩ | ⟨g, off, cap', e, h1, h2, hg, hc⟩
  · rw [e] at h0; simp at h0
  · injection e with e1 e2 e3
    subst e1 e3
    have hl : (L.take i).length = i := by rw [List.length_take]; omega
    refine .inr ⟨g, off, cap, by rw [hl], by omega, h2, hg, fun j r hj => hc j r ?_⟩
    rw [List.getElem?_take] at hj
    split at hj
    · exact hj
    · cases hj

end Go.Proofs.Ytekljiakofmhnaa
