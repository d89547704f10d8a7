/- The contract of package gather's Put, whole. Conditions: numbers in their bounds. -/
import Derived.Test.YtekljiakofmhnaaGu2
import Derived.Test.YtekljiakofmhnaaGu3
import Derived.Test.YtekljiakofmhnaaGu4
namespace Go.Proofs.Ytekljiakofmhnaa
open Go.RowKit Go.Shelf

variable {No : Nat → Prop} {w : World} {p b : Nat} {c : Cf} {L : List En} {o : Value} {last : Int}
/-- a Gather over these, with whatever room -/
def GQ (No : Nat → Prop) (w : World) (p b : Nat) (c : Cf) (L : List En) (last : Int) : Prop := ∃ o, GX No w p b c L (L.map (·.k)) o (heldE L : Nat) last
def takenQ (No : Nat → Prop) (w' : World) (p b : Nat) (c : Cf) (L : List En) (last : Int) (h : Rh) (x : Ending) : TK → Prop
  | .no e => x = noR e ∧ GQ No w' p b c L last
  | .spoil => x = noR 3 ∧ GQ No w' p b c (setE (pkOf h) (spoiltG (xOf L (pkOf h)).ov) (.slice none 0 0) L) last
  | .ok y l' => if wholeF 0 true y.ps = true then x = .returned (.tuple #[hdV ⟨y.hd.tos, y.hd.id, y.hd.hold, false, y.hd.at', y.hd.ttl, y.hd.proto, y.hd.frm, y.hd.to, y.hd.op⟩, .string ⟨(datB y.ps).toArray⟩, .bool true, .int .i64 0]) ∧ GQ No w' p b c (dropE (pkOf h) L) l'
      else x = noR 0 ∧ ∃ v, GQ No w' p b c (setE (pkOf h) y v L) l'
def PutPost (No : Nat → Prop) (w : World) (p b : Nat) (c : Cf) (L : List En) (last : Int) (h : Rh) (d : ByteArray) (now : Int) (x : Ending) (w' : World) : Prop :=
  Ks No w w' ∧ if encE h d.size ≠ 0 then x = noR 2 ∧ GQ No w' p b c L last
    else if h.at' = 0 ∧ h.more = false then x = .returned (.tuple #[hdV h, .string d, .bool true, .int .i64 0]) ∧ GQ No w' p b c L (cntT last now)
    else takenQ No w' p b c L last h x (takeS c L last h ⟨h.at', d, h.more⟩ now)
theorem takeS_no {c : Cf} {L : List En} {last : Int} {h : Rh} {pt : Pt} {now e : Int} (hr : takeS c L last h pt now = .no e) : e ≠ 0 := by
  unfold takeS at hr
  split at hr
  · injection hr; omega
  split at hr
  · injection hr; omega
  split at hr
  · injection hr; omega
  split at hr
  · cases hr
  split at hr
  · injection hr; omega
  · cases hr
theorem set_keys (k : Pk) (x : Ga) (v v' : Value) (L : List En) : (setE k x v L).map (·.k) = (setE k x v' L).map (·.k) := by
  unfold setE
  split
  · rw [List.map_map, List.map_map]
    apply List.map_congr_left
    intro e _
    simp only [Function.comp]
    split <;> rfl
  · simp
theorem set_held (k : Pk) (x : Ga) (v v' : Value) (L : List En) : heldE (setE k x v L) = heldE (setE k x v' L) := by
  unfold setE heldE
  split
  · rw [List.map_map, List.map_map]
    congr 1
    apply List.map_congr_left
    intro e _
    simp only [Function.comp]
    split <;> rfl
  · simp

theorem put_any (hg : GX No w p b c L (L.map (·.k)) o (heldE L : Nat) last) (hwf : WF c L last) (h : Rh) (hin : h.In) (d : ByteArray) (now : Int) (hd : d.size ≤ 1073741824) (hop : h.op.size ≤ 1073741824) :
    Calls Try.prog 10 #[.pointer (some ⟨p, 0, none⟩), hdV h, .string d, .int .i64 now] w (PutPost No w p b c L last h d now) := by
  by_cases he : encE h d.size ≠ 0
  · refine (put_arg hg h hin d now hd he).mono ?_
    rintro x w' ⟨rfl, hb⟩
    refine ⟨Ks.of_below hb, ?_⟩
    rw [if_pos he]
    exact ⟨rfl, _, hg.below hb⟩
  have he0 : encE h d.size = 0 := by simpa using he
  obtain ⟨m1, m2, m3⟩ := encE_zero he0
  have hes : ∃ s, EncIs h d s 0 := ⟨_, .inr ⟨⟨m1, m2, m3⟩, rfl, rfl⟩⟩
  by_cases hn : h.at' = 0 ∧ h.more = false
  · refine (put_now hg h hin d now hd hop hes hn.1 hn.2).mono ?_
    rintro x w' ⟨rfl, hgx, hk⟩
    refine ⟨hk, ?_⟩
    rw [if_neg he, if_pos hn]
    exact ⟨rfl, _, hgx⟩
  have hpt : Pt.In ⟨h.at', d, h.more⟩ := by
    obtain ⟨a1, a2, a3, a4, a5⟩ := m1
    unfold roomB at m3
    exact ⟨a1, by show h.at' ≤ 65535; omega, by show d.size ≤ 65535; omega⟩
  have h40 : h.op.size ≤ 40 := m1.2.2.2.1
  have hx := hwf.xof (pkOf h)
  rcases hr : takeS c L last h ⟨h.at', d, h.more⟩ now with e | _ | ⟨y, l'⟩
  · refine (put_refused hg h hin d now hd hop hes hn e (takeS_no hr) (hide fun No' W g => (take_any g h hin d now hwf hpt h40 hn _ hr).mono fun x w' q => ⟨q.1, q.2.1, q.2.2⟩)).mono ?_
    rintro x w' ⟨hk, rfl, o', hgx⟩
    refine ⟨hk, ?_⟩
    rw [if_neg he, if_neg hn, hr]
    exact ⟨rfl, o', hgx⟩
  · refine (put_refused hg h hin d now hd hop hes hn 3 (by decide) (hide fun No' W g => (take_any g h hin d now hwf hpt h40 hn _ hr).mono fun x w' q => ⟨q.1, q.2.1, q.2.2⟩)).mono ?_
    rintro x w' ⟨hk, rfl, o', hgx⟩
    refine ⟨hk, ?_⟩
    rw [if_neg he, if_neg hn, hr]
    exact ⟨rfl, o', hgx⟩
  · obtain ⟨-, y1, y2⟩ := hwf.taken hin hop hpt hr (.slice none 0 0)
    have yl : y.ps.length ≤ 65536 := by have := y1.len; omega
    have HT := hide (fun (No' : Nat → Prop) (W : World) (g : GX No' W p b c L (L.map (·.k)) o (heldE L : Nat) last) => (take_any g h hin d now hwf hpt h40 hn _ hr).mono fun x w' q => (⟨q.1, by
      obtain ⟨-, v', e1, e2, o', e3⟩ := q
      refine ⟨v', e1, e2, o', ?_⟩
      rw [set_keys _ _ v' (.slice none 0 0) L, set_held _ _ v' (.slice none 0 0) L] at e3
      exact e3⟩ : Ks No' W w' ∧ ∃ v', x = .returned (.tuple #[gaV y v', .int .i64 0]) ∧ PV w' v' y.ps ∧ ∃ o', GX No' w' p b c (setE (pkOf h) y v' L) ((setE (pkOf h) y (.slice none 0 0) L).map (·.k)) o' (heldE (setE (pkOf h) y (.slice none 0 0) L) : Nat) l'))
    rcases hq : wholeF 0 true y.ps with _ | _
    · refine (put_part (L' := fun v => setE (pkOf h) y v L) hg h hin d now hd hop hes hn y yl y1.inp hq HT).mono ?_
      rintro x w' ⟨hk, rfl, v', o', hgx⟩
      refine ⟨hk, ?_⟩
      rw [if_neg he, if_neg hn, hr]
      simp only [takenQ]
      rw [if_neg (by rw [hq]; decide)]
      refine ⟨trivial, v', o', ?_⟩
      rw [set_keys _ _ v' (.slice none 0 0) L, set_held _ _ v' (.slice none 0 0) L]
      exact hgx
    · have hys : sumP y.ps ≤ 1048576 := by have := y2 hq; omega
      have HD := hide (fun (No' : Nat → Prop) (v' o' : Value) (W : World) (g : GX No' W p b c (setE (pkOf h) y v' L) ((setE (pkOf h) y (.slice none 0 0) L).map (·.k)) o' (heldE (setE (pkOf h) y (.slice none 0 0) L) : Nat) l') => by
        obtain ⟨wf, -, -⟩ := hwf.taken hin hop hpt hr v'
        have ok := wf.ok
        have q1 := ok.m1
        have q2 := ok.b1
        have q3 := wf.len
        have q4 := wf.held
        rw [set_keys _ _ (.slice none 0 0) v' L, set_held _ _ (.slice none 0 0) v' L] at g
        have r := drop_any g (k := pkOf h) ⟨hin.frm, hin.to, hin.proto, hin.id⟩ (lookE_setE_same _ _ _ _) wf.nd (by omega) (by omega) yl y1.inp
        rw [drop_set] at r
        exact r)
      refine (put_whole (L' := fun v => setE (pkOf h) y v L) hg h hin d now hd hop hes hn y yl y1.inp hys hq (fun v' => ⟨_, (lookE_some (lookE_setE_same _ _ _ _)).1, rfl⟩) (fun e he => (List.mem_filter.1 he).1) HT HD).mono ?_
      rintro x w' ⟨hk, rfl, o', hgx⟩
      refine ⟨hk, ?_⟩
      rw [if_neg he, if_neg hn, hr]
      simp only [takenQ]
      rw [if_pos hq]
      exact ⟨trivial, o', hgx⟩

end Go.Proofs.Ytekljiakofmhnaa
