/- How a packet is cut, without the program: its parts, each a head and its data, and what is known of them. -/
import Derived.Test.YtefenejeppmfiaaRk12
import Derived.Test.YtefenejeppmfiaaAl10
namespace Go.Proofs.Ytefenejeppmfiaa
open Go.RowKit

abbrev Pc := Rh × ByteArray
def datL : List Pc → ByteArray
  | [] => ⟨#[]⟩
  | p :: L => p.2 ++ datL L
theorem ba_nil_app (a : ByteArray) : (⟨#[]⟩ : ByteArray) ++ a = a := list_ba (by rw [toList_append]; rfl)
theorem ba_app_nil (a : ByteArray) : a ++ (⟨#[]⟩ : ByteArray) = a := list_ba (by rw [toList_append]; simp)
theorem ba_assoc (a b c : ByteArray) : a ++ b ++ c = a ++ (b ++ c) := list_ba (by simp only [toList_append, List.append_assoc])
theorem datL_app (L M : List Pc) : datL (L ++ M) = datL L ++ datL M := by
  induction L with
  | nil => exact (ba_nil_app _).symm
  | cons p L ih => simp only [List.cons_append, datL, ih, ba_assoc]
theorem datL_take {L : List Pc} {i : Nat} {p : Pc} (h : L[i]? = some p) : datL (L.take (i + 1)) = datL (L.take i) ++ p.2 := by
  rw [List.take_add_one, h, datL_app]
  show _ ++ (p.2 ++ ⟨#[]⟩) = _
  rw [ba_app_nil]
theorem ba_split (d : ByteArray) (n : Nat) : d.extract 0 n ++ d.extract n d.size = d := by
  apply list_ba
  rw [toList_append, Lib.extract_eq, Lib.extract_eq]
  have l := Lib.size_eq d
  simp only [Nat.sub_zero, List.drop_zero]
  rw [List.take_of_length_le (l := d.data.toList.drop n) (by simp), List.take_append_drop]

def most (R : Nat) (h : Rh) : Nat := R - (20 + h.op.size)
def part (h : Rh) : Rh := { h with more := true }
def nxt (h : Rh) (n : Nat) (k : ByteArray) : Rh := { h with at' := h.at' + n, op := k }
/-- the parts, with so many to come at most -/
def pcs (k : ByteArray) (R : Nat) : Nat → Rh → ByteArray → List Pc
  | 0, h, d => [(h, d)]
  | f + 1, h, d => if d.size ≤ most R h then [(h, d)] else (part h, d.extract 0 (most R h / 8 * 8)) :: pcs k R f (nxt h (most R h / 8 * 8) k) (d.extract (most R h / 8 * 8) d.size)
def pieces (k : ByteArray) (R : Nat) (h : Rh) (d : ByteArray) : List Pc := pcs k R d.size h d
theorem pcs_fuel (k : ByteArray) (R : Nat) (hk : 28 + k.size ≤ R) : ∀ (f : Nat) (h : Rh) (d : ByteArray), 28 + h.op.size ≤ R → d.size ≤ f → pcs k R f h d = pieces k R h d := by
  intro f
  induction f using Nat.strongRecOn with
  | ind f ih =>
    intro h d hh hf
    unfold pieces
    cases f with
    | zero => rw [show d.size = 0 by omega]
    | succ f =>
      have hm : 8 ≤ most R h := by unfold most; omega
      cases hd : d.size with
      | zero => simp [pcs, hd]
      | succ g =>
        simp only [pcs]
        split
        · rfl
        · rename_i hn
          have hs : (d.extract (most R h / 8 * 8) d.size).size ≤ g := by rw [ByteArray.size_extract]; omega
          have e1 := ih f (by omega) (nxt h (most R h / 8 * 8) k) (d.extract (most R h / 8 * 8) d.size) hk (by omega)
          have e2 := ih g (by omega) (nxt h (most R h / 8 * 8) k) (d.extract (most R h / 8 * 8) d.size) hk hs
          rw [e1, e2]
theorem pieces_last {k : ByteArray} {R : Nat} {h : Rh} {d : ByteArray} (hl : d.size ≤ most R h) : pieces k R h d = [(h, d)] := by
  unfold pieces
  cases hd : d.size with
  | zero => rfl
  | succ g => simp only [pcs]; rw [if_pos (by omega)]
theorem pieces_more {k : ByteArray} {R : Nat} {h : Rh} {d : ByteArray} (hk : 28 + k.size ≤ R) (hh : 28 + h.op.size ≤ R) (hl : ¬ d.size ≤ most R h) :
    pieces k R h d = (part h, d.extract 0 (most R h / 8 * 8)) :: pieces k R (nxt h (most R h / 8 * 8) k) (d.extract (most R h / 8 * 8) d.size) := by
  have hm : 8 ≤ most R h := by unfold most; omega
  conv => lhs; unfold pieces
  cases hd : d.size with
  | zero => omega
  | succ g =>
    have hs : (d.extract (most R h / 8 * 8) d.size).size ≤ g := by rw [ByteArray.size_extract]; omega
    have e := pcs_fuel k R hk g (nxt h (most R h / 8 * 8) k) (d.extract (most R h / 8 * 8) d.size) hk hs
    simp only [pcs]
    rw [if_neg (by omega)]
    rw [hd] at e ⊢
    rw [e]

/-- a head that may be with so much data -/
structure HOk (h : Rh) (n : Nat) : Prop where
  i : h.In
  m : h.MayB
  w : wholeB h.more n
  r : roomB h n
/-- what is known of a packet's parts: k is what is kept of its options -/
structure PcOk (h : Rh) (k : ByteArray) (room : Int) (L : List Pc) : Prop where
  ne : L ≠ []
  val : ∀ p ∈ L, HOk p.1 p.2.size
  hd : ∀ i p, L[i]? = some p → p.1 = { h with at' := h.at' + ((datL (L.take i)).size : Nat), more := if i + 1 = L.length then h.more else true, op := if i = 0 then h.op else k }
  le : ∀ p ∈ L, ((20 + p.1.op.size + p.2.size : Nat) : Int) ≤ room
  mid : ∀ i p, L[i]? = some p → i + 1 < L.length → p.2.size % 8 = 0 ∧ p.2.size ≠ 0 ∧ room < ((20 + p.1.op.size + p.2.size + 8 : Nat) : Int)
theorem pcok_one {h : Rh} {k d : ByteArray} {room : Int} (hv : HOk h d.size) (hl : ((20 + h.op.size + d.size : Nat) : Int) ≤ room) : PcOk h k room [(h, d)] := by
  refine ⟨by simp, fun p hp => ?_, fun i p hp => ?_, fun p hp => ?_, fun i p _ hi => ?_⟩
  · simp at hp; subst hp; exact hv
  · have hi : i = 0 := by have := (List.getElem?_eq_some_iff.1 hp).1; simp at this; exact this
    subst hi
    simp at hp
    subst hp
    show h = { h with at' := h.at' + ((0 : Nat) : Int), more := h.more, op := h.op }
    simp
  · simp at hp; subst hp; exact hl
  · simp at hi
theorem ext_size (d : ByteArray) (n : Nat) (h : n ≤ d.size) : (d.extract 0 n).size = n ∧ (d.extract n d.size).size = d.size - n := by rw [ByteArray.size_extract, ByteArray.size_extract]; omega
theorem hok_part {h : Rh} {n m : Nat} (hv : HOk h n) (h8 : m % 8 = 0) (h0 : 0 < m) (hl : m ≤ n) : HOk (part h) m := by
  obtain ⟨⟨i1, i2, i3, i4, i5, i6, i7, i8, i9⟩, ⟨m1, m2, m3, m4, m5⟩, w, r⟩ := hv
  unfold roomB at r
  exact ⟨⟨i1, i2, i3, i4, i5, i6, i7, i8, i9⟩, ⟨m1, m2, m3, m4, m5⟩, fun _ => ⟨h0, h8⟩, by unfold roomB part; simp only; omega⟩
theorem hok_nxt {h : Rh} {k : ByteArray} {n m : Nat} (hv : HOk h n) (h8 : m % 8 = 0) (hl : m < n) (k1 : k.size ≤ h.op.size) (k4 : k.size % 4 = 0) : HOk (nxt h m k) (n - m) := by
  obtain ⟨⟨i1, i2, i3, i4, i5, i6, i7, i8, i9⟩, ⟨m1, m2, m3, m4, m5⟩, w, r⟩ := hv
  unfold roomB at r
  refine ⟨⟨i1, i2, ?_, ?_, i5, i6, i7, i8, ?_⟩, ⟨?_, ?_, ?_, ?_, ?_⟩, fun hm => ?_, ?_⟩
  · show _ ≤ h.at' + (m : Int); omega
  · show h.at' + (m : Int) ≤ _; omega
  · show k.size ≤ _; omega
  · show 0 ≤ h.at' + (m : Int); omega
  · show h.at' + (m : Int) ≤ _; omega
  · show (h.at' + (m : Int)) % 8 = 0; omega
  · show k.size ≤ 40; omega
  · exact k4
  · have := w hm; omega
  · show h.at' + (m : Int) + ((n - m : Nat) : Int) + (20 + k.size : Nat) ≤ 65535
    omega
theorem pieces_ok (k : ByteArray) (R : Nat) (hk : 28 + k.size ≤ R) (k4 : k.size % 4 = 0) : ∀ (f : Nat) (h : Rh) (d : ByteArray), d.size ≤ f → 28 + h.op.size ≤ R → k.size ≤ h.op.size → HOk h d.size → PcOk h k R (pieces k R h d) ∧ datL (pieces k R h d) = d := by
  intro f
  induction f with
  | zero =>
    intro h d hf hh _ hv
    rw [pieces_last (by omega)]
    exact ⟨pcok_one hv (by omega), ba_app_nil d⟩
  | succ f ih =>
    intro h d hf hh hkh hv
    by_cases hl : d.size ≤ most R h
    · rw [pieces_last hl]
      unfold most at hl
      exact ⟨pcok_one hv (by omega), ba_app_nil d⟩
    · rw [pieces_more hk hh hl]
      have hm : 8 ≤ most R h := by unfold most; omega
      obtain ⟨n, hn⟩ : ∃ n, most R h / 8 * 8 = n := ⟨_, rfl⟩
      rw [hn]
      have n8 : n % 8 = 0 := by omega
      have n0 : 0 < n := by omega
      have nl : n < d.size := by omega
      have nm : n ≤ most R h ∧ most R h < n + 8 := by omega
      obtain ⟨s1, s2⟩ := ext_size d n (by omega)
      obtain ⟨⟨a1, a2, a3, a4, a5⟩, a6⟩ := ih (nxt h n k) (d.extract n d.size) (by omega) hk (Nat.le_refl _) (by rw [s2]; exact hok_nxt hv n8 nl hkh k4)
      generalize pieces k R (nxt h n k) (d.extract n d.size) = L at *
      refine ⟨⟨by simp, fun p hp => ?_, fun i p hp => ?_, fun p hp => ?_, fun i p hp hi => ?_⟩, by show _ ++ datL L = d; rw [a6, ba_split]⟩
      · rcases List.mem_cons.1 hp with rfl | hp
        · show HOk (part h) (d.extract 0 n).size
          rw [s1]; exact hok_part hv n8 n0 (by omega)
        · exact a2 p hp
      · cases i with
        | zero =>
          simp at hp
          subst hp
          have hL : ¬ 0 + 1 = (((part h, d.extract 0 n) : Pc) :: L).length := by
            cases L with
            | nil => exact absurd rfl a1
            | cons => simp
          rw [if_neg hL, if_pos rfl]
          show part h = { h with at' := h.at' + ((0 : Nat) : Int), more := true, op := h.op }
          unfold part
          simp
        | succ i =>
          simp only [List.getElem?_cons_succ] at hp
          rw [a3 i p hp, if_neg (Nat.succ_ne_zero i)]
          have e1 : datL ((((part h, d.extract 0 n) : Pc) :: L).take (i + 1)) = d.extract 0 n ++ datL (L.take i) := rfl
          have e2 : (i + 1 + 1 = (((part h, d.extract 0 n) : Pc) :: L).length) = (i + 1 = L.length) := by simp
          rw [e1, ByteArray.size_append, s1]
          simp only [e2, nxt]
          congr 1
          · omega
          · split <;> rfl
      · rcases List.mem_cons.1 hp with rfl | hp
        · show ((20 + h.op.size + (d.extract 0 n).size : Nat) : Int) ≤ _
          rw [s1]; unfold most at nm; omega
        · exact a4 p hp
      · cases i with
        | zero =>
          simp at hp
          subst hp
          show (d.extract 0 n).size % 8 = 0 ∧ (d.extract 0 n).size ≠ 0 ∧ _ < ((20 + h.op.size + (d.extract 0 n).size + 8 : Nat) : Int)
          rw [s1]; unfold most at nm; omega
        | succ i =>
          simp only [List.getElem?_cons_succ] at hp
          exact a5 i p hp (by simpa using hi)

/-- what Cut answers: the parts, and the error -/
inductive CutIs (h : Rh) (d : ByteArray) (room : Int) : List Pc → Int → Prop
  | enc : encE h d.size ≠ 0 → CutIs h d room [] (encE h d.size)
  | one : HOk h d.size → ((20 + h.op.size + d.size : Nat) : Int) ≤ room → CutIs h d room [(h, d)] 0
  | held : HOk h d.size → room < ((20 + h.op.size + d.size : Nat) : Int) → h.hold = true → CutIs h d room [] 4
  | full : HOk h d.size → room < ((20 + h.op.size + d.size : Nat) : Int) → h.hold = false → room < ((28 + h.op.size : Nat) : Int) → CutIs h d room [] 6
  | opts : HOk h d.size → room < ((20 + h.op.size + d.size : Nat) : Int) → h.hold = false → ((28 + h.op.size : Nat) : Int) ≤ room → optsR h.op = none → CutIs h d room [] 2
  | cut (M : List Po) : HOk h d.size → room < ((20 + h.op.size + d.size : Nat) : Int) → h.hold = false → ((28 + h.op.size : Nat) : Int) ≤ room → optsR h.op = some (M.map Po.op) → CutIs h d room (pieces (keptB h.op) room.toNat h d) 0
theorem cutIs_ex (h : Rh) (d : ByteArray) (room : Int) (hi : h.In) : ∃ L e, CutIs h d room L e := by
  by_cases hz : encE h d.size = 0
  · obtain ⟨z1, z2, z3⟩ := encE_zero hz
    have hv : HOk h d.size := ⟨hi, z1, z2, z3⟩
    by_cases h1 : ((20 + h.op.size + d.size : Nat) : Int) ≤ room
    · exact ⟨_, _, .one hv h1⟩
    · cases h2 : h.hold with
      | true => exact ⟨_, _, .held hv (by omega) h2⟩
      | false =>
        by_cases h3 : room < ((28 + h.op.size : Nat) : Int)
        · exact ⟨_, _, .full hv (by omega) h2 h3⟩
        · cases h4 : optsR h.op with
          | none => exact ⟨_, _, .opts hv (by omega) h2 (by omega) h4⟩
          | some m =>
            obtain ⟨M, rfl⟩ := lists_map m
            exact ⟨_, _, .cut M hv (by omega) h2 (by omega) h4⟩
  · exact ⟨_, _, .enc hz⟩
theorem kept_le {s : ByteArray} {M : List Po} (h1 : s.size ≤ 40) (h4 : s.size % 4 = 0) (h : optsR s = some (M.map Po.op)) : (keptB s).size ≤ s.size ∧ (keptB s).size % 4 = 0 := by
  have k := keptB_ok h1 h
  have := k.less
  exact ⟨by omega, k.four⟩
/-- what is told where there is no error -/
theorem cut_ok {h : Rh} {d : ByteArray} {room : Int} {L : List Pc} {e : Int} (hc : CutIs h d room L e) (he : e = 0) : PcOk h (keptB h.op) room L ∧ datL L = d := by
  cases hc with
  | enc h1 => exact absurd he h1
  | one hv hl => exact ⟨pcok_one hv hl, ba_app_nil d⟩
  | held _ _ _ => cases he
  | full _ _ _ _ => cases he
  | opts _ _ _ _ _ => cases he
  | cut M hv h1 h2 h3 h4 =>
    have k := kept_le hv.m.2.2.2.1 hv.m.2.2.2.2 h4
    have e : ((room.toNat : Nat) : Int) = room := by omega
    have := pieces_ok (keptB h.op) room.toNat (by omega) k.2 d.size h d (Nat.le_refl _) (by omega) k.1 hv
    rwa [e] at this
theorem cut_no {h : Rh} {d : ByteArray} {room : Int} {L : List Pc} {e : Int} (hc : CutIs h d room L e) (he : e ≠ 0) : L = [] := by
  cases hc with
  | one hv hl => exact absurd rfl he
  | cut M hv h1 h2 h3 h4 => exact absurd rfl he
  | _ => rfl
theorem cut_err {h : Rh} {d : ByteArray} {room : Int} {L : List Pc} {e : Int} (hc : CutIs h d room L e) (hv : HOk h d.size) : e = 0 ∨ e = 4 ∨ e = 6 ∨ e = 2 := by
  cases hc with
  | enc h1 => exact absurd (encE_ok ⟨hv.m, hv.w, hv.r⟩) h1
  | one _ _ => exact .inl rfl
  | held _ _ _ => exact .inr (.inl rfl)
  | full _ _ _ _ => exact .inr (.inr (.inl rfl))
  | opts _ _ _ _ _ => exact .inr (.inr (.inr rfl))
  | cut M _ _ _ _ _ => exact .inl rfl
/-- a part's bytes -/
def pcB (p : Pc) : ByteArray := ⟨(rawB p.1.hd p.2.data.toList).toArray⟩
end Go.Proofs.Ytefenejeppmfiaa
