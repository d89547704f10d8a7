/- A table of routes in memory: its box, its map; the map read and written; how it stands while other memory turns. -/
import Derived.Test.YtmicgkoicmeflaaRl11
import Derived.Test.YtmicgkoicmeflaaTabK
import Derived.Maps.OwnSet
import Derived.Maps.RangeWalk
import Derived.Maps.Ext
import Derived.DeepKeys4
namespace Go.Proofs.Ytmicgkoicmeflaa
open Go.RowKit Go.Maps Go.ChangeMaps Go.WideMaps

abbrev rtV (r : Rt) : Value := .agg #[.int .u32 (r.n : Int), .int .i64 r.b, .int .u32 (r.v : Int), .int .i64 r.c, .int .u32 (r.s : Int)]
abbrev rtZ : Value := .agg #[.int .u32 0, .int .i64 0, .int .u32 0, .int .i64 0, .int .u32 0]
abbrev kyV (n : Nat) (b : Int) : Value := .agg #[.int .u32 (n : Int), .int .i64 b]
def kb (n : Nat) (b : Int) : Lit := .string (keyBytes [.int .u32 (n : Int), .int .i64 b])
def vE (v : Value) : Option (DataW Value × List MemPlace) := some (.held v, [])
/-- a key's numbers are of their kinds -/
structure Kin (n : Nat) (b : Int) : Prop where
  n : n < 4294967296
  b1 : -9223372036854775808 ≤ b
  b2 : b ≤ 9223372036854775807
theorem Rin.key {r : Rt} (h : Rin r) : Kin r.n r.b := ⟨h.n, h.b1, h.b2⟩

theorem laidOut : laidOutB Try.prog = true := by kernel_rfl
theorem rowP : (57 : TypeId) < Try.prog.types.size := of_decide_eq_true (by kernel_rfl)
theorem wideP : (match Try.prog.underlying 57 with | some (.array _ _) | some (.struct _) => true | _ => false) = true := by kernel_rfl
theorem lawP : Keyed Try.prog 57 := Keyed.of_law (deep_law_laid laidOut (m := 2) (by omega) rowP (by kernel_rfl) wideP)
theorem zeroP (w : World) : (zeroValue 32).run Try.prog w = .ok rtZ w := by kernel_rfl
theorem kt57 : Try.prog.keyType 57 = true := by kernel_rfl
theorem cells57 : Try.prog.cellsOf 57 = 2 := by kernel_rfl
theorem sz57 : ∃ m, Try.prog.types.size + 1 = m + 2 := by
  have h : (57 : Nat) < Try.prog.types.size := rowP
  generalize Try.prog.types.size = k at *
  exact ⟨k - 1, by omega⟩
theorem cu32 : Try.prog.cellsOf 30 = 1 := by kernel_rfl
theorem ci64 : Try.prog.cellsOf 3 = 1 := by kernel_rfl
theorem wf_of {n : Nat} {b : Int} (h : Kin n b) : (Lit.int .u32 (n : Int)).wf = true ∧ (Lit.int .i64 b).wf = true := by
  obtain ⟨h1, h2, h3⟩ := h
  constructor
  · simp [Lit.wf, IntKind.min, IntKind.max, IntKind.signed, IntKind.bits]; omega
  · simp [Lit.wf, IntKind.min, IntKind.max, IntKind.signed, IntKind.bits]; omega
theorem key_of {n : Nat} {b : Int} (h : Kin n b) : keyOf Try.prog 57 (kyV n b) = some (kb n b) := by
  obtain ⟨h1, h2⟩ := wf_of h
  unfold keyOf
  rw [Try.underlying57]
  simp only [kt57, Value.formed, Try.underlying57, cells57]
  obtain ⟨m, hm⟩ := sz57
  rw [hm]
  simp [Program.keyLits, Try.underlying57, cells57, cu32, ci64, Try.underlying30, Try.underlying3, Value.cells, h1, h2, kb]

theorem kb_inj {n n' : Nat} {b b' : Int} (h : Kin n b) (h' : Kin n' b') (e : kb n b = kb n' b') : n = n' ∧ b = b' := by
  have k := lawP.inj (key_of h) (e ▸ key_of h')
  simp only [kyV, Value.agg.injEq, Array.mk.injEq, List.cons.injEq, Value.int.injEq, true_and, and_true] at k
  exact ⟨by omega, k.2⟩
theorem kb_key (n : Nat) (b : Int) : WideAt.IsKeyLit (kb n b) := trivial

/-- the datum of a map tells just these routes -/
structure Rep (D : DataW Value) (L : List Rt) : Prop where
  look : ∀ n b z, Kin n b → D.atKey (kb n b) z = (lookR n b L).elim z (fun r => .held (rtV r))
  has : ∀ n b, Kin n b → has D (kb n b) = (lookR n b L).isSome
  keys : ∀ kl, Maps.has D kl = true → ∃ r ∈ L, kl = kb r.n r.b
  size : Maps.size D = L.length
theorem Rep.nil : Rep (.map []) [] := ⟨fun _ _ _ _ => rfl, fun _ _ _ => rfl, fun kl h => by simp [Maps.has] at h, rfl⟩
theorem Rep.put {D : DataW Value} {L : List Rt} (h : Rep D L) (ht : Tidy D) (hs : Srt L) {r : Rt} (hr : Rin r) : Rep (D.put (kb r.n r.b) (.held (rtV r))) (addR r L) := by
  refine ⟨fun n b z hk => ?_, fun n b hk => ?_, fun kl hh => ?_, ?_⟩
  · rw [look_add hs]
    by_cases g : keyE r n b
    · rw [if_pos g, ← g.1, ← g.2, atKey_put_same ht.isMap (kb_key _ _)]
      rfl
    · rw [if_neg g, atKey_put_other (fun e => g ?_), h.look n b z hk]
      have := kb_inj hk hr.key e
      exact ⟨this.1.symm, this.2.symm⟩
  · rw [look_add hs]
    by_cases g : keyE r n b
    · rw [if_pos g, ← g.1, ← g.2, has_put_same ht.isMap (kb_key _ _)]
      rfl
    · rw [if_neg g, has_put_other (fun e => g ?_), h.has n b hk]
      have := kb_inj hk hr.key e
      exact ⟨this.1.symm, this.2.symm⟩
  · by_cases g : kl = kb r.n r.b
    · exact ⟨r, mem_addR.2 (.inl rfl), g⟩
    · rw [has_put_other g] at hh
      obtain ⟨y, hy, e⟩ := h.keys kl hh
      refine ⟨y, mem_addR.2 (.inr ⟨hy, fun k => g ?_⟩), e⟩
      rw [e, k.1, k.2]
  · rw [size_put ht, h.has _ _ hr.key, h.size, len_add hs]
theorem Rep.del {D : DataW Value} {L : List Rt} (h : Rep D L) (ht : Tidy D) (hs : Srt L) {n : Nat} {b : Int} (hr : Kin n b) : Rep (D.del (kb n b)) (delR n b L) := by
  refine ⟨fun n' b' z hk => ?_, fun n' b' hk => ?_, fun kl hh => ?_, ?_⟩
  · rw [look_del hs]
    by_cases g : n = n' ∧ b = b'
    · rw [if_pos g, ← g.1, ← g.2, atKey_del_same]
      rfl
    · rw [if_neg g, atKey_del_other (fun e => g ?_), h.look n' b' z hk]
      have := kb_inj hk hr e
      exact ⟨this.1.symm, this.2.symm⟩
  · rw [look_del hs]
    by_cases g : n = n' ∧ b = b'
    · rw [if_pos g, ← g.1, ← g.2, has_del_same]
      rfl
    · rw [if_neg g, has_del_other (fun e => g ?_), h.has n' b' hk]
      have := kb_inj hk hr e
      exact ⟨this.1.symm, this.2.symm⟩
  · by_cases g : kl = kb n b
    · rw [g, has_del_same] at hh
      cases hh
    · rw [has_del_other g] at hh
      obtain ⟨y, hy, e⟩ := h.keys kl hh
      refine ⟨y, mem_delR.2 ⟨hy, fun k => g ?_⟩, e⟩
      rw [e, k.1, k.2]
  · have h1 := size_del (k := kb n b) ht
    have h2 := len_del hs n b
    rw [h.has _ _ hr, h.size] at h1
    omega

theorem owns_at {w w' : World} {P : Program} {k : TypeId} {R : Value → Option (DataW Value × List MemPlace)} {b n : Nat} {D : DataW Value} (h : w.ownsMap P k R b n D) (hb : w'.heap[b]? = w.heap[b]?) : w'.ownsMap P k R b n D := by
  obtain ⟨es, clock, h1, rest⟩ := h
  exact ⟨es, clock, hb.trans h1, rest⟩
theorem owns_tight {w : World} {P : Program} {k : TypeId} {R : Value → Option (DataW Value × List MemPlace)} {b n : Nat} {D : DataW Value} (h : w.ownsMap P k R b n D) : w.ownsMap P k R b (Maps.size D) D := by
  obtain ⟨es, clock, hb, F, hs, rfl⟩ := h
  refine ⟨es, clock, hb, F, ?_, rfl⟩
  simp [Maps.size, length_sorted]

/-- a table that has the routes L -/
structure PT (w : World) (p b : Nat) (L : List Rt) : Prop where
  box : w.heap[p]? = some (.cells #[.map (some b)] 55 (0, 0))
  map : ∃ D, w.ownsMap Try.prog 57 vE b L.length D ∧ Rep D L
  ok : OkL L
section
variable {w w' : World} {p b : Nat} {L : List Rt}
theorem PT.cell (h : PT w p b L) : w.cell? ⟨p, 0, none⟩ = some (.map (some b)) := by simp [World.cell?, h.box]
theorem PT.plt (h : PT w p b L) : p < w.heap.size := (Array.getElem?_eq_some_iff.1 h.box).1
theorem PT.blt (h : PT w p b L) : b < w.heap.size := by obtain ⟨D, h1, _⟩ := h.map; exact h1.lt
theorem PT.at (h : PT w p b L) (hp : w'.heap[p]? = w.heap[p]?) (hb : w'.heap[b]? = w.heap[b]?) : PT w' p b L := by
  obtain ⟨D, h1, h2⟩ := h.map
  exact ⟨hp.trans h.box, ⟨D, owns_at h1 hb, h2⟩, h.ok⟩
theorem PT.below (h : PT w p b L) (k : Below w.heap.size w w') : PT w' p b L := h.at (k.block p h.plt) (k.block b h.blt)
theorem PT.keep (h : PT w p b L) {r : Option Nat} (hg : w.grownBy w' r) (hp : some p ≠ r) (hb : some b ≠ r) : PT w' p b L := h.at (hg.block p h.plt hp) (hg.block b h.blt hb)
theorem PT.ne (h : PT w p b L) : p ≠ b := by
  obtain ⟨D, ⟨es, clock, hb, _⟩, _⟩ := h.map
  intro e
  have := h.box
  rw [e, hb] at this
  cases this

theorem PT.look (h : PT w p b L) {n : Nat} {c : Int} (hk : Kin n c) :
    (Instr.lookup 53 (.map (some b)) (kyV n c) true).run Try.prog w = .ok (.tuple #[(lookR n c L).elim rtZ rtV, .bool (lookR n c L).isSome]) w := by
  obtain ⟨D, h1, h2⟩ := h.map
  obtain ⟨v, ps, hrun, hv⟩ := h1.look_ok lawP Try.underlying53 (zeroP w) (zd := .held rtZ) (zp := []) rfl (key_of hk)
  rw [hrun, h2.has n c hk]
  rw [h2.look n c _ hk] at hv
  simp only [vE, Option.some.injEq, Prod.mk.injEq] at hv
  cases e : lookR n c L with
  | none =>
    rw [e] at hv
    simp only [Option.elim_none, DataW.held.injEq] at hv
    rw [hv.1]
    rfl
  | some r =>
    rw [e] at hv
    simp only [Option.elim_some, DataW.held.injEq] at hv
    rw [hv.1]
    rfl
theorem PT.look_some (h : PT w p b L) {n : Nat} {c : Int} (hk : Kin n c) {r : Rt} (e : lookR n c L = some r) :
    (Instr.lookup 53 (.map (some b)) (kyV n c) true).run Try.prog w = .ok (.tuple #[rtV r, .bool true]) w := by
  rw [h.look hk, e]
  rfl
theorem PT.look_none (h : PT w p b L) {n : Nat} {c : Int} (hk : Kin n c) (e : lookR n c L = none) :
    (Instr.lookup 53 (.map (some b)) (kyV n c) true).run Try.prog w = .ok (.tuple #[rtZ, .bool false]) w := by
  rw [h.look hk, e]
  rfl
theorem PT.size (h : PT w p b L) : (Builtin.len_ #[53] 3 #[.map (some b)]).run Try.prog w = .ok (.int .i64 (L.length : Int)) w := by
  obtain ⟨D, h1, h2⟩ := h.map
  have := h1.len Try.underlying53 3
  rwa [h2.size] at this
theorem PT.store (h : PT w p b L) {r : Rt} (hr : Rin r) (hok : OkL (addR r L)) :
    ∃ w2, (Instr.mapUpdate 53 (.map (some b)) (kyV r.n r.b) (rtV r)).run Try.prog w = .ok () w2 ∧ PT w2 p b (addR r L) ∧ w.grownBy w2 (some b) := by
  obtain ⟨D, h1, h2⟩ := h.map
  have hroom : L.length < maxLen := Nat.lt_of_le_of_lt h.ok.len (by decide)
  obtain ⟨w2, hrun, hown, hturn⟩ := h1.store (val := rtV r) lawP Try.underlying53 hroom (key_of hr.key) rfl
  have hg := hturn.grown
  have hrep := h2.put (h1.tidy lawP) h.ok.srt hr
  refine ⟨w2, hrun, ⟨(hg.block p h.plt (fun e => h.ne (by cases e; rfl))).trans h.box, ⟨_, ?_, hrep⟩, hok⟩, hg⟩
  have := owns_tight hown
  rwa [hrep.size] at this
theorem PT.drop (h : PT w p b L) {n : Nat} {c : Int} (hk : Kin n c) :
    ∃ w2, (Builtin.delete_ #[53, 57] 0 #[.map (some b), kyV n c]).run Try.prog w = .ok (.tuple #[]) w2 ∧ PT w2 p b (delR n c L) ∧ w.grownBy w2 (some b) := by
  obtain ⟨D, h1, h2⟩ := h.map
  obtain ⟨w2, hrun, hown, hturn⟩ := h1.drop lawP Try.underlying53 (key_of hk) 0
  have hg := hturn.grown
  have hrep := h2.del (h1.tidy lawP) h.ok.srt hk
  refine ⟨w2, hrun, ⟨(hg.block p h.plt (fun e => h.ne (by cases e; rfl))).trans h.box, ⟨_, ?_, hrep⟩, h.ok.del n c⟩, hg⟩
  have := owns_tight hown
  rwa [hrep.size] at this
end
theorem grown_trans {a b c : World} {r : Option Nat} (h : a.grownBy b r) (k : b.grownBy c r) : a.grownBy c r :=
  ⟨k.os.trans h.os, k.tape.trans h.tape, k.output.trans h.output, Nat.le_trans h.size k.size, fun i hi hn => (k.block i (Nat.lt_of_lt_of_le hi h.size) hn).trans (h.block i hi hn)⟩
theorem grown_of {a b : World} (h : Below a.heap.size a b) (r : Option Nat) : a.grownBy b r := ⟨h.os, h.tape, h.output, h.size, fun i hi _ => h.block i hi⟩
theorem grown_below {a b : World} {B r : Nat} (h : a.grownBy b (some r)) (hB : B ≤ a.heap.size) (hr : B ≤ r) : Below B a b :=
  ⟨h.os, h.tape, h.output, h.size, fun i hi => h.block i (by omega) (fun e => by cases e; omega)⟩
end Go.Proofs.Ytmicgkoicmeflaa
