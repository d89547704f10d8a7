/- A Near in memory: its box, its map, the rows of what waits; how it stands while other memory turns; its map read and written. -/
import Derived.Test.YtjcigoojlmalnaaNl1
import Derived.Deep.DrawnRows
import Derived.Deep.RegionHeld3
import Derived.Deep.AppendLies
namespace Go.Proofs.Ytjcigoojlmalnaa
open Go.RowKit Go.Maps

/-- all blocks that were there and are of No are as they were -/
structure Ks (No : Nat → Prop) (w w' : World) : Prop where
  os : w'.os = w.os
  tape : w'.tape = w.tape
  output : w'.output = w.output
  size : w.heap.size ≤ w'.heap.size
  block : ∀ k, k < w.heap.size → No k → w'.heap[k]? = w.heap[k]?
section
variable {No : Nat → Prop} {a b c w w' : World}
theorem Ks.refl (No : Nat → Prop) (w : World) : Ks No w w := ⟨rfl, rfl, rfl, Nat.le_refl _, fun _ _ _ => rfl⟩
theorem Ks.trans (h : Ks No a b) (k : Ks No b c) : Ks No a c :=
  ⟨k.os.trans h.os, k.tape.trans h.tape, k.output.trans h.output, Nat.le_trans h.size k.size, fun i hi hn => (k.block i (Nat.lt_of_lt_of_le hi h.size) hn).trans (h.block i hi hn)⟩
theorem Ks.of_below (h : Below w.heap.size w w') : Ks No w w' := ⟨h.os, h.tape, h.output, h.size, fun k hk _ => h.block k hk⟩
theorem Ks.of_grown {r : Option Nat} (h : w.grownBy w' r) (hr : ∀ j, r = some j → ¬ No j) : Ks No w w' := ⟨h.os, h.tape, h.output, h.size, fun k hk hn => h.block k hk (fun e => hr k e.symm hn)⟩
theorem Ks.setCell (w : World) (p : Addr) (v : Value) (hp : ¬ No p.block) : Ks No w (w.setCell p v) :=
  ⟨rfl, rfl, rfl, by simp, fun k _ hn => heap_setCell_other w p k v (fun e => hp (e ▸ hn))⟩
theorem Ks.below {B : Nat} (h : Ks No w w') (hB : B ≤ w.heap.size) (hN : ∀ k, k < B → No k) : Below B w w' := ⟨h.os, h.tape, h.output, h.size, fun k hk => h.block k (by omega) (hN k hk)⟩
theorem Ks.mono {No' : Nat → Prop} (h : Ks No a b) (hN : ∀ i, No' i → No i) : Ks No' a b := ⟨h.os, h.tape, h.output, h.size, fun i hi hn => h.block i hi (hN i hn)⟩
theorem Ks.cell (h : Ks No w w') {p : Addr} {v : Value} (hc : w.cell? p = some v) (hp : No p.block) : w'.cell? p = some v :=
  (World.cell?_of_block (h.block p.block (World.block_lt_of_cell? w p hc) hp)).trans hc
theorem undrew {w w1 : World} (h : Below w.drew.heap.size w.drew w1) : Below w.heap.size w w1 := (Below.refl _ w).drew.trans h
end

/-! ### what lies where -/
def evE (f : Nat → Value) (x : Nat × En) : Value := .agg #[.int .u8 (x.2.st : Int), .int .u64 (x.2.mac : Int), .int .i64 (x.2.tm : Int), .int .i64 (x.2.asked : Int), f x.1]
abbrev evZ : Value := .agg #[.int .u8 0, .int .u64 0, .int .i64 0, .int .i64 0, .slice none 0 0]
def u64s (l : List Nat) : List Value := l.map (fun (n : Nat) => Value.int .u64 (n : Int))
def boxOf (c : Cf) (b last : Nat) : Array Value := #[.int .i64 (c.most : Int), .int .i64 (c.waits : Int), .int .i64 (c.each : Int), .int .i64 (c.known : Int), .int .i64 (c.asks : Int), .int .i64 (c.pause : Int), .map (some b), .int .i64 (last : Int)]

structure PNf (No : Nat → Prop) (w : World) (p b : Nat) (c : Cf) (last : Nat) (L : Ens) (f : Nat → Value) : Prop where
  box : w.heap[p]? = some (.cells (boxOf c b last) 55 (0, 0))
  map : w.ownsMap Try.prog 35 vE b L.length (dmN .u32 (evE f) L)
  row : ∀ x ∈ L, w.ownsRow 0 31 1 (f x.1) x.2.ws.length (u64s x.2.ws)
  apart : ∀ x ∈ L, ∀ y ∈ L, x.1 ≠ y.1 → ∀ g, (f x.1).ownBlock = some g → (f y.1).ownBlock ≠ some g
  shp : ¬ No p
  shb : ¬ No b
  shr : ∀ x ∈ L, ∀ g, (f x.1).ownBlock = some g → ¬ No g
  wl : WL c last L
  ok : c.Ok
  nlt : ∀ i, No i → i < w.heap.size
/-- the same, but for what waits for ip -/
structure PNx (ip : Nat) (No : Nat → Prop) (w : World) (p b : Nat) (c : Cf) (last : Nat) (L : Ens) (f : Nat → Value) : Prop where
  box : w.heap[p]? = some (.cells (boxOf c b last) 55 (0, 0))
  map : w.ownsMap Try.prog 35 vE b L.length (dmN .u32 (evE f) L)
  row : ∀ x ∈ L, x.1 ≠ ip → w.ownsRow 0 31 1 (f x.1) x.2.ws.length (u64s x.2.ws)
  apart : ∀ x ∈ L, ∀ y ∈ L, x.1 ≠ y.1 → ∀ g, (f x.1).ownBlock = some g → (f y.1).ownBlock ≠ some g
  shp : ¬ No p
  shb : ¬ No b
  shr : ∀ x ∈ L, ∀ g, (f x.1).ownBlock = some g → ¬ No g
  wl : WL c last L
  ok : c.Ok
  nlt : ∀ i, No i → i < w.heap.size
/-- a Near: that entries L stand there, what waits for them in rows of its own -/
def PN (No : Nat → Prop) (w : World) (p b : Nat) (c : Cf) (last : Nat) (L : Ens) : Prop := ∃ f, PNf No w p b c last L f

section
variable {No : Nat → Prop} {w w' : World} {p b : Nat} {c : Cf} {last : Nat} {L : Ens} {f : Nat → Value}
theorem PNf.cell (h : PNf No w p b c last L f) {j : Nat} {v : Value} (hj : (boxOf c b last)[j]? = some v) : w.cell? ⟨p, j, none⟩ = some v := by
  simp [World.cell?, h.box, hj]
theorem PNf.frozen (h : PNf No w p b c last L f) (j : Nat) : w.frozen? ⟨p, j, none⟩ = false := by simp [World.frozen?, h.box]
theorem PNf.plt (h : PNf No w p b c last L f) : p < w.heap.size := (Array.getElem?_eq_some_iff.1 h.box).1
theorem PNf.blt (h : PNf No w p b c last L f) : b < w.heap.size := h.map.lt
theorem PNf.ne (h : PNf No w p b c last L f) : p ≠ b := by
  obtain ⟨es, clock, hb, _⟩ := h.map
  intro e
  have := h.box
  rw [e, hb] at this
  cases this
theorem row_cells {w : World} {base e size n : Nat} {v : Value} {xs : List Value} (h : w.ownsRow base e size v n xs) {g : Nat} (hg : v.ownBlock = some g) : ∃ cur, w.heap[g]? = some (.cells cur e (0, 0)) := by
  rcases h.2 with ⟨rfl, _⟩ | ⟨g', cap, cur, rfl, _, hgg, _⟩
  · simp [Value.ownBlock] at hg
  · simp [Value.ownBlock] at hg
    subst hg
    exact ⟨cur, hgg⟩
/-- no row is the box, none the map -/
theorem row_ne_p (h : PNf No w p b c last L f) {base : Nat} {v : Value} {n : Nat} {xs : List Value} (hr : w.ownsRow base 31 1 v n xs) : v.ownBlock ≠ some p := by
  intro e
  obtain ⟨cur, hc⟩ := row_cells hr e
  rw [h.box] at hc
  cases hc
theorem row_ne_b (h : PNf No w p b c last L f) {base e : Nat} {v : Value} {n size : Nat} {xs : List Value} (hr : w.ownsRow base e size v n xs) : v.ownBlock ≠ some b := by
  intro k
  obtain ⟨cur, hc⟩ := row_cells hr k
  obtain ⟨es, clock, hb, _⟩ := h.map
  rw [hb] at hc
  cases hc
theorem owns_at {w w' : World} {b n k : Nat} {D : DataW Value} (h : w.ownsMap Try.prog k vE b n D) (e : w'.heap[b]? = w.heap[b]?) : w'.ownsMap Try.prog k vE b n D := by
  obtain ⟨es, clock, hb, r⟩ := h
  exact ⟨es, clock, e.trans hb, r⟩
theorem owns_len {β : Type} {w : World} {b n k : Nat} {q : IntKind} {enc : Nat × β → Value} {L : List (Nat × β)} (h : w.ownsMap Try.prog k vE b n (dmN q enc L)) : w.ownsMap Try.prog k vE b L.length (dmN q enc L) := by
  obtain ⟨es, clock, hb, F, _, hD⟩ := h
  refine ⟨es, clock, hb, F, ?_, hD⟩
  have := dmN_size q enc L
  rw [hD] at this
  simp [Maps.size, length_sorted] at this
  omega
theorem row_at {w w' : World} {base e size n : Nat} {v : Value} {xs : List Value} (h : w.ownsRow base e size v n xs) (k : ∀ g, v.ownBlock = some g → w'.heap[g]? = w.heap[g]?) : w'.ownsRow base e size v n xs := by
  refine ⟨h.1, ?_⟩
  rcases h.2 with hn | ⟨g, cap, cur, rfl, hb, hgg, rest⟩
  · exact .inl hn
  · exact .inr ⟨g, cap, cur, rfl, hb, (k g rfl).trans hgg, rest⟩
/-- it stands where its blocks stand -/
theorem PNf.at (h : PNf No w p b c last L f) (hz : w.heap.size ≤ w'.heap.size) (hp : w'.heap[p]? = w.heap[p]?) (hb : w'.heap[b]? = w.heap[b]?) (hr : ∀ x ∈ L, ∀ g, (f x.1).ownBlock = some g → w'.heap[g]? = w.heap[g]?) : PNf No w' p b c last L f :=
  ⟨hp.trans h.box, owns_at h.map hb, fun x hx => row_at (h.row x hx) (hr x hx), h.apart, h.shp, h.shb, h.shr, h.wl, h.ok, fun i hi => Nat.lt_of_lt_of_le (h.nlt i hi) hz⟩
theorem PNf.below (h : PNf No w p b c last L f) (k : Below w.heap.size w w') : PNf No w' p b c last L f :=
  h.at k.size (k.block p h.plt) (k.block b h.blt) (fun x hx g hg => k.block g ((h.row x hx).lt g hg).2)
theorem PN.below (h : PN No w p b c last L) (k : Below w.heap.size w w') : PN No w' p b c last L := by
  obtain ⟨f, h⟩ := h
  exact ⟨f, h.below k⟩
theorem PNf.no (h : PNf No w p b c last L f) (k : Below w.heap.size w w') {No' : Nat → Prop} (hN : ∀ i, No' i → i < w'.heap.size ∧ (No i ∨ w.heap.size ≤ i)) : PNf No' w' p b c last L f := by
  have h' := h.below k
  exact ⟨h'.box, h'.map, h'.row, h.apart, fun g => (hN _ g).2.elim h.shp (fun g => by have := h.plt; omega), fun g => (hN _ g).2.elim h.shb (fun g => by have := h.blt; omega),
    fun x hx g hg g' => (hN _ g').2.elim (h.shr x hx g hg) (fun g' => by have := ((h.row x hx).lt g hg).2; omega), h.wl, h.ok, fun i hi => (hN i hi).1⟩
theorem PN.no (h : PN No w p b c last L) (k : Below w.heap.size w w') {No' : Nat → Prop} (hN : ∀ i, No' i → i < w'.heap.size ∧ (No i ∨ w.heap.size ≤ i)) : PN No' w' p b c last L := by
  obtain ⟨f, h⟩ := h
  exact ⟨f, h.no k hN⟩
/-- a turn of blocks that it has not -/
theorem PNf.turn (h : PNf No w p b c last L f) {r : Nat} (hg : w.grownBy w' (some r)) (hp : r ≠ p) (hb : r ≠ b) (hr : ∀ x ∈ L, (f x.1).ownBlock ≠ some r) : PNf No w' p b c last L f :=
  h.at hg.size (hg.block p h.plt (fun e => hp (by cases e; rfl))) (hg.block b h.blt (fun e => hb (by cases e; rfl))) (fun x hx g e => hg.block g ((h.row x hx).lt g e).2 (fun k => hr x hx (by cases k; exact e)))
theorem PNf.x (h : PNf No w p b c last L f) (ip : Nat) : PNx ip No w p b c last L f := ⟨h.box, h.map, fun x hx _ => h.row x hx, h.apart, h.shp, h.shb, h.shr, h.wl, h.ok, h.nlt⟩
theorem PNx.plt {ip : Nat} (h : PNx ip No w p b c last L f) : p < w.heap.size := (Array.getElem?_eq_some_iff.1 h.box).1
theorem PNx.blt {ip : Nat} (h : PNx ip No w p b c last L f) : b < w.heap.size := h.map.lt
theorem PNx.ne {ip : Nat} (h : PNx ip No w p b c last L f) : p ≠ b := by
  obtain ⟨es, clock, hb, _⟩ := h.map
  intro e
  have := h.box
  rw [e, hb] at this
  cases this
theorem PNx.at {ip : Nat} (h : PNx ip No w p b c last L f) (hz : w.heap.size ≤ w'.heap.size) (hp : w'.heap[p]? = w.heap[p]?) (hb : w'.heap[b]? = w.heap[b]?) (hr : ∀ x ∈ L, x.1 ≠ ip → ∀ g, (f x.1).ownBlock = some g → w'.heap[g]? = w.heap[g]?) : PNx ip No w' p b c last L f :=
  ⟨hp.trans h.box, owns_at h.map hb, fun x hx hi => row_at (h.row x hx hi) (hr x hx hi), h.apart, h.shp, h.shb, h.shr, h.wl, h.ok, fun i hi => Nat.lt_of_lt_of_le (h.nlt i hi) hz⟩
theorem PNx.below {ip : Nat} (h : PNx ip No w p b c last L f) (k : Below w.heap.size w w') : PNx ip No w' p b c last L f :=
  h.at k.size (k.block p h.plt) (k.block b h.blt) (fun x hx hi g hg => k.block g ((h.row x hx hi).lt g hg).2)
theorem map_ne {n : Nat} {k : TypeId} {D : DataW Value} (hm : w.ownsMap Try.prog k vE b n D) {base e : Nat} {v : Value} {n' size : Nat} {xs : List Value} (hr : w.ownsRow base e size v n' xs) : v.ownBlock ≠ some b := by
  intro k
  obtain ⟨cur, hc⟩ := row_cells hr k
  obtain ⟨es, clock, hb, _⟩ := hm
  rw [hb] at hc
  cases hc
/-- the row of what waits for ip turns, or a new one comes -/
theorem PNf.grow (h : PNf No w p b c last L f) (ip : Nat) {r : Option Nat} (hg : w.grownBy w' r) (hr : ∀ g, r = some g → ∃ v n xs, w.ownsRow 0 31 1 v n xs ∧ v.ownBlock = some g ∧ ∀ x ∈ L, x.1 ≠ ip → (f x.1).ownBlock ≠ some g) : PNx ip No w' p b c last L f := by
  refine (h.x ip).at hg.size (hg.block p h.plt (fun e => ?_)) (hg.block b h.blt (fun e => ?_)) (fun x hx hi g e => hg.block g ((h.row x hx).lt g e).2 (fun k => ?_))
  · obtain ⟨v, n, xs, h1, h2, _⟩ := hr p e.symm
    exact row_ne_p h h1 h2
  · obtain ⟨v, n, xs, h1, h2, _⟩ := hr b e.symm
    exact row_ne_b h h1 h2
  · obtain ⟨v, n, xs, _, _, h3⟩ := hr g k.symm
    exact h3 x hx hi e
/-- the last time -/
theorem PNf.setLast (h : PNf No w p b c last L f) {t : Nat} (ht : WL c t L) : PNf No (w.setCell ⟨p, 7, none⟩ (.int .i64 (t : Int))) p b c t L f := by
  have hb : (w.setCell ⟨p, 7, none⟩ (.int .i64 (t : Int))).heap[p]? = some (.cells (boxOf c b t) 55 (0, 0)) := by
    rw [heap_setCell_same w p 7 _ _ _ h.box]
    rfl
  have ho : ∀ k, k ≠ p → (w.setCell ⟨p, 7, none⟩ (.int .i64 (t : Int))).heap[k]? = w.heap[k]? := fun k hk => heap_setCell_other w _ k _ hk
  refine ⟨hb, owns_at h.map (ho b (fun e => h.ne e.symm)), fun x hx => row_at (h.row x hx) (fun g hg => ho g (fun e => ?_)), h.apart, h.shp, h.shb, h.shr, ht, h.ok, fun i hi => by simpa using h.nlt i hi⟩
  subst e
  exact row_ne_p h (h.row x hx) hg

/-! ### the map, read and written -/
theorem law32 : Keyed Try.prog 35 := int_keyed Try.underlying35
theorem zeroE (w : World) : (zeroValue 58).run Try.prog w = .ok evZ w := by kernel_rfl
theorem wf32 {k : Nat} (h : k < 12) : (Lit.int .u32 (k : Int)).wf = true := by
  simp [Lit.wf, IntKind.min, IntKind.max, IntKind.signed, IntKind.bits]
  omega
theorem key32 {k : Nat} (h : k < 12) : keyOf Try.prog 35 (.int .u32 (k : Int)) = some (.int .u32 (k : Int)) := keyOf_int_mk Try.underlying35 (wf32 h)

theorem PNf.look_some (h : PNf No w p b c last L f) {ip : Nat} (hip : ip < 12) {e : En} (he : lookN ip L = some e) (t : Bool) :
    (Instr.lookup 53 (.map (some b)) (.int .u32 (ip : Int)) t).run Try.prog w = .ok (if t then .tuple #[evE f (ip, e), .bool true] else evE f (ip, e)) w := by
  have fin : ∀ v ps, vE v = some ((dmN .u32 (evE f) L).atKey (.int .u32 (ip : Int)) (.held evZ), ps) → v = evE f (ip, e) := by
    intro v ps hv
    rw [dmN_at, he] at hv
    simp [vE] at hv
    exact hv.1
  cases t with
  | false =>
    obtain ⟨v, ps, hrun, hv⟩ := h.map.lookup law32 Try.underlying53 (zeroE w) (zd := .held evZ) (zp := []) rfl (key32 hip)
    rw [hrun, fin v ps hv]
    rfl
  | true =>
    obtain ⟨v, ps, hrun, hv⟩ := h.map.look_ok law32 Try.underlying53 (zeroE w) (zd := .held evZ) (zp := []) rfl (key32 hip)
    rw [hrun, fin v ps hv, dmN_has, he]
    rfl
theorem PNf.look_none (h : PNf No w p b c last L f) {ip : Nat} (hip : ip < 12) (he : lookN ip L = none) (t : Bool) :
    (Instr.lookup 53 (.map (some b)) (.int .u32 (ip : Int)) t).run Try.prog w = .ok (if t then .tuple #[evZ, .bool false] else evZ) w := by
  have fin : ∀ v ps, vE v = some ((dmN .u32 (evE f) L).atKey (.int .u32 (ip : Int)) (.held evZ), ps) → v = evZ := by
    intro v ps hv
    rw [dmN_at, he] at hv
    simp [vE] at hv
    exact hv.1
  cases t with
  | false =>
    obtain ⟨v, ps, hrun, hv⟩ := h.map.lookup law32 Try.underlying53 (zeroE w) (zd := .held evZ) (zp := []) rfl (key32 hip)
    rw [hrun, fin v ps hv]
    rfl
  | true =>
    obtain ⟨v, ps, hrun, hv⟩ := h.map.look_ok law32 Try.underlying53 (zeroE w) (zd := .held evZ) (zp := []) rfl (key32 hip)
    rw [hrun, fin v ps hv, dmN_has, he]
    rfl
theorem PNf.size (h : PNf No w p b c last L f) : (Builtin.len_ #[53] 3 #[.map (some b)]).run Try.prog w = .ok (.int .i64 (L.length : Int)) w := by
  have := h.map.len Try.underlying53 3
  rwa [dmN_size] at this

def upd (f : Nat → Value) (k : Nat) (v : Value) : Nat → Value := fun i => if i = k then v else f i
theorem upd_same (f : Nat → Value) (k : Nat) (v : Value) : upd f k v k = v := by simp [upd]
theorem upd_other (f : Nat → Value) {k i : Nat} (v : Value) (h : i ≠ k) : upd f k v i = f i := by simp [upd, h]

/-- an entry is laid in: its row lies in memory of its own -/
theorem PNx.store {ip : Nat} (h : PNx ip No w p b c last L f) (hip : ip < 12) {e : En} {v : Value} (hrow : w.ownsRow 0 31 1 v e.ws.length (u64s e.ws)) (hno : ∀ g, v.ownBlock = some g → ¬ No g)
    (hap : ∀ x ∈ L, x.1 ≠ ip → ∀ g, v.ownBlock = some g → (f x.1).ownBlock ≠ some g) (hwl : WL c last (insN (ip, e) L)) :
    ∃ w2, (Instr.mapUpdate 53 (.map (some b)) (.int .u32 (ip : Int)) (.agg #[.int .u8 (e.st : Int), .int .u64 (e.mac : Int), .int .i64 (e.tm : Int), .int .i64 (e.asked : Int), v])).run Try.prog w = .ok () w2 ∧
      PNf No w2 p b c last (insN (ip, e) L) (upd f ip v) ∧ Ks No w w2 ∧ w.grownBy w2 (some b) := by
  have hroom : L.length < maxLen := Nat.lt_of_le_of_lt h.wl.len (by decide)
  obtain ⟨w2, hrun, hown, hturn⟩ := h.map.store (val := .agg #[.int .u8 (e.st : Int), .int .u64 (e.mac : Int), .int .i64 (e.tm : Int), .int .i64 (e.asked : Int), v]) law32 Try.underlying53 hroom (key32 hip) rfl
  have hg := hturn.grown
  have e1 : dmN .u32 (evE f) (delN ip L) = dmN .u32 (evE (upd f ip v)) (delN ip L) := dmN_eq _ fun x hx => by
    unfold evE
    rw [upd_other f v (mem_delN.1 hx).2]
  have e2 : (dmN .u32 (evE f) L).put (.int .u32 (ip : Int)) (.held (.agg #[.int .u8 (e.st : Int), .int .u64 (e.mac : Int), .int .i64 (e.tm : Int), .int .i64 (e.asked : Int), v])) = dmN .u32 (evE (upd f ip v)) (insN (ip, e) L) := by
    rw [← dmN_put .u32 (evE (upd f ip v)) (ip, e) h.wl.srt]
    have s1 : ∀ (D : List (Nat × En)) (g : Nat → Value) (d : DataW Value), (dmN .u32 (evE g) D).put (.int .u32 (ip : Int)) d = DataW.map (DataW.insert (.int .u32 (ip : Int), d) ((D.map (rowN .u32 (evE g))).filter (ChangeMaps.notKey (.int .u32 (ip : Int))))) := fun _ _ _ => rfl
    have s2 : ∀ (g : Nat → Value), (L.map (rowN .u32 (evE g))).filter (ChangeMaps.notKey (.int .u32 (ip : Int))) = (delN ip L).map (rowN .u32 (evE g)) := fun g => by
      have := dmN_del .u32 (evE g) ip L
      unfold dmN at this
      rw [DataW.del_eq] at this
      injection this
    rw [s1, s1, s2, s2]
    have s3 : (delN ip L).map (rowN .u32 (evE f)) = (delN ip L).map (rowN .u32 (evE (upd f ip v))) := by
      unfold dmN at e1
      injection e1
    rw [s3]
    unfold evE
    simp only [upd_same]
  rw [e2] at hown
  have hblk : ∀ k, k < w.heap.size → k ≠ b → w2.heap[k]? = w.heap[k]? := fun k hk hne => hg.block k hk (fun e => hne (by cases e; rfl))
  have hks : Ks No w w2 := Ks.of_grown hg (fun j hj => by cases hj; exact h.shb)
  refine ⟨w2, hrun, ⟨(hblk p h.plt h.ne).trans h.box, owns_len hown, ?_, ?_, h.shp, h.shb, ?_, hwl, h.ok, fun i hi => Nat.lt_of_lt_of_le (h.nlt i hi) hg.size⟩, hks, hg⟩
  · intro x hx
    by_cases g : x.1 = ip
    · obtain rfl := insN_only h.wl.srt hx g
      rw [upd_same]
      exact row_at hrow (fun k hk => hblk k (hrow.lt k hk).2 (fun e => map_ne h.map hrow (e ▸ hk)))
    · rw [upd_other f v g]
      have hr := h.row x (mem_insN_other hx g) g
      exact row_at hr (fun k hk => hblk k (hr.lt k hk).2 (fun e => map_ne h.map hr (e ▸ hk)))
  · intro x hx y hy hne
    by_cases g1 : x.1 = ip
    · have g2 : y.1 ≠ ip := fun e => hne (g1.trans e.symm)
      rw [g1, upd_same, upd_other f v g2]
      exact hap y (mem_insN_other hy g2) g2
    · rw [upd_other f v g1]
      by_cases g2 : y.1 = ip
      · rw [g2, upd_same]
        intro g hg hv
        exact hap x (mem_insN_other hx g1) g1 g hv hg
      · rw [upd_other f v g2]
        exact h.apart x (mem_insN_other hx g1) y (mem_insN_other hy g2) hne
  · intro x hx g hg
    by_cases g1 : x.1 = ip
    · rw [g1, upd_same] at hg
      exact hno g hg
    · rw [upd_other f v g1] at hg
      exact h.shr x (mem_insN_other hx g1) g hg
/-- an entry goes -/
theorem PNf.drop (h : PNf No w p b c last L f) {ip : Nat} (hip : ip < 12) (hwl : WL c last (delN ip L)) :
    ∃ w2, (Builtin.delete_ #[53, 35] 0 #[.map (some b), .int .u32 (ip : Int)]).run Try.prog w = .ok (.tuple #[]) w2 ∧
      PNf No w2 p b c last (delN ip L) f ∧ Ks No w w2 ∧ w.grownBy w2 (some b) := by
  obtain ⟨w2, hrun, hown, hturn⟩ := h.map.drop law32 Try.underlying53 (key32 hip) 0
  have hg := hturn.grown
  rw [dmN_del] at hown
  have hblk : ∀ k, k < w.heap.size → k ≠ b → w2.heap[k]? = w.heap[k]? := fun k hk hne => hg.block k hk (fun e => hne (by cases e; rfl))
  refine ⟨w2, hrun, ⟨(hblk p h.plt h.ne).trans h.box, owns_len hown, ?_, ?_, h.shp, h.shb, ?_, hwl, h.ok, fun i hi => Nat.lt_of_lt_of_le (h.nlt i hi) hg.size⟩, Ks.of_grown hg (fun j hj => by cases hj; exact h.shb), hg⟩
  · intro x hx
    have hr := h.row x (mem_delN.1 hx).1
    exact row_at hr (fun k hk => hblk k (hr.lt k hk).2 (fun e => row_ne_b h hr (e ▸ hk)))
  · intro x hx y hy
    exact h.apart x (mem_delN.1 hx).1 y (mem_delN.1 hy).1
  · intro x hx
    exact h.shr x (mem_delN.1 hx).1
end

end Go.Proofs.Ytjcigoojlmalnaa
