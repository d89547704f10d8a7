/- What the program's package-level variables hold (Env: a table of the library's, two of its errors, a number), that it stands through calls, and the contracts of the library's functions that package addr calls: Itoa, FormatUint and ParseUint at bytes, SplitN, Join, Compare. Conditions: Env; numbers up to 255, texts of bounded length. -/
import Derived.Test.YtnglkadfnacmcaaDoorKit
import Derived.Test.YtnglkadfnacmcaaDoorShelf6
import Derived.Lib.ItoaMem
import Derived.Laws.IdiomStrings
import Derived.Lib.AtoiErrMem
namespace Go.Proofs.YtnglkadfnacmcaaDoor
open Go.RowKit Go.Shelf Go.Sort

structure Env (w : World) : Prop where
  tab : Lib.TabIs Tryd.prog w "internal/strconv.uint64pow10" .u64 Lib.pow10Tab
  es : ∃ tp p, w.var? Tryd.prog "strconv.ErrSyntax" = some #[.iface tp p]
  er : ∃ tp p, w.var? Tryd.prog "strconv.ErrRange" = some #[.iface tp p]
  ml : ∃ m, w.cell? ⟨Tryd.splitA_ren.g 1, 0, none⟩ = some (.int .i64 m)

theorem var_on {w w' : World} {n : String} {cs : Array Value} (h : w.var? Tryd.prog n = some cs) (b : Below w.heap.size w w') : w'.var? Tryd.prog n = some cs := by
  unfold World.var? at h ⊢
  cases hg : Tryd.prog.globalNamed n with
  | none => rw [hg] at h; simp at h
  | some g =>
    rw [hg] at h
    simp only [Option.bind_some] at h ⊢
    by_cases hl : g < w.heap.size
    · rw [b.block g hl]; exact h
    · rw [Array.getElem?_eq_none (by omega)] at h
      simp at h

theorem cell_lt {W : World} {a : Addr} {v : Value} (h : W.cell? a = some v) : a.block < W.heap.size := by
  apply Classical.byContradiction
  intro hn
  have e : W.heap[a.block]? = none := Array.getElem?_eq_none (by omega)
  unfold World.cell? at h
  rw [e] at h
  simp at h

theorem Env.on {w w' : World} (E : Env w) (b : Below w.heap.size w w') : Env w' := by
  obtain ⟨t, ⟨a, p, es⟩, ⟨a', p', er⟩, m, ml⟩ := E
  exact ⟨var_on t b, ⟨a, p, var_on es b⟩, ⟨a', p', var_on er b⟩, m, (b.cell (cell_lt ml)).trans ml⟩
theorem Env.alloc {w : World} (E : Env w) (o : Obj) : Env (w.alloc o) := E.on (below_one w o)
theorem Env.drew {w : World} (E : Env w) : Env w.drew := E.on ⟨rfl, rfl, rfl, Nat.le_refl _, fun _ _ => rfl⟩

theorem below_grow (w : World) (k : Nat) (os : Array Obj) : Below w.heap.size w (grow (w.drewN k) os) := by
  refine ⟨rfl, rfl, rfl, ?_, fun i hi => ?_⟩
  · show w.heap.size ≤ (w.heap ++ os).size
    simp
  · show (w.heap ++ os)[i]? = _
    exact Array.getElem?_append_left hi

/-- a number's digits -/
def dig (n : Nat) : ByteArray := ⟨(Lib.decDigits n).toArray⟩

theorem itoa_any (n : Nat) (hn : n < 256) (w : World) (E : Env w) :
    Calls Tryd.prog 29 #[.int .i64 (n : Int)] w fun e w' => e = .returned (.string (dig n)) ∧ Below w.heap.size w w' := by
  refine (Any.strconv_Itoa Tryd.itoaA (n : Int) (by omega) (by omega) w E.tab).mono ?_
  rintro e w' ⟨rfl, k, os, rfl⟩
  exact ⟨by rw [Lib.itoa_nonneg]; rfl, below_grow w k os⟩

theorem split_any (s : ByteArray) (hs : s.size < 4294967281) (w : World) (E : Env w) :
    Calls Tryd.prog 25 #[.string s, .string ⟨#[46]⟩, .int .i64 5] w fun e w' =>
      e = .returned (.slice (some ⟨w.heap.size, 0, none⟩) (Lib.splitB ⟨#[46]⟩ 0 (min 5 (s.size + 1) - 1) s).length (min 5 (s.size + 1))) ∧ w' = w.alloc (.cells (Lib.cellsOf (Lib.splitB ⟨#[46]⟩ 0 (min 5 (s.size + 1) - 1) s) (min 5 (s.size + 1))) 9) := by
  obtain ⟨m, hm⟩ := E.ml
  exact Any.strings_SplitN (ρ := Tryd.splitA_ren) { Tryd.splitA with } Tryd.hi9 s ⟨#[46]⟩ 5 m w hs hm (Nat.le_refl _) (by omega) (by omega)

theorem join_any (b c : Nat) (xs : List ByteArray) (w : World) (hcells : ∀ (j : Nat) x, xs[j]? = some x → w.cell? ⟨b, 0 + j, none⟩ = some (.string x)) (hb : b < w.heap.size) (hN : xs.length ≤ 140737488355328) (hcap : xs.length ≤ c)
    (hlen : (Lib.join (xs.map (·.data.toList)) [46]).length ≤ 140737488355328) :
    Calls Tryd.prog 30 #[.slice (some ⟨b, 0, none⟩) xs.length c, .string ⟨#[46]⟩] w fun e w' => e = .returned (.string ⟨(Lib.join (xs.map (·.data.toList)) [46]).toArray⟩) ∧ Below w.heap.size w w' :=
  Any.strings_Join Tryd.joinA Tryd.bx b 0 c xs ⟨#[46]⟩ w hcells hb hN hcap hlen

theorem cmp_any (a b : ByteArray) (w : World) :
    Calls Tryd.prog 36 #[.string a, .string b] w fun e w' => e = .returned (.int .i64 (Lib.compareBytes a.data.toList b.data.toList)) ∧ w' = w :=
  Any.strings_Compare Tryd.cmpA a b w

theorem pu_ok (s : ByteArray) (hs : s.size ≤ 9223372036854775806) (u : Nat) (h : Lib.parseUintB 8 s.data.toList = .ok u) (w : World) :
    Calls Tryd.prog 38 #[.string s, .int .i64 10, .int .i64 8] w fun e w' => e = .returned (.tuple #[.int .u64 u, .nilIface]) ∧ Below w.heap.size w w' := by
  refine (Any.strconv_ParseUint_10_at8_ok Tryd.puA s hs u h w).mono ?_
  rintro e w' ⟨rfl, rfl | rfl⟩
  · exact ⟨rfl, Below.refl _ _⟩
  · exact ⟨rfl, Lib.bytesWorld_below _ _ _⟩

theorem pu_no (s : ByteArray) (hs : s.size ≤ 281474976710656) (h : ∀ u, Lib.parseUintB 8 s.data.toList ≠ .ok u) (w : World) (E : Env w) :
    Calls Tryd.prog 38 #[.string s, .int .i64 10, .int .i64 8] w fun e w' => ∃ v t p, e = .returned (.tuple #[v, .iface t p]) ∧ Below w.heap.size w w' := by
  cases h8 : Lib.parseUintB 8 s.data.toList with
  | ok u => exact absurd h8 (h u)
  | «syntax» =>
    obtain ⟨tp, p, hv⟩ := E.es
    refine (Any.strconv_ParseUint_10_at8_syntax_var Tryd.puA s hs h8 tp p w hv).mono ?_
    rintro e w' ⟨N, rfl, _, _, b⟩
    exact ⟨_, _, _, rfl, b⟩
  | range =>
    obtain ⟨tp, p, hv⟩ := E.er
    refine (Any.strconv_ParseUint_10_at8_range_var Tryd.puA s hs h8 tp p w hv).mono ?_
    rintro e w' ⟨N, rfl, _, _, b⟩
    exact ⟨_, _, _, rfl, b⟩

theorem holds0 (w : World) (T : TypeId) (nd : Nat) (hs : nd ≤ 24) : Holds (fun (b : UInt8) => Value.int .u8 (b.toNat : Int)) (w.alloc (.cells Lib.zeros24 T)) w.heap.size 0 (Array.replicate nd (0 : UInt8)) := fun j hj => by
  have hj' : j < nd := by simpa using hj
  refine ⟨?_, World.frozen?_alloc_new _ _ _ _⟩
  rw [World.cell?_alloc_new, Lib.zeros24_at _ (by omega), getElem!_pos _ j hj]
  simp

theorem fin0 (w : World) (o : Obj) (dk : Array UInt8) (k : Nat) : ∃ os, (putRow (fun (b : UInt8) => Value.int .u8 (b.toNat : Int)) (w.alloc o) w.heap.size 0 dk).drewN k = grow (w.drewN k) os := by
  rw [alloc_eq_grow]
  obtain ⟨os', _, e⟩ := putRow_grow_new (fun (b : UInt8) => Value.int .u8 (b.toNat : Int)) w #[o] w.heap.size 0 dk (Nat.le_refl _)
  exact ⟨os', by rw [e]; rfl⟩

set_option maxHeartbeats 1000000 in
set_option maxRecDepth 100000 in
theorem ifu_small (u : Nat) (hu : u < 100) (w : World) :
    Calls Tryd.prog 57 #[.int .u64 (u : Int), .int .i64 10] w fun e w' => e = .returned (.string (dig u)) ∧ Below w.heap.size w w' := by
  have H : Hid (∀ w, Calls Tryd.prog 74 #[.int .i64 (u : Int)] w fun e w' => e = .returned (.string (dig u)) ∧ w' = w) := fun w => Any.internal_strconv_small Tryd.smallA u hu w
  go_enter Tryd.func57, Tryd.ntmps57
  go_wp2_with fail
  refine (unhide H _).mono ?_
  rintro e w1 ⟨rfl, rfl⟩
  go_wp2_with fail
  go_ret
  exact ⟨rfl, Below.refl _ _⟩

set_option maxHeartbeats 1000000 in
set_option maxRecDepth 100000 in
theorem ifu_great (u : Nat) (h1 : 100 ≤ u) (hu : u < 256) (w : World) (E : Env w) :
    Calls Tryd.prog 57 #[.int .u64 (u : Int), .int .i64 10] w fun e w' => e = .returned (.string (dig u)) ∧ Below w.heap.size w w' := by
  have hnd : Lib.nDigits u = 3 := Lib.nDigits_unique 2 u (by omega) (by omega)
  have HN : Hid (∀ w, Env w → Calls Tryd.prog 75 #[.int .u64 (u : Int)] w fun e w' => e = .returned (.int .i64 3) ∧ w' = w) := fun w E => by
    have := Any.internal_strconv_numDigits Tryd.ndA u (by omega) (by omega) w E.tab
    rw [hnd] at this
    exact this
  have HF : Hid (Calls Tryd.prog 76 #[.slice (some ⟨w.heap.size, 0, none⟩) 3 24, .int .u64 (u : Int)] (w.alloc (.cells Lib.zeros24 96)) fun e w' => e = .returned (.tuple #[]) ∧ Below w.heap.size w w' ∧
      (convert 71 9 (.slice (some ⟨w.heap.size, 0, none⟩) 3 24)).run Tryd.prog w' = .ok (.string (dig u)) w') := by
    have hH0 := holds0 w 96 3 (by omega)
    have hfmt := Any.internal_strconv_formatBase10 Tryd.f10A w.heap.size 0 24 u (Array.replicate 3 0) (w.alloc (.cells Lib.zeros24 96)) hH0 (by rw [Array.size_replicate]; omega) (by omega) (by rw [Array.size_replicate]; omega)
    rw [Array.size_replicate] at hfmt
    refine hfmt.mono ?_
    rintro e w' ⟨rfl, k, v', dk, rfl, hF⟩
    refine ⟨rfl, ?_, ?_⟩
    · obtain ⟨os, e⟩ := fin0 w (.cells Lib.zeros24 96) dk k
      rw [e]
      exact below_grow w k os
    · have h := run_convert_bytes_back (P := Tryd.prog) ((putRow (fun (b : UInt8) => Value.int .u8 (b.toNat : Int)) (w.alloc (.cells Lib.zeros24 96)) w.heap.size 0 dk).drewN k) 71 9 5 ⟨w.heap.size, 0, none⟩ 24 (Lib.decDigits u) Tryd.underlying71 Tryd.underlying5 Tryd.underlying9 (fun j hj => by
        rw [Lib.row_is_numeral (by rw [hnd]; exact hF) j hj, Lib.add_plain, World.cell?_drewN]
        exact cell?_putRow (fun (b : UInt8) => Value.int .u8 (b.toNat : Int)) _ w.heap.size 0 _ dk hH0 (by rw [hF.size, Array.size_replicate]) j (by rw [hF.size]; rw [Lib.decDigits_length, hnd] at hj; exact hj))
      rw [Lib.decDigits_length, hnd] at h
      exact h
  have HE := hide (E.alloc (.cells Lib.zeros24 96))
  unfold Lib.zeros24 at HF HE
  go_enter Tryd.func57, Tryd.ntmps57
  go_wp2_with fail
  refine (unhide HN _ (unhide HE)).mono ?_
  rintro e w1 ⟨rfl, rfl⟩
  go_wp2_with fail
  refine (unhide HF).mono ?_
  rintro e w' ⟨rfl, b1, hcv⟩
  go_wp2_with fail
  go_ret
  exact ⟨rfl, b1⟩

theorem fu_any (u : Nat) (hu : u < 256) (w : World) (E : Env w) :
    Calls Tryd.prog 39 #[.int .u64 (u : Int), .int .i64 10] w fun e w' => e = .returned (.string (dig u)) ∧ Below w.heap.size w w' := by
  have H : Hid (∀ w, Env w → Calls Tryd.prog 57 #[.int .u64 (u : Int), .int .i64 10] w fun e w' => e = .returned (.string (dig u)) ∧ Below w.heap.size w w') := fun w E => by
    by_cases h : u < 100
    · exact ifu_small u h w
    · exact ifu_great u (by omega) hu w E
  go_enter Tryd.func39, Tryd.ntmps39
  go_wp2_with fail
  refine (unhide H _ E).mono ?_
  rintro e w1 ⟨rfl, b1⟩
  go_wp2_with fail
  go_ret
  exact ⟨rfl, b1⟩

end Go.Proofs.YtnglkadfnacmcaaDoor
