/- What the document's Text answers. -/
import Derived.Test.YtkhkobdbbffkbaaSt1
import Derived.Deep.CutRange
namespace Go.Proofs.Ytkhkobdbbffkbaa
open Go.RowKit

theorem rows1 (w : World) (o0 o1 o2 : Obj) : (((w.alloc o0).alloc o1).alloc o2).heap[w.heap.size + 1]? = some o1 := by
  rw [Below.heap_alloc _ _ _ (by simp)]
  have := heap_alloc_new (w.alloc o0) o1
  simpa only [World.size_alloc] using this
theorem rows2 (w : World) (o0 o1 o2 : Obj) : (((w.alloc o0).alloc o1).alloc o2).heap[w.heap.size + 1 + 1]? = some o2 := by
  have := heap_alloc_new ((w.alloc o0).alloc o1) o2
  simpa only [World.size_alloc] using this
theorem below3 (w : World) (o0 o1 o2 : Obj) : Below w.heap.size w (((w.alloc o0).alloc o1).alloc o2).drew :=
  (((below_one w o0).alloc (by simp) o1).alloc (by simp; omega) o2).drew

/-- two boxes that hold the ends of a pair -/
structure B2 (w : World) (a p b q : Nat) (i j : Nat) (wx : World) : Prop where
  c0 : wx.cell? ⟨i, 0, none⟩ = some (.int .u32 (a : Int))
  c1 : wx.cell? ⟨i, 1, none⟩ = some (.int .u16 (p : Int))
  d0 : wx.cell? ⟨j, 0, none⟩ = some (.int .u32 (b : Int))
  d1 : wx.cell? ⟨j, 1, none⟩ = some (.int .u16 (q : Int))
  bel : Below w.heap.size w wx
theorem B2.one (w : World) (a p b q : Nat) (o : Obj) (t : TypeId) : B2 w a p b q (w.heap.size + 1) (w.heap.size + 1 + 1) (((w.alloc o).alloc (.cells #[.int .u32 (a : Int), .int .u16 (p : Int)] t)).alloc (.cells #[.int .u32 (b : Int), .int .u16 (q : Int)] t)).drew := by
  have h1 := rows1 w o (.cells #[.int .u32 (a : Int), .int .u16 (p : Int)] t) (.cells #[.int .u32 (b : Int), .int .u16 (q : Int)] t)
  have h2 := rows2 w o (.cells #[.int .u32 (a : Int), .int .u16 (p : Int)] t) (.cells #[.int .u32 (b : Int), .int .u16 (q : Int)] t)
  exact ⟨cell_of_row _ _ 0 _ _ _ h1, cell_of_row _ _ 1 _ _ _ h1, cell_of_row _ _ 0 _ _ _ h2, cell_of_row _ _ 1 _ _ _ h2, below3 _ _ _ _⟩
theorem B2.other (w : World) (a p b q : Nat) (o : Obj) (t : TypeId) : B2 w a p b q (w.heap.size + 1 + 1) (w.heap.size + 1) (((w.alloc o).alloc (.cells #[.int .u32 (b : Int), .int .u16 (q : Int)] t)).alloc (.cells #[.int .u32 (a : Int), .int .u16 (p : Int)] t)).drew := by
  have h1 := rows1 w o (.cells #[.int .u32 (b : Int), .int .u16 (q : Int)] t) (.cells #[.int .u32 (a : Int), .int .u16 (p : Int)] t)
  have h2 := rows2 w o (.cells #[.int .u32 (b : Int), .int .u16 (q : Int)] t) (.cells #[.int .u32 (a : Int), .int .u16 (p : Int)] t)
  exact ⟨cell_of_row _ _ 0 _ _ _ h2, cell_of_row _ _ 1 _ _ _ h2, cell_of_row _ _ 0 _ _ _ h1, cell_of_row _ _ 1 _ _ _ h1, below3 _ _ _ _⟩

theorem ptx_nums (a p b q : Nat) : strOfNums [(a : Int) / 16777216, (a : Int) / 65536 % 256, (a : Int) / 256 % 256, (a : Int) % 256, (b : Int) / 16777216, (b : Int) / 65536 % 256, (b : Int) / 256 % 256, (b : Int) % 256, (p : Int) / 256, (p : Int) % 256, (q : Int) / 256, (q : Int) % 256] = ptx a p b q := by
  unfold strOfNums ptx
  rw [show List.map (fun n : Int => UInt8.ofNat n.toNat) [(a : Int) / 16777216, (a : Int) / 65536 % 256, (a : Int) / 256 % 256, (a : Int) % 256, (b : Int) / 16777216, (b : Int) / 65536 % 256, (b : Int) / 256 % 256, (b : Int) % 256, (p : Int) / 256, (p : Int) % 256, (q : Int) / 256, (q : Int) % 256] = [UInt8.ofNat ((a : Int) / 16777216).toNat, UInt8.ofNat ((a : Int) / 65536 % 256).toNat, UInt8.ofNat ((a : Int) / 256 % 256).toNat, UInt8.ofNat ((a : Int) % 256).toNat, UInt8.ofNat ((b : Int) / 16777216).toNat, UInt8.ofNat ((b : Int) / 65536 % 256).toNat, UInt8.ofNat ((b : Int) / 256 % 256).toNat, UInt8.ofNat ((b : Int) % 256).toNat, UInt8.ofNat ((p : Int) / 256).toNat, UInt8.ofNat ((p : Int) % 256).toNat, UInt8.ofNat ((q : Int) / 256).toNat, UInt8.ofNat ((q : Int) % 256).toNat] from rfl]
  rw [show ((a : Int) / 16777216).toNat = a / 16777216 by omega, show ((a : Int) / 65536 % 256).toNat = a / 65536 % 256 by omega, show ((a : Int) / 256 % 256).toNat = a / 256 % 256 by omega, show ((a : Int) % 256).toNat = a % 256 by omega, show ((b : Int) / 16777216).toNat = b / 16777216 by omega, show ((b : Int) / 65536 % 256).toNat = b / 65536 % 256 by omega, show ((b : Int) / 256 % 256).toNat = b / 256 % 256 by omega, show ((b : Int) % 256).toNat = b % 256 by omega, show ((p : Int) / 256).toNat = p / 256 by omega, show ((p : Int) % 256).toNat = p % 256 by omega, show ((q : Int) / 256).toNat = q / 256 by omega, show ((q : Int) % 256).toNat = q % 256 by omega]

set_option maxRecDepth 100000 in
set_option maxHeartbeats 1000000 in
theorem rtext_any (a p b q : Nat) (w : World) (ha : a < 4294967296) (hp : p < 65536) (hb : b < 4294967296) (hq : q < 65536) :
    Calls Try.prog 12 #[.agg #[.int .u32 (a : Int), .int .u16 (p : Int), .int .u32 (b : Int), .int .u16 (q : Int)]] w fun e w' => e = .returned (.string (ptx a p b q)) ∧ Below w.heap.size w w' := by
  go_enter Try.func12, Try.ntmps12
  go_upto_region 1 with fail
  go_cut [3, 4] from 5 to 8 (fun pa pb wx => ∃ i j : Nat, pa = .pointer (some ⟨i, 0, none⟩) ∧ pb = .pointer (some ⟨j, 0, none⟩) ∧ B2 w a p b q i j wx)
  case first =>
    go_region
    · go_wp2_with fail
      go_meet
      exact ⟨_, _, rfl, rfl, B2.one _ _ _ _ _ _ _⟩
    · go_wp2_with fail
      go_meet
      exact ⟨_, _, rfl, rfl, B2.other _ _ _ _ _ _ _⟩
  case rest =>
    obtain ⟨i, j, rfl, rfl, ⟨c0, c1, d0, d1, bel⟩⟩ := hcut
    have hc := conv_row wc [(a : Int) / 16777216, (a : Int) / 65536 % 256, (a : Int) / 256 % 256, (a : Int) % 256, (b : Int) / 16777216, (b : Int) / 65536 % 256, (b : Int) / 256 % 256, (b : Int) % 256, (p : Int) / 256, (p : Int) % 256, (q : Int) / 256, (q : Int) % 256] 12 rfl #[.int .u8 ((a : Int) / 16777216), .int .u8 ((a : Int) / 65536 % 256), .int .u8 ((a : Int) / 256 % 256), .int .u8 ((a : Int) % 256), .int .u8 ((b : Int) / 16777216), .int .u8 ((b : Int) / 65536 % 256), .int .u8 ((b : Int) / 256 % 256), .int .u8 ((b : Int) % 256), .int .u8 ((p : Int) / 256), .int .u8 ((p : Int) % 256), .int .u8 ((q : Int) / 256), .int .u8 ((q : Int) % 256)] rfl
    rw [ptx_nums] at hc
    go_wp2
    go_ret
    exact ⟨rfl, bel.alloc bel.size _⟩

end Go.Proofs.Ytkhkobdbbffkbaa
