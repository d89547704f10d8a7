/- The contract of package arp's told, over the loaded program; no memory that was there has turned. No conditions. -/
import Derived.Test.YtkmhhlimhiiciaaAr0
import Derived.Deep.RegionHeld3
import Derived.Deep.CutRange
namespace Go.Proofs.Ytkmhhlimhiiciaa
open Go.RowKit

/-- two boxes that hold a packet's ends, the packet's own, and the answer's -/
structure TC (w : World) (o f i t j : Nat) (p q : Nat) (wx : World) : Prop where
  k : Tab w 2 (add (add (fun _ _ => none) 0 (arL o f i t j)) 1 zL) wx
  c0 : wx.cell? ⟨p, 0, none⟩ = some (.int .u64 (f : Int))
  c1 : wx.cell? ⟨p, 1, none⟩ = some (.int .u32 (i : Int))
  d0 : wx.cell? ⟨q, 0, none⟩ = some (.int .u64 (t : Int))
  d1 : wx.cell? ⟨q, 1, none⟩ = some (.int .u32 (j : Int))

/-- blocks more -/
def allocs (w : World) : List Obj → World
  | [] => w
  | o :: l => allocs (w.alloc o) l
theorem allocs_below (w : World) (l : List Obj) : Below w.heap.size w (allocs w l) := by
  induction l generalizing w with
  | nil => exact Below.refl _ _
  | cons o l ih => exact tr2 (below_one w o) (ih _)
theorem allocs_at (w : World) (l : List Obj) (a : Nat) (o : Obj) (h : l[a]? = some o) : (allocs w l).heap[w.heap.size + a]? = some o := by
  induction l generalizing w a with
  | nil => simp at h
  | cons x l ih =>
    cases a with
    | zero =>
      obtain rfl : x = o := by simpa using h
      have hb := allocs_below (w.alloc x) l
      have e := hb.block w.heap.size (by simp)
      exact e.trans (heap_alloc_new w x)
    | succ a =>
      have e := ih (w.alloc x) a (by simpa using h)
      rw [World.size_alloc, Nat.add_assoc, Nat.add_comm 1 a] at e
      exact e
theorem TC.six {w wb : World} {o f i t j : Nat} (k : Tab w 2 (add (add (fun _ _ => none) 0 (arL o f i t j)) 1 zL) wb) (o1 o2 o3 o4 o5 o6 : Obj) (a b : Nat) (ha : [o1, o2, o3, o4, o5, o6][a]? = some (.cells #[.int .u64 (f : Int), .int .u32 (i : Int)] 50)) (hb : [o1, o2, o3, o4, o5, o6][b]? = some (.cells #[.int .u64 (t : Int), .int .u32 (j : Int)] 50)) :
    TC w o f i t j (wb.heap.size + a) (wb.heap.size + b) ((((((wb.alloc o1).alloc o2).alloc o3).alloc o4).alloc o5).alloc o6).drew := by
  have h1 := allocs_at wb _ a _ ha
  have h2 := allocs_at wb _ b _ hb
  exact ⟨(k.on (allocs_below wb [o1, o2, o3, o4, o5, o6])).drew, cell_of_row _ _ 0 _ _ _ h1, cell_of_row _ _ 1 _ _ _ h1, cell_of_row _ _ 0 _ _ _ h2, cell_of_row _ _ 1 _ _ _ h2⟩

set_option maxHeartbeats 1000000 in
theorem told_any (o f i t j : Nat) (w : World) :
    Calls Try.prog 29 #[ar o f i t j] w fun e w' => e = .returned (ar o f i t j) ∧ Below w.heap.size w w' := by
  have K := hide (((Tab.zero w).alloc rfl (arL o f i t j) 55).alloc (by simp) zL 27)
  have H1 := hide (fun w => from_eq f i w)
  have H2 := hide (fun w => to_eq t j w)
  go_enter Try.func29, Try.ntmps29
  go_upto_region 1 with fail
  have k := unhide K
  obtain ⟨e0, e1, e2, e3, e4⟩ := k.five0 rfl rfl rfl rfl rfl
  have K' := hide k
  clear K k
  generalize (w.alloc (.cells #[.int .u16 (o : Int), .int .u64 (f : Int), .int .u32 (i : Int), .int .u64 (t : Int), .int .u32 (j : Int)] 55)).alloc (.cells #[.int .u16 0, .int .u64 0, .int .u32 0, .int .u64 0, .int .u32 0] 27) = wb at *
  go_cut [3, 4] from 5 to 10 (fun pa pb wx => ∃ p q : Nat, pa = .pointer (some ⟨p, 0, none⟩) ∧ pb = .pointer (some ⟨q, 0, none⟩) ∧ TC w o f i t j p q wx)
  case first =>
    have n1 := World.new_ne wb _ e1
    have n2 := World.new_ne wb _ e2
    have n3 := World.new_ne wb _ e3
    have n4 := World.new_ne wb _ e4
    go_region_held3 (fun w' => w'.cell? ⟨w.heap.size, 1, none⟩ = some (.int .u64 (f : Int)) ∧ w'.cell? ⟨w.heap.size, 2, none⟩ = some (.int .u32 (i : Int)) ∧ w'.cell? ⟨w.heap.size, 3, none⟩ = some (.int .u64 (t : Int)) ∧ w'.cell? ⟨w.heap.size, 4, none⟩ = some (.int .u32 (j : Int))) (simp (maxDischargeDepth := 30) [*, World.cell?_alloc_some]) (first
      | (go_at_call 21; refine (unhide H1 _).mono ?_; rintro e w1 ⟨rfl, rfl⟩)
      | (go_at_call 23; refine (unhide H2 _).mono ?_; rintro e w2 ⟨rfl, rfl⟩))
    all_goals
      go_wp2_with fail
      go_meet
      first | exact ⟨_, _, rfl, rfl, TC.six (unhide K') _ _ _ _ _ _ 0 1 rfl rfl⟩ | exact ⟨_, _, rfl, rfl, TC.six (unhide K') _ _ _ _ _ _ 0 2 rfl rfl⟩ | exact ⟨_, _, rfl, rfl, TC.six (unhide K') _ _ _ _ _ _ 0 3 rfl rfl⟩ | exact ⟨_, _, rfl, rfl, TC.six (unhide K') _ _ _ _ _ _ 0 4 rfl rfl⟩ | exact ⟨_, _, rfl, rfl, TC.six (unhide K') _ _ _ _ _ _ 0 5 rfl rfl⟩ | exact ⟨_, _, rfl, rfl, TC.six (unhide K') _ _ _ _ _ _ 1 0 rfl rfl⟩ | exact ⟨_, _, rfl, rfl, TC.six (unhide K') _ _ _ _ _ _ 1 2 rfl rfl⟩ | exact ⟨_, _, rfl, rfl, TC.six (unhide K') _ _ _ _ _ _ 1 3 rfl rfl⟩ | exact ⟨_, _, rfl, rfl, TC.six (unhide K') _ _ _ _ _ _ 1 4 rfl rfl⟩ | exact ⟨_, _, rfl, rfl, TC.six (unhide K') _ _ _ _ _ _ 1 5 rfl rfl⟩ | exact ⟨_, _, rfl, rfl, TC.six (unhide K') _ _ _ _ _ _ 2 0 rfl rfl⟩ | exact ⟨_, _, rfl, rfl, TC.six (unhide K') _ _ _ _ _ _ 2 1 rfl rfl⟩ | exact ⟨_, _, rfl, rfl, TC.six (unhide K') _ _ _ _ _ _ 2 3 rfl rfl⟩ | exact ⟨_, _, rfl, rfl, TC.six (unhide K') _ _ _ _ _ _ 2 4 rfl rfl⟩ | exact ⟨_, _, rfl, rfl, TC.six (unhide K') _ _ _ _ _ _ 2 5 rfl rfl⟩ | exact ⟨_, _, rfl, rfl, TC.six (unhide K') _ _ _ _ _ _ 3 0 rfl rfl⟩ | exact ⟨_, _, rfl, rfl, TC.six (unhide K') _ _ _ _ _ _ 3 1 rfl rfl⟩ | exact ⟨_, _, rfl, rfl, TC.six (unhide K') _ _ _ _ _ _ 3 2 rfl rfl⟩ | exact ⟨_, _, rfl, rfl, TC.six (unhide K') _ _ _ _ _ _ 3 4 rfl rfl⟩ | exact ⟨_, _, rfl, rfl, TC.six (unhide K') _ _ _ _ _ _ 3 5 rfl rfl⟩ | exact ⟨_, _, rfl, rfl, TC.six (unhide K') _ _ _ _ _ _ 4 0 rfl rfl⟩ | exact ⟨_, _, rfl, rfl, TC.six (unhide K') _ _ _ _ _ _ 4 1 rfl rfl⟩ | exact ⟨_, _, rfl, rfl, TC.six (unhide K') _ _ _ _ _ _ 4 2 rfl rfl⟩ | exact ⟨_, _, rfl, rfl, TC.six (unhide K') _ _ _ _ _ _ 4 3 rfl rfl⟩ | exact ⟨_, _, rfl, rfl, TC.six (unhide K') _ _ _ _ _ _ 4 5 rfl rfl⟩ | exact ⟨_, _, rfl, rfl, TC.six (unhide K') _ _ _ _ _ _ 5 0 rfl rfl⟩ | exact ⟨_, _, rfl, rfl, TC.six (unhide K') _ _ _ _ _ _ 5 1 rfl rfl⟩ | exact ⟨_, _, rfl, rfl, TC.six (unhide K') _ _ _ _ _ _ 5 2 rfl rfl⟩ | exact ⟨_, _, rfl, rfl, TC.six (unhide K') _ _ _ _ _ _ 5 3 rfl rfl⟩ | exact ⟨_, _, rfl, rfl, TC.six (unhide K') _ _ _ _ _ _ 5 4 rfl rfl⟩
  case rest =>
    obtain ⟨p, q, rfl, rfl, ⟨k, c0, c1, d0, d1⟩⟩ := hcut
    clear e0 e1 e2 e3 e4 K'
    obtain ⟨e0, e1, e2, e3, e4⟩ := k.five0 rfl rfl rfl rfl rfl
    obtain ⟨r0, r1, r2, r3, r4⟩ := k.five 1 rfl rfl rfl rfl rfl
    obtain ⟨g0, g1, g2, g3, g4⟩ := k.free5 1 rfl rfl rfl rfl rfl
    have B1 := hide k.bel
    clear k
    go_wp2_with fail
    refine bodyPost_ret (v := ar o f i t j) (by simp [results, Try.results29, go_sem, r0, r1, r2, r3, r4]) rfl ⟨rfl, ?_⟩
    exact below_set5 (unhide B1) (Nat.le_succ _) _ _ _ _ _

end Go.Proofs.Ytkmhhlimhiiciaa
