/- The document's SameOpts, over the loaded program; no memory that was there has turned. -/
import Derived.Test.YtjkoppjikplkeaaIo2
namespace Go.Proofs.Ytjkoppjikplkeaa
open Go.RowKit

set_option maxHeartbeats 2000000 in
theorem same_any (sv tv : Value) (L M : List Po) (w : World) (hL : L.length ≤ 65536) (hM : M.length ≤ 65536) (hI : OptsAt w.heap.size w sv L) (hJ : OptsAt w.heap.size w tv M) :
    Calls Try.prog 22 #[sv, tv] w fun e w' => e = .returned (.bool (decide (L = M))) ∧ Below w.heap.size w w' := by
  by_cases hlen : L.length = M.length
  case neg =>
    obtain ⟨a, cap, rfl⟩ := hI.slice
    obtain ⟨a', cap', rfl⟩ := hJ.slice
    rw [decide_eq_false (fun e => hlen (by rw [e]))]
    clear hI hJ
    go_enter Try.func22, Try.ntmps22
    go_wp2
    go_ret
    exact ⟨rfl, Below.refl _ _⟩
  rcases hI with ⟨⟨a, cap, rfl⟩, rfl⟩ | ⟨b, off, cap, rfl, hb, hc⟩
  · obtain rfl : M = [] := List.eq_nil_of_length_eq_zero hlen.symm
    obtain ⟨a', cap', rfl⟩ := hJ.slice
    rw [decide_eq_true rfl]
    clear hJ hlen
    go_enter Try.func22, Try.ntmps22
    go_wp2
    go_loopw [5] (fun i wr => i = .int .i64 0 ∧ wr = w) (fun _ _ => 0)
    case atStart => exact ⟨rfl, rfl⟩
    case round =>
      obtain ⟨rfl, rfl⟩ := hrel
      go_wp2
      go_ret
      exact ⟨rfl, Below.refl _ _⟩
  rcases hJ with ⟨⟨a, cap, rfl⟩, rfl⟩ | ⟨b', off', cap', rfl, hb', hc'⟩
  · obtain rfl : L = [] := List.eq_nil_of_length_eq_zero hlen
    rw [decide_eq_true rfl]
    clear hlen hc hb
    go_enter Try.func22, Try.ntmps22
    go_wp2
    go_loopw [5] (fun i wr => i = .int .i64 0 ∧ wr = w) (fun _ _ => 0)
    case atStart => exact ⟨rfl, rfl⟩
    case round =>
      obtain ⟨rfl, rfl⟩ := hrel
      go_wp2
      go_ret
      exact ⟨rfl, Below.refl _ _⟩
  obtain ⟨r, hr, he⟩ := hidec (L = M)
  rw [← he]
  clear he
  obtain ⟨n, hn⟩ : ∃ n, L.length = n := ⟨_, rfl⟩
  have hn' : M.length = n := by rw [← hlen, hn]
  rw [hn, hn']
  have Hn := hide (And.intro hn hn')
  rw [hn] at hL
  clear hlen hM hn hn'
  go_enter Try.func22, Try.ntmps22
  go_wp2
  go_loopw [5] (fun i wr => ∃ k : Nat, k ≤ n ∧ i = .int .i64 (k : Int) ∧ (∀ j, j < k → L[j]? = M[j]?) ∧ Below w.heap.size w wr) (fun i _ => n - (intOf i).toNat)
  case atStart => exact ⟨0, Nat.zero_le _, rfl, fun j hj => by omega, Below.refl _ _⟩
  case round =>
    obtain ⟨k, hk, rfl, hs, hB⟩ := hrel
    by_cases hlt : k < n
    · have h1 : k < L.length := by rw [(unhide Hn).1]; exact hlt
      have h2 : k < M.length := by rw [(unhide Hn).2]; exact hlt
      obtain ⟨p1, p2⟩ := hc k L[k] (List.getElem?_eq_getElem h1)
      obtain ⟨p3, p4⟩ := hc' k M[k] (List.getElem?_eq_getElem h2)
      have c1 := (hB.cell (p := ⟨b, off + k * 2, none⟩) hb).trans p1
      have c2 := (hB.cell (p := ⟨b, off + k * 2 + 1, none⟩) hb).trans p2
      have c3 := (hB.cell (p := ⟨b', off' + k * 2, none⟩) hb').trans p3
      have c4 := (hB.cell (p := ⟨b', off' + k * 2 + 1, none⟩) hb').trans p4
      have q := fun w => neq_po L[k] M[k] w
      have HY := hide (show L[k]? = some L[k] from List.getElem?_eq_getElem h1)
      have HZ := hide (show M[k]? = some M[k] from List.getElem?_eq_getElem h2)
      generalize L[k] = y at *
      generalize M[k] = z at *
      have HS := hide hs
      have HB := hide hB
      clear p1 p2 p3 p4 hc hc' hs hB h1 h2
      have hi1 : (k : Int) < (n : Int) := by omega
      by_cases hyz : y = z
      · rw [decide_eq_true hyz] at q
        have HYZ := hide hyz
        clear hyz hr
        obtain ⟨y1, y2⟩ := y
        obtain ⟨z1, z2⟩ := z
        go_wp2
        go_region
        go_wp2
        go_roundw
        case rel =>
          refine ⟨k + 1, by omega, by go_num, fun j hj => ?_, (unhide HB).drew⟩
          by_cases hjk : j < k
          · exact unhide HS j hjk
          · obtain rfl : j = k := by omega
            rw [unhide HY, unhide HZ, unhide HYZ]
        case measure => simp [intOf]; omega
      · rw [decide_eq_false hyz] at q
        obtain rfl : r = false := by
          rw [unhide hr]
          exact decide_eq_false (fun e => hyz (by
            have := unhide HZ
            rw [← e, unhide HY] at this
            exact Option.some.inj this))
        clear hyz hr
        obtain ⟨y1, y2⟩ := y
        obtain ⟨z1, z2⟩ := z
        go_wp2
        go_region
        go_wp2
        go_ret
        exact ⟨rfl, (unhide HB).drew⟩
    · obtain rfl : k = n := by omega
      obtain rfl : r = true := by
        rw [unhide hr]
        refine decide_eq_true (List.ext_getElem? fun j => ?_)
        by_cases hj : j < k
        · exact hs j hj
        · rw [List.getElem?_eq_none (by rw [(unhide Hn).1]; omega), List.getElem?_eq_none (by rw [(unhide Hn).2]; omega)]
      clear hr hc hc' hs
      go_wp2
      go_ret
      exact ⟨rfl, hB⟩

end Go.Proofs.Ytjkoppjikplkeaa
