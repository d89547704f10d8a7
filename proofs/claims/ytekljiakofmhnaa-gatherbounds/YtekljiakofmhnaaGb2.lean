/- The contract of the law's made where each byte was brought, over the loaded program; no memory that was there has turned. -/
import Derived.Test.YtekljiakofmhnaaGb1
namespace Go.Proofs.Ytekljiakofmhnaa
open Go.RowKit Go.Shelf

/-- each byte of a text stands in a call's data, of that packet, at its place -/
def MadeC (L : List Cl) (k : Pk) (s : ByteArray) : Prop := ∀ i, i < s.size → ∃ (j : Nat) (x : Cl), L[j]? = some x ∧ x.d % 6 ≠ 5 ∧ pkOf x.h = k ∧ ∃ q : Nat, q < x.s.size ∧ x.h.at' + (q : Int) = (i : Int) ∧ s.data.toList[i]? = x.s.data.toList[q]?
theorem head_cells {w : World} {g off i : Nat} {x : Cl} (hc : ∀ j v, (clCs x)[j]? = some v → w.cell? ⟨g, off + i * 13 + j, none⟩ = some v) : ∀ j v, (hdL x.h)[j]? = some v → w.cell? ⟨g, off + i * 13 + 1 + j, none⟩ = some v := by
  intro j v hj
  rw [Nat.add_assoc (off + i * 13) 1 j, Nat.add_comm 1 j]
  refine hc (j + 1) v ?_
  have hlt : j < 10 := (List.getElem?_eq_some_iff.1 hj).1
  match j, hlt with
  | 0, _ | 1, _ | 2, _ | 3, _ | 4, _ | 5, _ | 6, _ | 7, _ | 8, _ | 9, _ => exact hj
theorem byte_same {s t : ByteArray} {k q : Nat} (h : s.data.toList[k]? = t.data.toList[q]?) (hq : q < t.size) (hk : k < s.size) : (((t[q]'hq).toNat : Int) == ((s[k]'hk).toNat : Int)) = true := by
  rw [List.getElem?_eq_getElem (by rw [← Lib.size_eq]; exact hk), List.getElem?_eq_getElem (by rw [← Lib.size_eq]; exact hq)] at h
  have h := Option.some.inj h
  simp only [Array.getElem_toList] at h
  have e : t[q]'hq = s[k]'hk := h.symm
  rw [e]
  exact beq_self_eq_true _
set_option maxRecDepth 20000 in
set_option maxHeartbeats 4000000 in
theorem made_any (sv : Value) (L : List Cl) (h : Rh) (s : ByteArray) (w : World) (hat : ClsAt w sv L) (hL : L.length ≤ 100) (hs : s.size ≤ 65535) (hsz : ∀ x ∈ L, x.s.size ≤ 262144) (hm : MadeC L (pkOf h) s) :
    Calls Try.prog 11 #[sv, hdV h, .string s] w fun e w' => e = .returned (.bool true) ∧ Below w.heap.size w w' := by
  obtain ⟨a, cap, rfl⟩ := hat.slice
  have B0 := below_one w (.cells (hdL h).toArray 34)
  have HB := hide (HC.box w h 34)
  have HA := hide (hat.on B0)
  have HZ := hide hsz
  have HM := hide hm
  have HB0 := hide B0
  clear hat hsz hm B0
  go_enter Try.func11, Try.ntmps11
  go_wp2_with fail
  obtain ⟨W1, hW1⟩ : ∃ W1, W1 = w.alloc (.cells (hdL h).toArray 34) := ⟨_, rfl⟩
  rw [← hW1] at HB HA HB0
  simp only [hdL] at hW1
  rw [← hW1]
  clear hW1
  go_loopw [7] (fun v wr => ∃ k : Nat, k ≤ s.size ∧ v = .int .i64 (k : Int) ∧ Below W1.heap.size W1 wr) (fun v _ => s.size - (intOf v).toNat)
  case atStart => exact ⟨0, Nat.zero_le _, rfl, Below.refl _ _⟩
  case round =>
    obtain ⟨k, hk, rfl, hB⟩ := hrel
    by_cases hlt : k < s.size
    · obtain ⟨j0, x0, hj0, hd0, hk0, q0, hq0, hat0, hby⟩ := unhide HM k hlt
      have hj0l : j0 < L.length := (List.getElem?_eq_some_iff.1 hj0).1
      have HW := hide (⟨hj0, hd0, hk0, hq0, hat0, hby⟩ : L[j0]? = some x0 ∧ x0.d % 6 ≠ 5 ∧ pkOf x0.h = pkOf h ∧ q0 < x0.s.size ∧ x0.h.at' + (q0 : Int) = (k : Int) ∧ s.data.toList[k]? = x0.s.data.toList[q0]?)
      clear hj0 hd0 hk0 hq0 hat0 hby
      go_wp2_with fail
      go_loopw [8, 9] (fun z i wr2 => ∃ (j : Nat) (b : Bool), j ≤ L.length ∧ i = .int .i64 (j : Int) ∧ z = .bool b ∧ (b = true ∨ j ≤ j0) ∧ Below W1.heap.size W1 wr2) (fun _ i _ => L.length - (intOf i).toNat)
      case atStart => exact ⟨0, false, Nat.zero_le _, rfl, rfl, .inr (Nat.zero_le _), hB⟩
      case round =>
        obtain ⟨j, b, hj, rfl, rfl, hbj, hB2⟩ := hrel
        by_cases hjl : j < L.length
        · obtain ⟨x, hx⟩ : ∃ x, L[j]? = some x := ⟨_, List.getElem?_eq_getElem hjl⟩
          obtain ⟨g, off, rfl, -, hcap, hmx, hg, hc⟩ := (unhide HA).at hx
          have hc := fun j' v hj => (hB2.cell (p := ⟨g, off + j * 13 + j', none⟩) hg).trans (hc j' v hj)
          have hd := head_cells hc
          have cd : wr.cell? ⟨g, off + j * 13, none⟩ = some (.int .u8 (x.d : Int)) := hc 0 _ rfl
          have cs : wr.cell? ⟨g, off + j * 13 + 11, none⟩ = some (.string x.s) := hc 11 _ rfl
          have c0 : wr.cell? ⟨g, off + j * 13 + 1, none⟩ = some (.int .u8 (x.h.tos : Int)) := hd 0 _ rfl
          have c1 : wr.cell? ⟨g, off + j * 13 + 1 + 1, none⟩ = some (.int .u16 (x.h.id : Int)) := hd 1 _ rfl
          have c2 : wr.cell? ⟨g, off + j * 13 + 1 + 2, none⟩ = some (.bool x.h.hold) := hd 2 _ rfl
          have c3 : wr.cell? ⟨g, off + j * 13 + 1 + 3, none⟩ = some (.bool x.h.more) := hd 3 _ rfl
          have c4 : wr.cell? ⟨g, off + j * 13 + 1 + 4, none⟩ = some (.int .i64 x.h.at') := hd 4 _ rfl
          have c5 : wr.cell? ⟨g, off + j * 13 + 1 + 5, none⟩ = some (.int .u8 (x.h.ttl : Int)) := hd 5 _ rfl
          have c6 : wr.cell? ⟨g, off + j * 13 + 1 + 6, none⟩ = some (.int .u8 (x.h.proto : Int)) := hd 6 _ rfl
          have c7 : wr.cell? ⟨g, off + j * 13 + 1 + 7, none⟩ = some (.int .u32 (x.h.frm : Int)) := hd 7 _ rfl
          have c8 : wr.cell? ⟨g, off + j * 13 + 1 + 8, none⟩ = some (.int .u32 (x.h.to : Int)) := hd 8 _ rfl
          have c9 : wr.cell? ⟨g, off + j * 13 + 1 + 9, none⟩ = some (.string x.h.op) := hd 9 _ rfl
          have hgl : g < wr.heap.size := Nat.lt_of_lt_of_le hg hB2.size
          obtain ⟨f0, f1, f2, f3, f4, f5, f6, f7, f8, f9⟩ := (unhide HB).on hB2
          have hwl : w.heap.size < wr.heap.size := cell_lt' f0
          have HX := hide hx
          have b1 := below_one wr (.cells (hdL x.h).toArray 34)
          have HBX := hide (hB2.trans (b1.mono hB2.size))
          have rd := cell_regrown ((b1.cell (p := ⟨g, off + j * 13, none⟩) hgl).trans cd)
          have rs := cell_regrown ((b1.cell (p := ⟨g, off + j * 13 + 11, none⟩) hgl).trans cs)
          obtain ⟨e0, e1, e2, e3, e4, e5, e6, e7, e8, e9⟩ := HC.box wr x.h 34
          have p1 := cell_regrown e1
          have p6 := cell_regrown e6
          have p7 := cell_regrown e7
          have p8 := cell_regrown e8
          have t1 := cell_regrown ((b1.cell (p := ⟨w.heap.size, 1, none⟩) hwl).trans f1)
          have t6 := cell_regrown ((b1.cell (p := ⟨w.heap.size, 6, none⟩) hwl).trans f6)
          have t7 := cell_regrown ((b1.cell (p := ⟨w.heap.size, 7, none⟩) hwl).trans f7)
          have t8 := cell_regrown ((b1.cell (p := ⟨w.heap.size, 8, none⟩) hwl).trans f8)
          clear hc hd hx b1 e0 e2 e3 e5 e9
          go_wp2_with fail
          obtain ⟨W2, hW2⟩ : ∃ W2, W2 = wr.alloc (.cells (hdL x.h).toArray 34) := ⟨_, rfl⟩
          rw [← hW2] at HBX rd rs p1 p6 p7 p8 t1 t6 t7 t8
          simp only [hdL] at hW2
          rw [← hW2]
          clear hW2 cd cs c0 c1 c2 c3 c4 c5 c6 c7 c8 c9 f0 f1 f2 f3 f4 f5 f6 f7 f8 f9 e1 e4 e6 e7 e8
          cases b with
          | true =>
            refine wp_region_quiet_below (by kernel_rfl) (by kernel_rfl) ?_
            try simp only [List.append]
            repeat (go_big_quiet_step (fail))
            refine wpQuiet_nil ?_
            intro _ hw'
            obtain ⟨⟨dq, osq⟩, hw''⟩ := hw'
            subst hw''
            have BW := (unhide HBX).trans ((below_regrown _ dq osq).mono (unhide HBX).size)
            go_wp2_with fail
            go_roundw
            case rel => exact ⟨j + 1, _, by omega, by go_num, rfl, .inl rfl, BW⟩
            case measure => simp [intOf]; omega
          | false =>
            have hle : j ≤ j0 := by rcases hbj with h | h; cases h; exact h
            by_cases hjj : j = j0
            · obtain ⟨w0, w1, w2, w3, w4, w5⟩ := unhide HW
              have hxe : x = x0 := by
                have := unhide HX
                rw [hjj, w0] at this
                exact (Option.some.inj this).symm
              subst hxe
              have hpk := w2
              simp only [pkOf, Pk.mk.injEq] at hpk
              obtain ⟨y0, y1, y2, y3⟩ := hpk
              have h1 : ((x.d : Int) % 6 != 5) = true := by simp; omega
              have h2 : ((x.h.frm : Int) == (h.frm : Int)) = true := by simp [y0]
              have h3 : ((x.h.to : Int) == (h.to : Int)) = true := by simp [y1]
              have h4 : ((x.h.proto : Int) == (h.proto : Int)) = true := by simp [y2]
              have h5 : ((x.h.id : Int) == (h.id : Int)) = true := by simp [y3]
              have hK : wrap64 ((k : Int) - x.h.at') = (q0 : Int) := by
                have := unhide HZ x (List.mem_of_getElem? w0)
                have e : (k : Int) - x.h.at' = (q0 : Int) := by omega
                rw [e]
                unfold wrap64
                omega
              rw [hK]
              have hK1 : decide ((q0 : Int) < (x.s.size : Int)) = true := decide_eq_true (by omega)
              have HY := hide w5
              clear hK w0 w1 w2 w4 w5 y0 y1 y2 y3 hjj
              refine wp_region_quiet_below (by kernel_rfl) (by kernel_rfl) ?_
              try simp only [List.append]
              repeat (go_big_quiet_step (fail))
              refine wpQuiet_nil ?_
              intro _ hw'
              obtain ⟨⟨dq, osq⟩, hw''⟩ := hw'
              subst hw''
              have BW := (unhide HBX).trans ((below_regrown _ dq osq).mono (unhide HBX).size)
              go_wp2_with fail
              go_roundw
              case rel => exact ⟨j + 1, _, by omega, by go_num, rfl, .inl (byte_same (unhide HY) w3 hlt), BW⟩
              case measure => simp [intOf]; omega
            · obtain ⟨K, hK⟩ : ∃ K, wrap64 ((k : Int) - x.h.at') = K := ⟨_, rfl⟩
              rw [hK]
              clear hK
              obtain ⟨b1, h1⟩ : ∃ b1, ((x.d : Int) % 6 != 5) = b1 := ⟨_, rfl⟩
              cases b1 with
              | false =>
                refine wp_region_quiet_below (by kernel_rfl) (by kernel_rfl) ?_
                try simp only [List.append]
                repeat (go_big_quiet_step (fail))
                refine wpQuiet_nil ?_
                intro _ hw'
                obtain ⟨⟨dq, osq⟩, hw''⟩ := hw'
                subst hw''
                have BW := (unhide HBX).trans ((below_regrown _ dq osq).mono (unhide HBX).size)
                go_wp2_with fail
                go_roundw
                case rel => exact ⟨j + 1, _, by omega, by go_num, rfl, .inr (by omega), BW⟩
                case measure => simp [intOf]; omega
              | true =>
                obtain ⟨b2, h2⟩ : ∃ b2, ((x.h.frm : Int) == (h.frm : Int)) = b2 := ⟨_, rfl⟩
                cases b2 with
                | false =>
                  refine wp_region_quiet_below (by kernel_rfl) (by kernel_rfl) ?_
                  try simp only [List.append]
                  repeat (go_big_quiet_step (fail))
                  refine wpQuiet_nil ?_
                  intro _ hw'
                  obtain ⟨⟨dq, osq⟩, hw''⟩ := hw'
                  subst hw''
                  have BW := (unhide HBX).trans ((below_regrown _ dq osq).mono (unhide HBX).size)
                  go_wp2_with fail
                  go_roundw
                  case rel => exact ⟨j + 1, _, by omega, by go_num, rfl, .inr (by omega), BW⟩
                  case measure => simp [intOf]; omega
                | true =>
                  obtain ⟨b3, h3⟩ : ∃ b3, ((x.h.to : Int) == (h.to : Int)) = b3 := ⟨_, rfl⟩
                  cases b3 with
                  | false =>
                    refine wp_region_quiet_below (by kernel_rfl) (by kernel_rfl) ?_
                    try simp only [List.append]
                    repeat (go_big_quiet_step (fail))
                    refine wpQuiet_nil ?_
                    intro _ hw'
                    obtain ⟨⟨dq, osq⟩, hw''⟩ := hw'
                    subst hw''
                    have BW := (unhide HBX).trans ((below_regrown _ dq osq).mono (unhide HBX).size)
                    go_wp2_with fail
                    go_roundw
                    case rel => exact ⟨j + 1, _, by omega, by go_num, rfl, .inr (by omega), BW⟩
                    case measure => simp [intOf]; omega
                  | true =>
                    obtain ⟨b4, h4⟩ : ∃ b4, ((x.h.proto : Int) == (h.proto : Int)) = b4 := ⟨_, rfl⟩
                    cases b4 with
                    | false =>
                      refine wp_region_quiet_below (by kernel_rfl) (by kernel_rfl) ?_
                      try simp only [List.append]
                      repeat (go_big_quiet_step (fail))
                      refine wpQuiet_nil ?_
                      intro _ hw'
                      obtain ⟨⟨dq, osq⟩, hw''⟩ := hw'
                      subst hw''
                      have BW := (unhide HBX).trans ((below_regrown _ dq osq).mono (unhide HBX).size)
                      go_wp2_with fail
                      go_roundw
                      case rel => exact ⟨j + 1, _, by omega, by go_num, rfl, .inr (by omega), BW⟩
                      case measure => simp [intOf]; omega
                    | true =>
                      obtain ⟨b5, h5⟩ : ∃ b5, ((x.h.id : Int) == (h.id : Int)) = b5 := ⟨_, rfl⟩
                      cases b5 with
                      | false =>
                        refine wp_region_quiet_below (by kernel_rfl) (by kernel_rfl) ?_
                        try simp only [List.append]
                        repeat (go_big_quiet_step (fail))
                        refine wpQuiet_nil ?_
                        intro _ hw'
                        obtain ⟨⟨dq, osq⟩, hw''⟩ := hw'
                        subst hw''
                        have BW := (unhide HBX).trans ((below_regrown _ dq osq).mono (unhide HBX).size)
                        go_wp2_with fail
                        go_roundw
                        case rel => exact ⟨j + 1, _, by omega, by go_num, rfl, .inr (by omega), BW⟩
                        case measure => simp [intOf]; omega
                      | true =>
                        obtain ⟨b6, h6⟩ : ∃ b6, decide (0 ≤ K) = b6 := ⟨_, rfl⟩
                        cases b6 with
                        | false =>
                          refine wp_region_quiet_below (by kernel_rfl) (by kernel_rfl) ?_
                          try simp only [List.append]
                          repeat (go_big_quiet_step (fail))
                          refine wpQuiet_nil ?_
                          intro _ hw'
                          obtain ⟨⟨dq, osq⟩, hw''⟩ := hw'
                          subst hw''
                          have BW := (unhide HBX).trans ((below_regrown _ dq osq).mono (unhide HBX).size)
                          go_wp2_with fail
                          go_roundw
                          case rel => exact ⟨j + 1, _, by omega, by go_num, rfl, .inr (by omega), BW⟩
                          case measure => simp [intOf]; omega
                        | true =>
                          obtain ⟨b7, h7⟩ : ∃ b7, decide (K < (x.s.size : Int)) = b7 := ⟨_, rfl⟩
                          cases b7 with
                          | false =>
                            refine wp_region_quiet_below (by kernel_rfl) (by kernel_rfl) ?_
                            try simp only [List.append]
                            repeat (go_big_quiet_step (fail))
                            refine wpQuiet_nil ?_
                            intro _ hw'
                            obtain ⟨⟨dq, osq⟩, hw''⟩ := hw'
                            subst hw''
                            have BW := (unhide HBX).trans ((below_regrown _ dq osq).mono (unhide HBX).size)
                            go_wp2_with fail
                            go_roundw
                            case rel => exact ⟨j + 1, _, by omega, by go_num, rfl, .inr (by omega), BW⟩
                            case measure => simp [intOf]; omega
                          | true =>
                            have hK0 : 0 ≤ K := of_decide_eq_true h6
                            have hK1 : K < (x.s.size : Int) := of_decide_eq_true h7
                            obtain ⟨q, rfl⟩ : ∃ q : Nat, K = (q : Int) := ⟨K.toNat, by omega⟩
                            have hqs : q < x.s.size := by omega
                            clear hK0 hK1
                            refine wp_region_quiet_below (by kernel_rfl) (by kernel_rfl) ?_
                            try simp only [List.append]
                            repeat (go_big_quiet_step (fail))
                            refine wpQuiet_nil ?_
                            intro _ hw'
                            obtain ⟨⟨dq, osq⟩, hw''⟩ := hw'
                            subst hw''
                            have BW := (unhide HBX).trans ((below_regrown _ dq osq).mono (unhide HBX).size)
                            go_wp2_with fail
                            go_roundw
                            case rel => exact ⟨j + 1, _, by omega, by go_num, rfl, .inr (by omega), BW⟩
                            case measure => simp [intOf]; omega
        · obtain rfl : j = L.length := by omega
          have hbt : b = true := by rcases hbj with h | h; exact h; omega
          subst hbt
          go_wp2_with fail
          go_roundw
          case rel => exact ⟨k + 1, by omega, by go_num, hB2⟩
          case measure => simp [intOf]; omega
    · obtain rfl : k = s.size := by omega
      go_wp2_with fail
      go_ret
      exact ⟨rfl, (unhide HB0).trans (hB.mono (unhide HB0).size)⟩

end Go.Proofs.Ytekljiakofmhnaa
