/- Entries stay as they may be: one is laid in, one goes, the time goes on. -/
import Derived.Test.YtjcigoojlmalnaaNl1
namespace Go.Proofs.Ytjcigoojlmalnaa
open Go.RowKit

section
variable {c : Cf} {last : Nat} {L : Ens}
theorem WL.time (h : WL c last L) {t : Nat} (h1 : last ≤ t) (h2 : t ≤ 17592186044416) : WL c t L :=
  ⟨h.srt, h.key, h.st, h.mac, h.tm, h.asked, h.num, h.tot, h2, fun x hx hs => ⟨(h.so x hx hs).1, by have := (h.so x hx hs).2; omega⟩, h.no⟩
/-- an entry as it may be -/
structure EOk (c : Cf) (last : Nat) (e : En) : Prop where
  st : e.st = 1 ∨ e.st = 2 ∨ e.st = 3
  mac : e.mac < 18446744073709551616
  tm : e.tm ≤ 18691697672192
  asked : e.asked ≤ c.asks
  num : ∀ n ∈ e.ws, n < 18446744073709551616
  so : e.st = 1 → 1 ≤ e.asked ∧ e.tm ≤ last + c.pause
  no : e.st ≠ 1 → e.ws = []
theorem WL.at (h : WL c last L) {x : Nat × En} (hx : x ∈ L) : EOk c last x.2 := ⟨h.st x hx, h.mac x hx, h.tm x hx, h.asked x hx, h.num x hx, h.so x hx, h.no x hx⟩
theorem WL.look (h : WL c last L) {ip : Nat} {e : En} (he : lookN ip L = some e) : EOk c last e := h.at (lookN_some he)
theorem WL.ins (h : WL c last L) {ip : Nat} (hip : ip < 12) {e : En} (he : EOk c last e) (ht : Go.Proofs.Ytjcigoojlmalnaa.tot (insN (ip, e) L) ≤ c.waits) : WL c last (insN (ip, e) L) := by
  have A : ∀ x ∈ insN (ip, e) L, EOk c last x.2 := fun x hx => by
    rcases mem_insN hx with rfl | hx
    · exact he
    · exact h.at hx
  refine ⟨srt_insN _ h.srt, fun x hx => ?_, fun x hx => (A x hx).st, fun x hx => (A x hx).mac, fun x hx => (A x hx).tm, fun x hx => (A x hx).asked, fun x hx => (A x hx).num, ht, h.lst, fun x hx => (A x hx).so, fun x hx => (A x hx).no⟩
  rcases mem_insN hx with rfl | hx
  · exact hip
  · exact h.key x hx
theorem tot_del {k : Nat} : ∀ L : Ens, tot (delN k L) ≤ tot L
  | [] => Nat.le_refl _
  | y :: r => by
    have ih := tot_del (k := k) r
    unfold delN at ih ⊢
    rw [List.filter_cons]
    split
    · simp only [tot]; omega
    · simp only [tot]; omega
theorem WL.del (h : WL c last L) (ip : Nat) : WL c last (delN ip L) := by
  have M : ∀ x ∈ delN ip L, x ∈ L := fun x hx => (mem_delN.1 hx).1
  exact ⟨srt_delN _ h.srt, fun x hx => h.key x (M x hx), fun x hx => h.st x (M x hx), fun x hx => h.mac x (M x hx), fun x hx => h.tm x (M x hx), fun x hx => h.asked x (M x hx), fun x hx => h.num x (M x hx), Nat.le_trans (tot_del L) h.tot, h.lst, fun x hx => h.so x (M x hx), fun x hx => h.no x (M x hx)⟩
end

end Go.Proofs.Ytjcigoojlmalnaa
