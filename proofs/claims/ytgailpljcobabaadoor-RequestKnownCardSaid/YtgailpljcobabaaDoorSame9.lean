/- tidepoolkit's SameBytes, of any two slices of bytes. -/
import Derived.Test.YtgailpljcobabaaDoorKit
namespace Go.Proofs.YtgailpljcobabaaDoor
open Go.ChangeShapes Go.WideShapes Go.ChangeAt Go.RowKit

theorem below_dn (w : World) (m : Nat) : Below w.heap.size w (w.drewN m) := ⟨rfl, rfl, rfl, Nat.le_refl _, fun _ _ => rfl⟩
set_option maxRecDepth 100000 in
set_option maxHeartbeats 2000000 in
theorem same_no {n c n' c' B : Nat} {A A' : Option Addr} {l l' : List Nat} {w : World} (hb : Bytes w B A n l) (hb' : Bytes w B A' n' l') (hn : n ≤ 1000000) (hne : l ≠ l') :
    Calls Tryd.prog 12 #[.slice A n c, .slice A' n' c'] w fun e w' => e = .returned (.bool false) ∧ Below w.heap.size w w' := by
  by_cases hlen : n = n'
  · subst hlen
    have HB := Lib.hid (And.intro hb hb')
    have HN := Lib.hid hne
    clear hb hb' hne
    go_enter Tryd.func12, Tryd.ntmps12
    go_wp2_with fail
    go_loopw [5] (fun i wr => ∃ k : Nat, k ≤ n ∧ i = .int .i64 k ∧ l.take k = l'.take k ∧ ∃ m, wr = w.drewN m) (fun i _ => n - (intOf i).toNat)
    case atStart => exact ⟨0, by omega, rfl, rfl, 0, rfl⟩
    case round =>
      obtain ⟨k, hk, rfl, htk, m, rfl⟩ := hrel
      by_cases hlt : k < n
      · obtain ⟨b, off, rfl, hbB, hc⟩ := HB.out.1.2.2 (by omega)
        obtain ⟨b', off', rfl, hbB', hc'⟩ := HB.out.2.2.2 (by omega)
        have hck := hc k hlt
        have hck' := hc' k hlt
        have hs1 := take_snoc l k (by rw [HB.out.1.1]; exact hlt)
        have hs2 := take_snoc l' k (by rw [HB.out.2.1]; exact hlt)
        have HT := Lib.hid (And.intro htk (And.intro hs1 hs2))
        clear hc hc' htk hs1 hs2
        obtain ⟨x, hx⟩ : ∃ x, l.getD k 0 = x := ⟨_, rfl⟩
        obtain ⟨y, hy⟩ : ∃ y, l'.getD k 0 = y := ⟨_, rfl⟩
        rw [hx] at hck
        rw [hy] at hck'
        by_cases hxy : x = y
        · subst hxy
          have HXY := Lib.hid (And.intro hx hy)
          clear hx hy
          go_wp2_with fail
          go_quiet (fail)
          go_wp2_with fail
          go_roundw
          case rel => exact ⟨k + 1, by omega, by go_num, by rw [HT.out.2.1, HT.out.2.2, HT.out.1, HXY.out.1, HXY.out.2], _, rfl⟩
          case measure => simp [intOf]; omega
        · have d1 : ¬ (x : Int) = y := by omega
          have d2 : ((x : Int) == y) = false := beq_eq_false_iff_ne.2 d1
          clear hx hy
          go_wp2_with fail
          go_quiet (fail)
          go_wp2_with fail
          go_ret
          exact ⟨rfl, below_next (below_dn w m) (below_dn _ _)⟩
      · obtain rfl : k = n := by omega
        rw [List.take_of_length_le (by rw [HB.out.1.1]; exact Nat.le_refl _), List.take_of_length_le (by rw [HB.out.2.1]; exact Nat.le_refl _)] at htk
        exact absurd htk HN.out
  · have d1 : ¬ (n : Int) = n' := by omega
    have d2 : ((n : Int) == n') = false := beq_eq_false_iff_ne.2 d1
    clear hb hb'
    go_enter Tryd.func12, Tryd.ntmps12
    go_wp2_with fail
    go_ret
    exact ⟨rfl, Below.refl _ _⟩
end Go.Proofs.YtgailpljcobabaaDoor
