/- What tidepoolkit's own functions do: a copy, bytes held against each other. -/
import Derived.Test.YtognlgklepgemaaGreatConv
namespace Go.Proofs.YtognlgklepgemaaGreat
open Go.ChangeShapes Go.WideShapes Go.ChangeAt Go.RowKit

set_option maxRecDepth 100000 in
theorem same_yes (n c n' c' B : Nat) (A A' : Option Addr) (l : List Nat) (w : World) (hb : Bytes w B A n l) (hb' : Bytes w B A' n' l) (hn : n ≤ 9223372036854775807) :
    Calls Tryz.prog 17 #[.slice A n c, .slice A' n' c'] w fun e w' => e = .returned (.bool true) ∧ ∃ m, w' = w.drewN m := by
  obtain rfl : n = n' := by rw [← hb.1, ← hb'.1]
  go_enter Tryz.func17, Tryz.ntmps17
  go_wp2_with fail
  go_loopw [5] (fun i wr => ∃ k : Nat, k ≤ n ∧ i = .int .i64 k ∧ ∃ m, wr = w.drewN m) (fun i _ => n - (intOf i).toNat)
  case atStart => exact ⟨0, by omega, rfl, 0, rfl⟩
  case round =>
    obtain ⟨k, hk, rfl, m, rfl⟩ := hrel
    by_cases hlt : k < n
    · obtain ⟨b, off, rfl, hbB, hc⟩ := hb.2.2 (by omega)
      obtain ⟨b', off', rfl, hbB', hc'⟩ := hb'.2.2 (by omega)
      have hck := hc k hlt
      have hck' := hc' k hlt
      clear hc hc' hb hb'
      generalize l.getD k 0 = x at *
      go_wp2_with fail
      go_quiet (fail)
      go_wp2_with fail
      go_roundw
      case rel => exact ⟨k + 1, by omega, by go_num, _, rfl⟩
      case measure => simp [intOf]; omega
    · clear hb hb'
      go_wp2_with fail
      go_ret
      exact ⟨rfl, m, rfl⟩
set_option maxRecDepth 100000 in
theorem own_any (n c B : Nat) (A : Option Addr) (l : List Nat) (w : World) (hb : Bytes w B A n l) (hn : n ≤ 1000000) :
    Calls Tryz.prog 11 #[.slice A n c] w (OwnPost w n l) := by
  obtain ⟨i0, hi, hz0, hz1, hz2⟩ := info_parts Tryz.info5
  rcases A with _ | ad
  · have h0 : n = 0 := by
      rcases Nat.eq_zero_or_pos n with h | h
      · exact h
      · obtain ⟨b, off, e, _⟩ := hb.2.2 h
        cases e
    subst h0
    obtain rfl : l = [] := List.eq_nil_of_length_eq_zero hb.1
    have hr := fun W : World => run_append_nil (P := Tryz.prog) (w := W) 33 33 5 i0 Tryz.underlying33 hi c
    go_enter Tryz.func11, Tryz.ntmps11
    go_wp2_with fail
    go_ret
    exact ⟨none, 0, rfl, own_nil _ _ _ _, Below.refl _ _⟩
  · have hcells : ∀ j u, (u8s l)[j]? = some u → w.cell? (ad.add j) = some u := by
      intro j u hu
      obtain ⟨hj, rfl⟩ := u8s_get hu
      obtain ⟨b, off, e, _, hc⟩ := hb.2.2 (by have := hb.1; omega)
      injection e with e
      subst e
      rw [add_at]
      exact hc j (by have := hb.1; omega)
    have hlen : (u8s l).length = n * 1 := by rw [u8s_len, hb.1]; omega
    go_enter Tryz.func11, Tryz.ntmps11
    go_wp2_with (at_builtin; refine wpList_append_own _ rfl _ _ 33 rfl w.heap.size 5 i0 (.int .u8 0) 1 1 Tryz.underlying33 hi hz0 hz1 hz2 rfl (by decide) _ 0 [] rfl (own_nil _ _ _ _) ad n c (u8s l) rfl hlen hcells (u8s_one l) (by unfold maxLen; omega) (by omega) (Nat.le_refl _) ?_; intro v' w1 hown hgrow _)
    go_ret
    rw [Nat.zero_add, List.nil_append] at hown
    obtain ⟨A', c', rfl⟩ := own_slice hown
    have hg : w.grownBy w1 none := hgrow
    exact ⟨A', c', rfl, hown, below_none hg⟩
end Go.Proofs.YtognlgklepgemaaGreat
