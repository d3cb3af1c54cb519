/- Layer 11, the program: lists copied, a node copied. -/
import Derived.Test.YtgpcpjjdneimfaaDoorCells
import Derived.BigQuiet
import Derived.Deep.DeepCutAuto
import Derived.Lib.Hide
namespace Go.Proofs.YtgpcpjjdneimfaaDoor
open Go.ChangeShapes Go.WideShapes Go.ChangeAt Go.RowKit

theorem Tryd.info9 : (Tryd.prog.info? 9).map (fun i => (i.zero, i.size, i.bytes)) = some (some (.string ⟨#[]⟩), 1, 16) := by kernel_rfl
theorem Tryd.info42 : (Tryd.prog.info? 42).map (fun i => (i.zero, i.size, i.bytes)) = some (some (.agg #[.int .i64 0, .int .i64 0]), 2, 16) := by kernel_rfl
theorem Tryd.info3 : (Tryd.prog.info? 3).map (fun i => (i.zero, i.size, i.bytes)) = some (some (.int .i64 0), 1, 8) := by kernel_rfl
/-- A slice of the call's own. -/
def Copied (w : World) (E : TypeId) (s n : Nat) (xs : List Value) (e : Ending) (w' : World) : Prop :=
  ∃ A c, e = .returned (.slice A n c) ∧ w'.ownsRow w.heap.size E s (.slice A n c) n xs ∧ Below w.heap.size w w'
theorem Copied.nil (w : World) (E : TypeId) (s : Nat) : Copied w E s 0 [] (.returned (.slice none 0 0)) w := ⟨none, 0, rfl, own_nil _ _ _ _, Below.refl _ _⟩
set_option maxRecDepth 100000 in
theorem copiedS_any (w : World) (F : Nat → Prop) (n c : Nat) (A : Option Addr) (xs : List Value) (h : Cells w F A n 1 xs) (h1 : ∀ u ∈ xs, u.oneCell' = true) (hn : n ≤ 1000000) :
    Calls Tryd.prog 45 #[.slice A n c] w (Copied w 9 1 n xs) := by
  obtain ⟨i0, hi, hz0, hz1, hz2⟩ := info_parts Tryd.info9
  cases A with
  | none =>
    obtain rfl : n = 0 := by
      rcases Nat.eq_zero_or_pos n with h0 | h0
      · exact h0
      · obtain ⟨b, off, e, _⟩ := h.2 h0
        cases e
    obtain rfl : xs = [] := List.length_eq_zero_iff.1 (by rw [h.1])
    have hr := fun W : World => run_append_nil (P := Tryd.prog) (w := W) 32 32 9 i0 Tryd.underlying32 hi c
    clear h hi hz0 hz1 hz2
    go_enter Tryd.func45, Tryd.ntmps45
    go_wp2_with fail
    go_ret
    exact Copied.nil _ _ _
  | some ad =>
    have hnews : ∀ j u, xs[j]? = some u → w.cell? (ad.add j) = some u := fun j u hu => by
      rcases Nat.eq_zero_or_pos n with h0 | h0
      · subst h0
        have : xs = [] := List.length_eq_zero_iff.1 (by rw [h.1])
        rw [this] at hu
        cases hu
      · obtain ⟨b, off, e, _, _, hc⟩ := h.2 h0
        cases e
        rw [add_at]
        exact hc j u hu
    have hl := h.1
    have HI := Lib.hid (And.intro hi (And.intro hz0 (And.intro hz1 (And.intro hz2 (And.intro hnews (And.intro hl h1))))))
    clear hi hz0 hz1 hz2 hnews hl h h1
    go_enter Tryd.func45, Tryd.ntmps45
    go_wp2_with (at_builtin; refine wpList_append_own _ rfl _ _ 32 rfl w.heap.size 9 i0 _ 1 16 Tryd.underlying32 HI.out.1 HI.out.2.1 HI.out.2.2.1 HI.out.2.2.2.1 rfl (by decide) _ 0 [] rfl (own_nil _ _ _ _) ad n c xs rfl HI.out.2.2.2.2.2.1 HI.out.2.2.2.2.1 HI.out.2.2.2.2.2.2 (by unfold maxLen; omega) (by omega) (Nat.le_refl _) ?_)
    intro v w' hown hgr _
    obtain ⟨A', c', rfl⟩ := own_slice hown
    have HO := Lib.hid (And.intro hown hgr)
    clear hown hgr
    go_wp2_with fail
    go_ret
    exact ⟨A', c', rfl, HO.out.1, below_none HO.out.2⟩
set_option maxRecDepth 100000 in
theorem copiedH_any (w : World) (F : Nat → Prop) (n c : Nat) (A : Option Addr) (xs : List Value) (h : Cells w F A n 2 xs) (h1 : ∀ u ∈ xs, u.oneCell' = true) (hn : n ≤ 1000000) :
    Calls Tryd.prog 46 #[.slice A n c] w (Copied w 42 2 n xs) := by
  obtain ⟨i0, hi, hz0, hz1, hz2⟩ := info_parts Tryd.info42
  cases A with
  | none =>
    obtain rfl : n = 0 := by
      rcases Nat.eq_zero_or_pos n with h0 | h0
      · exact h0
      · obtain ⟨b, off, e, _⟩ := h.2 h0
        cases e
    obtain rfl : xs = [] := List.length_eq_zero_iff.1 (by rw [h.1])
    have hr := fun W : World => run_append_nil (P := Tryd.prog) (w := W) 33 33 42 i0 Tryd.underlying33 hi c
    clear h hi hz0 hz1 hz2
    go_enter Tryd.func46, Tryd.ntmps46
    go_wp2_with fail
    go_ret
    exact Copied.nil _ _ _
  | some ad =>
    have hnews : ∀ j u, xs[j]? = some u → w.cell? (ad.add j) = some u := fun j u hu => by
      rcases Nat.eq_zero_or_pos n with h0 | h0
      · subst h0
        have : xs = [] := List.length_eq_zero_iff.1 (by rw [h.1])
        rw [this] at hu
        cases hu
      · obtain ⟨b, off, e, _, _, hc⟩ := h.2 h0
        cases e
        rw [add_at]
        exact hc j u hu
    have hl := h.1
    have HI := Lib.hid (And.intro hi (And.intro hz0 (And.intro hz1 (And.intro hz2 (And.intro hnews (And.intro hl h1))))))
    clear hi hz0 hz1 hz2 hnews hl h h1
    go_enter Tryd.func46, Tryd.ntmps46
    go_wp2_with (at_builtin; refine wpList_append_own _ rfl _ _ 33 rfl w.heap.size 42 i0 _ 2 16 Tryd.underlying33 HI.out.1 HI.out.2.1 HI.out.2.2.1 HI.out.2.2.2.1 rfl (by decide) _ 0 [] rfl (own_nil _ _ _ _) ad n c xs rfl HI.out.2.2.2.2.2.1 HI.out.2.2.2.2.1 HI.out.2.2.2.2.2.2 (by unfold maxLen; omega) (by omega) (Nat.le_refl _) ?_)
    intro v w' hown hgr _
    obtain ⟨A', c', rfl⟩ := own_slice hown
    have HO := Lib.hid (And.intro hown hgr)
    clear hown hgr
    go_wp2_with fail
    go_ret
    exact ⟨A', c', rfl, HO.out.1, below_none HO.out.2⟩
set_option maxRecDepth 100000 in
theorem copiedI_any (w : World) (F : Nat → Prop) (n c : Nat) (A : Option Addr) (xs : List Value) (h : Cells w F A n 1 xs) (h1 : ∀ u ∈ xs, u.oneCell' = true) (hn : n ≤ 1000000) :
    Calls Tryd.prog 47 #[.slice A n c] w (Copied w 3 1 n xs) := by
  obtain ⟨i0, hi, hz0, hz1, hz2⟩ := info_parts Tryd.info3
  cases A with
  | none =>
    obtain rfl : n = 0 := by
      rcases Nat.eq_zero_or_pos n with h0 | h0
      · exact h0
      · obtain ⟨b, off, e, _⟩ := h.2 h0
        cases e
    obtain rfl : xs = [] := List.length_eq_zero_iff.1 (by rw [h.1])
    have hr := fun W : World => run_append_nil (P := Tryd.prog) (w := W) 34 34 3 i0 Tryd.underlying34 hi c
    clear h hi hz0 hz1 hz2
    go_enter Tryd.func47, Tryd.ntmps47
    go_wp2_with fail
    go_ret
    exact Copied.nil _ _ _
  | some ad =>
    have hnews : ∀ j u, xs[j]? = some u → w.cell? (ad.add j) = some u := fun j u hu => by
      rcases Nat.eq_zero_or_pos n with h0 | h0
      · subst h0
        have : xs = [] := List.length_eq_zero_iff.1 (by rw [h.1])
        rw [this] at hu
        cases hu
      · obtain ⟨b, off, e, _, _, hc⟩ := h.2 h0
        cases e
        rw [add_at]
        exact hc j u hu
    have hl := h.1
    have HI := Lib.hid (And.intro hi (And.intro hz0 (And.intro hz1 (And.intro hz2 (And.intro hnews (And.intro hl h1))))))
    clear hi hz0 hz1 hz2 hnews hl h h1
    go_enter Tryd.func47, Tryd.ntmps47
    go_wp2_with (at_builtin; refine wpList_append_own _ rfl _ _ 34 rfl w.heap.size 3 i0 _ 1 8 Tryd.underlying34 HI.out.1 HI.out.2.1 HI.out.2.2.1 HI.out.2.2.2.1 rfl (by decide) _ 0 [] rfl (own_nil _ _ _ _) ad n c xs rfl HI.out.2.2.2.2.2.1 HI.out.2.2.2.2.1 HI.out.2.2.2.2.2.2 (by unfold maxLen; omega) (by omega) (Nat.le_refl _) ?_)
    intro v w' hown hgr _
    obtain ⟨A', c', rfl⟩ := own_slice hown
    have HO := Lib.hid (And.intro hown hgr)
    clear hown hgr
    go_wp2_with fail
    go_ret
    exact ⟨A', c', rfl, HO.out.1, below_none HO.out.2⟩
end Go.Proofs.YtgpcpjjdneimfaaDoor
