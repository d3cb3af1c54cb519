/- tidepooldocs: rows and panes of a call's own, written over. -/
import Derived.Test.YtognlgklepgemaaGreatSpoil
import Derived.Test.YtognlgklepgemaaGreatRpI
namespace Go.Proofs.YtognlgklepgemaaGreat
open Go.ChangeShapes Go.WideShapes Go.ChangeAt Go.RowKit

theorem own_cells8 {w : World} {base n c z : Nat} {e : TypeId} {A : Option Addr} {xs : List Value} (h : w.ownsRow base e z (.slice A n c) n xs) (h0 : 0 < n) : ∃ g cs, A = some ⟨g, 0, none⟩ ∧ Blk w g e cs ∧ n * z ≤ cs.size ∧ base ≤ g := by
  rcases h.2 with ⟨_, hn⟩ | ⟨g, cap, cur, hv, hb, hg, hnc, _, hs, _⟩
  · omega
  · injection hv with hA _ _
    exact ⟨g, cur, hA, hg, by have := Nat.mul_le_mul_right z hnc; omega, hb⟩
set_option maxRecDepth 100000 in
theorem spoilRows_any (base n c : Nat) (A : Option Addr) (xs : List Value) (w : World) (h : w.ownsRow base 49 7 (.slice A n c) n xs) (hn : n ≤ 1000000) :
    Calls Tryz.prog 30 #[.slice A n c] w (Spoilt w (.slice A n c)) := by
  rcases Nat.eq_zero_or_pos n with h0 | h0
  · subst h0
    clear h
    go_enter Tryz.func30, Tryz.ntmps30
    go_wp2_with fail
    go_loop [2] (fun i => i = .int .i64 0) (fun _ => 0)
    case atStart => rfl
    case round =>
      subst hrel
      go_wp2_with fail
      go_end0
      exact ⟨rfl, World.grownBy.refl _ _⟩
  · obtain ⟨g, cs, rfl, hb, hs, -⟩ := own_cells8 h h0
    clear h
    go_enter Tryz.func30, Tryz.ntmps30
    go_wp2_with fail
    go_loopw [2] (fun i wr => ∃ k : Nat, k ≤ n ∧ i = .int .i64 k ∧ (∃ cs, Blk wr g 49 cs ∧ n * 7 ≤ cs.size) ∧ w.grownBy wr (some g)) (fun i _ => n - (intOf i).toNat)
    case atStart => exact ⟨0, by omega, rfl, ⟨cs, hb, hs⟩, World.grownBy.refl _ _⟩
    case round =>
      obtain ⟨k, hk, rfl, ⟨cs', hb', hs'⟩, hg⟩ := hrel
      clear hb hs
      by_cases hlt : k < n
      · have hkz : k * 7 + 6 < cs'.size := by omega
        obtain ⟨x0, c0⟩ : ∃ x, wr.cell? ⟨g, k * 7, none⟩ = some x := ⟨_, by rw [hb'.cell]; exact Array.getElem?_eq_getElem (by omega)⟩
        have z0 := hb'.frozen (k * 7)
        obtain ⟨x1, c1⟩ : ∃ x, wr.cell? ⟨g, k * 7 + 1, none⟩ = some x := ⟨_, by rw [hb'.cell]; exact Array.getElem?_eq_getElem (by omega)⟩
        have z1 := hb'.frozen (k * 7 + 1)
        obtain ⟨x2, c2⟩ : ∃ x, wr.cell? ⟨g, k * 7 + 2, none⟩ = some x := ⟨_, by rw [hb'.cell]; exact Array.getElem?_eq_getElem (by omega)⟩
        have z2 := hb'.frozen (k * 7 + 2)
        obtain ⟨x3, c3⟩ : ∃ x, wr.cell? ⟨g, k * 7 + 3, none⟩ = some x := ⟨_, by rw [hb'.cell]; exact Array.getElem?_eq_getElem (by omega)⟩
        have z3 := hb'.frozen (k * 7 + 3)
        obtain ⟨x4, c4⟩ : ∃ x, wr.cell? ⟨g, k * 7 + 4, none⟩ = some x := ⟨_, by rw [hb'.cell]; exact Array.getElem?_eq_getElem (by omega)⟩
        have z4 := hb'.frozen (k * 7 + 4)
        obtain ⟨x5, c5⟩ : ∃ x, wr.cell? ⟨g, k * 7 + 5, none⟩ = some x := ⟨_, by rw [hb'.cell]; exact Array.getElem?_eq_getElem (by omega)⟩
        have z5 := hb'.frozen (k * 7 + 5)
        obtain ⟨x6, c6⟩ : ∃ x, wr.cell? ⟨g, k * 7 + 6, none⟩ = some x := ⟨_, by rw [hb'.cell]; exact Array.getElem?_eq_getElem (by omega)⟩
        have z6 := hb'.frozen (k * 7 + 6)
        have HB := Lib.hid hb'
        clear hb'
        go_wp2_with fail
        go_roundw
        case rel => exact ⟨k + 1, by omega, by go_num, ⟨_, (((((((HB.out.set_ (k * 7) (.string ⟨#[63]⟩)).set_ (k * 7 + 1) (.int .i64 0)).set_ (k * 7 + 2) (.int .i64 0)).set_ (k * 7 + 3) (.int .i64 0)).set_ (k * 7 + 4) (.int .i64 0)).set_ (k * 7 + 5) (.int .i64 0)).set_ (k * 7 + 6) (.int .i64 0)), by simpa using hs'⟩, (only_setCell (only_setCell (only_setCell (only_setCell (only_setCell (only_setCell (only_setCell hg _ _) _ _) _ _) _ _) _ _) _ _) _ _)⟩
        case measure => simp [intOf]; omega
      · clear hb'
        go_wp2_with fail
        go_end0
        exact ⟨rfl, hg⟩
set_option maxRecDepth 100000 in
theorem spoilPanes_any (base n c : Nat) (A : Option Addr) (xs : List Value) (w : World) (h : w.ownsRow base 45 3 (.slice A n c) n xs) (hn : n ≤ 1000000) :
    Calls Tryz.prog 31 #[.slice A n c] w (Spoilt w (.slice A n c)) := by
  rcases Nat.eq_zero_or_pos n with h0 | h0
  · subst h0
    clear h
    go_enter Tryz.func31, Tryz.ntmps31
    go_wp2_with fail
    go_loop [2] (fun i => i = .int .i64 0) (fun _ => 0)
    case atStart => rfl
    case round =>
      subst hrel
      go_wp2_with fail
      go_end0
      exact ⟨rfl, World.grownBy.refl _ _⟩
  · obtain ⟨g, cs, rfl, hb, hs, -⟩ := own_cells8 h h0
    clear h
    go_enter Tryz.func31, Tryz.ntmps31
    go_wp2_with fail
    go_loopw [2] (fun i wr => ∃ k : Nat, k ≤ n ∧ i = .int .i64 k ∧ (∃ cs, Blk wr g 45 cs ∧ n * 3 ≤ cs.size) ∧ w.grownBy wr (some g)) (fun i _ => n - (intOf i).toNat)
    case atStart => exact ⟨0, by omega, rfl, ⟨cs, hb, hs⟩, World.grownBy.refl _ _⟩
    case round =>
      obtain ⟨k, hk, rfl, ⟨cs', hb', hs'⟩, hg⟩ := hrel
      clear hb hs
      by_cases hlt : k < n
      · have hkz : k * 3 + 2 < cs'.size := by omega
        obtain ⟨x0, c0⟩ : ∃ x, wr.cell? ⟨g, k * 3, none⟩ = some x := ⟨_, by rw [hb'.cell]; exact Array.getElem?_eq_getElem (by omega)⟩
        have z0 := hb'.frozen (k * 3)
        obtain ⟨x1, c1⟩ : ∃ x, wr.cell? ⟨g, k * 3 + 1, none⟩ = some x := ⟨_, by rw [hb'.cell]; exact Array.getElem?_eq_getElem (by omega)⟩
        have z1 := hb'.frozen (k * 3 + 1)
        obtain ⟨x2, c2⟩ : ∃ x, wr.cell? ⟨g, k * 3 + 2, none⟩ = some x := ⟨_, by rw [hb'.cell]; exact Array.getElem?_eq_getElem (by omega)⟩
        have z2 := hb'.frozen (k * 3 + 2)
        have HB := Lib.hid hb'
        clear hb'
        go_wp2_with fail
        go_roundw
        case rel => exact ⟨k + 1, by omega, by go_num, ⟨_, (((HB.out.set_ (k * 3) (.string ⟨#[63]⟩)).set_ (k * 3 + 1) (.int .i64 0)).set_ (k * 3 + 2) (.int .i64 0)), by simpa using hs'⟩, (only_setCell (only_setCell (only_setCell hg _ _) _ _) _ _)⟩
        case measure => simp [intOf]; omega
      · clear hb'
        go_wp2_with fail
        go_end0
        exact ⟨rfl, hg⟩
end Go.Proofs.YtognlgklepgemaaGreat
