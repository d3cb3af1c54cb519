/- Bytes of a call's own, written over; an append of nothing; texts appended. -/
import Derived.Test.YtognlgklepgemaaGreatKit
import Derived.Test.YtognlgklepgemaaGreatAppNil
import Derived.Lib.AppendStr
namespace Go.Proofs.YtognlgklepgemaaGreat
open Go.ChangeShapes Go.WideShapes Go.ChangeAt Go.RowKit

def Spoilt (w : World) (v : Value) (e : Ending) (w' : World) : Prop := e = .returned (.tuple #[]) ∧ w.grownBy w' v.ownBlock
theorem own_cells {w : World} {base n c : Nat} {e : TypeId} {A : Option Addr} {xs : List Value} (h : w.ownsRow base e 1 (.slice A n c) n xs) (h0 : 0 < n) : ∃ g cs, A = some ⟨g, 0, none⟩ ∧ Blk w g e cs ∧ n ≤ cs.size ∧ base ≤ g := by
  rcases h.2 with ⟨_, hn⟩ | ⟨g, cap, cur, hv, hb, hg, hnc, _, hs, _⟩
  · omega
  · injection hv with hA _ _
    exact ⟨g, cur, hA, hg, by omega, hb⟩
set_option maxRecDepth 100000 in
theorem spoil_any (base n c : Nat) (A : Option Addr) (xs : List Value) (w : World) (h : w.ownsRow base 5 1 (.slice A n c) n xs) (hn : n ≤ 1000000) :
    Calls Tryz.prog 18 #[.slice A n c] w (Spoilt w (.slice A n c)) := by
  rcases Nat.eq_zero_or_pos n with h0 | h0
  · subst h0
    clear h
    go_enter Tryz.func18, Tryz.ntmps18
    go_wp2_with fail
    go_loop [2] (fun i => i = .int .i64 0) (fun _ => 0)
    case atStart => rfl
    case round =>
      subst hrel
      go_wp2_with fail
      go_end0
      exact ⟨rfl, World.grownBy.refl _ _⟩
  · obtain ⟨g, cs, rfl, hb, hs, -⟩ := own_cells h h0
    clear h
    go_enter Tryz.func18, Tryz.ntmps18
    go_wp2_with fail
    go_loopw [2] (fun i wr => ∃ k : Nat, k ≤ n ∧ i = .int .i64 k ∧ (∃ cs, Blk wr g 5 cs ∧ n ≤ cs.size) ∧ w.grownBy wr (some g)) (fun i _ => n - (intOf i).toNat)
    case atStart => exact ⟨0, by omega, rfl, ⟨cs, hb, hs⟩, World.grownBy.refl _ _⟩
    case round =>
      obtain ⟨k, hk, rfl, ⟨cs', hb', hs'⟩, hg⟩ := hrel
      clear hb hs
      by_cases hlt : k < n
      · obtain ⟨x, hc⟩ : ∃ x, wr.cell? ⟨g, k, none⟩ = some x := ⟨_, by rw [hb'.cell]; exact Array.getElem?_eq_getElem (by omega)⟩
        have hz := hb'.frozen k
        have HB := Lib.hid hb'
        clear hb'
        go_wp2_with fail
        go_roundw
        case rel => exact ⟨k + 1, by omega, by go_num, ⟨_, HB.out.set_ k _, by simpa using hs'⟩, only_setCell hg _ _⟩
        case measure => simp [intOf]; omega
      · clear hb'
        go_wp2_with fail
        go_end0
        exact ⟨rfl, hg⟩

theorem Bytes.none_len {w : World} {B n : Nat} {l : List Nat} (h : Bytes w B none n l) : n = 0 ∧ l = [] := by
  have h0 : n = 0 := by
    rcases Nat.eq_zero_or_pos n with h' | h'
    · exact h'
    · obtain ⟨b, off, e, _⟩ := h.2.2 h'
      cases e
  subst h0
  exact ⟨rfl, List.eq_nil_of_length_eq_zero h.1⟩
theorem Bytes.cells {w : World} {B n : Nat} {ad : Addr} {l : List Nat} (h : Bytes w B (some ad) n l) : ∀ j u, (u8s l)[j]? = some u → w.cell? (ad.add j) = some u := by
  intro j u hu
  obtain ⟨hj, rfl⟩ := u8s_get hu
  obtain ⟨b, off, e, _, hc⟩ := h.2.2 (by have := h.1; omega)
  injection e with e
  subst e
  rw [add_at]
  exact hc j (by have := h.1; omega)
theorem strCells_nums (s : ByteArray) : Lib.strCells s = u8s (nums s) := by
  simp only [Lib.strCells, u8s, nums, List.map_map]
  rfl
theorem nums_lt (s : ByteArray) : ∀ x ∈ nums s, x < 256 := by
  intro x hx
  simp [nums] at hx
  obtain ⟨b, _, rfl⟩ := hx
  exact b.toNat_lt
end Go.Proofs.YtognlgklepgemaaGreat
