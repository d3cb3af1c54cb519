/- Slices of bytes that may be written over, whatever they hold, and whether or not they share a block. -/
import Derived.Test.YtnokbnobnhkmgaaSpoil
namespace Go.Proofs.Ytnokbnobnhkmgaa
open Go.ChangeShapes Go.WideShapes Go.ChangeAt Go.RowKit

/-- A slice that may be written over: its block is one of bytes, from block B on, and long enough. -/
def Sp (w : World) (B : Nat) (A : Option Addr) (n : Nat) : Prop := n = 0 ∨ ∃ g cs, A = some ⟨g, 0, none⟩ ∧ Blk w g 5 cs ∧ n ≤ cs.size ∧ B ≤ g
theorem Sp.of_own {w : World} {B n c : Nat} {A : Option Addr} {xs : List Value} (h : w.ownsRow B 5 1 (.slice A n c) n xs) : Sp w B A n := by
  rcases Nat.eq_zero_or_pos n with h0 | h0
  · exact .inl h0
  · obtain ⟨g, cs, e, hb, hs, hB⟩ := own_cells h h0
    exact .inr ⟨g, cs, e, hb, hs, hB⟩
theorem Sp.below {w w' : World} {B n : Nat} {A : Option Addr} (h : Sp w B A n) (hb : Below w.heap.size w w') : Sp w' B A n := by
  rcases h with h | ⟨g, cs, e, h1, h2, h3⟩
  · exact .inl h
  · exact .inr ⟨g, cs, e, h1.below hb h1.lt, h2, h3⟩
/-- One block of bytes turned: it is as long as it was, and all others stay. -/
def Turned1 (w w' : World) (B : Nat) : Prop := w = w' ∨ ∃ g cs cs', Blk w g 5 cs ∧ Blk w' g 5 cs' ∧ cs'.size = cs.size ∧ B ≤ g ∧ w.grownBy w' (some g)
theorem Turned1.sp {w w' : World} {B B' n : Nat} {A : Option Addr} (h : Turned1 w w' B) (hs : Sp w B' A n) : Sp w' B' A n := by
  rcases h with rfl | ⟨g, cs, cs', h1, h2, h3, _, h5⟩
  · exact hs
  · rcases hs with h0 | ⟨k, ks, e, k1, k2, k3⟩
    · exact .inl h0
    · by_cases hk : k = g
      · subst hk
        have : ks = cs := by
          unfold Blk at k1 h1
          rw [h1] at k1
          injection k1 with k1
          injection k1 with k1
          exact k1.symm
        subst this
        exact .inr ⟨k, cs', e, h2, by omega, k3⟩
      · exact .inr ⟨k, ks, e, (h5.block k k1.lt (fun e => hk (by injection e))).trans k1, k2, k3⟩
theorem Turned1.own {w w' : World} {B b e s n : Nat} {v : Value} {xs : List Value} (h : Turned1 w w' B) (ho : w.ownsRow b e s v n xs) (hne : e ≠ 5) : w'.ownsRow b e s v n xs := by
  rcases h with rfl | ⟨g, cs, cs', h1, _, _, _, h5⟩
  · exact ho
  · refine ho.kept h5 ?_
    rcases ho.2 with ⟨rfl, _⟩ | ⟨k, cap, cur, rfl, _, hh, _⟩
    · exact .inl rfl
    · refine .inr (fun he => ?_)
      injection he with he
      subst he
      unfold Blk at h1
      rw [hh] at h1
      injection h1 with h1
      injection h1 with _ h1
      exact hne h1
theorem Turned1.below {w0 w w' : World} {B B0 : Nat} (h : Turned1 w w' B) (hb : Below B0 w0 w) (hB : B0 ≤ B) (hs : B0 ≤ w.heap.size) : Below B0 w0 w' := by
  rcases h with rfl | ⟨g, _, _, _, _, _, h4, h5⟩
  · exact hb
  · exact hb.grown h5 hs (fun k hk => by injection hk with hk; omega)
set_option maxRecDepth 100000 in
theorem spoil_sp (B n c : Nat) (A : Option Addr) (w : World) (h : Sp w B A n) (hn : n ≤ 1000000) :
    Calls Try.prog 14 #[.slice A n c] w fun e w' => e = .returned (.tuple #[]) ∧ Turned1 w w' B := by
  rcases Nat.eq_zero_or_pos n with h0 | h0
  · subst h0
    clear h
    go_enter Try.func14, Try.ntmps14
    go_wp2_with fail
    go_loop [2] (fun i => i = .int .i64 0) (fun _ => 0)
    case atStart => rfl
    case round =>
      subst hrel
      go_wp2_with fail
      go_end0
      exact ⟨rfl, .inl rfl⟩
  · rcases h with h | ⟨g, cs, rfl, hb, hs, hB⟩
    · omega
    · obtain ⟨m, hm⟩ : ∃ m, cs.size = m := ⟨_, rfl⟩
      have HM := Lib.hid (And.intro hm (And.intro hb hB))
      rw [hm] at hs
      clear hm
      go_enter Try.func14, Try.ntmps14
      go_wp2_with fail
      go_loopw [2] (fun i wr => ∃ k : Nat, k ≤ n ∧ i = .int .i64 k ∧ (∃ cs, Blk wr g 5 cs ∧ cs.size = m) ∧ w.grownBy wr (some g)) (fun i _ => n - (intOf i).toNat)
      case atStart => exact ⟨0, by omega, rfl, ⟨cs, HM.out.2.1, HM.out.1⟩, World.grownBy.refl _ _⟩
      case round =>
        obtain ⟨k, hk, rfl, ⟨cs', hb', hs'⟩, hg⟩ := hrel
        have HS := Lib.hid hs'
        clear hb
        by_cases hlt : k < n
        · obtain ⟨x, hc⟩ : ∃ x, wr.cell? ⟨g, k, none⟩ = some x := ⟨_, by rw [hb'.cell]; exact Array.getElem?_eq_getElem (by omega)⟩
          have hz := hb'.frozen k
          have HB := Lib.hid hb'
          clear hb' hs'
          go_wp2_with fail
          go_roundw
          case rel => exact ⟨k + 1, by omega, by go_num, ⟨_, HB.out.set_ k _, by rw [Array.size_setIfInBounds]; exact HS.out⟩, only_setCell hg _ _⟩
          case measure => simp [intOf]; omega
        · have HB := Lib.hid hb'
          clear hb' hs'
          go_wp2_with fail
          go_end0
          exact ⟨rfl, .inr ⟨g, cs, cs', HM.out.2.1, HB.out, by rw [HS.out, HM.out.1], HM.out.2.2, hg⟩⟩
end Go.Proofs.Ytnokbnobnhkmgaa
