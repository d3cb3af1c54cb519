/- Layer 8's plain words of Put: where a reply's rows lie does not matter; a packing's bytes and length; SameBytes. -/
import Derived.Test.YtognlgklepgemaaRpU
import Derived.Test.YtognlgklepgemaaRpAt
import Derived.Test.YtognlgklepgemaaKit
namespace Go.Proofs.Ytognlgklepgemaa
open Go.ChangeShapes Go.WideShapes Go.ChangeAt Go.RowKit

theorem Rp.bytes_at (x : Rp.V) (rows : List Rw) (gone : List Pn) (A : Option Addr) (a : Nat) (G : Option Addr) (d : Nat) : (x.at_ A a G d).bytes rows gone = x.bytes rows gone := rfl
theorem Rp.putB_at (x : Rp.V) (rows : List Rw) (gone : List Pn) (A : Option Addr) (a : Nat) (G : Option Addr) (d : Nat) : Rp.putB (x.at_ A a G d) rows gone = Rp.putB x rows gone := by
  unfold Rp.putB
  rw [Rp.right_at, Rp.bytes_at]
theorem Rp.putE_at (x : Rp.V) (rows : List Rw) (gone : List Pn) (A : Option Addr) (a : Nat) (G : Option Addr) (d : Nat) : Rp.putE (x.at_ A a G d) rows gone = Rp.putE x rows gone := by
  unfold Rp.putE
  rw [Rp.right_at]
theorem Rp.ok_at {x : Rp.V} (h : x.ok) (A : Option Addr) (a : Nat) (G : Option Addr) (d : Nat) : (x.at_ A a G d).ok := h
theorem Rp.chunks_bytes_lt (x : Rp.V) (rows : List Rw) (gone : List Pn) (hk : x.k < 256) : ∀ y ∈ x.bytes rows gone, y < 256 := by
  intro y hy
  rw [← Rp.chunks_flat x rows gone hk] at hy
  obtain ⟨l, hl, hyl⟩ := List.mem_flatten.1 hy
  exact Rp.chunks_lt x rows gone l hl y hyl
theorem Rp.putB_lt (x : Rp.V) (rows : List Rw) (gone : List Pn) (hk : x.k < 256) : ∀ y ∈ Rp.putB x rows gone, y < 256 := by
  unfold Rp.putB
  split
  · exact Rp.chunks_bytes_lt x rows gone hk
  · simp
theorem Rp.putB_len (x : Rp.V) (rows : List Rw) (gone : List Pn) (hr : rows.length = x.n) (hg : gone.length = x.m) : (Rp.putB x rows gone).length ≤ 5300 := by
  unfold Rp.putB
  split
  · rename_i h
    exact Rp.bytes_le h hr hg
  · simp
theorem same_b (n c c' B : Nat) (A A' : Option Addr) (l : List Nat) (w : World) (hb : Bytes w B A n l) (hb' : Bytes w B A' n l) (hn : n ≤ 9223372036854775807) : Calls Try.prog 12 #[.slice A n c, .slice A' n c'] w fun e w' => e = .returned (.bool true) ∧ Below w.heap.size w w' :=
  (same_yes n c n c' B A A' l w hb hb' hn).mono fun _ _ h => ⟨h.1, by obtain ⟨m, rfl⟩ := h.2; exact below_drewN (Below.refl _ _) m⟩
end Go.Proofs.Ytognlgklepgemaa
