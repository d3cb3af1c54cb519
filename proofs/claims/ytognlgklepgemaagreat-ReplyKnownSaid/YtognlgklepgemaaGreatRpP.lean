/- Layer 8's plain words: a reply's parts as bytes. No function of the program is named here. -/
import Derived.Test.YtognlgklepgemaaGreatRp
import Derived.Test.YtognlgklepgemaaGreatHeld
namespace Go.Proofs.YtognlgklepgemaaGreat
open Go.ChangeShapes Go.WideShapes Go.ChangeAt Go.RowKit
namespace Rp
def u (x : Int) : Nat := (x % 18446744073709551616).toNat
theorem u_eq (x : Int) : x % 18446744073709551616 = ((u x : Nat) : Int) := (Int.toNat_of_nonneg (Int.emod_nonneg _ (by decide))).symm
theorem u_lt (x : Int) : u x < 18446744073709551616 := by
  have h1 := u_eq x
  have h2 := Int.emod_lt_of_pos x (show (0 : Int) < 18446744073709551616 by decide)
  omega
def pane (p : Pn) : List Nat := Pk.tx (nums p.k) ++ Pk.be 8 (u p.s) ++ Pk.be 8 (u p.e)
def agg (a : Ag.A) : List Nat := Pk.be 8 (u a.c) ++ Pk.be 8 (u a.s) ++ Pk.be 8 (u a.lo) ++ Pk.be 8 (u a.hi)
def row (r : Rw) : List Nat := pane r.p ++ agg r.a
def V.long (x : V) (c : Nat) : Nat := if c = 101 then x.ep else if c = 102 then x.fl else if c = 117 then x.un else if c = 76 then x.le else if c = 115 then x.st else x.ti
def V.part (x : V) (rows : List Rw) (gone : List Pn) (c : Nat) : List Nat :=
  if c = 99 then Pk.be 2 x.code else if c = 108 then [if x.last then 1 else 0] else if c = 114 then x.n % 256 :: rows.flatMap row else if c = 103 then x.m % 256 :: gone.flatMap pane else Pk.be 8 (x.long c)
def V.bytes (x : V) (rows : List Rw) (gone : List Pn) : List Nat := x.k :: Pk.be 4 x.id ++ (parts x.k).flatMap (x.part rows gone)
theorem tx_len (l : List Nat) : (Pk.tx l).length = l.length + 2 := by unfold Pk.tx; rw [List.length_append, Pk.be_len]; omega
theorem pane_len (p : Pn) : (pane p).length = p.k.size + 18 := by unfold pane; rw [List.length_append, List.length_append, tx_len, nums_len, Pk.be_len, Pk.be_len]
theorem agg_len (a : Ag.A) : (agg a).length = 32 := by unfold agg; rw [List.length_append, List.length_append, List.length_append, Pk.be_len, Pk.be_len, Pk.be_len, Pk.be_len]
theorem row_len (r : Rw) : (row r).length = r.p.k.size + 50 := by unfold row; rw [List.length_append, pane_len, agg_len]
end Rp
theorem own_some {w : World} {base n c : Nat} {e : TypeId} {A : Option Addr} {xs : List Value} (h : w.ownsRow base e 1 (.slice A n c) n xs) (h0 : 0 < n) : ∃ g, A = some ⟨g, 0, none⟩ ∧ ∀ j u, xs[j]? = some u → w.cell? ((⟨g, 0, none⟩ : Addr).add j) = some u := by
  obtain ⟨g, cap, hv, hc, hlt⟩ := h.form h0
  injection hv with hv
  subst hv
  exact ⟨g, rfl, h.cells (g := g) rfl⟩
theorem Held.grow {w W W' : World} {l : List (Nat × TypeId × Array Value)} (h : Held w W l) {B e s n : Nat} {v : Value} {xs : List Value} (ho : W.ownsRow B e s v n xs) (hg : W.grownBy W' v.ownBlock) (hB : w.heap.size ≤ B) (hl : ∀ x ∈ l, x.1 < B) : Held w W' l :=
  ⟨h.1.trans ⟨hg.os, hg.tape, hg.output, hg.size, fun k hk => hg.block k (by have := h.1.size; omega) (fun e => by have := (ho.lt k e.symm).1; omega)⟩, fun x hx => by
    have hb := h.2 x hx
    exact (hg.block x.1 hb.lt (fun e => by have := (ho.lt x.1 e.symm).1; have := hl x hx; omega)).trans hb⟩
theorem own_snoc {w : World} {B n m : Nat} {v : Value} {e : TypeId} {a b : List Nat} (h : w.ownsRow B e 1 v (n + m) (u8s a ++ u8s b)) : w.ownsRow B e 1 v (n + m) (u8s (a ++ b)) := by rw [← u8s_append]; exact h
end Go.Proofs.YtognlgklepgemaaGreat
