/- Layer 8, the program: parts, packed one behind the other. -/
import Derived.Test.YtognlgklepgemaaGreatRpV
import Derived.Test.YtognlgklepgemaaGreatPk8
import Derived.Test.YtognlgklepgemaaGreatSlcs
import Derived.Test.YtognlgklepgemaaGreatRefRpC
namespace Go.Proofs.YtognlgklepgemaaGreat
open Go.ChangeShapes Go.WideShapes Go.ChangeAt Go.RowKit

theorem Tryz.info33 : (Tryz.prog.info? 33).map (fun i => (i.zero, i.size, i.bytes)) = some (some (.slice none 0 0), 1, 24) := by kernel_rfl
theorem own_blk {w : World} {base e s n g : Nat} {v : Value} {xs : List Value} (h : w.ownsRow base e s v n xs) (hg : v.ownBlock = some g) : ∃ cs, Blk w g e cs := by
  rcases h.2 with ⟨rfl, _⟩ | ⟨k, cap, cur, rfl, _, hh, _⟩
  · cases hg
  · have : k = g := by simpa [Value.ownBlock] using hg
    subst this
    exact ⟨cur, hh⟩
theorem blk_ne {w : World} {g g' : Nat} {t t' : TypeId} {cs cs' : Array Value} (h : Blk w g t cs) (h' : Blk w g' t' cs') (hne : t ≠ t') : g ≠ g' := fun e => by
  subst e
  unfold Blk at h h'
  rw [h] at h'
  injection h' with h'
  injection h' with _ h'
  exact hne h'
theorem own_off {w w' : World} {base e s n g : Nat} {v : Value} {xs : List Value} {t : TypeId} {cs : Array Value} (h : w.ownsRow base e s v n xs) (hg : w.grownBy w' (some g)) (hb : Blk w g t cs) (ht : e ≠ t) : w'.ownsRow base e s v n xs :=
  h.kept hg (by
    rcases hv : v.ownBlock with _ | k
    · exact .inl rfl
    · obtain ⟨ds, hk⟩ := own_blk h hv
      exact .inr (fun e => blk_ne hk hb ht (by injection e)))
theorem Slcs.off {w w' : World} {B g : Nat} {V : List Value} {L : List (List Nat)} {t : TypeId} {cs : Array Value} (h : Slcs w B V L) (hg : w.grownBy w' (some g)) (hb : Blk w g t cs) (ht : 5 ≠ t) : Slcs w' B V L :=
  ⟨h.1, fun i hi => by
    obtain ⟨a, m, c, h1, h2, h3⟩ := h.2 i hi
    exact ⟨a, m, c, h1, h2, own_off h3 hg hb ht⟩⟩
theorem Blk.off {w w' : World} {base e s n g : Nat} {v : Value} {xs : List Value} {t : TypeId} {cs : Array Value} (hb : Blk w g t cs) (h : w.ownsRow base e s v n xs) (hg : w.grownBy w' v.ownBlock) (ht : t ≠ e) : Blk w' g t cs :=
  (hg.block g hb.lt (fun e => by
    obtain ⟨ds, hk⟩ := own_blk h e.symm
    exact blk_ne hb hk ht rfl)).trans hb
/-- All blocks but a putter's, and rows of slices of bytes, stay. -/
def Stay (w w' : World) : Prop := ∀ g t cs, t ≠ 78 → t ≠ 33 → Blk w g t cs → Blk w' g t cs
theorem Stay.refl (w : World) : Stay w w := fun _ _ _ _ _ h => h
theorem Stay.trans {a b c : World} (h : Stay a b) (k : Stay b c) : Stay a c := fun g t cs h1 h2 hb => k g t cs h1 h2 (h g t cs h1 h2 hb)
theorem Stay.below {w w' : World} (h : Below w.heap.size w w') : Stay w w' := fun _ _ _ _ _ hb => hb.below h hb.lt
theorem Stay.parts {w w' : World} (h : Stay w w') : Parts w w' := fun g cs hb => h g _ cs (by decide) (by decide) hb
/-- A putter at P has packed L so far. -/
def Putting (w0 W : World) (P : Nat) (L : List (List Nat)) : Prop :=
  ∃ A n c V, L.length = n ∧ Blk W P 78 #[.slice A n c] ∧ W.ownsRow w0.heap.size 33 1 (.slice A n c) n V ∧ Slcs W w0.heap.size V L ∧ Below w0.heap.size w0 W ∧ w0.heap.size ≤ P
theorem Putting.below {w0 W W' : World} {P : Nat} {L : List (List Nat)} (h : Putting w0 W P L) (b : Below W.heap.size W W') : Putting w0 W' P L := by
  obtain ⟨A, n, c, V, h1, h2, h3, h4, h5, h6⟩ := h
  exact ⟨A, n, c, V, h1, h2.below b h2.lt, own_below h3 b, h4.below b, below_next h5 b, h6⟩
theorem Putting.low {w0 W : World} {P : Nat} {L : List (List Nat)} (h : Putting w0 W P L) : Below w0.heap.size w0 W := by
  obtain ⟨A, n, c, V, h1, h2, h3, h4, h5, h6⟩ := h
  exact h5
theorem grown_set {w : World} {g : Nat} (o : Nat) (u : Value) : w.grownBy (w.setCell ⟨g, o, none⟩ u) (some g) := only_setCell ⟨rfl, rfl, rfl, Nat.le_refl _, fun _ _ _ => rfl⟩ o u
set_option maxRecDepth 100000 in
set_option maxHeartbeats 2000000 in
theorem add_any (w0 W : World) (P m c : Nat) (a : Option Addr) (l : List Nat) (L : List (List Nat)) (h : Putting w0 W P L) (ho : W.ownsRow w0.heap.size 5 1 (.slice a m c) m (u8s l)) (hm : m ≤ 1000000) (hL : L.length ≤ 1000000) :
    Calls Tryz.prog 36 #[.pointer (some ⟨P, 0, none⟩), .slice a m c] W fun e W' => e = .returned (.tuple #[]) ∧ Putting w0 W' P (L ++ [l]) ∧ Stay W W' := by
  obtain ⟨i0, hi, hz0, hz1, hz2⟩ := info_parts Tryz.info33
  have HI := Lib.hid (And.intro hi (And.intro hz0 (And.intro hz1 hz2)))
  clear hi hz0 hz1 hz2
  obtain ⟨A, n, c0, V, hn, hP, hown, hsl, hbel, hw0⟩ := h
  have hnL : n ≤ 1000000 := by omega
  have hp0 := hP.cell 0
  have b1 : Below W.heap.size W (W.alloc (.cells #[.slice a m c] 33)) := (Below.refl _ _).alloc (Nat.le_refl _) _
  have H := Lib.hid (And.intro hn (And.intro (hP.below b1 hP.lt) (And.intro (own_below hown b1) (And.intro ((hsl.snoc ho hm).below b1) (And.intro (below_next hbel b1) hw0)))))
  have HS := Lib.hid (Stay.below b1)
  have HZ : W.heap.size ≥ w0.heap.size := hbel.size
  clear hn hP hown hsl hbel b1 ho hL
  go_enter Tryz.func36, Tryz.ntmps36
  go_wp2_with (at_builtin; refine wpList_append_own _ rfl _ _ 76 rfl w0.heap.size 33 i0 (.slice none 0 0) 1 24 Tryz.underlying76 HI.out.1 HI.out.2.1 HI.out.2.2.1 HI.out.2.2.2 rfl (by decide) _ n _ rfl H.out.2.2.1 ⟨W.heap.size, 0, none⟩ 1 1 [.slice a m c] rfl rfl (one_cell W _ _) (by simp [Value.oneCell']) (by unfold maxLen; omega) (by omega) (by simp; omega) ?_; intro v' w2 hown hgrow _; obtain ⟨A2, c2, rfl⟩ := own_slice hown; have K2 := Blk.off H.out.2.1 H.out.2.2.1 hgrow (by decide); have K2c := K2.cell 0; have K2f := K2.frozen 0)
  have S2 := H.out.2.2.2.1.grown H.out.2.2.1 (by decide) hgrow
  have B2 : Below w0.heap.size w0 w2 := H.out.2.2.2.2.1.grown hgrow (by simp; omega) (fun k hk => (H.out.2.2.1.lt k hk).1)
  have HS2 : Hid (Stay W w2) := Lib.hid (HS.out.trans fun g t cs _ h2 hb => Blk.off hb H.out.2.2.1 hgrow h2)
  go_end0
  have gs := grown_set (w := w2) (g := P) 0 (.slice A2 (n + 1) c2)
  refine ⟨rfl, ⟨A2, n + 1, c2, _, by simp [H.out.1], K2.set_ 0 _, own_off hown gs K2 (by decide), S2.off gs K2 (by decide), B2.setCell H.out.2.2.2.2.2 _, H.out.2.2.2.2.2⟩, HS2.out.trans fun g t cs h1 _ hb => hb.far (fun e => blk_ne hb K2 h1 e.symm) _⟩
end Go.Proofs.YtognlgklepgemaaGreat
