/- ArenaTurns: an arena of the call's own, blocks held beside it, and the handles that were freed. -/
import Derived.Test.YtkdbcflpaalhiaaDoorArX
import Derived.Test.YtkdbcflpaalhiaaDoorPick
import Derived.Test.YtkdbcflpaalhiaaDoorInts
namespace Go.Proofs.YtkdbcflpaalhiaaDoor
open Go.ChangeShapes Go.WideShapes Go.ChangeAt Go.RowKit

/-- As St, with a row gv of handles G, which the call owns. -/
def Tu (w0 w : World) (g : Nat) (L : List Ar.Pl) (bl : List (Nat × TypeId × Array Value)) (gv : Value) (G : List (Int × Int)) : Prop :=
  ∃ P : Nat → Prop, (ArIn w P g L ∧ (∀ b, P b → b < w.heap.size) ∧ (∀ b, P b → w0.heap.size ≤ b) ∧ Below w0.heap.size w0 w ∧ Vars w) ∧ (∀ x ∈ bl, Blk w x.1 x.2.1 x.2.2 ∧ ¬ P x.1 ∧ gv.ownBlock ≠ some x.1) ∧ w.ownsRow w0.heap.size 42 2 gv G.length (hanL G) ∧ ∀ b, gv.ownBlock = some b → ¬ P b
section
variable {w0 w w' : World} {g : Nat} {L L' : List Ar.Pl} {bl : List (Nat × TypeId × Array Value)} {gv : Value} {G : List (Int × Int)}
theorem Tu.start (w0 w : World) (hv : Vars w0) (hb : Below w0.heap.size w0 w) : Tu w0 (w.alloc (.cells #[.slice none 0 0, .map none, .int .i64 0] 73)) w.heap.size [] [] (.slice none 0 0) [] := by
  have h1 : Below w.heap.size w (w.alloc (.cells #[.slice none 0 0, .map none, .int .i64 0] 73)) := (Below.refl _ _).alloc (Nat.le_refl _) _
  have hs := hb.size
  exact ⟨_, ⟨arIn_new w (by have := hv.1; omega), fun b e => by subst e; simp, fun b e => by subst e; exact hs, hb.trans (h1.mono hs), (hv.next hb).next h1⟩, by simp, own_nil _ _ _ _, fun b e => by cases e⟩
theorem Tu.below (h : Tu w0 w g L bl gv G) (hb : Below w.heap.size w w') : Tu w0 w' g L bl gv G := by
  obtain ⟨P, ⟨h1, h2, h3, h4, h5⟩, h6, h7, h8⟩ := h
  exact ⟨P, ⟨h1.below hb, fun b e => Nat.lt_of_lt_of_le (h2 b e) hb.size, h3, h4.trans (hb.mono h4.size), h5.next hb⟩, fun x hx => ⟨(h6 x hx).1.below hb (h6 x hx).1.lt, (h6 x hx).2⟩, own_below h7 hb, h8⟩
/-- A block that came since the last step is held too. -/
theorem Tu.hold (h : Tu w0 w g L bl gv G) (hb : Below w.heap.size w w') {a : Nat} {t : TypeId} {cs : Array Value} (ha : Blk w' a t cs) (hn : w.heap.size ≤ a) : Tu w0 w' g L ((a, t, cs) :: bl) gv G := by
  obtain ⟨P, ⟨h1, h2, h3, h4, h5⟩, h6, h7, h8⟩ := h
  refine ⟨P, ⟨h1.below hb, fun b e => Nat.lt_of_lt_of_le (h2 b e) hb.size, h3, h4.trans (hb.mono h4.size), h5.next hb⟩, fun x hx => ?_, own_below h7 hb, h8⟩
  rcases List.mem_cons.1 hx with rfl | hx
  · exact ⟨ha, fun e => by have := h2 _ e; simp only at this; omega, fun e => by have := (h7.lt _ e).2; simp only at this; omega⟩
  · exact ⟨(h6 x hx).1.below hb (h6 x hx).1.lt, (h6 x hx).2⟩
theorem Tu.alloc (h : Tu w0 w g L bl gv G) (cs : Array Value) (t : TypeId) {a : Nat} (ha : a = w.heap.size) : Tu w0 (w.alloc (.cells cs t)) g L ((a, t, cs) :: bl) gv G := by
  subst ha
  exact h.hold ((Below.refl _ _).alloc (Nat.le_refl _) _) (Blk.new w t cs) (Nat.le_refl _)
theorem Tu.at_ (h : Tu w0 w g L bl gv G) {a : Nat} {t : TypeId} {cs : Array Value} (hm : (a, t, cs) ∈ bl) : Blk w a t cs := by
  obtain ⟨P, _, h6, _⟩ := h
  exact (h6 _ hm).1
theorem Tu.top {a : Nat} {t : TypeId} {cs : Array Value} (h : Tu w0 w g L ((a, t, cs) :: bl) gv G) : Blk w a t cs := h.at_ (List.mem_cons_self ..)
theorem Tu.less {bl' : List (Nat × TypeId × Array Value)} (h : Tu w0 w g L bl gv G) (hs : ∀ x ∈ bl', x ∈ bl) : Tu w0 w g L bl' gv G := by
  obtain ⟨P, h1, h6, h7, h8⟩ := h
  exact ⟨P, h1, fun x hx => h6 x (hs x hx), h7, h8⟩
theorem Tu.fin (h : Tu w0 w g L bl gv G) : Below w0.heap.size w0 w := h.choose_spec.1.2.2.2.1
theorem Tu.row (h : Tu w0 w g L bl gv G) : w.ownsRow w0.heap.size 42 2 gv G.length (hanL G) := h.choose_spec.2.2.1
theorem Tu.vars (h : Tu w0 w g L bl gv G) : Vars w := h.choose_spec.1.2.2.2.2
theorem Tu.turned {P : Nat → Prop} (h0 : ArIn w P g L ∧ (∀ b, P b → b < w.heap.size) ∧ (∀ b, P b → w0.heap.size ≤ b) ∧ Below w0.heap.size w0 w ∧ Vars w) (h6 : ∀ x ∈ bl, Blk w x.1 x.2.1 x.2.2 ∧ ¬ P x.1 ∧ gv.ownBlock ≠ some x.1) (h7 : w.ownsRow w0.heap.size 42 2 gv G.length (hanL G)) (h8 : ∀ b, gv.ownBlock = some b → ¬ P b) (ha : ArIn w' (grow P w w') g L') (ht : Turns P w w') : Tu w0 w' g L' bl gv G := by
  obtain ⟨h1, h2, h3, h4, h5⟩ := h0
  have hs := ht.size
  have hs0 := h4.size
  refine ⟨grow P w w', ⟨ha, ?_, ?_, ?_, h5.turn ht (fun e => by have := h1.low.1 0 e; omega)⟩, fun x hx => ⟨ht.blk (h6 x hx).1 (h6 x hx).2.1, ?_, (h6 x hx).2.2⟩, own_turn h7 ht h8, ?_⟩
  · rintro b (hb | hb)
    · have := h2 b hb; omega
    · exact hb.2
  · rintro b (hb | hb)
    · exact h3 b hb
    · omega
  · exact h4.trans (ht.below hs0 h3)
  · rintro (hb | hb)
    · exact (h6 x hx).2.1 hb
    · have := (h6 x hx).1.lt
      omega
  · rintro b hb (hb2 | hb2)
    · exact h8 b hb hb2
    · have := (h7.lt b hb).2
      omega
/-- A node of one value is made; its value lies in the block a. -/
theorem Tu.make (h : Tu w0 w g L bl gv G) (hl : Few L 100000) (a : Nat) (i : Int) (hm : (a, 3, #[Value.int .i64 i]) ∈ bl) : Calls Tryd.prog 24 #[.pointer (some ⟨g, 0, none⟩), .agg #[.bool false, .slice none 0 0, .slice none 0 0, .slice (some ⟨a, 0, none⟩) 1 1]] w fun e w' => e = .returned (.agg #[.int .i64 (Ar.lo L : Int), .int .i64 (Ar.next L : Int)]) ∧ Tu w0 w' g (Ar.make L ⟨false, [], [], [i]⟩) bl gv G := by
  obtain ⟨P, h0, h6, h7, h8⟩ := h
  have hb := h6 _ hm
  refine (arMake_any w P (fun b => b = a) g L h0.1 ⟨none, 0, 0, none, 0, 0, some ⟨a, 0, none⟩, 1, 1⟩ ⟨false, [], [], [i]⟩ ⟨Cells.nil _ _ _ _, Cells.nil _ _ _ _, Cells.of_blk hb.1 rfl rfl rfl, Nat.zero_le _, Nat.zero_le _, by show 1 ≤ 1000000; omega⟩ (fun b e => by subst e; exact hb.2.1) hl h0.2.2.2.2).mono ?_
  rintro e w' ⟨rfl, ha, ht⟩
  exact ⟨rfl, Tu.turned h0 h6 h7 h8 ha ht⟩
theorem Tu.free (h : Tu w0 w g L bl gv G) (hl : Few L 100000) (a : Nat) (x1 x2 : Int) (hm : (a, 42, #[Value.int .i64 x1, Value.int .i64 x2]) ∈ bl) (hh : Ar.has L (x1, x2) = true) : Calls Tryd.prog 23 #[.pointer (some ⟨g, 0, none⟩), .slice (some ⟨a, 0, none⟩) 1 1] w fun e w' => e = .returned (.int .i64 0) ∧ Tu w0 w' g (Ar.free1 L (x1, x2)) bl gv G := by
  obtain ⟨P, h0, h6, h7, h8⟩ := h
  have hb := h6 _ hm
  have hc : Cells w (fun b => b = a) (some ⟨a, 0, none⟩) 1 2 (hanL [(x1, x2)]) := Cells.of_blk hb.1 rfl rfl rfl
  refine (arFree_any w P (fun b => b = a) g L h0.1 hl _ 1 1 [(x1, x2)] hc (by omega) (fun b e => by subst e; exact hb.2.1)).mono ?_
  rintro e w' (⟨_, rfl, ha, ht⟩ | ⟨hn, _⟩)
  · exact ⟨rfl, Tu.turned h0 h6 h7 h8 ha ht⟩
  · rw [List.all_cons, hh] at hn
    simp at hn
theorem Tu.freeNo (h : Tu w0 w g L bl gv G) (hl : Few L 100000) (a : Nat) (x1 x2 : Int) (hm : (a, 42, #[Value.int .i64 x1, Value.int .i64 x2]) ∈ bl) (hh : Ar.has L (x1, x2) = false) : Calls Tryd.prog 23 #[.pointer (some ⟨g, 0, none⟩), .slice (some ⟨a, 0, none⟩) 1 1] w fun e w' => e = .returned (.int .i64 110) ∧ Tu w0 w' g L bl gv G := by
  obtain ⟨P, h0, h6, h7, h8⟩ := id h
  have hb := h6 _ hm
  have hc : Cells w (fun b => b = a) (some ⟨a, 0, none⟩) 1 2 (hanL [(x1, x2)]) := Cells.of_blk hb.1 rfl rfl rfl
  refine (arFree_any w P (fun b => b = a) g L h0.1 hl _ 1 1 [(x1, x2)] hc (by omega) (fun b e => by subst e; exact hb.2.1)).mono ?_
  rintro e w' (⟨hn, _⟩ | ⟨_, rfl, hbel⟩)
  · rw [List.all_cons, hh] at hn
    simp at hn
  · exact ⟨rfl, h.below hbel⟩
theorem Tu.has_ (h : Tu w0 w g L bl gv G) (hl : L.length ≤ 1000000) (x1 x2 : Int) : Calls Tryd.prog 18 #[.pointer (some ⟨g, 0, none⟩), .agg #[.int .i64 x1, .int .i64 x2]] w fun e w' => e = .returned (.bool (Ar.has L (x1, x2))) ∧ Tu w0 w' g L bl gv G := by
  obtain ⟨P, h0, _⟩ := id h
  exact (arHas_any w P g L h0.1 hl x1 x2).mono fun e w' hp => ⟨hp.1, h.below hp.2⟩
theorem Tu.len_ (h : Tu w0 w g L bl gv G) (hl : L.length ≤ 1000000) : Calls Tryd.prog 25 #[.pointer (some ⟨g, 0, none⟩)] w fun e w' => e = .returned (.tuple #[.int .i64 ((Ar.used L).length : Int), .int .i64 (L.length : Int)]) ∧ Tu w0 w' g L bl gv G := by
  obtain ⟨P, h0, _⟩ := id h
  exact (arLen_any w P g L h0.1 hl).mono fun e w' hp => ⟨hp.1, h.below hp.2⟩
theorem Tu.get_ (h : Tu w0 w g L bl gv G) (hl : L.length ≤ 1000000) (x1 x2 : Int) : Calls Tryd.prog 13 #[.pointer (some ⟨g, 0, none⟩), .agg #[.int .i64 x1, .int .i64 x2]] w fun e w' => Tu w0 w' g L bl gv G ∧ GetP w L (x1, x2) e w' := by
  obtain ⟨P, h0, _⟩ := id h
  refine (arGet_any w P g L h0.1 hl x1 x2).mono fun e w' hp => ⟨?_, hp⟩
  obtain ⟨v, d, r, _, _, hb, _⟩ := hp
  exact h.below hb
/-- The handles of all: none, or in a block of their own. -/
def UsedP (w0 : World) (g : Nat) (L : List Ar.Pl) (bl : List (Nat × TypeId × Array Value)) (gv : Value) (G : List (Int × Int)) (e : Ending) (w' : World) : Prop :=
  (Ar.used L = [] ∧ e = .returned (.slice none 0 0) ∧ Tu w0 w' g L bl gv G) ∨
  ∃ (b c : Nat) (cs : Array Value), e = .returned (.slice (some ⟨b, 0, none⟩) (Ar.used L).length c) ∧ Tu w0 w' g L ((b, 42, cs) :: bl) gv G ∧ ∀ k, k < (Ar.used L).length * 2 → cs[k]? = (hanL (Ar.used L))[k]?
theorem Tu.used_ (h : Tu w0 w g L bl gv G) (hl : L.length ≤ 100000) : Calls Tryd.prog 21 #[.pointer (some ⟨g, 0, none⟩)] w (UsedP w0 g L bl gv G) := by
  obtain ⟨P, h0, _⟩ := id h
  refine (arUsed_any w P g L h0.1 hl).mono ?_
  rintro e w' ⟨A, c, rfl, hown, hb⟩
  rcases hown.2 with ⟨hv, h1⟩ | ⟨b, cap, cur, hv, hbb, hh, hnc, hcm, hcs, htake⟩
  · refine .inl ⟨List.length_eq_zero_iff.1 h1, ?_, h.below hb⟩
    rw [hv]
  · injection hv with e1 e2 e3
    subst e1 e3
    exact .inr ⟨b, c, cur, rfl, h.hold hb hh hbb, fun k hk => by rw [← htake, List.getElem?_take_of_lt hk, Array.getElem?_toList]⟩
/-- The same, in one way: the slice, and what it reads as while its block is held. -/
theorem UsedP.view {e : Ending} (h : UsedP w0 g L bl gv G e w') : ∃ (UA : Option Addr) (c : Nat) (bu : List (Nat × TypeId × Array Value)), e = .returned (.slice UA (Ar.used L).length c) ∧ Tu w0 w' g L (bu ++ bl) gv G ∧ ∀ w2 : World, (∀ x ∈ bu, Blk w2 x.1 x.2.1 x.2.2) → Cells w2 (fun _ => True) UA (Ar.used L).length 2 (hanL (Ar.used L)) := by
  rcases h with ⟨h0, rfl, h1⟩ | ⟨b, c, cs, rfl, h1, h2⟩
  · refine ⟨none, 0, [], by rw [h0]; rfl, h1, fun w2 _ => ?_⟩
    rw [h0]
    exact Cells.nil _ _ _ _
  · refine ⟨_, c, [(b, 42, cs)], rfl, h1, fun w2 hx => ?_⟩
    have hb := hx _ (List.mem_cons_self ..)
    refine ⟨hanL_len _, fun _ => ⟨b, 0, rfl, trivial, hb.lt, fun j u hu => ?_⟩⟩
    have hj : j < (Ar.used L).length * 2 := by
      have := (List.getElem?_eq_some_iff.1 hu).1
      rw [hanL_len] at this
      exact this
    rw [Nat.zero_add, hb.cell, h2 j hj]
    exact hu
end
/-- A handle more behind the freed ones. -/
theorem Tu.append {w0 w W w' : World} {g : Nat} {L : List Ar.Pl} {bl : List (Nat × TypeId × Array Value)} {gv gv' : Value} {G : List (Int × Int)} (h : Tu w0 w g L bl gv G) {y : Int × Int} (hW : Below w.heap.size w W) (hown : w'.ownsRow w0.heap.size 42 2 gv' (G.length + 1) (hanL G ++ [.int .i64 y.1, .int .i64 y.2])) (hgr : W.grownBy w' gv.ownBlock) (hloc : gv'.ownBlock = gv.ownBlock ∨ gv'.ownBlock = some W.heap.size) (hv0 : 1 ≤ w0.heap.size) : Tu w0 w' g L [] gv' (G ++ [y]) := by
  obtain ⟨P, ⟨h1, h2, h3, h4, h5⟩, h6, h7, h8⟩ := h
  have hT : Turns (fun b => gv.ownBlock = some b) w w' := (Turns.of_below hW).trans (Turns.of_grown hgr)
  have hs := hT.size
  have hsW := hW.size
  refine ⟨P, ⟨h1.turn hT (fun b hb e => h8 b e hb), fun b e => Nat.lt_of_lt_of_le (h2 b e) hs, h3, h4.trans (hT.below h4.size (fun b e => (h7.lt b e).1)), h5.turn hT (fun e => ?_)⟩, by simp, ?_, ?_⟩
  · have := (h7.lt 0 e).1
    omega
  · rw [hanL_append, List.length_append]
    exact hown
  · intro b e hb
    rcases hloc with hl | hl
    · rw [hl] at e
      exact h8 b e hb
    · rw [hl] at e
      injection e with e
      have := h2 b hb
      omega
theorem max_run2 (p q : Nat) (W : World) : (Builtin.max_ #[3, 3] 3 #[.int .i64 (p : Int), .int .i64 (q : Int)]).run Tryd.prog W = .ok (.int .i64 ((max p q : Nat) : Int)) W := by
  rcases Nat.lt_or_ge p q with h | h
  · have e : max p q = q := by omega
    rw [e]
    simp [Builtin.max_, Builtin.max2]
    omega
  · have e : max p q = p := by omega
    rw [e]
    simp [Builtin.max_, Builtin.max2]
    omega
end Go.Proofs.YtkdbcflpaalhiaaDoor
