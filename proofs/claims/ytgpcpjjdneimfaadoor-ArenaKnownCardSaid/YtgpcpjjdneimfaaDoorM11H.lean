/- ArenaTurns, walked. -/
import Derived.Test.YtgpcpjjdneimfaaDoorArX
import Derived.Test.YtgpcpjjdneimfaaDoorPick
import Derived.Test.YtgpcpjjdneimfaaDoorInts
import Derived.Deep.DeepCutAuto
namespace Go.Proofs.YtgpcpjjdneimfaaDoor
open Go.ChangeShapes Go.WideShapes Go.ChangeAt Go.RowKit

/-- As St, with a row gv of handles G, which the call owns. -/
def Tu (w0 w : World) (g : Nat) (L : List Ar.Pl) (bl : List (Nat × TypeId × Array Value)) (gv : Value) (G : List (Int × Int)) : Prop :=
  ∃ P : Nat → Prop, (ArIn w P g L ∧ (∀ b, P b → b < w.heap.size) ∧ (∀ b, P b → w0.heap.size ≤ b) ∧ Below w0.heap.size w0 w ∧ Vars w) ∧ (∀ x ∈ bl, Blk w x.1 x.2.1 x.2.2 ∧ ¬ P x.1 ∧ gv.ownBlock ≠ some x.1) ∧ w.ownsRow w0.heap.size 42 2 gv G.length (hanL G) ∧ ∀ b, gv.ownBlock = some b → ¬ P b
section
variable {w0 w w' : World} {g : Nat} {L L' : List Ar.Pl} {bl : List (Nat × TypeId × Array Value)} {gv : Value} {G : List (Int × Int)}
theorem Tu.start (w0 w : World) (hv : Vars w0) (hb : Below w0.heap.size w0 w) : Tu w0 (w.alloc (.cells #[.slice none 0 0, .map none, .int .i64 0] 73)) w.heap.size [] [] (.slice none 0 0) [] := by
  have h1 : Below w.heap.size w (w.alloc (.cells #[.slice none 0 0, .map none, .int .i64 0] 73)) := (Below.refl _ _).alloc (Nat.le_refl _) _
  have hs := hb.size
  exact ⟨_, ⟨arIn_new w (by have := hv.1; omega), fun b e => by subst e; simp, fun b e => by subst e; exact hs, hb.trans (h1.mono hs), (hv.next hb).next h1⟩, by simp, own_nil _ _ _ _, fun b e => by cases e⟩
theorem Tu.below (h : Tu w0 w g L bl gv G) (hb : Below w.heap.size w w') : Tu w0 w' g L bl gv G := by
  obtain ⟨P, ⟨h1, h2, h3, h4, h5⟩, h6, h7, h8⟩ := h
  exact ⟨P, ⟨h1.below hb, fun b e => Nat.lt_of_lt_of_le (h2 b e) hb.size, h3, h4.trans (hb.mono h4.size), h5.next hb⟩, fun x hx => ⟨(h6 x hx).1.below hb (h6 x hx).1.lt, (h6 x hx).2⟩, own_below h7 hb, h8⟩
/-- A block that came since the last step is held too. -/
theorem Tu.hold (h : Tu w0 w g L bl gv G) (hb : Below w.heap.size w w') {a : Nat} {t : TypeId} {cs : Array Value} (ha : Blk w' a t cs) (hn : w.heap.size ≤ a) : Tu w0 w' g L ((a, t, cs) :: bl) gv G := by
  obtain ⟨P, ⟨h1, h2, h3, h4, h5⟩, h6, h7, h8⟩ := h
  refine ⟨P, ⟨h1.below hb, fun b e => Nat.lt_of_lt_of_le (h2 b e) hb.size, h3, h4.trans (hb.mono h4.size), h5.next hb⟩, fun x hx => ?_, own_below h7 hb, h8⟩
  rcases List.mem_cons.1 hx with rfl | hx
  · exact ⟨ha, fun e => by have := h2 _ e; simp only at this; omega, fun e => by have := (h7.lt _ e).2; simp only at this; omega⟩
  · exact ⟨(h6 x hx).1.below hb (h6 x hx).1.lt, (h6 x hx).2⟩
theorem Tu.alloc (h : Tu w0 w g L bl gv G) (cs : Array Value) (t : TypeId) {a : Nat} (ha : a = w.heap.size) : Tu w0 (w.alloc (.cells cs t)) g L ((a, t, cs) :: bl) gv G := by
  subst ha
  exact h.hold ((Below.refl _ _).alloc (Nat.le_refl _) _) (Blk.new w t cs) (Nat.le_refl _)
theorem Tu.at_ (h : Tu w0 w g L bl gv G) {a : Nat} {t : TypeId} {cs : Array Value} (hm : (a, t, cs) ∈ bl) : Blk w a t cs := by
  obtain ⟨P, _, h6, _⟩ := h
  exact (h6 _ hm).1
theorem Tu.top {a : Nat} {t : TypeId} {cs : Array Value} (h : Tu w0 w g L ((a, t, cs) :: bl) gv G) : Blk w a t cs := h.at_ (List.mem_cons_self ..)
theorem Tu.less {bl' : List (Nat × TypeId × Array Value)} (h : Tu w0 w g L bl gv G) (hs : ∀ x ∈ bl', x ∈ bl) : Tu w0 w g L bl' gv G := by
  obtain ⟨P, h1, h6, h7, h8⟩ := h
  exact ⟨P, h1, fun x hx => h6 x (hs x hx), h7, h8⟩
theorem Tu.fin (h : Tu w0 w g L bl gv G) : Below w0.heap.size w0 w := h.choose_spec.1.2.2.2.1
theorem Tu.row (h : Tu w0 w g L bl gv G) : w.ownsRow w0.heap.size 42 2 gv G.length (hanL G) := h.choose_spec.2.2.1
theorem Tu.vars (h : Tu w0 w g L bl gv G) : Vars w := h.choose_spec.1.2.2.2.2
theorem Tu.turned {P : Nat → Prop} (h0 : ArIn w P g L ∧ (∀ b, P b → b < w.heap.size) ∧ (∀ b, P b → w0.heap.size ≤ b) ∧ Below w0.heap.size w0 w ∧ Vars w) (h6 : ∀ x ∈ bl, Blk w x.1 x.2.1 x.2.2 ∧ ¬ P x.1 ∧ gv.ownBlock ≠ some x.1) (h7 : w.ownsRow w0.heap.size 42 2 gv G.length (hanL G)) (h8 : ∀ b, gv.ownBlock = some b → ¬ P b) (ha : ArIn w' (grow P w w') g L') (ht : Turns P w w') : Tu w0 w' g L' bl gv G := by
  obtain ⟨h1, h2, h3, h4, h5⟩ := h0
  have hs := ht.size
  have hs0 := h4.size
  refine ⟨grow P w w', ⟨ha, ?_, ?_, ?_, h5.turn ht (fun e => by have := h1.low.1 0 e; omega)⟩, fun x hx => ⟨ht.blk (h6 x hx).1 (h6 x hx).2.1, ?_, (h6 x hx).2.2⟩, own_turn h7 ht h8, ?_⟩
  · rintro b (hb | hb)
    · have := h2 b hb; omega
    · exact hb.2
  · rintro b (hb | hb)
    · exact h3 b hb
    · omega
  · exact h4.trans (ht.below hs0 h3)
  · rintro (hb | hb)
    · exact (h6 x hx).2.1 hb
    · have := (h6 x hx).1.lt
      omega
  · rintro b hb (hb2 | hb2)
    · exact h8 b hb hb2
    · have := (h7.lt b hb).2
      omega
/-- A node of one value is made; its value lies in the block a. -/
theorem Tu.make (h : Tu w0 w g L bl gv G) (hl : Few L 100000) (a : Nat) (i : Int) (hm : (a, 3, #[Value.int .i64 i]) ∈ bl) : Calls Tryd.prog 24 #[.pointer (some ⟨g, 0, none⟩), .agg #[.bool false, .slice none 0 0, .slice none 0 0, .slice (some ⟨a, 0, none⟩) 1 1]] w fun e w' => e = .returned (.agg #[.int .i64 (Ar.lo L : Int), .int .i64 (Ar.next L : Int)]) ∧ Tu w0 w' g (Ar.make L ⟨false, [], [], [i]⟩) bl gv G := by
  obtain ⟨P, h0, h6, h7, h8⟩ := h
  have hb := h6 _ hm
  refine (arMake_any w P (fun b => b = a) g L h0.1 ⟨none, 0, 0, none, 0, 0, some ⟨a, 0, none⟩, 1, 1⟩ ⟨false, [], [], [i]⟩ ⟨Cells.nil _ _ _ _, Cells.nil _ _ _ _, Cells.of_blk hb.1 rfl rfl rfl, Nat.zero_le _, Nat.zero_le _, by show 1 ≤ 1000000; omega⟩ (fun b e => by subst e; exact hb.2.1) hl h0.2.2.2.2).mono ?_
  rintro e w' ⟨rfl, ha, ht⟩
  exact ⟨rfl, Tu.turned h0 h6 h7 h8 ha ht⟩
theorem Tu.free (h : Tu w0 w g L bl gv G) (hl : Few L 100000) (a : Nat) (x1 x2 : Int) (hm : (a, 42, #[Value.int .i64 x1, Value.int .i64 x2]) ∈ bl) (hh : Ar.has L (x1, x2) = true) : Calls Tryd.prog 23 #[.pointer (some ⟨g, 0, none⟩), .slice (some ⟨a, 0, none⟩) 1 1] w fun e w' => e = .returned (.int .i64 0) ∧ Tu w0 w' g (Ar.free1 L (x1, x2)) bl gv G := by
  obtain ⟨P, h0, h6, h7, h8⟩ := h
  have hb := h6 _ hm
  have hc : Cells w (fun b => b = a) (some ⟨a, 0, none⟩) 1 2 (hanL [(x1, x2)]) := Cells.of_blk hb.1 rfl rfl rfl
  refine (arFree_any w P (fun b => b = a) g L h0.1 hl _ 1 1 [(x1, x2)] hc (by omega) (fun b e => by subst e; exact hb.2.1)).mono ?_
  rintro e w' (⟨_, rfl, ha, ht⟩ | ⟨hn, _⟩)
  · exact ⟨rfl, Tu.turned h0 h6 h7 h8 ha ht⟩
  · rw [List.all_cons, hh] at hn
    simp at hn
theorem Tu.freeNo (h : Tu w0 w g L bl gv G) (hl : Few L 100000) (a : Nat) (x1 x2 : Int) (hm : (a, 42, #[Value.int .i64 x1, Value.int .i64 x2]) ∈ bl) (hh : Ar.has L (x1, x2) = false) : Calls Tryd.prog 23 #[.pointer (some ⟨g, 0, none⟩), .slice (some ⟨a, 0, none⟩) 1 1] w fun e w' => e = .returned (.int .i64 110) ∧ Tu w0 w' g L bl gv G := by
  obtain ⟨P, h0, h6, h7, h8⟩ := id h
  have hb := h6 _ hm
  have hc : Cells w (fun b => b = a) (some ⟨a, 0, none⟩) 1 2 (hanL [(x1, x2)]) := Cells.of_blk hb.1 rfl rfl rfl
  refine (arFree_any w P (fun b => b = a) g L h0.1 hl _ 1 1 [(x1, x2)] hc (by omega) (fun b e => by subst e; exact hb.2.1)).mono ?_
  rintro e w' (⟨hn, _⟩ | ⟨_, rfl, hbel⟩)
  · rw [List.all_cons, hh] at hn
    simp at hn
  · exact ⟨rfl, h.below hbel⟩
theorem Tu.has_ (h : Tu w0 w g L bl gv G) (hl : L.length ≤ 1000000) (x1 x2 : Int) : Calls Tryd.prog 18 #[.pointer (some ⟨g, 0, none⟩), .agg #[.int .i64 x1, .int .i64 x2]] w fun e w' => e = .returned (.bool (Ar.has L (x1, x2))) ∧ Tu w0 w' g L bl gv G := by
  obtain ⟨P, h0, _⟩ := id h
  exact (arHas_any w P g L h0.1 hl x1 x2).mono fun e w' hp => ⟨hp.1, h.below hp.2⟩
theorem Tu.len_ (h : Tu w0 w g L bl gv G) (hl : L.length ≤ 1000000) : Calls Tryd.prog 25 #[.pointer (some ⟨g, 0, none⟩)] w fun e w' => e = .returned (.tuple #[.int .i64 ((Ar.used L).length : Int), .int .i64 (L.length : Int)]) ∧ Tu w0 w' g L bl gv G := by
  obtain ⟨P, h0, _⟩ := id h
  exact (arLen_any w P g L h0.1 hl).mono fun e w' hp => ⟨hp.1, h.below hp.2⟩
theorem Tu.get_ (h : Tu w0 w g L bl gv G) (hl : L.length ≤ 1000000) (x1 x2 : Int) : Calls Tryd.prog 13 #[.pointer (some ⟨g, 0, none⟩), .agg #[.int .i64 x1, .int .i64 x2]] w fun e w' => Tu w0 w' g L bl gv G ∧ GetP w L (x1, x2) e w' := by
  obtain ⟨P, h0, _⟩ := id h
  refine (arGet_any w P g L h0.1 hl x1 x2).mono fun e w' hp => ⟨?_, hp⟩
  obtain ⟨v, d, r, _, _, hb, _⟩ := hp
  exact h.below hb
/-- The handles of all: none, or in a block of their own. -/
def UsedP (w0 : World) (g : Nat) (L : List Ar.Pl) (bl : List (Nat × TypeId × Array Value)) (gv : Value) (G : List (Int × Int)) (e : Ending) (w' : World) : Prop :=
  (Ar.used L = [] ∧ e = .returned (.slice none 0 0) ∧ Tu w0 w' g L bl gv G) ∨
  ∃ (b c : Nat) (cs : Array Value), e = .returned (.slice (some ⟨b, 0, none⟩) (Ar.used L).length c) ∧ Tu w0 w' g L ((b, 42, cs) :: bl) gv G ∧ ∀ k, k < (Ar.used L).length * 2 → cs[k]? = (hanL (Ar.used L))[k]?
theorem Tu.used_ (h : Tu w0 w g L bl gv G) (hl : L.length ≤ 100000) : Calls Tryd.prog 21 #[.pointer (some ⟨g, 0, none⟩)] w (UsedP w0 g L bl gv G) := by
  obtain ⟨P, h0, _⟩ := id h
  refine (arUsed_any w P g L h0.1 hl).mono ?_
  rintro e w' ⟨A, c, rfl, hown, hb⟩
  rcases hown.2 with ⟨hv, h1⟩ | ⟨b, cap, cur, hv, hbb, hh, hnc, hcm, hcs, htake⟩
  · refine .inl ⟨List.length_eq_zero_iff.1 h1, ?_, h.below hb⟩
    rw [hv]
  · injection hv with e1 e2 e3
    subst e1 e3
    exact .inr ⟨b, c, cur, rfl, h.hold hb hh hbb, fun k hk => by rw [← htake, List.getElem?_take_of_lt hk, Array.getElem?_toList]⟩
/-- The same, in one way: the slice, and what it reads as while its block is held. -/
theorem UsedP.view {e : Ending} (h : UsedP w0 g L bl gv G e w') : ∃ (UA : Option Addr) (c : Nat) (bu : List (Nat × TypeId × Array Value)), e = .returned (.slice UA (Ar.used L).length c) ∧ Tu w0 w' g L (bu ++ bl) gv G ∧ ∀ w2 : World, (∀ x ∈ bu, Blk w2 x.1 x.2.1 x.2.2) → Cells w2 (fun _ => True) UA (Ar.used L).length 2 (hanL (Ar.used L)) := by
  rcases h with ⟨h0, rfl, h1⟩ | ⟨b, c, cs, rfl, h1, h2⟩
  · refine ⟨none, 0, [], by rw [h0]; rfl, h1, fun w2 _ => ?_⟩
    rw [h0]
    exact Cells.nil _ _ _ _
  · refine ⟨_, c, [(b, 42, cs)], rfl, h1, fun w2 hx => ?_⟩
    have hb := hx _ (List.mem_cons_self ..)
    refine ⟨hanL_len _, fun _ => ⟨b, 0, rfl, trivial, hb.lt, fun j u hu => ?_⟩⟩
    have hj : j < (Ar.used L).length * 2 := by
      have := (List.getElem?_eq_some_iff.1 hu).1
      rw [hanL_len] at this
      exact this
    rw [Nat.zero_add, hb.cell, h2 j hj]
    exact hu
end
/-- A handle more behind the freed ones. -/
theorem Tu.append {w0 w W w' : World} {g : Nat} {L : List Ar.Pl} {bl : List (Nat × TypeId × Array Value)} {gv gv' : Value} {G : List (Int × Int)} (h : Tu w0 w g L bl gv G) {y : Int × Int} (hW : Below w.heap.size w W) (hown : w'.ownsRow w0.heap.size 42 2 gv' (G.length + 1) (hanL G ++ [.int .i64 y.1, .int .i64 y.2])) (hgr : W.grownBy w' gv.ownBlock) (hloc : gv'.ownBlock = gv.ownBlock ∨ gv'.ownBlock = some W.heap.size) (hv0 : 1 ≤ w0.heap.size) : Tu w0 w' g L [] gv' (G ++ [y]) := by
  obtain ⟨P, ⟨h1, h2, h3, h4, h5⟩, h6, h7, h8⟩ := h
  have hT : Turns (fun b => gv.ownBlock = some b) w w' := (Turns.of_below hW).trans (Turns.of_grown hgr)
  have hs := hT.size
  have hsW := hW.size
  refine ⟨P, ⟨h1.turn hT (fun b hb e => h8 b e hb), fun b e => Nat.lt_of_lt_of_le (h2 b e) hs, h3, h4.trans (hT.below h4.size (fun b e => (h7.lt b e).1)), h5.turn hT (fun e => ?_)⟩, by simp, ?_, ?_⟩
  · have := (h7.lt 0 e).1
    omega
  · rw [hanL_append, List.length_append]
    exact hown
  · intro b e hb
    rcases hloc with hl | hl
    · rw [hl] at e
      exact h8 b e hb
    · rw [hl] at e
      injection e with e
      have := h2 b hb
      omega
theorem max_run2 (p q : Nat) (W : World) : (Builtin.max_ #[3, 3] 3 #[.int .i64 (p : Int), .int .i64 (q : Int)]).run Tryd.prog W = .ok (.int .i64 ((max p q : Nat) : Int)) W := by
  rcases Nat.lt_or_ge p q with h | h
  · have e : max p q = q := by omega
    rw [e]
    simp [Builtin.max_, Builtin.max2]
    omega
  · have e : max p q = p := by omega
    rw [e]
    simp [Builtin.max_, Builtin.max2]
    omega
end Go.Proofs.YtgpcpjjdneimfaaDoor

namespace Go.Proofs.YtgpcpjjdneimfaaDoor
open Go.ChangeShapes Go.WideShapes Go.ChangeAt Go.RowKit

theorem pick_at (i : Int) (n : Nat) (hn : 0 < n) (hm : n ≤ 1000000) : ∃ k : Nat, k < n ∧ ∀ w, Calls Tryd.prog 22 #[.int .i64 i, .int .i64 (n : Int)] w fun e w' => e = .returned (.int .i64 (k : Int)) ∧ w = w' := by
  have h0 := Int.emod_nonneg i (by omega : (n : Int) ≠ 0)
  have h1 := Int.emod_lt_of_pos i (by omega : 0 < (n : Int))
  obtain ⟨k, hk⟩ := Int.eq_ofNat_of_zero_le h0
  refine ⟨k, by omega, fun w => ?_⟩
  have hp := pick_math i n (by omega)
  rw [hk] at hp
  have h2 : -(n : Int) < i.tmod n ∧ i.tmod n < n := by
    have : (i.tmod n).natAbs < (n : Int).natAbs := by rw [Int.natAbs_tmod]; exact Nat.mod_lt _ (by omega)
    omega
  generalize ht : i.tmod n = t at hp h2
  clear hk h0 h1
  go_enter Tryd.func22, Tryd.ntmps22
  go_wp2
  go_ret
  exact ⟨rfl, rfl⟩
set_option maxRecDepth 100000 in
set_option maxHeartbeats 8000000 in
theorem lawTurns_any (w : World) (hv : Vars w) (A : Option Addr) (n c : Nat) (l : List Int) (h : Ints w w.heap.size A n l) (hn : n ≤ 9223372036854775807) : Calls Tryd.prog 5 #[.slice A n c] w (WorksP w) := by
  by_cases hbig : n ≤ 60
  · have hi : ¬ (60 : Int) < (n : Int) := by omega
    have S0 := Lib.hid (Tu.start w w hv (Below.refl _ _))
    have HV1 := Lib.hid hv.1
    have H := Lib.hid h
    clear hv h
    go_enter Tryd.func5, Tryd.ntmps5
    go_wp2_with fail
    refine (arNew_any w).mono ?_
    rintro e w1 ⟨rfl, rfl⟩
    obtain ⟨g, hg⟩ : ∃ g, w.heap.size = g := ⟨_, rfl⟩
    obtain ⟨w1, hw1⟩ : ∃ w1, w.alloc (.cells #[.slice none 0 0, .map none, .int .i64 0] 73) = w1 := ⟨_, rfl⟩
    have S1 : Hid (Tu w w1 g [] [] (.slice none 0 0) []) := Lib.hid (hw1 ▸ hg ▸ S0.out)
    rw [hg, hw1]
    clear S0 hg hw1
    go_wp2_with fail
    go_loopw [4, 5, 6] (fun gv mo i wr => ∃ (j most : Nat) (G : List (Int × Int)) (L : List Ar.Pl), j ≤ n ∧ i = .int .i64 (j : Int) ∧ mo = .int .i64 (most : Int) ∧ Tu w wr g L [] gv G ∧ Ar.Inv L G most ∧ Few L j ∧ G.length ≤ j) (fun _ _ i _ => n - (intOf i).toNat)
    case atStart => exact ⟨0, 0, [], [], by omega, rfl, rfl, S1.out, Ar.inv_start, Few.nil, Nat.le_refl _⟩
    case round =>
      obtain ⟨j, most, G, L, hj, rfl, rfl, hS, hI, hF, hG⟩ := hrel
      by_cases hlt : j < n
      · have i1 : (0 : Int) ≤ (j : Int) := by omega
        have i2 : (j : Int) < (n : Int) := by omega
        have HS := Lib.hid (And.intro hS (And.intro hI (And.intro hF hG)))
        have HU := Lib.hid (hS.used_ (Nat.le_trans hF.len (by omega)))
        clear hS hI hF hG
        go_wp2_with fail
        refine HU.out.mono ?_
        intro e w2 hu
        obtain ⟨UA, uc, bu, rfl, hT, hcell⟩ := hu.view
        obtain ⟨m, hm⟩ : ∃ m, (Ar.used L).length = m := ⟨_, rfl⟩
        rw [hm]
        obtain ⟨x, hx⟩ : ∃ x, l.getD j 0 = x := ⟨_, rfl⟩
        obtain ⟨b, off, rfl, hbw, hc⟩ := H.out.2.2 (by omega)
        have z0 : w2.cell? ⟨b, off + j, none⟩ = some (.int .i64 x) := hx ▸ ((hT.fin.cell (p := ⟨b, _, none⟩) hbw).trans (hc j hlt))
        have HT := Lib.hid (And.intro hT (And.intro hcell (And.intro hm (And.intro hx (And.intro hbw hc)))))
        clear hT hcell hm hx hbw hc hu
        go_upto_region 10 with fail
        go_cut [39] (fun v wx => v = .bool (decide (x < 0) && decide (0 < m)) ∧ w2 = wx)
        case first =>
          as_aux_lemma =>
            by_cases hneg : x < 0
            · have hd : decide (x < 0) = true := decide_eq_true hneg
              go_wp2_with fail
              go_meet
              case rel =>
                exact ⟨by simp [hd], rfl⟩
            · have hd : decide (x < 0) = false := decide_eq_false hneg
              go_wp2_with fail
              go_meet
              case rel =>
                exact ⟨by simp [hd], rfl⟩
        case rest =>
          obtain ⟨rfl, rfl⟩ := hcut
          go_upto_if 39 with fail
          go_cut [4] (fun v wx => ∃ (G' : List (Int × Int)) (L' : List Ar.Pl), Tu w wx g L' [] v G' ∧ Ar.Inv L' G' (max most (Ar.used L').length) ∧ Few L' (j + 1) ∧ G'.length ≤ j + 1)
          case first =>
            obtain ⟨i0, hi0, hz0, hz1, hz2⟩ := info_parts Tryd.info42
            have HI := Lib.hid (And.intro hi0 (And.intro hz0 (And.intro hz1 hz2)))
            clear hi0 hz0 hz1 hz2
            cases hcond : (decide (x < 0) && decide (0 < m))
            · as_aux_lemma =>
                have hnew := Ar.make_new HS.out.2.1
                have hinv := Ar.make_inv HS.out.2.1 ⟨false, [], [], [(j : Int)]⟩
                have hfew := HS.out.2.2.1.make ⟨false, [], [], [(j : Int)]⟩
                have hat := Ar.put_at L (Ar.lo L) ⟨true, Ar.next L, ⟨false, [], [], [(j : Int)]⟩⟩ (Ar.lo_le L)
                obtain ⟨sb, hsb⟩ : ∃ sb, w2.heap.size = sb := ⟨_, rfl⟩
                have HM := Lib.hid (((HT.out.1.less (bl' := bu) (by simp)).alloc #[.int .i64 (j : Int)] 3 hsb.symm).make (HS.out.2.2.1.mono (by omega)) sb (j : Int) (List.mem_cons_self ..))
                obtain ⟨a1, ha1⟩ : ∃ a1, Ar.lo L = a1 := ⟨_, rfl⟩
                obtain ⟨a2, ha2⟩ : ∃ a2, Ar.next L = a2 := ⟨_, rfl⟩
                obtain ⟨L1, hL1⟩ : ∃ L1, Ar.make L ⟨false, [], [], [(j : Int)]⟩ = L1 := ⟨_, rfl⟩
                have hat : L1[a1]? = some ⟨true, a2, ⟨false, [], [], [(j : Int)]⟩⟩ := by rw [← hL1, ← ha1, ← ha2]; exact hat
                rw [ha1, ha2] at HM hnew
                rw [hL1] at HM hinv hfew
                have ha1b : a1 ≤ 61 := by
                  have := (List.getElem?_eq_some_iff.1 hat).1
                  have := hfew.len
                  omega
                have HH := Lib.hid (And.intro hnew (And.intro hinv (And.intro hfew (And.intro hat hsb))))
                have hmb : m ≤ 60 := by
                  have h1 := HT.out.2.2.1
                  rw [Ar.used_length] at h1
                  have h2 : L.countP (·.used) ≤ L.length := List.countP_le_length
                  have := HS.out.2.2.1.len
                  omega
                clear hnew hinv hfew hat hsb ha1 ha2 hL1 hcond z0
                go_wp2_with fail
                rw [HH.out.2.2.2.2]
                refine HM.out.mono ?_
                rintro e w4 ⟨rfl, t4⟩
                obtain ⟨hb, hhb⟩ : ∃ hb, w4.heap.size = hb := ⟨_, rfl⟩
                obtain ⟨w5, hw5⟩ : ∃ w5, w4.alloc (.cells #[.int .i64 (a1 : Int), .int .i64 (a2 : Int)] 42) = w5 := ⟨_, rfl⟩
                have T5 : Hid (Tu w w5 g L1 ((hb, 42, #[.int .i64 (a1 : Int), .int .i64 (a2 : Int)]) :: bu) u4 G) := Lib.hid (hw5 ▸ ((t4.less (bl' := bu) (by intro z hz; simp [hz])).alloc _ _ hhb.symm))
                have HW := Lib.hid (And.intro hhb hw5)
                clear t4 hhb hw5 HM
                go_upto_region 16 with fail
                rw [HW.out.1, HW.out.2]
                as_aux_lemma =>
                  obtain ⟨q, hq⟩ : ∃ q, G.length = q := ⟨_, rfl⟩
                  obtain ⟨gA, gc, rfl⟩ := own_slice T5.out.row
                  rw [hq] at T5 ⊢
                  have hqb : q ≤ 60 := by have := HS.out.2.2.2; omega
                  have HQ := Lib.hid hq
                  clear hq
                  go_wp2_with fail
                  go_loopw [10] (fun i wx => ∃ k : Nat, k ≤ q ∧ i = .int .i64 (k : Int) ∧ Tu w wx g L1 ((hb, 42, #[.int .i64 (a1 : Int), .int .i64 (a2 : Int)]) :: bu) (.slice gA q gc) G) (fun i _ => q - (intOf i).toNat)
                  case atStart => exact ⟨0, by omega, rfl, T5.out⟩
                  case round =>
                    as_aux_lemma =>
                      obtain ⟨k, hk, rfl, hT6⟩ := hrel
                      by_cases hkq : k < q
                      · have k1 : (0 : Int) ≤ (k : Int) := by omega
                        have k2 : (k : Int) < (q : Int) := by omega
                        obtain ⟨y, hy⟩ : ∃ y, G[k]? = some y := ⟨_, List.getElem?_eq_getElem (by rw [HQ.out]; exact hkq)⟩
                        have hrow := Cells.of_own (HQ.out ▸ hT6.row)
                        obtain ⟨bg, og, rfl, -, -, hcg⟩ := hrow.at_ hkq
                        have hy2 := hanL_at G k y hy
                        have c0 : wr.cell? ⟨bg, og + k * 2, none⟩ = some (.int .i64 y.1) := (hcg 0 (by omega)).trans hy2.1
                        have c1 : wr.cell? ⟨bg, og + k * 2 + 1, none⟩ = some (.int .i64 y.2) := (hcg 1 (by omega)).trans hy2.2
                        have d0 := hT6.top.cell 0
                        have d1 := hT6.top.cell 1
                        simp only [List.getElem?_toArray, List.getElem?_cons_zero, List.getElem?_cons_succ] at d0 d1
                        have g1 := handle_guard
                        have hne : (decide (y.1 = (a1 : Int)) && decide (y.2 = (a2 : Int))) = false := by
                          cases he : (decide (y.1 = (a1 : Int)) && decide (y.2 = (a2 : Int)))
                          · rfl
                          · have h2 := Bool.and_eq_true _ _ ▸ he
                            exact absurd (List.mem_of_getElem? hy) (by rw [show y = ((a1 : Int), (a2 : Int)) from Prod.ext (of_decide_eq_true h2.1) (of_decide_eq_true h2.2)]; exact HH.out.1.1)
                        have q1 := fun W => handle_same y.1 y.2 (a1 : Int) (a2 : Int) W
                        rw [hne] at q1
                        have HT6 := Lib.hid hT6
                        clear hT6 hne hy hy2 hcg hrow
                        go_wp2_with fail
                        go_quiet (fail)
                        go_wp2_with fail
                        refine ⟨⟨k + 1, by omega, by go_num, HT6.out.below (below_drewN (Below.refl _ _) _)⟩, by simp [intOf]; omega⟩
                      · obtain rfl : q = k := by omega
                        have T7 := Lib.hid hT6
                        clear hT6 hk hkq
                        go_wp2_with fail
                        as_aux_lemma =>
                          have hHas : Ar.has L1 ((a1 : Int), (a2 : Int)) = true := (has_iff L1 _ _).2 ⟨a1, _, rfl, HH.out.2.2.2.1, rfl, rfl⟩
                          have HHas := Lib.hid hHas
                          clear hHas
                          go_loopw [11] (fun i wx => ∃ k : Nat, k ≤ m ∧ i = .int .i64 (k : Int) ∧ Tu w wx g L1 ((hb, 42, #[.int .i64 (a1 : Int), .int .i64 (a2 : Int)]) :: bu) (.slice gA q gc) G) (fun i _ => m - (intOf i).toNat)
                          case atStart => exact ⟨0, by omega, rfl, T7.out⟩
                          case round =>
                            as_aux_lemma =>
                              obtain ⟨k, hk, rfl, hT8⟩ := hrel
                              by_cases hkm : k < m
                              · have k1 : (0 : Int) ≤ (k : Int) := by omega
                                have k2 : (k : Int) < (m : Int) := by omega
                                obtain ⟨y, hy⟩ : ∃ y, (Ar.used L)[k]? = some y := ⟨_, List.getElem?_eq_getElem (by rw [HT.out.2.2.1]; exact hkm)⟩
                                have hrow := HT.out.2.1 wr (fun z hz => hT8.at_ (a := z.1) (t := z.2.1) (cs := z.2.2) (by simp [hz]))
                                rw [HT.out.2.2.1] at hrow
                                obtain ⟨bg, og, rfl, -, -, hcg⟩ := hrow.at_ hkm
                                have hy2 := hanL_at _ k y hy
                                have c0 : wr.cell? ⟨bg, og + k * 2, none⟩ = some (.int .i64 y.1) := (hcg 0 (by omega)).trans hy2.1
                                have d0 := hT8.top.cell 0
                                simp only [List.getElem?_toArray, List.getElem?_cons_zero] at d0
                                have hne : (y.1 == (a1 : Int)) = false := by
                                  rw [beq_eq_false_iff_ne]
                                  exact HH.out.1.2 y (List.mem_of_getElem? hy)
                                have HT8 := Lib.hid hT8
                                clear hT8 hy hy2 hcg hrow
                                go_wp2_with fail
                                go_quiet (fail)
                                go_wp2_with fail
                                refine ⟨⟨k + 1, by omega, by go_num, HT8.out.below (below_drewN (Below.refl _ _) _)⟩, by simp [intOf]; omega⟩
                              · obtain rfl : k = m := by omega
                                have T8 := Lib.hid hT8
                                clear hT8 hk hkm
                                have d0 := T8.out.top.cell 0
                                have d1 := T8.out.top.cell 1
                                simp only [List.getElem?_toArray, List.getElem?_cons_zero, List.getElem?_cons_succ] at d0 d1
                                have HG := Lib.hid (T8.out.get_ (Nat.le_trans HH.out.2.2.1.len (by omega)) (a1 : Int) (a2 : Int))
                                go_wp2_with fail
                                refine HG.out.mono ?_
                                rintro e w9 ⟨t9, v, d, r, rfl, hnd, -, hgot⟩
                                clear d0 d1
                                as_aux_lemma =>
                                  rcases hgot with ⟨_, rfl, p, hp, rfl⟩ | ⟨hno, _⟩
                                  · obtain rfl : p = ⟨true, a2, ⟨false, [], [], [(j : Int)]⟩⟩ := by
                                      have h1 := HH.out.2.2.2.1
                                      simp only [Int.toNat_natCast] at hp
                                      rw [h1] at hp
                                      exact (Option.some.inj hp).symm
                                    have T9 : Hid (Tu w w9 g L1 [] (.slice gA q gc) G) := Lib.hid (t9.less (by simp))
                                    have hn3 : v.n3 = 1 := by have := hnd.len3; simpa using this.symm
                                    have hvals := hnd.vals
                                    obtain ⟨A1, n1, c1, A2, n2, c2, A3, n3, c3⟩ := v
                                    simp only at hn3 hvals
                                    subst hn3
                                    obtain ⟨vb, vo, rfl, -, hvl, hvc⟩ := hvals.at_ (i := 0) (by omega)
                                    have z9 : w9.cell? ⟨vb, vo, none⟩ = some (.int .i64 (j : Int)) := hvc 0 (by omega)
                                    rw [show NdV.val ⟨A1, n1, c1, A2, n2, c2, some ⟨vb, vo, none⟩, 1, c3⟩ (⟨false, [], [], [(j : Int)]⟩ : Ar.Nd).leaf = .agg #[.bool false, .slice A1 n1 c1, .slice A2 n2 c2, .slice (some ⟨vb, vo, none⟩) 1 c3] from rfl]
                                    have T10 : Hid (Tu w (w9.alloc (.cells #[.bool false, .slice A1 n1 c1, .slice A2 n2 c2, .slice (some ⟨vb, vo, none⟩) 1 c3] 36)) g L1 [] (.slice gA q gc) G) := Lib.hid (T9.out.below ((Below.refl _ _).alloc (Nat.le_refl _) _))
                                    have hjj : ((j : Int) == (j : Int)) = true := beq_self_eq_true _
                                    clear t9 hnd hvals hvc hp
                                    go_wp2_with fail
                                    go_meet
                                    case rel => exact ⟨G, L1, T10.out, HH.out.2.1, HH.out.2.2.1, by have := HS.out.2.2.2; omega⟩
                                  · rw [HHas.out] at hno
                                    cases hno
            · as_aux_lemma =>
                have hcc := Bool.and_eq_true _ _ ▸ hcond
                have hm0 : 0 < m := of_decide_eq_true hcc.2
                have hmu : m ≤ 60 := by
                  have h1 := HT.out.2.2.1
                  rw [Ar.used_length] at h1
                  have h2 : L.countP (·.used) ≤ L.length := List.countP_le_length
                  have := HS.out.2.2.1.len
                  omega
                obtain ⟨k, hk, hp⟩ := pick_at x m hm0 (by omega)
                have HP := Lib.hid hp
                have hcu := HT.out.2.1 w2 (fun y hy => HT.out.1.at_ (a := y.1) (t := y.2.1) (cs := y.2.2) (by simp [hy]))
                rw [HT.out.2.2.1] at hcu
                obtain ⟨ub, uo, rfl, -, -, hcc2⟩ := hcu.at_ hk
                obtain ⟨y, hy⟩ : ∃ y, (Ar.used L)[k]? = some y := ⟨_, List.getElem?_eq_getElem (by rw [HT.out.2.2.1]; exact hk)⟩
                have hy2 := hanL_at _ k y hy
                obtain ⟨y1, y2⟩ := y
                have c0 : w2.cell? ⟨ub, uo + k * 2, none⟩ = some (.int .i64 y1) := (hcc2 0 (by omega)).trans hy2.1
                have c1 : w2.cell? ⟨ub, uo + k * 2 + 1, none⟩ = some (.int .i64 y2) := (hcc2 1 (by omega)).trans hy2.2
                have hhas : Ar.has L (y1, y2) = true := (Ar.used_mem L _).1 (List.mem_of_getElem? hy)
                have hinv := Ar.free_inv HS.out.2.1 (y1, y2) hhas
                have hno : Ar.has (Ar.free1 L (y1, y2)) (y1, y2) = false := hinv.hasnt (y1, y2) (by simp)
                have hfew := HS.out.2.2.1.free1 hhas
                have k1 : (0 : Int) ≤ (k : Int) := by omega
                have k2 : (k : Int) < (m : Int) := by omega
                obtain ⟨hb, hhb⟩ : ∃ hb, w2.heap.size = hb := ⟨_, rfl⟩
                obtain ⟨w3, hw3⟩ : ∃ w3, w2.alloc (.cells #[.int .i64 y1, .int .i64 y2] 42) = w3 := ⟨_, rfl⟩
                have T3 : Hid (Tu w w3 g L [(hb, 42, #[.int .i64 y1, .int .i64 y2])] u4 G) := Lib.hid (hw3 ▸ ((HT.out.1.less (by simp)).alloc _ _ hhb.symm))
                have HH := Lib.hid (And.intro hhas (And.intro hinv (And.intro hno (And.intro hfew (And.intro hhb hw3)))))
                clear hhas hinv hno hfew hhb hw3 hy hy2 hcc2 hcu hmu hp hcc hcond hm0
                have hv1 : 1 ≤ w.heap.size := HV1.out
                go_wp2_with fail
                refine (HP.out _).mono ?_
                rintro e w2' ⟨rfl, rfl⟩
                go_upto_region 12 with fail
                rw [HH.out.2.2.2.2.2, HH.out.2.2.2.2.1]
                clear c0 c1 z0
                as_aux_lemma =>
                  have b0 := T3.out.top.cell 0
                  have b1 := T3.out.top.cell 1
                  simp only [List.getElem?_toArray, List.getElem?_cons_zero, List.getElem?_cons_succ] at b0 b1
                  obtain ⟨sb, hsb⟩ : ∃ sb, w3.heap.size = sb := ⟨_, rfl⟩
                  have HF4 := Lib.hid ((T3.out.alloc #[.int .i64 y1, .int .i64 y2] 42 hsb.symm).free (HS.out.2.2.1.mono (by omega)) sb y1 y2 (List.mem_cons_self ..) HH.out.1)
                  have HSB := Lib.hid hsb
                  clear hsb
                  go_wp2_with fail
                  rw [HSB.out]
                  refine HF4.out.mono ?_
                  rintro e w5 ⟨rfl, t5⟩
                  have T5 : Hid (Tu w w5 g (Ar.free1 L (y1, y2)) [(hb, 42, #[.int .i64 y1, .int .i64 y2])] u4 G) := Lib.hid (t5.less (by intro z hz; simp at hz; simp [hz]))
                  clear t5 HF4 HSB b0 b1
                  as_aux_lemma =>
                    have b0 := T5.out.top.cell 0
                    have b1 := T5.out.top.cell 1
                    simp only [List.getElem?_toArray, List.getElem?_cons_zero, List.getElem?_cons_succ] at b0 b1
                    obtain ⟨sc, hsc⟩ : ∃ sc, w5.heap.size = sc := ⟨_, rfl⟩
                    have HF6 := Lib.hid ((T5.out.alloc #[.int .i64 y1, .int .i64 y2] 42 hsc.symm).freeNo (HH.out.2.2.2.1.mono (by omega)) sc y1 y2 (List.mem_cons_self ..) HH.out.2.2.1)
                    have HSC := Lib.hid hsc
                    clear hsc
                    go_wp2_with fail
                    rw [HSC.out]
                    refine HF6.out.mono ?_
                    rintro e w7 ⟨rfl, t7⟩
                    have T7 : Hid (Tu w w7 g (Ar.free1 L (y1, y2)) [(hb, 42, #[.int .i64 y1, .int .i64 y2])] u4 G) := Lib.hid (t7.less (by intro z hz; simp at hz; simp [hz]))
                    clear t7 HF6 HSC b0 b1
                    as_aux_lemma =>
                      have b0 := T7.out.top.cell 0
                      have b1 := T7.out.top.cell 1
                      simp only [List.getElem?_toArray, List.getElem?_cons_zero, List.getElem?_cons_succ] at b0 b1
                      have hgl := HS.out.2.2.2
                      go_wp2_with (at_builtin; refine wpList_append_own_at _ rfl _ _ 33 rfl w.heap.size 42 i0 _ 2 16 Tryd.underlying33 HI.out.1 HI.out.2.1 HI.out.2.2.1 HI.out.2.2.2 rfl (by decide) _ G.length _ rfl (T7.out.row.alloc _) ⟨w7.heap.size, 0, none⟩ 1 1 [.int .i64 y1, .int .i64 y2] rfl rfl (cell_two' _ _ _ _ _ rfl) (by simp [Value.oneCell']) (by unfold maxLen; omega) (by omega) (by have := T7.out.fin.size; simp; omega) ?_)
                      intro v' w9 hown9 hgr9 _ hloc9
                      have hT9 := T7.out.append (y := (y1, y2)) ((Below.refl _ _).alloc (Nat.le_refl _) _) hown9 hgr9 (by simpa using hloc9) hv1
                      have HT9 := Lib.hid hT9
                      clear hT9 hown9 hgr9 hloc9 b0 b1
                      go_wp2_with fail
                      go_meet
                      case rel =>
                        have hfew2 := HH.out.2.1.few
                        refine ⟨G ++ [(y1, y2)], Ar.free1 L (y1, y2), HT9.out, ?_, HH.out.2.2.2.1.mono (by omega), by rw [List.length_append]; simp; omega⟩
                        rw [Nat.max_eq_left hfew2]
                        exact HH.out.2.1
          case rest =>
            as_aux_lemma =>
              obtain ⟨G', L', hT2, hI, hF, hG⟩ := hcut
              obtain ⟨gA, gc, rfl⟩ := own_slice hT2.row
              obtain ⟨ul, hul⟩ : ∃ ul, (Ar.used L').length = ul := ⟨_, rfl⟩
              obtain ⟨q, hq⟩ : ∃ q, G'.length = q := ⟨_, rfl⟩
              have hall := hI.all
              have hL' : L'.length ≤ 61 := Nat.le_trans hF.len (by omega)
              have HLen := Lib.hid (hT2.len_ (by omega))
              rw [hul] at HLen hI hall
              rw [hall] at HLen
              rw [hq]
              obtain ⟨mo, hmo⟩ : ∃ mo, max most ul = mo := ⟨_, rfl⟩
              have hmx := max_run2 most ul
              rw [hmo] at HLen hmx hI hall
              have hqb : q ≤ 61 := by omega
              have HK := Lib.hid (And.intro hI (And.intro hF (And.intro hG (And.intro hul (And.intro hq (And.intro hmo hall))))))
              clear hT2 hI hF hG hul hq hmo hall
              go_wp2_with fail
              refine HLen.out.mono ?_
              rintro e w3 ⟨rfl, hT3⟩
              as_aux_lemma =>
                have hU3 := hT3.used_ (by omega)
                have HT3 := Lib.hid (And.intro hT3 hU3)
                clear hT3 hU3 z0
                go_wp2_with fail
                refine HT3.out.2.mono ?_
                intro e w4 hu4
                as_aux_lemma =>
                  obtain ⟨UA4, uc4, bu4, rfl, hT4, -⟩ := hu4.view
                  rw [HK.out.2.2.2.1]
                  have HT4 : Hid (Tu w w4 g L' [] (.slice gA q gc) G') := Lib.hid (hT4.less (by simp) |> fun h => HK.out.2.2.2.2.1 ▸ h)
                  clear hu4 hT4
                  go_wp2_with fail
                  as_aux_lemma =>
                    go_loopw [16] (fun i wr => ∃ k : Nat, k ≤ q ∧ i = .int .i64 (k : Int) ∧ Tu w wr g L' [] (.slice gA q gc) G') (fun i _ => q - (intOf i).toNat)
                    case atStart => exact ⟨0, by omega, rfl, HT4.out⟩
                    case round =>
                      as_aux_lemma =>
                        obtain ⟨k, hk, rfl, hT5⟩ := hrel
                        by_cases hkq : k < q
                        · have k1 : (0 : Int) ≤ (k : Int) := by omega
                          have k2 : (k : Int) < (q : Int) := by omega
                          obtain ⟨y, hy⟩ : ∃ y, G'[k]? = some y := ⟨_, List.getElem?_eq_getElem (by rw [HK.out.2.2.2.2.1]; exact hkq)⟩
                          have hrow := Cells.of_own (HK.out.2.2.2.2.1 ▸ hT5.row)
                          obtain ⟨bg, og, rfl, -, -, hcg⟩ := hrow.at_ hkq
                          have hy2 := hanL_at G' k y hy
                          have z0 : wr.cell? ⟨bg, og + k * 2, none⟩ = some (.int .i64 y.1) := (hcg 0 (by omega)).trans hy2.1
                          have z1 : wr.cell? ⟨bg, og + k * 2 + 1, none⟩ = some (.int .i64 y.2) := (hcg 1 (by omega)).trans hy2.2
                          have hno : Ar.has L' (y.1, y.2) = false := HK.out.1.hasnt y (List.mem_of_getElem? hy)
                          have hH := hT5.has_ (Nat.le_trans HK.out.2.1.len (by omega)) y.1 y.2
                          rw [hno] at hH
                          have HH := Lib.hid hH
                          clear hH hno hy hy2 hcg hrow hT5
                          go_wp2_with fail
                          refine HH.out.mono ?_
                          rintro e w6 ⟨rfl, hT6⟩
                          have HT6 := Lib.hid hT6
                          clear hT6
                          go_wp2_with fail
                          refine ⟨⟨k + 1, by omega, by go_num, HT6.out⟩, by simp [intOf]; omega⟩
                        · obtain rfl : k = q := by omega
                          have HT6 := Lib.hid hT5
                          clear hT5
                          go_wp2_with fail
                          refine ⟨⟨j + 1, mo, G', L', by omega, by go_num, rfl, HT6.out, HK.out.1, HK.out.2.1, HK.out.2.2.1⟩, by simp [intOf]; omega⟩
      · obtain rfl : j = n := by omega
        have HS := Lib.hid hS
        clear hS hI hF hG
        go_wp2_with fail
        refine (works_any _ HS.out.vars).mono ?_
        rintro e w9 ⟨rfl, b9⟩
        have B9 := Lib.hid (HS.out.below b9)
        clear b9
        go_wp2_with fail
        go_ret
        exact ⟨rfl, B9.out.fin⟩
  · have hi : (60 : Int) < (n : Int) := by omega
    have W := Lib.hid (works_any w hv)
    clear hv h hbig
    go_enter Tryd.func5, Tryd.ntmps5
    go_wp2_with fail
    refine W.out.mono ?_
    rintro e w1 ⟨rfl, b1⟩
    have B1 := Lib.hid b1
    clear b1
    go_wp2_with fail
    go_ret
    exact ⟨rfl, B1.out⟩
end Go.Proofs.YtgpcpjjdneimfaaDoor
