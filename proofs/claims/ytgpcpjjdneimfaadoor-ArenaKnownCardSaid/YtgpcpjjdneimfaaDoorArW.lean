/- Layer 11: an arena of the call's own, held through calls; the chapter's examples. -/
import Derived.Test.YtgpcpjjdneimfaaDoorArPut
namespace Go.Proofs.YtgpcpjjdneimfaaDoor
open Go.ChangeShapes Go.WideShapes Go.ChangeAt Go.RowKit

theorem arMake_any (w : World) (P F : Nat → Prop) (g : Nat) (L : List Ar.Pl) (h : ArIn w P g L) (v : NdV) (d : Ar.Nd) (hv : NdIn w F v d) (hF : ∀ b, F b → ¬ P b) (hl : Few L 100000) (hvars : Vars w) :
    Calls Tryd.prog 24 #[.pointer (some ⟨g, 0, none⟩), v.val d.leaf] w (MakeP w P g L d) := by
  obtain ⟨A, c, mv, f, V, h⟩ := h
  rcases Nat.eq_zero_or_pos (freeN L) with h0 | h0
  · exact arMake_full w P F g L A c mv f V h v d hv hF hl h0
  · exact arMake_free w P F g L A c mv f V h v d hv hF hl h0 hvars
/-- The arena g, made since w0, has the places L; the blocks bl are held beside it. -/
def St (w0 w : World) (g : Nat) (L : List Ar.Pl) (bl : List (Nat × TypeId × Array Value)) : Prop :=
  ∃ P : Nat → Prop, ArIn w P g L ∧ (∀ b, P b → b < w.heap.size) ∧ (∀ b, P b → w0.heap.size ≤ b) ∧ Below w0.heap.size w0 w ∧ Vars w ∧ ∀ x ∈ bl, Blk w x.1 x.2.1 x.2.2 ∧ ¬ P x.1
section
variable {w0 w w' : World} {g : Nat} {L L' : List Ar.Pl} {bl : List (Nat × TypeId × Array Value)}
theorem St.start (w0 w : World) (hv : Vars w0) (hb : Below w0.heap.size w0 w) (bl : List (Nat × TypeId × Array Value)) (hbl : ∀ x ∈ bl, Blk w x.1 x.2.1 x.2.2) : St w0 (w.alloc (.cells #[.slice none 0 0, .map none, .int .i64 0] 73)) w.heap.size [] bl := by
  have h1 : Below w.heap.size w (w.alloc (.cells #[.slice none 0 0, .map none, .int .i64 0] 73)) := (Below.refl _ _).alloc (Nat.le_refl _) _
  have hs := hb.size
  refine ⟨_, arIn_new w (by have := hv.1; omega), fun b e => by subst e; simp, fun b e => by subst e; exact hs, hb.trans (h1.mono hs), (hv.next hb).next h1, fun x hx => ⟨(hbl x hx).below h1 (hbl x hx).lt, fun e => ?_⟩⟩
  have := (hbl x hx).lt
  omega
theorem St.below (h : St w0 w g L bl) (hb : Below w.heap.size w w') : St w0 w' g L bl := by
  obtain ⟨P, h1, h2, h3, h4, h5, h6⟩ := h
  exact ⟨P, h1.below hb, fun b e => Nat.lt_of_lt_of_le (h2 b e) hb.size, h3, h4.trans (hb.mono h4.size), h5.next hb, fun x hx => ⟨(h6 x hx).1.below hb (h6 x hx).1.lt, (h6 x hx).2⟩⟩
theorem St.alloc (h : St w0 w g L bl) (cs : Array Value) (t : TypeId) : St w0 (w.alloc (.cells cs t)) g L ((w.heap.size, t, cs) :: bl) := by
  obtain ⟨P, h1, h2, h3, h4, h5, h6⟩ := h.below ((Below.refl w.heap.size w).alloc (Nat.le_refl _) (.cells cs t))
  obtain ⟨P0, g1, g2, g3, g4, g5, g6⟩ := h
  have hb : Below w.heap.size w (w.alloc (.cells cs t)) := (Below.refl w.heap.size w).alloc (Nat.le_refl _) (.cells cs t)
  refine ⟨P0, g1.below hb, fun b e => Nat.lt_of_lt_of_le (g2 b e) hb.size, g3, h4, h5, fun x hx => ?_⟩
  rcases List.mem_cons.1 hx with rfl | hx
  · exact ⟨Blk.new w t cs, fun e => by have := g2 _ e; exact absurd this (Nat.lt_irrefl _)⟩
  · exact ⟨(g6 x hx).1.below hb (g6 x hx).1.lt, (g6 x hx).2⟩
theorem St.alloc' (h : St w0 w g L bl) (cs : Array Value) (t : TypeId) {a : Nat} (ha : a = w.heap.size) : St w0 (w.alloc (.cells cs t)) g L ((a, t, cs) :: bl) := by
  subst ha
  exact h.alloc cs t
theorem St.at_ (h : St w0 w g L bl) {a : Nat} {t : TypeId} {cs : Array Value} (hm : (a, t, cs) ∈ bl) : Blk w a t cs := by
  obtain ⟨P, h1, h2, h3, h4, h5, h6⟩ := h
  exact (h6 _ hm).1
theorem St.top {a : Nat} {t : TypeId} {cs : Array Value} (h : St w0 w g L ((a, t, cs) :: bl)) : Blk w a t cs := h.at_ (List.mem_cons_self ..)
theorem St.less {bl' : List (Nat × TypeId × Array Value)} (h : St w0 w g L bl) (hs : ∀ x ∈ bl', x ∈ bl) : St w0 w g L bl' := by
  obtain ⟨P, h1, h2, h3, h4, h5, h6⟩ := h
  exact ⟨P, h1, h2, h3, h4, h5, fun x hx => h6 x (hs x hx)⟩
theorem St.fin (h : St w0 w g L bl) : Below w0.heap.size w0 w := h.choose_spec.2.2.2.1
theorem St.turned {P : Nat → Prop} (h1 : ArIn w P g L) (h2 : ∀ b, P b → b < w.heap.size) (h3 : ∀ b, P b → w0.heap.size ≤ b) (h4 : Below w0.heap.size w0 w) (h5 : Vars w) (h6 : ∀ x ∈ bl, Blk w x.1 x.2.1 x.2.2 ∧ ¬ P x.1) (ha : ArIn w' (grow P w w') g L') (ht : Turns P w w') : St w0 w' g L' bl := by
  have hs := ht.size
  have hs0 := h4.size
  refine ⟨grow P w w', ha, ?_, ?_, ?_, h5.turn ht (fun e => by have := h1.low.1 0 e; omega), fun x hx => ⟨ht.blk (h6 x hx).1 (h6 x hx).2, ?_⟩⟩
  · rintro b (hb | hb)
    · have := h2 b hb; omega
    · exact hb.2
  · rintro b (hb | hb)
    · exact h3 b hb
    · omega
  · exact h4.trans (ht.below hs0 h3)
  · rintro (hb | hb)
    · exact (h6 x hx).2 hb
    · have := (h6 x hx).1.lt
      omega
theorem St.few (h : St w0 w g L bl) : 0 < w.heap.size := by
  obtain ⟨P, h1, h2, h3, h4, h5, h6⟩ := h
  exact h1.low.2.1
/-- A node that has no lists is made. -/
theorem St.make (h : St w0 w g L bl) (hl : Few L 100000) (lf : Bool) : Calls Tryd.prog 24 #[.pointer (some ⟨g, 0, none⟩), .agg #[.bool lf, .slice none 0 0, .slice none 0 0, .slice none 0 0]] w fun e w' => e = .returned (.agg #[.int .i64 (Ar.lo L : Int), .int .i64 (Ar.next L : Int)]) ∧ St w0 w' g (Ar.make L ⟨lf, [], [], []⟩) bl := by
  obtain ⟨P, h1, h2, h3, h4, h5, h6⟩ := h
  refine (arMake_any w P (fun _ => False) g L h1 NdV.blank ⟨lf, [], [], []⟩ ⟨Cells.nil _ _ _ _, Cells.nil _ _ _ _, Cells.nil _ _ _ _, by decide, by decide, by decide⟩ (fun _ e => e.elim) hl h5).mono ?_
  rintro e w' ⟨rfl, ha, ht⟩
  exact ⟨rfl, St.turned h1 h2 h3 h4 h5 h6 ha ht⟩
/-- One handle is freed. -/
theorem St.free (h : St w0 w g L bl) (hl : Few L 100000) (a : Nat) (x1 x2 : Int) (hm : (a, 42, #[Value.int .i64 x1, Value.int .i64 x2]) ∈ bl) (hh : Ar.has L (x1, x2) = true) : Calls Tryd.prog 23 #[.pointer (some ⟨g, 0, none⟩), .slice (some ⟨a, 0, none⟩) 1 1] w fun e w' => e = .returned (.int .i64 0) ∧ St w0 w' g (Ar.free1 L (x1, x2)) bl := by
  obtain ⟨P, h1, h2, h3, h4, h5, h6⟩ := h
  have hb := h6 _ hm
  have hc : Cells w (fun b => b = a) (some ⟨a, 0, none⟩) 1 2 (hanL [(x1, x2)]) := Cells.of_blk hb.1 rfl rfl rfl
  refine (arFree_any w P (fun b => b = a) g L h1 hl _ 1 1 [(x1, x2)] hc (by omega) (fun b e => by subst e; exact hb.2)).mono ?_
  rintro e w' (⟨_, rfl, ha, ht⟩ | ⟨hn, _⟩)
  · exact ⟨rfl, St.turned h1 h2 h3 h4 h5 h6 ha ht⟩
  · rw [List.all_cons, hh] at hn
    simp at hn
/-- .. that tells none. -/
theorem St.freeNo (h : St w0 w g L bl) (hl : Few L 100000) (a : Nat) (x1 x2 : Int) (hm : (a, 42, #[Value.int .i64 x1, Value.int .i64 x2]) ∈ bl) (hh : Ar.has L (x1, x2) = false) : Calls Tryd.prog 23 #[.pointer (some ⟨g, 0, none⟩), .slice (some ⟨a, 0, none⟩) 1 1] w fun e w' => e = .returned (.int .i64 110) ∧ St w0 w' g L bl := by
  obtain ⟨P, h1, h2, h3, h4, h5, h6⟩ := id h
  have hb := h6 _ hm
  have hc : Cells w (fun b => b = a) (some ⟨a, 0, none⟩) 1 2 (hanL [(x1, x2)]) := Cells.of_blk hb.1 rfl rfl rfl
  refine (arFree_any w P (fun b => b = a) g L h1 hl _ 1 1 [(x1, x2)] hc (by omega) (fun b e => by subst e; exact hb.2)).mono ?_
  rintro e w' (⟨hn, _⟩ | ⟨_, rfl, hbel⟩)
  · rw [List.all_cons, hh] at hn
    simp at hn
  · exact ⟨rfl, h.below hbel⟩
theorem St.has_ (h : St w0 w g L bl) (hl : L.length ≤ 1000000) (x1 x2 : Int) : Calls Tryd.prog 18 #[.pointer (some ⟨g, 0, none⟩), .agg #[.int .i64 x1, .int .i64 x2]] w fun e w' => e = .returned (.bool (Ar.has L (x1, x2))) ∧ St w0 w' g L bl := by
  obtain ⟨P, h1, h2, h3, h4, h5, h6⟩ := id h
  exact (arHas_any w P g L h1 hl x1 x2).mono fun e w' hp => ⟨hp.1, h.below hp.2⟩
theorem St.len_ (h : St w0 w g L bl) (hl : L.length ≤ 1000000) : Calls Tryd.prog 25 #[.pointer (some ⟨g, 0, none⟩)] w fun e w' => e = .returned (.tuple #[.int .i64 ((Ar.used L).length : Int), .int .i64 (L.length : Int)]) ∧ St w0 w' g L bl := by
  obtain ⟨P, h1, h2, h3, h4, h5, h6⟩ := id h
  exact (arLen_any w P g L h1 hl).mono fun e w' hp => ⟨hp.1, h.below hp.2⟩
theorem St.get_ (h : St w0 w g L bl) (hl : L.length ≤ 1000000) (x1 x2 : Int) : Calls Tryd.prog 13 #[.pointer (some ⟨g, 0, none⟩), .agg #[.int .i64 x1, .int .i64 x2]] w fun e w' => St w0 w' g L bl ∧ GetP w L (x1, x2) e w' := by
  obtain ⟨P, h1, h2, h3, h4, h5, h6⟩ := id h
  refine (arGet_any w P g L h1 hl x1 x2).mono fun e w' hp => ⟨?_, hp⟩
  obtain ⟨v, d, r, _, _, hb, _⟩ := hp
  exact h.below hb
end
theorem Few.mono {L : List Ar.Pl} {k m : Nat} (h : Few L k) (hk : k ≤ m) : Few L m := ⟨Nat.le_trans h.len hk, fun i p hp => Nat.le_trans (h.turn i p hp) hk⟩
theorem Few.nil : Few [] 0 := ⟨Nat.le_refl _, fun i p hp => by simp at hp⟩
theorem Few.make {L : List Ar.Pl} {k : Nat} (h : Few L k) (d : Ar.Nd) : Few (Ar.make L d) (k + 1) := by
  have hlo := Ar.lo_le L
  have hnx : Ar.next L ≤ k + 1 := by
    unfold Ar.next
    split
    · rename_i p hp
      have := h.turn _ p hp
      omega
    · omega
  refine ⟨?_, fun i p hp => ?_⟩
  · show (Ar.put L (Ar.lo L) _).length ≤ _
    rw [Ar.put_length]
    have := h.len
    split <;> omega
  · by_cases e : i = Ar.lo L
    · subst e
      have h1 : (Ar.make L d)[Ar.lo L]? = some ⟨true, Ar.next L, d⟩ := Ar.put_at L _ _ hlo
      rw [h1] at hp
      cases hp
      exact hnx
    · have h1 : (Ar.make L d)[i]? = L[i]? := Ar.put_other L _ i _ e
      rw [h1] at hp
      have := h.turn i p hp
      omega
end Go.Proofs.YtgpcpjjdneimfaaDoor
