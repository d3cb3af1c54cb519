/- A range over an iterator that writes new blocks alone, and names what a round must keep: the statement's law, for such a one. -/
import Derived.RangeFuncNested
import Derived.RangeFuncBound
import Derived.RangeFuncCalls
import Derived.RangeFuncLeaves
import Derived.Shelf.Abstract
import Derived.Shelf.RegionOpen
import Derived.WalkKit
import Derived.OwnWalkIn
import Derived.TacticsInMore
import Derived.LoopNIn
import Derived.LoopIn
import Derived.Test.YteegnehfagkjcaaTurns
namespace Go.Proofs.Yteegnehfagkjcaa
open Go.ChangeShapes Go.WideShapes Go.ChangeAt Go.RowKit
namespace Rg

/-- What a round keeps for the loop: its two blocks; what the iterator asks for besides. -/
def Kept (T : Nat) (Kp : World → World → Prop) (V V' : World) : Prop := V.heap.size ≤ V'.heap.size ∧ (∀ r, T ≤ r → r < T + 2 → V'.heap[r]? = V.heap[r]?) ∧ Kp V V'
theorem Kept.trans {T : Nat} {Kp : World → World → Prop} {U V W : World} (hK : ∀ A B C, Kp A B → Kp B C → Kp A C) (h : Kept T Kp U V) (h' : Kept T Kp V W) : Kept T Kp U W := ⟨Nat.le_trans h.1 h'.1, fun r h1 h2 => (h'.2.1 r h1 h2).trans (h.2.1 r h1 h2), hK _ _ _ h.2.2 h'.2.2⟩
/-- What abides the loop's own two blocks, and new ones. -/
structure Abides (T : Nat) (I : World → Prop) : Prop where
  two : ∀ V V' r, I V → V.grownBy V' (some r) → T ≤ r → r < T + 2 → I V'
  new : ∀ V V', I V → Below V.heap.size V V' → I V'

/-- The iterator's contract: N values come, the k-th such that it is Ready; what lay in U lies when it comes. -/
def Gives {α : Type} (P : Program) (m gf : Nat) (lb : Array Value) (encs : Nat → α → Array Value) (T : Nat) (Kp : World → World → Prop) (Ready : Nat → α → World → Prop) (N : Nat) (w : World) : Prop :=
  ∀ (l : Nat) (J Jx : Nat → World → Prop) (V : World), V.heap.size = T + 2 → Below T w V → (∀ k U U', J k U → Below U.heap.size U U' → J k U') → (∀ k U U', Jx k U → Below U.heap.size U U' → Jx k U') →
    (∀ m k x U, k < N → J k U → Ready k x U → YieldAt Fence.wide m P l (encs k x) U fun e U' =>
      (e = .returned (.bool true) ∧ J (k + 1) U' ∧ Kp U U' ∧ U.heap.size ≤ U'.heap.size) ∨ (e = .returned (.bool false) ∧ Jx k U')) →
    J 0 V → CallsIn Fence.wide m P gf (#[.func (.yield l) #[] #[]] ++ lb) V fun e V' => (∃ v, e = .returned v) ∧ (J N V' ∨ ∃ k, k < N ∧ Jx k V')

/-- How a round's body may be left. -/
def Out (T : Nat) (Kp : World → World → Prop) (I : World → Prop) (Ix : Code → World → Prop) (V : World) : Exit → Act → World → Prop
  | .normal, _, V' => Kept T Kp V V' ∧ I V'
  | .ret, _, V' => Kept T (fun _ _ => True) V V' ∧ Ix .ret V'
  | .exit id, _, V' => Kept T (fun _ _ => True) V V' ∧ Ix (.exit id) V'
  | .goto t, _, V' => Kept T (fun _ _ => True) V V' ∧ Ix (.goto t) V'
  | .panic _, _, _ => False
  | .outgrown, _, _ => False

theorem Kept.less {T : Nat} {Kp : World → World → Prop} {V V' : World} (h : Kept T Kp V V') : Kept T (fun _ _ => True) V V' := ⟨h.1, h.2.1, trivial⟩

theorem wp_range {α : Type} {P : Program} {n : Nat} {g : Operand} {ps : Array Tmp} {assign body : Code} {Q : Exit → Act → World → Prop} {a : Act} {w : World}
    {gf : Nat} {lb : Array Value} (hg : a.eval g = .func (.func gf) #[] lb) (eg : ∀ args w, (callFunc gf args).run P w = .ok (.enter gf args) w)
    {encs : Nat → α → Array Value} {T : Nat} {Kp : World → World → Prop} {Ready : Nat → α → World → Prop} {N : Nat} (hT : w.heap.size = T) (hKt : ∀ A B C, Kp A B → Kp B C → Kp A C) (hKb : ∀ V r o, T ≤ r → r < T + 2 → Kp V (V.putObj r o)) (hseq : Gives P (n - 1) gf lb encs T Kp Ready N w) (hps : ∀ k x, (encs k x).size = ps.size)
    (I : Nat → World → Prop) (Ix : Code → Nat → World → Prop) (hI : ∀ k, Abides T (I k)) (hIx : ∀ c k, Abides T (Ix c k)) (h0 : I 0 w) (Ax : Nat → α → Act → World → Prop) (hAx : ∀ k x a', Abides T (Ax k x a'))
    (hassign : ∀ m l k x (V : World) (C : Act → World → Prop), k < N → I k V → Ready k x V → T + 2 ≤ V.heap.size → (∀ a' V', Kept T Kp V V' → Ax k x a' V' → C a' V') →
      assign.wpIn (Fence.wide.inRound l) m P (Exit.then C (fun _ _ _ => False)) { tmps := (ps.zip (encs k x)).foldl (fun t (p, v) => t.setIfInBounds p v) a.tmps, defers := [] } V)
    (hbody : ∀ m l k x a' (V : World), k < N → Ax k x a' V → T + 2 ≤ V.heap.size → body.wpIn (Fence.wide.inRound l) m P (Out T Kp (I (k + 1)) (fun c => Ix c k) V) a' V)
    (hdone : ∀ V, I N V → V.heap[T]? = some (.deferred (some [])) → Q .normal { a with defers := { target := .collected T, args := #[] } :: a.defers } V)
    (hstop : ∀ c k V, k < N → Ix c k V → V.heap[T]? = some (.deferred (some [])) → c.wpIn Fence.wide n P Q { a with defers := { target := .collected T, args := #[] } :: a.defers } V) :
    (Code.rangeFunc g ps assign body).wpIn Fence.wide n P Q a w := by
  subst hT
  refine wpIn_rangeFunc fun fn hfn => ?_
  rw [show Fence.wide.round = none from rfl]
  obtain ⟨rec, hrec⟩ : ∃ rec : LoopState → Option Code → Loop, rec = fun st pe => { state := st, pending := pe, fn, tmps := a.tmps, params := ps, assign, body, defers := w.heap.size } := ⟨_, rfl⟩
  obtain ⟨V1, hV1⟩ : ∃ V1, (w.alloc (.deferred (some []))).alloc (.loop (rec .ready none)) = V1 := ⟨_, rfl⟩
  have hl1 : V1.heap[w.heap.size + 1]? = some (.loop (rec .ready none)) := by
    rw [← hV1]
    have h := World.alloc_heap_new (w.alloc (.deferred (some []))) (.loop (rec .ready none))
    rwa [World.size_alloc] at h
  have hd1 : V1.heap[w.heap.size]? = some (.deferred (some [])) := by
    rw [← hV1]
    exact (Below.heap_alloc _ _ _ (by simp)).trans (World.alloc_heap_new w _)
  have hs1 : V1.heap.size = w.heap.size + 2 := by rw [← hV1]; simp
  have hb1 : Below w.heap.size w V1 := by rw [← hV1]; exact ((Below.refl _ w).alloc (Nat.le_refl _) _).alloc (by simp) _
  have hi1 : I 0 V1 := by
    rw [← hV1]
    have g1 := (hI 0).two w _ w.heap.size h0 (World.grownBy_alloc w (.deferred (some [])) _) (Nat.le_refl _) (by omega)
    exact (hI 0).two _ _ (w.heap.size + 1) g1 (World.grownBy_alloc _ (.loop (rec .ready none)) _) (by omega) (by omega)
  -- the record's block, turned
  have turn : ∀ {V : World} {o : Obj} (o' : Obj), V.heap[w.heap.size + 1]? = some o → V.grownBy (V.putObj (w.heap.size + 1) o') (some (w.heap.size + 1)) := fun {V o} o' _ => grownBy_putObj' V _ o'
  refine ⟨w.heap.size + 1, [{ target := .collected w.heap.size, args := #[] }], V1, { target := .fn (.func gf) lb, args := #[.func (.yield (w.heap.size + 1)) #[] #[]] }, V1, gf,
    #[.func (.yield (w.heap.size + 1)) #[] #[]] ++ lb, V1, ?_, ?_, fun _ _ => trivial, ?_, fun h => by simp [Fence.wide] at h, ?_⟩
  · rw [← hV1, hrec]; exact run_enterLoop_outer _ _ _ _ _
  · simp only [resolve, hg]
    simp [go_sem]
  · simp [invoke, go_sem, eg]
  · refine (hseq (w.heap.size + 1)
      (fun k V => I k V ∧ V.heap[w.heap.size + 1]? = some (.loop (rec .ready none)) ∧ V.heap[w.heap.size]? = some (.deferred (some [])))
      (fun k V => ∃ c, Ix c k V ∧ V.heap[w.heap.size + 1]? = some (.loop (rec .done (some c))) ∧ V.heap[w.heap.size]? = some (.deferred (some [])))
      V1 hs1 hb1
      (fun k U U' hj hb => ⟨(hI k).new U U' hj.1 hb, (hb.block _ (Array.getElem?_eq_some_iff.1 hj.2.1).1).trans hj.2.1, (hb.block _ (Array.getElem?_eq_some_iff.1 hj.2.2).1).trans hj.2.2⟩)
      (fun k U U' ⟨c, hc, h1, h2⟩ hb => ⟨c, (hIx c k).new U U' hc hb, (hb.block _ (Array.getElem?_eq_some_iff.1 h1).1).trans h1, (hb.block _ (Array.getElem?_eq_some_iff.1 h2).1).trans h2⟩)
      ?_ ⟨hi1, hl1, hd1⟩).mono ?_
    · rintro m k x U hk ⟨hi, hl, hd⟩ hr
      have hz : w.heap.size + 2 ≤ U.heap.size := (Array.getElem?_eq_some_iff.1 hl).1
      have hy := run_yield (P := P) (args := encs k x) hl (by rw [hrec]; exact hps k x)
      rw [hrec] at hy
      refine ⟨fn, _, assign, body, hy, roundIn_of_wpIn hfn (hassign m _ k x U _ hk hi hr hz ?_)⟩
      clear hy
      intro a' Ua hka hax
      have hla : Ua.heap[w.heap.size + 1]? = some (.loop (rec .ready none)) := (hka.2.1 _ (by omega) (by omega)).trans hl
      have hda : Ua.heap[w.heap.size]? = some (.deferred (some [])) := (hka.2.1 _ (by omega) (by omega)).trans hd
      have hlt : w.heap.size + 1 < Ua.heap.size := (Array.getElem?_eq_some_iff.1 hla).1
      refine ⟨_, run_beginRound hla (by rw [hrec]), ?_⟩
      obtain ⟨U2, hU2⟩ : ∃ U2, Ua.putObj (w.heap.size + 1) (.loop { rec .ready none with state := .busy }) = U2 := ⟨_, rfl⟩
      have hl2 : U2.heap[w.heap.size + 1]? = some (.loop { rec .ready none with state := .busy }) := by rw [← hU2]; exact World.putObj_heap_same hlt
      have ho2 : ∀ r, r ≠ w.heap.size + 1 → U2.heap[r]? = Ua.heap[r]? := fun r h => by rw [← hU2]; exact World.putObj_heap_other h
      have hz2 : U2.heap.size = Ua.heap.size := by rw [← hU2]; simp
      have hax2 : Ax k x a' U2 := by rw [← hU2]; exact (hAx k x a').two Ua _ _ hax (turn _ hla) (by omega) (by omega)
      rw [hU2]
      refine wpIn_mono (hbody m _ k x a' U2 hk hax2 (by rw [hz2]; exact Nat.le_trans hz hka.1)) ?_
      have fin : ∀ (jump : Option Code) (U3 : World), Kept w.heap.size (fun _ _ => True) U2 U3 →
          (Instr.endRound (w.heap.size + 1) jump).run P U3 = .ok (.bool jump.isNone) (U3.putObj (w.heap.size + 1) (.loop (rec (if jump.isNone then .ready else .done) jump))) ∧
          U3.heap[w.heap.size + 1]? = some (.loop { rec .ready none with state := .busy }) ∧
          (U3.putObj (w.heap.size + 1) (.loop (rec (if jump.isNone then .ready else .done) jump))).heap[w.heap.size + 1]? = some (.loop (rec (if jump.isNone then .ready else .done) jump)) ∧
          (U3.putObj (w.heap.size + 1) (.loop (rec (if jump.isNone then .ready else .done) jump))).heap[w.heap.size]? = some (.deferred (some [])) := fun jump U3 hk3 => by
        have hl3 := (hk3.2.1 (w.heap.size + 1) (by omega) (by omega)).trans hl2
        have hd3 := ((hk3.2.1 w.heap.size (by omega) (by omega)).trans (ho2 _ (by omega))).trans hda
        have he := run_endRound (P := P) jump hl3
        refine ⟨?_, hl3, World.putObj_heap_same (Array.getElem?_eq_some_iff.1 hl3).1, (World.putObj_heap_other (by omega)).trans hd3⟩
        rw [hrec] at he ⊢
        exact he
      rintro e a3 U3 hp
      cases e with
      | normal =>
        obtain ⟨hk3, hi3⟩ := hp
        obtain ⟨hr3, hl3, hl4, hd4⟩ := fin none U3 hk3.less
        refine ⟨_, _, hr3, .inl ⟨rfl, ⟨(hI (k + 1)).two U3 _ _ hi3 (turn _ hl3) (by omega) (by omega), hl4, hd4⟩, ?_, ?_⟩⟩
        · refine hKt _ _ _ hka.2.2 (hKt _ _ _ ?_ (hKt _ _ _ hk3.2.2 (hKb _ _ _ (by omega) (by omega))))
          rw [← hU2]
          exact hKb _ _ _ (by omega) (by omega)
        · have := hka.1
          have := hk3.1
          simp
          omega
      | ret =>
        obtain ⟨hk3, hi3⟩ := hp
        obtain ⟨hr3, hl3, hl4, hd4⟩ := fin (some .ret) U3 hk3
        exact ⟨_, _, hr3, .inr ⟨rfl, .ret, (hIx _ k).two U3 _ _ hi3 (turn _ hl3) (by omega) (by omega), hl4, hd4⟩⟩
      | exit id =>
        obtain ⟨hk3, hi3⟩ := hp
        obtain ⟨hr3, hl3, hl4, hd4⟩ := fin (some (.exit id)) U3 hk3
        exact ⟨_, _, hr3, .inr ⟨rfl, .exit id, (hIx _ k).two U3 _ _ hi3 (turn _ hl3) (by omega) (by omega), hl4, hd4⟩⟩
      | goto t =>
        obtain ⟨hk3, hi3⟩ := hp
        obtain ⟨hr3, hl3, hl4, hd4⟩ := fin (some (.goto t)) U3 hk3
        exact ⟨_, _, hr3, .inr ⟨rfl, .goto t, (hIx _ k).two U3 _ _ hi3 (turn _ hl3) (by omega) (by omega), hl4, hd4⟩⟩
      | panic ch => exact hp.elim
      | outgrown => exact hp.elim
    · rintro e U2 ⟨⟨v, rfl⟩, (⟨hi, hl, hd⟩ | ⟨k, hk, c, hi, hl, hd⟩)⟩
      · refine ⟨none, U2.putObj (w.heap.size + 1) (.loop { rec .ready none with state := .exhausted }), ?_, hdone _ ((hI N).two U2 _ _ hi (turn _ hl) (by omega) (by omega)) ((World.putObj_heap_other (by omega)).trans hd)⟩
        have he := run_endLoop (P := P) hl (by rw [hrec]; simp)
        rw [hrec] at he ⊢
        exact he
      · refine ⟨some c, U2.putObj (w.heap.size + 1) (.loop { rec .done (some c) with state := .exhausted }), ?_, hstop c k _ hk ((hIx c k).two U2 _ _ hi (turn _ hl) (by omega) (by omega)) ((World.putObj_heap_other (by omega)).trans hd)⟩
        have he := run_endLoop (P := P) hl (by rw [hrec]; simp)
        rw [hrec] at he ⊢
        exact he
end Rg
end Go.Proofs.Yteegnehfagkjcaa
