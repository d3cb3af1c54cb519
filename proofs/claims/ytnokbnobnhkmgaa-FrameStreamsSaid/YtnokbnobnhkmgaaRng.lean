/- A range over an iterator that keeps a table of its own in cells, and hands over memory that it made: the statement's law, for such a one. -/
import Derived.RangeFuncNested
import Derived.RangeFuncBound
import Derived.RangeFuncCalls
import Derived.RangeFuncLeaves
import Derived.Shelf.Abstract
import Derived.Shelf.RegionOpen
import Derived.WalkKit
import Derived.OwnWalkIn
import Derived.TacticsInMore
import Derived.LoopNIn
import Derived.LoopIn
import Derived.Test.YtnokbnobnhkmgaaMem
namespace Go.Proofs.Ytnokbnobnhkmgaa
open Go.ChangeShapes Go.WideShapes Go.ChangeAt Go.RowKit
namespace Rng

/-- What stays from V to V': the three blocks from T on, and the blocks of K. -/
def Kept (T : Nat) (K : Nat → Prop) (V V' : World) : Prop := V.heap.size ≤ V'.heap.size ∧ ∀ r, (T ≤ r ∧ r < T + 3) ∨ K r → V'.heap[r]? = V.heap[r]?
theorem Kept.refl (T : Nat) (K : Nat → Prop) (V : World) : Kept T K V V := ⟨Nat.le_refl _, fun _ _ => rfl⟩
theorem Kept.trans {T : Nat} {K : Nat → Prop} {U V W : World} (h : Kept T K U V) (h' : Kept T K V W) : Kept T K U W := ⟨Nat.le_trans h.1 h'.1, fun r hr => (h'.2 r hr).trans (h.2 r hr)⟩
/-- What abides the loop's and the iterator's own three blocks. -/
def Abides (T : Nat) (I : World → Prop) : Prop := ∀ V V' r, I V → V.grownBy V' (some r) → T ≤ r → r < T + 3 → I V'
theorem Abides.and {T : Nat} {I I' : World → Prop} (h : Abides T I) (h' : Abides T I') : Abides T fun V => I V ∧ I' V := fun V V' r hi hg h1 h2 => ⟨h V V' r hi.1 hg h1 h2, h' V V' r hi.2 hg h1 h2⟩
theorem abides_below {T B : Nat} {w : World} (hB : B ≤ w.heap.size) (hT : B ≤ T) : Abides T fun V => Below B w V := fun V V' r hi hg h1 _ => hi.grown hg (Nat.le_trans hB hi.size) (fun k e => by injection e with e; omega)
theorem abides_own {T b e s n : Nat} {v : Value} {xs : List Value} (hT : T + 3 ≤ b) : Abides T fun V => V.ownsRow b e s v n xs := fun V V' r hi hg h1 h2 =>
  hi.kept hg (by
    rcases hv : v.ownBlock with _ | k
    · exact .inl rfl
    · exact .inr (fun e => by injection e with e; subst e; have := (hi.lt k hv).1; omega))
theorem abides_blk {T g : Nat} {t : TypeId} {cs : Array Value} (hT : g < T ∨ T + 3 ≤ g) : Abides T fun V => Blk V g t cs := fun V V' r hi hg h1 h2 =>
  (hg.block g hi.lt (fun e => by injection e with e; omega)).trans hi
theorem abides_pure (T : Nat) (p : Prop) : Abides T fun _ => p := fun _ _ _ hi _ _ _ => hi
theorem abides_size {T k : Nat} : Abides T fun V => k ≤ V.heap.size := fun _ _ _ hi hg _ _ => Nat.le_trans hi hg.size

/-- The iterator's contract: N values come, the k-th such that it is Ready; the rounds keep what it reads. T: the first of the three blocks (the block for the rounds' deferred calls, the loop's record, the iterator's table). -/
def Gives {α : Type} (P : Program) (m gf : Nat) (lb : Array Value) (encs : Nat → α → Array Value) (T : Nat) (K : Nat → Prop) (Ready : Nat → α → World → Prop) (N : Nat) (w : World) : Prop :=
  ∀ (l : Nat) (J Jx : Nat → World → Prop) (V : World), V.heap.size = T + 2 → Below T w V → (∀ k U U', J k U → U.grownBy U' (some (T + 2)) → J k U') →
    (∀ k x U, k < N → J k U → Ready k x U → T + 3 ≤ U.heap.size → YieldAt Fence.wide (m - 1) P l (encs k x) U fun e U' =>
      (e = .returned (.bool true) ∧ J (k + 1) U' ∧ Kept T K U U') ∨ (e = .returned (.bool false) ∧ Jx k U')) →
    J 0 V → CallsIn Fence.wide m P gf (#[.func (.yield l) #[] #[]] ++ lb) V fun e V' => (∃ v, e = .returned v) ∧ (J N V' ∨ ∃ k, k < N ∧ Jx k V')

/-- How a round's body may be left. -/
def Out (T : Nat) (K : Nat → Prop) (I : World → Prop) (Ix : Code → World → Prop) (V : World) : Exit → Act → World → Prop
  | .normal, _, V' => Kept T K V V' ∧ I V'
  | .ret, _, V' => Kept T (fun _ => False) V V' ∧ Ix .ret V'
  | .exit id, _, V' => Kept T (fun _ => False) V V' ∧ Ix (.exit id) V'
  | .goto t, _, V' => Kept T (fun _ => False) V V' ∧ Ix (.goto t) V'
  | .panic _, _, _ => False
  | .outgrown, _, _ => False

theorem Kept.less {T : Nat} {K K' : Nat → Prop} {V V' : World} (h : Kept T K V V') (hk : ∀ r, K' r → K r) : Kept T K' V V' := ⟨h.1, fun r hr => h.2 r (hr.imp id (hk r))⟩

theorem wp_range {α : Type} {P : Program} {n : Nat} {g : Operand} {ps : Array Tmp} {assign body : Code} {Q : Exit → Act → World → Prop} {a : Act} {w : World}
    {gf : Nat} {lb : Array Value} (hg : a.eval g = .func (.func gf) #[] lb) (eg : ∀ args w, (callFunc gf args).run P w = .ok (.enter gf args) w)
    {encs : Nat → α → Array Value} {T : Nat} {K : Nat → Prop} {Ready : Nat → α → World → Prop} {N : Nat} (hT : w.heap.size = T) (hK : ∀ r, K r → r < T) (hseq : Gives P (n - 1) gf lb encs T K Ready N w) (hps : ∀ k x, (encs k x).size = ps.size)
    (I : Nat → World → Prop) (Ix : Code → Nat → World → Prop) (hI : ∀ k, Abides T (I k)) (hIx : ∀ c k, Abides T (Ix c k)) (h0 : I 0 w) (Ax : Nat → α → Act → World → Prop) (hAx : ∀ k x a', Abides T (Ax k x a'))
    (hassign : ∀ l k x (V : World) (C : Act → World → Prop), k < N → I k V → Ready k x V → T + 3 ≤ V.heap.size → (∀ a' V', Kept T K V V' → Ax k x a' V' → C a' V') →
      assign.wpIn (Fence.wide.inRound l) (n - 1 - 1) P (Exit.then C (fun _ _ _ => False)) { tmps := (ps.zip (encs k x)).foldl (fun t (p, v) => t.setIfInBounds p v) a.tmps, defers := [] } V)
    (hbody : ∀ l k x a' (V : World), k < N → Ax k x a' V → T + 3 ≤ V.heap.size → body.wpIn (Fence.wide.inRound l) (n - 1 - 1) P (Out T K (I (k + 1)) (fun c => Ix c k) V) a' V)
    (hdone : ∀ V, I N V → V.heap[T]? = some (.deferred (some [])) → Q .normal { a with defers := { target := .collected T, args := #[] } :: a.defers } V)
    (hstop : ∀ c k V, k < N → Ix c k V → V.heap[T]? = some (.deferred (some [])) → c.wpIn Fence.wide n P Q { a with defers := { target := .collected T, args := #[] } :: a.defers } V) :
    (Code.rangeFunc g ps assign body).wpIn Fence.wide n P Q a w := by
  subst hT
  refine wpIn_rangeFunc fun fn hfn => ?_
  rw [show Fence.wide.round = none from rfl]
  obtain ⟨rec, hrec⟩ : ∃ rec : LoopState → Option Code → Loop, rec = fun st pe => { state := st, pending := pe, fn, tmps := a.tmps, params := ps, assign, body, defers := w.heap.size } := ⟨_, rfl⟩
  obtain ⟨V1, hV1⟩ : ∃ V1, (w.alloc (.deferred (some []))).alloc (.loop (rec .ready none)) = V1 := ⟨_, rfl⟩
  have hl1 : V1.heap[w.heap.size + 1]? = some (.loop (rec .ready none)) := by
    rw [← hV1]
    have h := World.alloc_heap_new (w.alloc (.deferred (some []))) (.loop (rec .ready none))
    rwa [World.size_alloc] at h
  have hd1 : V1.heap[w.heap.size]? = some (.deferred (some [])) := by
    rw [← hV1]
    exact (Below.heap_alloc _ _ _ (by simp)).trans (World.alloc_heap_new w _)
  have hs1 : V1.heap.size = w.heap.size + 2 := by rw [← hV1]; simp
  have hb1 : Below w.heap.size w V1 := by rw [← hV1]; exact ((Below.refl _ w).alloc (Nat.le_refl _) _).alloc (by simp) _
  have hi1 : I 0 V1 := by
    rw [← hV1]
    have g1 := hI 0 w _ w.heap.size h0 (World.grownBy_alloc w (.deferred (some [])) _) (Nat.le_refl _) (by omega)
    exact hI 0 _ _ (w.heap.size + 1) g1 (World.grownBy_alloc _ (.loop (rec .ready none)) _) (by omega) (by omega)
  -- the record's block, turned
  have turn : ∀ {V : World} {o : Obj} (o' : Obj), V.heap[w.heap.size + 1]? = some o → V.grownBy (V.putObj (w.heap.size + 1) o') (some (w.heap.size + 1)) := fun {V o} o' _ => grownBy_putObj' V _ o'
  refine ⟨w.heap.size + 1, [{ target := .collected w.heap.size, args := #[] }], V1, { target := .fn (.func gf) lb, args := #[.func (.yield (w.heap.size + 1)) #[] #[]] }, V1, gf,
    #[.func (.yield (w.heap.size + 1)) #[] #[]] ++ lb, V1, ?_, ?_, fun _ _ => trivial, ?_, fun h => by simp [Fence.wide] at h, ?_⟩
  · rw [← hV1, hrec]; exact run_enterLoop_outer _ _ _ _ _
  · simp only [resolve, hg]
    simp [go_sem]
  · simp [invoke, go_sem, eg]
  · refine (hseq (w.heap.size + 1)
      (fun k V => I k V ∧ V.heap[w.heap.size + 1]? = some (.loop (rec .ready none)) ∧ V.heap[w.heap.size]? = some (.deferred (some [])))
      (fun k V => ∃ c, Ix c k V ∧ V.heap[w.heap.size + 1]? = some (.loop (rec .done (some c))) ∧ V.heap[w.heap.size]? = some (.deferred (some [])))
      V1 hs1 hb1
      (fun k U U' hj hgr => ⟨hI k U U' _ hj.1 hgr (by omega) (by omega),
        (hgr.block _ (Array.getElem?_eq_some_iff.1 hj.2.1).1 (fun e => by injection e with e; omega)).trans hj.2.1,
        (hgr.block _ (Array.getElem?_eq_some_iff.1 hj.2.2).1 (fun e => by injection e with e; omega)).trans hj.2.2⟩)
      ?_ ⟨hi1, hl1, hd1⟩).mono ?_
    · rintro k x U hk ⟨hi, hl, hd⟩ hr hz
      have hy := run_yield (P := P) (args := encs k x) hl (by rw [hrec]; exact hps k x)
      rw [hrec] at hy
      refine ⟨fn, _, assign, body, hy, roundIn_of_wpIn hfn (hassign _ k x U _ hk hi hr hz ?_)⟩
      clear hy
      intro a' Ua hka hax
      have hla : Ua.heap[w.heap.size + 1]? = some (.loop (rec .ready none)) := (hka.2 _ (.inl ⟨by omega, by omega⟩)).trans hl
      have hda : Ua.heap[w.heap.size]? = some (.deferred (some [])) := (hka.2 _ (.inl ⟨by omega, by omega⟩)).trans hd
      have hlt : w.heap.size + 1 < Ua.heap.size := (Array.getElem?_eq_some_iff.1 hla).1
      refine ⟨_, run_beginRound hla (by rw [hrec]), ?_⟩
      obtain ⟨U2, hU2⟩ : ∃ U2, Ua.putObj (w.heap.size + 1) (.loop { rec .ready none with state := .busy }) = U2 := ⟨_, rfl⟩
      have hl2 : U2.heap[w.heap.size + 1]? = some (.loop { rec .ready none with state := .busy }) := by rw [← hU2]; exact World.putObj_heap_same hlt
      have ho2 : ∀ r, r ≠ w.heap.size + 1 → U2.heap[r]? = Ua.heap[r]? := fun r h => by rw [← hU2]; exact World.putObj_heap_other h
      have hz2 : U2.heap.size = Ua.heap.size := by rw [← hU2]; simp
      have hax2 : Ax k x a' U2 := by rw [← hU2]; exact hAx k x a' Ua _ _ hax (turn _ hla) (by omega) (by omega)
      rw [hU2]
      refine wpIn_mono (hbody _ k x a' U2 hk hax2 (by rw [hz2]; exact Nat.le_trans hz hka.1)) ?_
      have fin : ∀ (jump : Option Code) (U3 : World), Kept w.heap.size (fun _ => False) U2 U3 →
          (Instr.endRound (w.heap.size + 1) jump).run P U3 = .ok (.bool jump.isNone) (U3.putObj (w.heap.size + 1) (.loop (rec (if jump.isNone then .ready else .done) jump))) ∧
          U3.heap[w.heap.size + 1]? = some (.loop { rec .ready none with state := .busy }) ∧
          (U3.putObj (w.heap.size + 1) (.loop (rec (if jump.isNone then .ready else .done) jump))).heap[w.heap.size + 1]? = some (.loop (rec (if jump.isNone then .ready else .done) jump)) ∧
          (U3.putObj (w.heap.size + 1) (.loop (rec (if jump.isNone then .ready else .done) jump))).heap[w.heap.size]? = some (.deferred (some [])) := fun jump U3 hk3 => by
        have hl3 := (hk3.2 (w.heap.size + 1) (.inl ⟨by omega, by omega⟩)).trans hl2
        have hd3 := ((hk3.2 w.heap.size (.inl ⟨by omega, by omega⟩)).trans (ho2 _ (by omega))).trans hda
        have he := run_endRound (P := P) jump hl3
        refine ⟨?_, hl3, World.putObj_heap_same (Array.getElem?_eq_some_iff.1 hl3).1, (World.putObj_heap_other (by omega)).trans hd3⟩
        rw [hrec] at he ⊢
        exact he
      rintro e a3 U3 hp
      cases e with
      | normal =>
        obtain ⟨hk3, hi3⟩ := hp
        obtain ⟨hr3, hl3, hl4, hd4⟩ := fin none U3 (hk3.less fun _ h => h.elim)
        refine ⟨_, _, hr3, .inl ⟨rfl, ⟨hI (k + 1) U3 _ _ hi3 (turn _ hl3) (by omega) (by omega), hl4, hd4⟩, ?_⟩⟩
        refine ⟨by have := hka.1; have := hk3.1; simp; omega, fun r hr => ?_⟩
        by_cases hrl : r = w.heap.size + 1
        · subst hrl
          rw [hl4, hl]; rfl
        · exact (((World.putObj_heap_other hrl).trans (hk3.2 r hr)).trans (ho2 r hrl)).trans (hka.2 r hr)
      | ret =>
        obtain ⟨hk3, hi3⟩ := hp
        obtain ⟨hr3, hl3, hl4, hd4⟩ := fin (some .ret) U3 hk3
        exact ⟨_, _, hr3, .inr ⟨rfl, .ret, hIx _ k U3 _ _ hi3 (turn _ hl3) (by omega) (by omega), hl4, hd4⟩⟩
      | exit id =>
        obtain ⟨hk3, hi3⟩ := hp
        obtain ⟨hr3, hl3, hl4, hd4⟩ := fin (some (.exit id)) U3 hk3
        exact ⟨_, _, hr3, .inr ⟨rfl, .exit id, hIx _ k U3 _ _ hi3 (turn _ hl3) (by omega) (by omega), hl4, hd4⟩⟩
      | goto t =>
        obtain ⟨hk3, hi3⟩ := hp
        obtain ⟨hr3, hl3, hl4, hd4⟩ := fin (some (.goto t)) U3 hk3
        exact ⟨_, _, hr3, .inr ⟨rfl, .goto t, hIx _ k U3 _ _ hi3 (turn _ hl3) (by omega) (by omega), hl4, hd4⟩⟩
      | panic ch => exact hp.elim
      | outgrown => exact hp.elim
    · rintro e U2 ⟨⟨v, rfl⟩, (⟨hi, hl, hd⟩ | ⟨k, hk, c, hi, hl, hd⟩)⟩
      · refine ⟨none, U2.putObj (w.heap.size + 1) (.loop { rec .ready none with state := .exhausted }), ?_, hdone _ (hI N U2 _ _ hi (turn _ hl) (by omega) (by omega)) ((World.putObj_heap_other (by omega)).trans hd)⟩
        have he := run_endLoop (P := P) hl (by rw [hrec]; simp)
        rw [hrec] at he ⊢
        exact he
      · refine ⟨some c, U2.putObj (w.heap.size + 1) (.loop { rec .done (some c) with state := .exhausted }), ?_, hstop c k _ hk (hIx c k U2 _ _ hi (turn _ hl) (by omega) (by omega)) ((World.putObj_heap_other (by omega)).trans hd)⟩
        have he := run_endLoop (P := P) hl (by rw [hrec]; simp)
        rw [hrec] at he ⊢
        exact he
end Rng
end Go.Proofs.Ytnokbnobnhkmgaa
