/- Stage 5's statements: what AggSorts leans on. -/
import Derived.Test.YtaahlepgmcgcfaaRefSo
import Derived.Test.YtaahlepgmcgcfaaAgW
namespace Go.Proofs.Ytaahlepgmcgcfaa
open Go.ChangeShapes Go.WideShapes Go.ChangeAt Go.RowKit

/-- A call's n rows, in memory. -/
def RowsQ (w : World) (n : Nat) (l : List Rw) (e : Ending) (w' : World) : Prop := ∃ (A : Option Addr) (c : Nat), e = .returned (.slice A n c) ∧ RowsIn w' w'.heap.size A n l ∧ Below w.heap.size w w'
theorem rowsP_q {T : TypeId} {w w' : World} {n : Nat} {l : List Rw} {e : Ending} (h : RowsP T w l e w') (hl : l.length = n) : RowsQ w n l e w' := by
  obtain ⟨A, c, rfl, ho, hb⟩ := h
  subst hl
  exact ⟨A, c, rfl, RowsIn.of_own ho, hb⟩
theorem rows_q (n c B : Nat) (A : Option Addr) (l : List Rw) (w : World) (h : RowsIn w B A n l) (hB : B ≤ w.heap.size) (hn : n ≤ 1000) : Calls Try.prog 8 #[.slice A n c] w (RowsQ w n l) :=
  (rows_any n c B A l w h hB hn).mono fun _ _ hp => rowsP_q hp h.1
theorem refSort_q (second : Bool) (n c B : Nat) (A : Option Addr) (l : List Rw) (w : World) (h : RowsIn w B A n l) (hB : B ≤ w.heap.size) (hn : n ≤ 1000) : Calls Try.prog 11 #[.bool second, .slice A n c] w (RowsQ w n (srt (rord second) l n)) :=
  (refSort_any second n c B A l w h hB hn).mono fun _ _ hp => rowsP_q hp (srt_len _ _ _)
theorem drew_below {w w' : World} (h : Drew w w') : Below w.heap.size w w' := by
  obtain ⟨m, rfl⟩ := h
  exact below_drewN (Below.refl _ _) m
theorem same_bool (n c n2 c2 B : Nat) (A A2 : Option Addr) (l l2 : List Rw) (w : World) (h : RowsIn w B A n l) (h2 : RowsIn w B A2 n2 l2) (hn : n ≤ 1000) (hn2 : n2 ≤ 1000) {r : Bool} (hr : rsame l l2 = r) :
    Calls Try.prog 17 #[.slice A n c, .slice A2 n2 c2] w fun e w' => e = .returned (.bool r) ∧ Below w.heap.size w w' :=
  (same_any n c n2 c2 B A A2 l l2 w h h2 hn hn2).mono fun _ _ hp => ⟨by rw [← hr]; exact hp.1, drew_below hp.2⟩
theorem refSame_bool (n c n2 c2 B : Nat) (A A2 : Option Addr) (l l2 : List Rw) (w : World) (h : RowsIn w B A n l) (h2 : RowsIn w B A2 n2 l2) (hn : n ≤ 1000) (hn2 : n2 ≤ 1000) {r : Bool} (hr : rsame l l2 = r) :
    Calls Try.prog 10 #[.slice A n c, .slice A2 n2 c2] w fun e w' => e = .returned (.bool r) ∧ Below w.heap.size w w' :=
  (refSame_any n c n2 c2 B A A2 l l2 w h h2 hn hn2).mono fun _ _ hp => ⟨by rw [← hr]; exact hp.1, drew_below hp.2⟩
theorem icmp_self (a : Int) : icmp a a = 0 := by
  unfold icmp
  rw [if_neg (by omega), if_neg (by omega)]
theorem prim_self (p : Pn) : prim p p = 0 := by
  have := prim_swap p p
  omega
theorem ex_imp {n : Nat} {P : Nat → Prop} (h : 0 < n → ∃ g, P g) : ∃ g, 0 < n → P g := by
  rcases Nat.eq_zero_or_pos n with h0 | h0
  · exact ⟨0, fun h => absurd h (by omega)⟩
  · obtain ⟨g, hg⟩ := h h0
    exact ⟨g, fun _ => hg⟩
theorem RowBlk.far {w : World} {g : Nat} {l : List Rw} (h : RowBlk w g l) {b : Nat} (hb : b ≠ g) (o : Nat) (r : Rw) : RowBlk (setRow w b o r) g l := by
  obtain ⟨cs, h1, h2⟩ := h
  exact ⟨cs, (((((((h1.far hb _).far hb _).far hb _).far hb _).far hb _).far hb _).far hb _), h2⟩
def zrow : Rw := ⟨⟨⟨#[]⟩, 0, 0⟩, ⟨0, 0, 0, 0⟩⟩
end Go.Proofs.Ytaahlepgmcgcfaa
