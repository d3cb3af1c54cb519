/- Rows (a pane and an aggregate): plain words, and how they are sorted. -/
import Derived.Test.YtaahlepgmcgcfaaRefPn
import Derived.Test.YtaahlepgmcgcfaaAggs
namespace Go.Proofs.Ytaahlepgmcgcfaa
open Go.ChangeShapes Go.WideShapes Go.ChangeAt Go.RowKit

structure Rw where
  p : Pn
  a : Ag.A
instance : Inhabited Rw := ⟨⟨⟨⟨#[]⟩, 0, 0⟩, Ag.none'⟩⟩
/-- Its seven cells. -/
def rowL (r : Rw) : List Value := [.string r.p.k, .int .i64 r.p.s, .int .i64 r.p.e, .int .i64 r.a.c, .int .i64 r.a.s, .int .i64 r.a.lo, .int .i64 r.a.hi]
def rcells (l : List Rw) : List Value := l.flatMap rowL
def rowOk (r : Rw) : Prop := r.p.k.size ≤ 1000000 ∧ i64ok r.p.s ∧ i64ok r.p.e ∧ aggOk r.a
/-- Rows put in order, one by one: each sinks to its place. -/
def sink (f : Rw → Rw → Int) : List Rw → Nat → List Rw
  | l, 0 => l
  | l, j + 1 => if f (l.getD (j + 1) default) (l.getD j default) < 0 then sink f ((l.set (j + 1) (l.getD j default)).set j (l.getD (j + 1) default)) j else l
def srt (f : Rw → Rw → Int) (l : List Rw) : Nat → List Rw
  | 0 => []
  | k + 1 => sink f (srt f l k ++ [l.getD k default]) k
theorem sink_len (f : Rw → Rw → Int) (l : List Rw) (j : Nat) : (sink f l j).length = l.length := by
  induction j generalizing l with
  | zero => rfl
  | succ j ih =>
    unfold sink
    split
    · rw [ih]; simp
    · rfl
theorem srt_len (f : Rw → Rw → Int) (l : List Rw) (k : Nat) : (srt f l k).length = k := by
  induction k with
  | zero => rfl
  | succ k ih => unfold srt; rw [sink_len, List.length_append, ih]; rfl
theorem sink_stop (f : Rw → Rw → Int) (l : List Rw) (j : Nat) (h : ¬ f (l.getD (j + 1) default) (l.getD j default) < 0) : sink f l (j + 1) = l := by
  rw [sink, if_neg h]
theorem sink_go (f : Rw → Rw → Int) (l : List Rw) (j : Nat) (h : f (l.getD (j + 1) default) (l.getD j default) < 0) : sink f l (j + 1) = sink f ((l.set (j + 1) (l.getD j default)).set j (l.getD (j + 1) default)) j := by
  rw [sink, if_pos h]
theorem sink_all {P : Rw → Prop} (f : Rw → Rw → Int) (l : List Rw) (j : Nat) (hj : j < l.length) (h : ∀ r ∈ l, P r) : ∀ r ∈ sink f l j, P r := by
  induction j generalizing l with
  | zero => exact h
  | succ j ih =>
    unfold sink
    split
    · refine ih _ (by simp; omega) fun r hr => ?_
      rcases List.mem_or_eq_of_mem_set hr with hr | rfl
      · rcases List.mem_or_eq_of_mem_set hr with hr | rfl
        · exact h r hr
        · rw [List.getD_eq_getElem?_getD, List.getElem?_eq_getElem (by omega)]; exact h _ (List.getElem_mem _)
      · rw [List.getD_eq_getElem?_getD, List.getElem?_eq_getElem hj]; exact h _ (List.getElem_mem _)
    · exact h
theorem srt_all {P : Rw → Prop} (f : Rw → Rw → Int) (l : List Rw) (k : Nat) (hk : k ≤ l.length) (h : ∀ r ∈ l, P r) : ∀ r ∈ srt f l k, P r := by
  induction k with
  | zero => intro r hr; cases hr
  | succ k ih =>
    unfold srt
    refine sink_all f _ k (by rw [List.length_append, srt_len]; simp) fun r hr => ?_
    rcases List.mem_append.1 hr with hr | hr
    · exact ih (by omega) r hr
    · simp at hr
      subst hr
      rw [List.getElem?_eq_getElem (by omega)]
      exact h _ (List.getElem_mem _)
/-- The order of rows is that of their panes. -/
def rord (second : Bool) (r q : Rw) : Int := if second then sec r.p q.p else prim r.p q.p
theorem icmp_swap (a b : Int) : icmp b a = -icmp a b := by
  unfold icmp
  rcases Int.lt_trichotomy a b with h | h | h
  · rw [if_neg (by omega), if_pos h, if_pos h]; rfl
  · subst h; rw [if_neg (by omega), if_neg (by omega)]; rfl
  · rw [if_pos h, if_neg (by omega), if_pos h]
theorem prim_swap (p q : Pn) : prim q p = -prim p q := by
  unfold prim
  rw [Ky.cmp_swap (nums p.k) (nums q.k), icmp_swap p.e q.e, icmp_swap p.s q.s]
  by_cases h1 : Ky.cmp (nums p.k) (nums q.k) = 0
  · rw [if_pos (by omega), if_pos h1]
    by_cases h2 : icmp p.e q.e = 0
    · rw [if_pos (by omega), if_pos h2]
    · rw [if_neg (by omega), if_neg h2]
  · rw [if_neg (by omega), if_neg h1]
theorem sec_swap (p q : Pn) : sec q p = -sec p q := by
  unfold sec
  rw [icmp_swap p.e q.e, prim_swap p q]
  by_cases h2 : icmp p.e q.e = 0
  · rw [if_pos (by omega), if_pos h2]
  · rw [if_neg (by omega), if_neg h2]
theorem rord_swap (b : Bool) (r q : Rw) : rord b q r = -rord b r q := by
  unfold rord
  cases b
  · exact prim_swap _ _
  · exact sec_swap _ _
theorem rcells_len (l : List Rw) : (rcells l).length = l.length * 7 := by
  induction l with
  | nil => rfl
  | cons p l ih => simp [rcells, rowL] at ih ⊢; omega
theorem rcells_snoc (l : List Rw) (p : Rw) : rcells (l ++ [p]) = rcells l ++ rowL p := by simp [rcells]
theorem rcells_append (a b : List Rw) : rcells (a ++ b) = rcells a ++ rcells b := by simp [rcells]
theorem rcells_at (l : List Rw) (i j : Nat) (h : i < l.length) (hj : j < 7) : (rcells l)[i * 7 + j]? = (rowL (l.getD i default))[j]? := by
  induction l generalizing i with
  | nil => simp at h
  | cons p l ih =>
    have e : rcells (p :: l) = rowL p ++ rcells l := by simp [rcells]
    rw [e]
    cases i with
    | zero => rw [List.getElem?_append_left (by simp [rowL]; omega)]; simp
    | succ i =>
      rw [List.getElem?_append_right (by simp [rowL]; omega)]
      have e2 : (i + 1) * 7 + j - (rowL p).length = i * 7 + j := by simp [rowL]; omega
      rw [e2, ih i (by simpa using h)]
      simp
theorem rsnoc_at (l : List Rw) (j : Nat) (h : j < l.length) : l.take (j + 1) = l.take j ++ [l.getD j default] := by
  rw [List.take_succ_eq_append_getElem h, List.getD_eq_getElem?_getD, List.getElem?_eq_getElem h]; rfl
end Go.Proofs.Ytaahlepgmcgcfaa
