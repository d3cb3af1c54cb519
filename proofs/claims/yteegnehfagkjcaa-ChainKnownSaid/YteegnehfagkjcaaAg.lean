/- Layer 5's plain mathematics: aggregates of values, and how they are joined. -/
import Derived.Lib.Hide
namespace Go.Proofs.Yteegnehfagkjcaa.Ag

def fits (n : Int) : Bool := decide (-9223372036854775808 ≤ n ∧ n ≤ 9223372036854775807)
/-- The least, and the greatest, of values; 0 of none. -/
def mn : List Int → Int
  | [] => 0
  | x :: l => l.foldl (fun a b => if b < a then b else a) x
def mx : List Int → Int
  | [] => 0
  | x :: l => l.foldl (fun a b => if a < b then b else a) x
structure A where
  c : Int
  s : Int
  lo : Int
  hi : Int
def none' : A := ⟨0, 0, 0, 0⟩
def blank (a : A) : Bool := a.c == 0 && a.s == 0 && a.lo == 0 && a.hi == 0
theorem blank_iff (a : A) : blank a = true ↔ a = none' := by
  obtain ⟨c, s, l, h⟩ := a
  simp [blank, none']
  constructor
  · rintro ⟨⟨⟨rfl, rfl⟩, rfl⟩, rfl⟩; exact ⟨rfl, rfl, rfl, rfl⟩
  · rintro ⟨rfl, rfl, rfl, rfl⟩; exact ⟨⟨⟨rfl, rfl⟩, rfl⟩, rfl⟩
/-- Of values, whether their sum fits or not. -/
def of (l : List Int) : A := ⟨l.length, l.sum, mn l, mx l⟩
def all (l : List Int) : Option A := if fits l.sum then some (of l) else none
def live (g : List A) : List A := g.filter fun a => !blank a
def join (g : List A) : Option A :=
  if fits ((live g).map (·.c)).sum && fits ((live g).map (·.s)).sum then some ⟨((live g).map (·.c)).sum, ((live g).map (·.s)).sum, mn ((live g).map (·.lo)), mx ((live g).map (·.hi))⟩ else none
def one (v : Int) : A := ⟨1, v, v, v⟩
def put (a : A) (v : Int) : Option A := join [a, one v]
def right (a : A) : Bool := blank a || (if a.c == 1 then a.s == a.lo && a.lo == a.hi else decide (1 < a.c ∧ a.lo ≤ a.hi))
theorem mn_fold (l : List Int) (x : Int) : (l.foldl (fun a b => if b < a then b else a) x = x ∨ l.foldl (fun a b => if b < a then b else a) x ∈ l) ∧ l.foldl (fun a b => if b < a then b else a) x ≤ x ∧ ∀ y ∈ l, l.foldl (fun a b => if b < a then b else a) x ≤ y := by
  induction l generalizing x with
  | nil => simp
  | cons z l ih =>
    simp only [List.foldl_cons]
    obtain ⟨h1, h2, h3⟩ := ih (if z < x then z else x)
    generalize l.foldl (fun a b => if b < a then b else a) (if z < x then z else x) = r at h1 h2 h3
    refine ⟨?_, ?_, fun y hy => ?_⟩
    · rcases h1 with h1 | h1
      · split at h1
        · exact .inr (by simp [h1])
        · exact .inl h1
      · exact .inr (by simp [h1])
    · split at h2 <;> omega
    · rcases List.mem_cons.1 hy with rfl | hy
      · split at h2 <;> omega
      · exact h3 y hy
theorem mx_fold (l : List Int) (x : Int) : (l.foldl (fun a b => if a < b then b else a) x = x ∨ l.foldl (fun a b => if a < b then b else a) x ∈ l) ∧ x ≤ l.foldl (fun a b => if a < b then b else a) x ∧ ∀ y ∈ l, y ≤ l.foldl (fun a b => if a < b then b else a) x := by
  induction l generalizing x with
  | nil => simp
  | cons z l ih =>
    simp only [List.foldl_cons]
    obtain ⟨h1, h2, h3⟩ := ih (if x < z then z else x)
    generalize l.foldl (fun a b => if a < b then b else a) (if x < z then z else x) = r at h1 h2 h3
    refine ⟨?_, ?_, fun y hy => ?_⟩
    · rcases h1 with h1 | h1
      · split at h1
        · exact .inr (by simp [h1])
        · exact .inl h1
      · exact .inr (by simp [h1])
    · split at h2 <;> omega
    · rcases List.mem_cons.1 hy with rfl | hy
      · split at h2 <;> omega
      · exact h3 y hy
theorem mn_snoc (l : List Int) (x : Int) : mn (l ++ [x]) = if l = [] then x else if x < mn l then x else mn l := by
  cases l with
  | nil => rfl
  | cons y l =>
    rw [if_neg (by simp)]
    show ((l ++ [x]).foldl _ y) = _
    rw [List.foldl_append]
    rfl
theorem mx_snoc (l : List Int) (x : Int) : mx (l ++ [x]) = if l = [] then x else if mx l < x then x else mx l := by
  cases l with
  | nil => rfl
  | cons y l =>
    rw [if_neg (by simp)]
    show ((l ++ [x]).foldl _ y) = _
    rw [List.foldl_append]
    rfl
theorem mn_spec {l : List Int} (h : l ≠ []) : mn l ∈ l ∧ ∀ x ∈ l, mn l ≤ x := by
  cases l with
  | nil => exact absurd rfl h
  | cons x l =>
    obtain ⟨h1, h2, h3⟩ := mn_fold l x
    refine ⟨?_, fun y hy => ?_⟩
    · rcases h1 with h1 | h1
      · show l.foldl _ x ∈ x :: l
        rw [h1]; simp
      · exact List.mem_cons_of_mem _ h1
    · rcases List.mem_cons.1 hy with rfl | hy
      · exact h2
      · exact h3 y hy
theorem mx_spec {l : List Int} (h : l ≠ []) : mx l ∈ l ∧ ∀ x ∈ l, x ≤ mx l := by
  cases l with
  | nil => exact absurd rfl h
  | cons x l =>
    obtain ⟨h1, h2, h3⟩ := mx_fold l x
    refine ⟨?_, fun y hy => ?_⟩
    · rcases h1 with h1 | h1
      · show l.foldl _ x ∈ x :: l
        rw [h1]; simp
      · exact List.mem_cons_of_mem _ h1
    · rcases List.mem_cons.1 hy with rfl | hy
      · exact h2
      · exact h3 y hy
theorem mn_is {l : List Int} {m : Int} (h : m ∈ l) (h2 : ∀ x ∈ l, m ≤ x) : mn l = m := by
  have hl : l ≠ [] := by rintro rfl; simp at h
  have := mn_spec hl
  have h3 := this.2 m h
  have h4 := h2 _ this.1
  omega
theorem mx_is {l : List Int} {m : Int} (h : m ∈ l) (h2 : ∀ x ∈ l, x ≤ m) : mx l = m := by
  have hl : l ≠ [] := by rintro rfl; simp at h
  have := mx_spec hl
  have h3 := this.2 m h
  have h4 := h2 _ this.1
  omega
/-- The same values, in whatever order. -/
theorem mn_same {a b : List Int} (h : ∀ x, x ∈ a ↔ x ∈ b) : mn a = mn b := by
  by_cases hb : b = []
  · subst hb
    have : a = [] := List.eq_nil_iff_forall_not_mem.2 fun x hx => by simpa using (h x).1 hx
    rw [this]
  · have hs := mn_spec hb
    exact mn_is ((h _).2 hs.1) fun x hx => hs.2 x ((h x).1 hx)
theorem mx_same {a b : List Int} (h : ∀ x, x ∈ a ↔ x ∈ b) : mx a = mx b := by
  by_cases hb : b = []
  · subst hb
    have : a = [] := List.eq_nil_iff_forall_not_mem.2 fun x hx => by simpa using (h x).1 hx
    rw [this]
  · have hs := mx_spec hb
    exact mx_is ((h _).2 hs.1) fun x hx => hs.2 x ((h x).1 hx)
theorem of_blank (l : List Int) : blank (of l) = true ↔ l = [] := by
  rw [blank_iff]
  constructor
  · intro h
    have : ((l.length : Nat) : Int) = 0 := congrArg A.c h
    exact List.eq_nil_of_length_eq_zero (by omega)
  · rintro rfl
    rfl
theorem live_of (ls : List (List Int)) : live (ls.map of) = (ls.filter fun l => !l.isEmpty).map of := by
  induction ls with
  | nil => rfl
  | cons l ls ih =>
    unfold live at ih ⊢
    simp only [List.map_cons, List.filter_cons]
    by_cases h : l = []
    · subst h
      have hb : blank (of []) = true := (of_blank []).2 rfl
      rw [hb]
      simpa using ih
    · have h1 : blank (of l) = false := by
        rw [Bool.eq_false_iff]
        intro e
        exact h ((of_blank l).1 e)
      have h2 : l.isEmpty = false := by simpa using h
      rw [h1, h2]
      simpa using ih
theorem sum_flatten (ls : List (List Int)) : ls.flatten.sum = (ls.map List.sum).sum := by
  induction ls with
  | nil => rfl
  | cons l ls ih => rw [List.flatten_cons, List.sum_append, List.map_cons, List.sum_cons, ih]
theorem flatten_live (ls : List (List Int)) : (ls.filter fun l => !l.isEmpty).flatten = ls.flatten := by
  induction ls with
  | nil => rfl
  | cons l ls ih =>
    rw [List.filter_cons]
    cases l with
    | nil => simpa using ih
    | cons x l => simp [ih]
/-- However values are parted, and joined, they have one aggregate. -/
theorem join_of (ls : List (List Int)) (hl : ls.flatten.length ≤ 1000000) : join (ls.map of) = all ls.flatten := by
  unfold join all
  rw [live_of]
  have hne : ∀ l ∈ ls.filter (fun l => !l.isEmpty), l ≠ [] := by
    intro l hl
    have := (List.mem_filter.1 hl).2
    rintro rfl
    simp at this
  rw [← flatten_live] at hl ⊢
  generalize ls.filter (fun l => !l.isEmpty) = ks at hne hl
  have hc : ((ks.map of).map (·.c)).sum = (ks.flatten.length : Int) := by
    clear hne hl
    induction ks with
    | nil => rfl
    | cons l ks ih =>
      rw [List.map_cons, List.map_cons, List.sum_cons, ih, List.flatten_cons, List.length_append]
      show (l.length : Int) + _ = _
      omega
  have hs : ((ks.map of).map (·.s)).sum = ks.flatten.sum := by
    rw [sum_flatten, List.map_map]
    rfl
  have hmn : mn ((ks.map of).map (·.lo)) = mn ks.flatten := by
    by_cases hk : ks = []
    · subst hk; rfl
    · have hkk : (ks.map of).map (·.lo) ≠ [] := by simpa using hk
      obtain ⟨h1, h2⟩ := mn_spec hkk
      symm
      refine mn_is ?_ fun x hx => ?_
      · rw [List.map_map] at h1
        obtain ⟨l, hl1, hl2⟩ := List.mem_map.1 h1
        have := (mn_spec (hne l hl1)).1
        rw [List.map_map, ← hl2]
        exact List.mem_flatten.2 ⟨l, hl1, this⟩
      · obtain ⟨l, hl1, hl2⟩ := List.mem_flatten.1 hx
        have h3 := (mn_spec (hne l hl1)).2 x hl2
        have h4 := h2 (mn l) (List.mem_map.2 ⟨of l, List.mem_map.2 ⟨l, hl1, rfl⟩, rfl⟩)
        omega
  have hmx : mx ((ks.map of).map (·.hi)) = mx ks.flatten := by
    by_cases hk : ks = []
    · subst hk; rfl
    · have hkk : (ks.map of).map (·.hi) ≠ [] := by simpa using hk
      obtain ⟨h1, h2⟩ := mx_spec hkk
      symm
      refine mx_is ?_ fun x hx => ?_
      · rw [List.map_map] at h1
        obtain ⟨l, hl1, hl2⟩ := List.mem_map.1 h1
        have := (mx_spec (hne l hl1)).1
        rw [List.map_map, ← hl2]
        exact List.mem_flatten.2 ⟨l, hl1, this⟩
      · obtain ⟨l, hl1, hl2⟩ := List.mem_flatten.1 hx
        have h3 := (mx_spec (hne l hl1)).2 x hl2
        have h4 := h2 (mx l) (List.mem_map.2 ⟨of l, List.mem_map.2 ⟨l, hl1, rfl⟩, rfl⟩)
        omega
  have hf : fits (ks.flatten.length : Int) = true := by unfold fits; exact decide_eq_true (by omega)
  rw [hc, hs, hmn, hmx, hf, Bool.true_and]
  rfl
/-- .. in whatever order. -/
theorem of_same {a b : List Int} (h : a.Perm b) : of a = of b := by
  unfold of
  rw [h.length_eq, mn_same (fun x => h.mem_iff), mx_same (fun x => h.mem_iff)]
  congr 1
  induction h with
  | nil => rfl
  | cons x _ ih => rw [List.sum_cons, List.sum_cons, ih]
  | swap x y l => rw [List.sum_cons, List.sum_cons, List.sum_cons, List.sum_cons]; omega
  | trans _ _ ih1 ih2 => rw [ih1, ih2]
theorem all_same {a b : List Int} (h : a.Perm b) : all a = all b := by
  have e := of_same h
  have : a.sum = b.sum := congrArg A.s e
  unfold all
  rw [this, e]
theorem of_one (v : Int) : of [v] = one v := by
  unfold of one mn mx
  simp
theorem put_of (l : List Int) (v : Int) (hl : l.length ≤ 1000) : put (of l) v = all (l ++ [v]) := by
  have := join_of [l, [v]] (by simp; omega)
  rw [List.map_cons, List.map_cons, List.map_nil, of_one] at this
  simpa [put] using this
theorem of_right (l : List Int) : right (of l) = true := by
  unfold right
  by_cases hl : l = []
  · rw [(of_blank l).2 hl]; rfl
  · have hb : blank (of l) = false := by
      rw [Bool.eq_false_iff]
      intro e
      exact hl ((of_blank l).1 e)
    rw [hb, Bool.false_or]
    have hlen : 0 < l.length := List.length_pos_iff.2 hl
    by_cases h1 : l.length = 1
    · obtain ⟨v, rfl⟩ := List.length_eq_one_iff.1 h1
      rw [of_one]
      simp [one]
    · have hc : ((of l).c == 1) = false := by
        rw [beq_eq_false_iff_ne]
        show ((l.length : Nat) : Int) ≠ 1
        omega
      rw [hc]
      have h2 := mn_spec hl
      have h3 := (mx_spec hl).2 _ h2.1
      exact decide_eq_true ⟨by show (1 : Int) < (l.length : Nat); omega, h3⟩
end Go.Proofs.Yteegnehfagkjcaa.Ag
