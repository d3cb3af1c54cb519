/- Layer 11 in plain words: arenas as rows of places. No function of the program is named here. -/
import Derived.Test.YtgpcpjjdneimfaaDoorMem
namespace Go.Proofs.YtgpcpjjdneimfaaDoor
namespace Ar

structure Nd where
  leaf : Bool
  keys : List ByteArray
  kids : List (Int × Int)
  vals : List Int
def Nd.blank : Nd := ⟨false, [], [], []⟩
structure Pl where
  used : Bool
  turn : Nat
  nd : Nd
/-- The least number that is free, or the one behind all. -/
def lo (L : List Pl) : Nat := L.findIdx (fun p => !p.used)
/-- The turn that the next node there gets. -/
def next (L : List Pl) : Nat := match L[lo L]? with
  | some p => p.turn + 1
  | none => 1
/-- Another place at a number; behind all: a place more. -/
def put (L : List Pl) (i : Nat) (p : Pl) : List Pl := if i = L.length then L ++ [p] else L.set i p
def make (L : List Pl) (n : Nd) : List Pl := put L (lo L) ⟨true, next L, n⟩
def has (L : List Pl) (h : Int × Int) : Bool := decide (0 ≤ h.1) && match L[h.1.toNat]? with
  | some p => p.used && decide ((p.turn : Int) = h.2)
  | none => false
def free1 (L : List Pl) (h : Int × Int) : List Pl := put L h.1.toNat ⟨false, h.2.toNat, Nd.blank⟩
def free (L : List Pl) : List (Int × Int) → Option (List Pl)
  | [] => some L
  | h :: r => if has L h then free (free1 L h) r else none
def usedFrom (k : Nat) : List Pl → List (Int × Int)
  | [] => []
  | p :: r => if p.used then ((k : Int), (p.turn : Int)) :: usedFrom (k + 1) r else usedFrom (k + 1) r
def used (L : List Pl) : List (Int × Int) := usedFrom 0 L

theorem lo_le (L : List Pl) : lo L ≤ L.length := List.findIdx_le_length
theorem lo_free (L : List Pl) (h : lo L < L.length) : (L[lo L]'h).used = false := by
  have h2 : (!(L[lo L]'h).used) = true := List.findIdx_getElem (p := fun p : Pl => !p.used) (xs := L) (w := h)
  cases hu : (L[lo L]'h).used
  · rfl
  · rw [hu] at h2
    cases h2
theorem lo_used (L : List Pl) (i : Nat) (hi : i < lo L) : (L[i]'(Nat.lt_of_lt_of_le hi (lo_le L))).used = true := by
  have := List.not_of_lt_findIdx (p := fun p : Pl => !p.used) (xs := L) hi
  simpa using this
theorem put_length (L : List Pl) (i : Nat) (p : Pl) : (put L i p).length = if i = L.length then L.length + 1 else L.length := by
  unfold put
  split <;> simp
theorem put_at (L : List Pl) (i : Nat) (p : Pl) (hi : i ≤ L.length) : (put L i p)[i]? = some p := by
  unfold put
  split
  · subst i; simp
  · rw [List.getElem?_set_self (by omega)]
theorem put_other (L : List Pl) (i j : Nat) (p : Pl) (h : j ≠ i) : (put L i p)[j]? = L[j]? := by
  unfold put
  split
  · rename_i e
    subst e
    rcases Nat.lt_or_ge j L.length with h1 | h1
    · rw [List.getElem?_append_left h1]
    · rw [List.getElem?_eq_none (by simp; omega), List.getElem?_eq_none h1]
  · rw [List.getElem?_set_ne (fun e => h e.symm)]
theorem usedFrom_mem (k : Nat) (L : List Pl) (h : Int × Int) : h ∈ usedFrom k L ↔ ∃ i p, L[i]? = some p ∧ p.used = true ∧ h = (((k + i : Nat) : Int), (p.turn : Int)) := by
  induction L generalizing k with
  | nil => simp [usedFrom]
  | cons p r ih =>
    unfold usedFrom
    constructor
    · intro hm
      split at hm
      · rename_i hu
        rcases List.mem_cons.1 hm with rfl | hm
        · exact ⟨0, p, rfl, hu, rfl⟩
        · obtain ⟨i, q, h1, h2, h3⟩ := (ih (k + 1)).1 hm
          exact ⟨i + 1, q, by simpa using h1, h2, by rw [h3]; congr 2; omega⟩
      · obtain ⟨i, q, h1, h2, h3⟩ := (ih (k + 1)).1 hm
        exact ⟨i + 1, q, by simpa using h1, h2, by rw [h3]; congr 2; omega⟩
    · rintro ⟨i, q, h1, h2, h3⟩
      rcases i with _ | i
      · simp only [List.getElem?_cons_zero, Option.some.injEq] at h1
        subst h1
        rw [if_pos h2, h3]
        exact List.mem_cons_self ..
      · have hm : h ∈ usedFrom (k + 1) r := (ih (k + 1)).2 ⟨i, q, by simpa using h1, h2, by rw [h3]; congr 2; omega⟩
        split
        · exact List.mem_cons_of_mem _ hm
        · exact hm
theorem used_mem (L : List Pl) (h : Int × Int) : h ∈ used L ↔ has L h = true := by
  unfold used has
  rw [usedFrom_mem]
  constructor
  · rintro ⟨i, p, h1, h2, rfl⟩
    simp only [Nat.zero_add, Int.toNat_natCast, h1, h2, decide_true, Bool.and_true]
    simp
  · intro hh
    rw [Bool.and_eq_true, decide_eq_true_eq] at hh
    obtain ⟨h0, h1⟩ := hh
    split at h1
    · rename_i p hp
      rw [Bool.and_eq_true, decide_eq_true_eq] at h1
      refine ⟨h.1.toNat, p, hp, h1.1, ?_⟩
      rw [Nat.zero_add, h1.2, Int.toNat_of_nonneg h0]
    · cases h1
theorem has_lt (L : List Pl) (h : Int × Int) (hh : has L h = true) : h.1.toNat < L.length := by
  unfold has at hh
  rw [Bool.and_eq_true] at hh
  rcases Nat.lt_or_ge h.1.toNat L.length with h1 | h1
  · exact h1
  · rw [List.getElem?_eq_none h1] at hh
    exact absurd hh.2 (by simp)
/-- What is so of handles that were freed, and of how many there were at most. -/
structure Inv (L : List Pl) (gone : List (Int × Int)) (most : Nat) : Prop where
  all : L.length = most
  few : (used L).length ≤ most
  gone : ∀ h ∈ gone, 0 ≤ h.1 ∧ ∃ p, L[h.1.toNat]? = some p ∧ (h.2 < p.turn ∨ (h.2 = p.turn ∧ p.used = false))
theorem Inv.hasnt {L : List Pl} {gone : List (Int × Int)} {most : Nat} (h : Inv L gone most) (x : Int × Int) (hx : x ∈ gone) : has L x = false := by
  obtain ⟨h0, p, hp, hc⟩ := h.gone x hx
  unfold has
  rw [hp]
  simp only [Bool.and_eq_false_iff, decide_eq_false_iff_not]
  rcases hc with hc | ⟨hc, hu⟩
  · exact .inr (.inr (by omega))
  · exact .inr (.inl hu)
theorem usedFrom_length (k : Nat) (L : List Pl) : (usedFrom k L).length = L.countP (·.used) := by
  induction L generalizing k with
  | nil => rfl
  | cons p r ih =>
    unfold usedFrom
    rw [List.countP_cons]
    split
    · rw [List.length_cons, ih]
    · rw [ih]; rfl
theorem used_length (L : List Pl) : (used L).length = L.countP (·.used) := usedFrom_length 0 L
theorem countP_set (L : List Pl) (i : Nat) (p : Pl) (h : i < L.length) : (L.set i p).countP (·.used) + (if (L[i]'h).used then 1 else 0) = L.countP (·.used) + if p.used then 1 else 0 := by
  induction L generalizing i with
  | nil => exact absurd h (by simp)
  | cons q r ih =>
    rcases i with _ | i
    · simp only [List.set_cons_zero, List.countP_cons, List.getElem_cons_zero]
      omega
    · have := ih i (by simpa using h)
      simp only [List.set_cons_succ, List.countP_cons, List.getElem_cons_succ]
      omega
theorem make_count (L : List Pl) (n : Nd) : (used (make L n)).length = (used L).length + 1 := by
  rw [used_length, used_length]
  unfold make put
  split
  · rename_i h
    simp [List.countP_append]
  · rename_i h
    have hl : lo L < L.length := Nat.lt_of_le_of_ne (lo_le L) h
    have := countP_set L (lo L) ⟨true, next L, n⟩ hl
    rw [lo_free L hl] at this
    simpa using this
/-- All are used, where the least free number is the one behind all. -/
theorem full_count (L : List Pl) (h : lo L = L.length) : (used L).length = L.length := by
  rw [used_length, List.countP_eq_length]
  intro p hp
  obtain ⟨i, hi, rfl⟩ := List.mem_iff_getElem.1 hp
  exact lo_used L i (by omega)
theorem make_inv {L : List Pl} {gone : List (Int × Int)} {most : Nat} (h : Inv L gone most) (n : Nd) : Inv (make L n) gone (max most (used (make L n)).length) := by
  have hc := make_count L n
  have hl := put_length L (lo L) ⟨true, next L, n⟩
  refine ⟨?_, Nat.le_max_right _ _, fun x hx => ?_⟩
  · show (put L (lo L) _).length = _
    rw [hl, hc]
    split
    · rename_i e
      rw [full_count L e, h.all]
      omega
    · rename_i e
      have hlt : lo L < L.length := Nat.lt_of_le_of_ne (lo_le L) e
      have h2 : (used L).length < L.length := by
        rw [used_length]
        have := List.countP_le_length (p := fun p : Pl => p.used) (l := L)
        rcases Nat.lt_or_ge (L.countP (·.used)) L.length with h3 | h3
        · exact h3
        · have h4 := (List.countP_eq_length.1 (Nat.le_antisymm this h3)) _ (List.getElem_mem hlt)
          rw [lo_free L hlt] at h4
          cases h4
      have := h.all
      omega
  · obtain ⟨h0, p, hp, hcc⟩ := h.gone x hx
    refine ⟨h0, ?_⟩
    by_cases e : x.1.toNat = lo L
    · refine ⟨_, by rw [e]; exact put_at L (lo L) _ (lo_le L), .inl ?_⟩
      have hn : next L = p.turn + 1 := by
        unfold next
        rw [← e, hp]
      show x.2 < (next L : Int)
      rw [hn]
      rcases hcc with hcc | hcc <;> omega
    · exact ⟨p, by show (put L (lo L) _)[_]? = _; rw [put_other _ _ _ _ e, hp], hcc⟩
/-- The new handle was never freed, and no used node has its number. -/
theorem make_new {L : List Pl} {gone : List (Int × Int)} {most : Nat} (h : Inv L gone most) : ((lo L : Int), (next L : Int)) ∉ gone ∧ ∀ u ∈ used L, u.1 ≠ (lo L : Int) := by
  constructor
  · intro hm
    obtain ⟨_, p, hp, hc⟩ := h.gone _ hm
    have hp' : L[lo L]? = some p := hp
    have hn : next L = p.turn + 1 := by
      unfold next
      rw [hp']
    rw [hn] at hc
    simp only at hc
    omega
  · intro u hu e
    rw [used_mem] at hu
    unfold has at hu
    rw [e, Int.toNat_natCast] at hu
    rw [Bool.and_eq_true] at hu
    have hl := lo_le L
    rcases Nat.lt_or_ge (lo L) L.length with h1 | h1
    · rw [List.getElem?_eq_getElem h1] at hu
      have := hu.2
      simp only [lo_free L h1, Bool.false_and] at this
      cases this
    · rw [List.getElem?_eq_none h1] at hu
      exact absurd hu.2 (by simp)
theorem free_inv {L : List Pl} {gone : List (Int × Int)} {most : Nat} (h : Inv L gone most) (x : Int × Int) (hx : has L x = true) : Inv (free1 L x) (gone ++ [x]) most := by
  have hlt := has_lt L x hx
  obtain ⟨h0, h1⟩ := Bool.and_eq_true _ _ ▸ hx
  rw [List.getElem?_eq_getElem hlt] at h1
  have h1 : ((L[x.1.toNat]'hlt).used && decide (((L[x.1.toNat]'hlt).turn : Int) = x.2)) = true := h1
  rw [Bool.and_eq_true, decide_eq_true_eq] at h1
  have h0 := of_decide_eq_true h0
  have hne : ¬ x.1.toNat = L.length := by omega
  have e : free1 L x = L.set x.1.toNat ⟨false, x.2.toNat, Nd.blank⟩ := if_neg hne
  have hc := countP_set L x.1.toNat ⟨false, x.2.toNat, Nd.blank⟩ hlt
  rw [if_pos h1.1] at hc
  refine ⟨by rw [e, List.length_set, h.all], ?_, fun y hy => ?_⟩
  · rw [e, used_length]
    have := h.few
    rw [used_length] at this
    simp only [Bool.false_eq_true, if_false] at hc
    omega
  · rcases List.mem_append.1 hy with hy | hy
    · obtain ⟨g0, p, hp, hcc⟩ := h.gone y hy
      refine ⟨g0, ?_⟩
      by_cases ey : y.1.toNat = x.1.toNat
      · rw [ey, List.getElem?_eq_getElem hlt, Option.some.injEq] at hp
        refine ⟨⟨false, x.2.toNat, Nd.blank⟩, by rw [e, ey]; exact List.getElem?_set_self hlt, ?_⟩
        rw [← hp] at hcc
        rcases hcc with hcc | hcc
        · exact .inl (by show y.2 < ((x.2.toNat : Nat) : Int); omega)
        · rw [h1.1] at hcc; cases hcc.2
      · exact ⟨p, by rw [e, List.getElem?_set_ne (fun c => ey c.symm)]; exact hp, hcc⟩
    · obtain rfl := List.mem_singleton.1 hy
      exact ⟨h0, _, by rw [e]; exact List.getElem?_set_self hlt, .inr ⟨by show y.2 = ((y.2.toNat : Nat) : Int); omega, rfl⟩⟩
theorem inv_start : Inv [] [] 0 := ⟨rfl, Nat.le_refl _, by simp⟩
end Ar
end Go.Proofs.YtgpcpjjdneimfaaDoor
