/- Layer 11 in plain words: which numbers are free, ahead of a new node and behind it; rows of places. -/
import Derived.Test.YtgpcpjjdneimfaaDoorArH
namespace Go.Proofs.YtgpcpjjdneimfaaDoor
open Go.ChangeShapes Go.WideShapes Go.ChangeAt Go.RowKit

section
variable {L : List Ar.Pl}
theorem freeN_pos_iff : 0 < freeN L ↔ Ar.lo L < L.length := by
  unfold freeN
  rw [List.countP_pos_iff]
  unfold Ar.lo
  rw [List.findIdx_lt_length]
theorem lo_Fr (h : 0 < freeN L) : Fr L (Ar.lo L) := by
  have hl := freeN_pos_iff.1 h
  exact ⟨L[Ar.lo L], List.getElem?_eq_getElem hl, Ar.lo_free L hl⟩
theorem lo_least {x : Nat} (hx : Fr L x) : Ar.lo L ≤ x := by
  rcases Nat.lt_or_ge x (Ar.lo L) with h | h
  · obtain ⟨p, hp, hu⟩ := hx
    have h1 := Ar.lo_used L x h
    have h2 : L[x]'(Nat.lt_of_lt_of_le h (Ar.lo_le L)) = p := by
      rw [List.getElem?_eq_getElem (Nat.lt_of_lt_of_le h (Ar.lo_le L))] at hp
      exact Option.some.inj hp
    rw [h2, hu] at h1
    cases h1
  · exact h
theorem next_free {p : Ar.Pl} (hp : L[Ar.lo L]? = some p) : Ar.next L = p.turn + 1 := by
  unfold Ar.next
  rw [hp]
theorem next_full (h : freeN L = 0) : Ar.next L = 1 := by
  have : ¬ Ar.lo L < L.length := fun e => by have := freeN_pos_iff.2 e; omega
  unfold Ar.next
  rw [List.getElem?_eq_none (by omega)]
theorem lo_full (h : freeN L = 0) : Ar.lo L = L.length := by
  have : ¬ Ar.lo L < L.length := fun e => by have := freeN_pos_iff.2 e; omega
  have := Ar.lo_le L
  omega
theorem make_free (h : 0 < freeN L) (d : Ar.Nd) : Ar.make L d = L.set (Ar.lo L) ⟨true, Ar.next L, d⟩ := by
  have hl := freeN_pos_iff.1 h
  unfold Ar.make Ar.put
  rw [if_neg (by omega)]
theorem make_full (h : freeN L = 0) (d : Ar.Nd) : Ar.make L d = L ++ [⟨true, 1, d⟩] := by
  unfold Ar.make Ar.put
  rw [if_pos (lo_full h), next_full h]
theorem freeN_set {s : Nat} {p : Ar.Pl} (h : s < L.length) : freeN (L.set s p) + (if (L[s]'h).used then 0 else 1) = freeN L + if p.used then 0 else 1 := by
  have h1 := Ar.countP_set L s p h
  have h2 : ∀ M : List Ar.Pl, freeN M + M.countP (·.used) = M.length := fun M => by
    unfold freeN
    induction M with
    | nil => rfl
    | cons q r ih =>
      rw [List.countP_cons, List.countP_cons, List.length_cons, ← ih]
      cases q.used <;> simp <;> omega
  have h3 := h2 L
  have h4 := h2 (L.set s p)
  rw [List.length_set] at h4
  generalize (L[s]'h).used = a at h1 ⊢
  generalize p.used = b at h1 ⊢
  cases a <;> cases b <;> simp only [Bool.false_eq_true, if_false, if_true] at h1 ⊢ <;> omega
theorem freeN_make (h : 0 < freeN L) (d : Ar.Nd) : freeN (Ar.make L d) + 1 = freeN L := by
  have hl := freeN_pos_iff.1 h
  rw [make_free h]
  have h1 := freeN_set (L := L) (s := Ar.lo L) (p := ⟨true, Ar.next L, d⟩) hl
  rw [Ar.lo_free L hl] at h1
  simpa using h1
theorem freeN_make_full (h : freeN L = 0) (d : Ar.Nd) : freeN (Ar.make L d) = 0 := by
  rw [make_full h]
  unfold freeN at h ⊢
  rw [List.countP_append, h]
  rfl
theorem Fr_make (h : 0 < freeN L) (d : Ar.Nd) : Fr (Ar.make L d) = Wt.without (Fr L) (Ar.lo L) := by
  have hl := freeN_pos_iff.1 h
  rw [make_free h]
  funext x
  apply propext
  constructor
  · rintro ⟨p, hp, hu⟩
    by_cases e : x = Ar.lo L
    · subst e
      rw [List.getElem?_set_self hl] at hp
      cases hp
      cases hu
    · rw [List.getElem?_set_ne (fun hh => e hh.symm)] at hp
      exact ⟨⟨p, hp, hu⟩, e⟩
  · rintro ⟨⟨p, hp, hu⟩, e⟩
    exact ⟨p, by rw [List.getElem?_set_ne (fun hh => e hh.symm)]; exact hp, hu⟩
theorem Fr_make_full (h : freeN L = 0) (d : Ar.Nd) : Fr (Ar.make L d) = Fr L := by
  rw [make_full h]
  funext x
  apply propext
  constructor
  · rintro ⟨p, hp, hu⟩
    rcases Nat.lt_or_ge x L.length with hx | hx
    · rw [List.getElem?_append_left hx] at hp
      exact ⟨p, hp, hu⟩
    · rw [List.getElem?_append_right hx] at hp
      obtain ⟨e1, rfl⟩ : x - L.length = 0 ∧ p = ⟨true, 1, d⟩ := by
        rcases hq : x - L.length with _ | k
        · rw [hq] at hp
          simp at hp
          exact ⟨rfl, hp.symm⟩
        · rw [hq] at hp
          simp at hp
      cases hu
  · rintro ⟨p, hp, hu⟩
    have hx : x < L.length := (List.getElem?_eq_some_iff.1 hp).1
    exact ⟨p, by rw [List.getElem?_append_left hx]; exact hp, hu⟩
theorem Fr_free (s : Nat) (p : Ar.Pl) (hs : s < L.length) (hp : p.used = false) : Fr (L.set s p) = Wt.with_ (Fr L) s := by
  funext x
  apply propext
  constructor
  · rintro ⟨q, hq, hu⟩
    by_cases e : x = s
    · exact .inr e
    · rw [List.getElem?_set_ne (fun hh => e hh.symm)] at hq
      exact .inl ⟨q, hq, hu⟩
  · rintro (⟨q, hq, hu⟩ | rfl)
    · by_cases e : x = s
      · subst e
        exact ⟨p, List.getElem?_set_self hs, hp⟩
      · exact ⟨q, by rw [List.getElem?_set_ne (fun hh => e hh.symm)]; exact hq, hu⟩
    · exact ⟨p, List.getElem?_set_self hs, hp⟩
end
/-- The rows of a block whose row s is stored anew (all but its number). -/
theorem rows_stored {cs : Array Value} {c s : Nat} {L' : List Ar.Pl} {V' : List NdV} {q : Ar.Pl} {v' : NdV} (hs : s < c) (hz : cs.size = c * 6) (h0 : cs[s * 6]? = some (.int .i64 (s : Int))) (hq : L'[s]? = some q) (hv : V'[s]? = some v')
    (ho : ∀ (i : Nat) (p : Ar.Pl) (v : NdV), i ≠ s → L'[i]? = some p → V'[i]? = some v → ∀ j, j < 6 → cs[i * 6 + j]? = (rowOf i p v)[j]?) :
    ∀ (i : Nat) (p : Ar.Pl) (v : NdV), L'[i]? = some p → V'[i]? = some v → ∀ j, j < 6 → (((((cs.setIfInBounds (s * 6 + 1) (.int .i64 (q.turn : Int))).setIfInBounds (s * 6 + 2) (.bool q.nd.leaf)).setIfInBounds (s * 6 + 2 + 1) (.slice v'.A1 v'.n1 v'.c1)).setIfInBounds (s * 6 + 2 + 2) (.slice v'.A2 v'.n2 v'.c2)).setIfInBounds (s * 6 + 2 + 3) (.slice v'.A3 v'.n3 v'.c3))[i * 6 + j]? = (rowOf i p v)[j]? := by
  intro i p v hp hv2 j hj
  simp only [Array.getElem?_setIfInBounds, Array.size_setIfInBounds]
  by_cases e : i = s
  · subst e
    rw [hq] at hp
    cases hp
    rw [hv] at hv2
    cases hv2
    rcases (by omega : j = 0 ∨ j = 1 ∨ j = 2 ∨ j = 3 ∨ j = 4 ∨ j = 5) with rfl | rfl | rfl | rfl | rfl | rfl
    · rw [if_neg (by omega), if_neg (by omega), if_neg (by omega), if_neg (by omega), if_neg (by omega)]
      exact h0
    · rw [if_neg (by omega), if_neg (by omega), if_neg (by omega), if_neg (by omega), if_pos (by omega), if_pos (by omega)]
      rfl
    · rw [if_neg (by omega), if_neg (by omega), if_neg (by omega), if_pos (by omega), if_pos (by omega)]
      rfl
    · rw [if_neg (by omega), if_neg (by omega), if_pos (by omega), if_pos (by omega)]
      rfl
    · rw [if_neg (by omega), if_pos (by omega), if_pos (by omega)]
      rfl
    · rw [if_pos (by omega), if_pos (by omega)]
      rfl
  · have hk : ∀ k, k < 6 → ¬ s * 6 + k = i * 6 + j := fun k hk => by omega
    rw [if_neg (by omega), if_neg (by omega), if_neg (by omega), if_neg (by omega), if_neg (by omega)]
    exact ho i p v e hp hv2 j hj
/-- What was a call's own, and all that came since. -/
def grow (P : Nat → Prop) (w w' : World) : Nat → Prop := fun b => P b ∨ (w.heap.size ≤ b ∧ b < w'.heap.size)
def MakeP (w : World) (P : Nat → Prop) (g : Nat) (L : List Ar.Pl) (d : Ar.Nd) (e : Ending) (w' : World) : Prop :=
  e = .returned (.agg #[.int .i64 (Ar.lo L : Int), .int .i64 (Ar.next L : Int)]) ∧ ArIn w' (grow P w w') g (Ar.make L d) ∧ Turns P w w'
end Go.Proofs.YtgpcpjjdneimfaaDoor
