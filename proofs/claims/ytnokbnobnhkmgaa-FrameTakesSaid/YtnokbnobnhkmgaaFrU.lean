/- Layer 7's plain mathematics: a stream that was fed F, has told G, and keeps l. -/
import Derived.Test.YtnokbnobnhkmgaaFrS
namespace Go.Proofs.Ytnokbnobnhkmgaa
open Go.ChangeShapes Go.WideShapes Go.ChangeAt Go.RowKit
namespace Fr
theorem tkA_take {l : List Nat} {a e : Nat} (h1 : (tkA l a).2.2 ≠ 70) (h2 : (tkA l a).2.2 ≠ 71) (he : (tkA l a).2.1 ≤ e) (hel : e ≤ l.length) : tkA (l.take e) a = tkA l a := by
  have hn : (tkA (l.take e) a).2.2 ≠ 70 := by
    unfold tkA at h1 h2 he ⊢
    by_cases h0 : l.length < a + 4
    · rw [if_pos h0] at h1; exact absurd rfl h1
    · rw [if_neg h0] at h1 h2 he
      unfold tkN at h1 h2 he ⊢
      generalize hm : Pk.num ((l.drop a).take 4) = m at h1 h2 he
      by_cases h3 : 8192 < m
      · rw [if_pos h3] at h2; exact absurd rfl h2
      · rw [if_neg h3] at h1 h2 he
        by_cases h4 : l.length < a + 8 + m
        · rw [if_pos h4] at h1; exact absurd rfl h1
        · rw [if_neg h4] at he
          have hee : a + 8 + m ≤ e := by
            split at he
            · exact he
            · exact he
          have hlt : (l.take e).length = e := by rw [List.length_take]; omega
          rw [if_neg (by omega)]
          have h5 : ((l.take e).drop a).take 4 = (l.drop a).take 4 := by
            rw [List.drop_take, List.take_take, Nat.min_eq_left (by omega)]
          rw [h5, hm, if_neg h3, if_neg (by omega)]
          split
          · dsimp only; decide
          · dsimp only; decide
  have := tkA_more (l.take e) (l.drop e) a hn
  rw [List.take_append_drop] at this
  exact this.symm
theorem from_take (l : List Nat) : ∀ n a, l.length + 1 - a ≤ n → a ≤ l.length → dead (from_ l a).1 = false → ∀ c, from_ (l.take (from_ l a).2 ++ c) a = ((from_ l a).1 ++ (from_ (l.take (from_ l a).2 ++ c) (from_ l a).2).1, (from_ (l.take (from_ l a).2 ++ c) (from_ l a).2).2) := by
  intro n
  induction n with
  | zero => intro a h h2; omega
  | succ n ih =>
    intro a h h2 hd c
    by_cases h70 : (tkA l a).2.2 = 70
    · rw [from_more h70]
      rfl
    · by_cases h71 : (tkA l a).2.2 = 71
      · rw [from_long h71] at hd
        cases hd
      · rcases tkA_cases l a with h1 | h1 | ⟨_, h3, h4, _⟩
        · rw [h1] at h70; exact absurd rfl h70
        · rw [h1] at h71; exact absurd rfl h71
        · have e1 := from_step (b := l) (a := a) h70 h71
          have hd' : dead (from_ l (tkA l a).2.1).1 = false := by
            rw [e1, dead_cons] at hd
            exact (Bool.or_eq_false_iff.1 hd).2
          have ih' := ih (tkA l a).2.1 (by omega) h4 hd' c
          have hb := (from_append l [] (l.length + 1) (tkA l a).2.1 (by omega) h4).1
          have ee : (from_ l a).2 = (from_ l (tkA l a).2.1).2 := by rw [e1]
          have eL : (from_ l a).1 = ((tkA l a).1, (tkA l a).2.2) :: (from_ l (tkA l a).2.1).1 := by rw [e1]
          rw [ee, eL]
          have ht := tkA_take h70 h71 hb.1 hb.2
          have hm := tkA_more (l.take (from_ l (tkA l a).2.1).2) c a (by rw [ht]; exact h70)
          rw [ht] at hm
          have e2 := from_step (b := l.take (from_ l (tkA l a).2.1).2 ++ c) (a := a) (by rw [hm]; exact h70) (by rw [hm]; exact h71)
          rw [hm] at e2
          rw [e2, ih']
          rfl
/-- What a stream is: it was fed F, has told G, and keeps l, or is dead. -/
def Run (F : List Nat) (G : List (List Nat × Int)) (l : List Nat) (d : Bool) : Prop :=
  (d = true ∧ (from_ F 0).1 = G ∧ dead G = true ∧ l = []) ∨ (d = false ∧ dead G = false ∧ ∃ P, F = P ++ l ∧ ∀ c, from_ (P ++ c) 0 = (G ++ (from_ c 0).1, P.length + (from_ c 0).2))
theorem Run.start : Run [] [] [] false := .inr ⟨rfl, rfl, [], rfl, fun c => by simp⟩
theorem Run.feed {F l : List Nat} {G : List (List Nat × Int)} {d : Bool} (h : Run F G l d) (c : List Nat) : Run (F ++ c) G (if d = true then [] else l ++ c) d := by
  rcases h with ⟨rfl, h1, h2, h3⟩ | ⟨rfl, h1, P, h2, h3⟩
  · refine .inl ⟨rfl, ?_, h2, by simp⟩
    rw [from_dead F c (by rw [h1]; exact h2), h1]
  · exact .inr ⟨rfl, h1, P, by rw [h2]; simp, h3⟩
/-- What it tells, as far as it goes. -/
def tells (l : List Nat) (d : Bool) : List (List Nat × Int) := if d = true then [] else (from_ l 0).1
def dies (l : List Nat) (d : Bool) : Bool := d || dead (from_ l 0).1
def keeps (l : List Nat) (d : Bool) : List Nat := if dies l d = true then [] else l.drop (from_ l 0).2
theorem Run.told {F l : List Nat} {G : List (List Nat × Int)} {d : Bool} (h : Run F G l d) : Run F (G ++ tells l d) (keeps l d) (dies l d) := by
  rcases h with ⟨rfl, h1, h2, h3⟩ | ⟨rfl, h1, P, h2, h3⟩
  · exact .inl ⟨rfl, by simp [tells, h1], by simp [tells, h2], rfl⟩
  · have ht : tells l false = (from_ l 0).1 := rfl
    have hdi : dies l false = dead (from_ l 0).1 := by simp [dies]
    rw [ht]
    rcases Bool.eq_false_or_eq_true (dead (from_ l 0).1) with hd | hd
    · rw [hdi, hd]
      refine .inl ⟨rfl, ?_, ?_, ?_⟩
      · rw [h2, h3]
      · rw [dead_append, hd, Bool.or_true]
      · unfold keeps; rw [hdi, hd, if_pos rfl]
    · rw [hdi, hd]
      have hk : keeps l false = l.drop (from_ l 0).2 := by unfold keeps; rw [hdi, hd, if_neg (by decide)]
      rw [hk]
      have hb := (from_append l [] (l.length + 1) 0 (by omega) (by omega)).1
      refine .inr ⟨rfl, by rw [dead_append, h1, hd]; rfl, P ++ l.take (from_ l 0).2, ?_, fun c => ?_⟩
      · rw [List.append_assoc, List.take_append_drop]; exact h2
      · rw [List.append_assoc, h3, from_take l (l.length + 1) 0 (by omega) (by omega) hd c]
        have hs := from_shift (l.take (from_ l 0).2) c 0
        rw [List.length_take, Nat.min_eq_left hb.2, Nat.add_zero] at hs
        rw [hs, List.length_append, List.length_take, Nat.min_eq_left hb.2]
        simp
        omega
/-- When all is told: what stands in F is told, and what is kept is what is not. -/
theorem Run.done {F l : List Nat} {G : List (List Nat × Int)} {d : Bool} (h : Run F G l d) (hl : d = false → from_ l 0 = ([], 0)) : (from_ F 0).1 = G ∧ d = dead G ∧ (d = false → l.length + (from_ F 0).2 = F.length) := by
  rcases h with ⟨rfl, h1, h2, h3⟩ | ⟨rfl, h1, P, h2, h3⟩
  · exact ⟨h1, h2.symm, fun h => by cases h⟩
  · have e := h3 l
    rw [← h2, hl rfl] at e
    rw [e]
    exact ⟨by simp, h1.symm, fun _ => by rw [h2]; simp; omega⟩
theorem keeps_done (l : List Nat) (d : Bool) (h : dies l d = false) : from_ (keeps l d) 0 = ([], 0) := by
  unfold keeps
  rw [h, if_neg (by decide)]
  have hd : dead (from_ l 0).1 = false := (Bool.or_eq_false_iff.1 h).2
  have hb := (from_append l [] (l.length + 1) 0 (by omega) (by omega)).1
  have e := from_take l (l.length + 1) 0 (by omega) (by omega) hd (l.drop (from_ l 0).2)
  rw [List.take_append_drop] at e
  have hs := from_shift (l.take (from_ l 0).2) (l.drop (from_ l 0).2) 0
  rw [List.length_take, Nat.min_eq_left hb.2, Nat.add_zero, List.take_append_drop] at hs
  rw [hs] at e
  have e1 := congrArg Prod.fst e
  have e2 := congrArg Prod.snd e
  dsimp only at e1 e2
  have e3 : (from_ (l.drop (from_ l 0).2) 0).1 = [] := by
    have := congrArg List.length e1
    rw [List.length_append] at this
    exact List.eq_nil_of_length_eq_zero (by omega)
  have e4 : (from_ (l.drop (from_ l 0).2) 0).2 = 0 := by omega
  rw [← Prod.eta (from_ (l.drop (from_ l 0).2) 0), e3, e4]
end Fr
end Go.Proofs.Ytnokbnobnhkmgaa
