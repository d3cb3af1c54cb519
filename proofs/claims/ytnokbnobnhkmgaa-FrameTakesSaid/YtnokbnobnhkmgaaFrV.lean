/- Layer 7's streams: what a call on one may turn, and what it tells next. -/
import Derived.Test.YtnokbnobnhkmgaaFrL
import Derived.Test.YtnokbnobnhkmgaaFrU
namespace Go.Proofs.Ytnokbnobnhkmgaa
open Go.ChangeShapes Go.WideShapes Go.ChangeAt Go.RowKit

/-- From w to w' only the blocks of H turned, and new ones came; H' is of H and of new ones. -/
def Mv (w w' : World) (H H' : List Nat) : Prop := Below 0 w w' ∧ (∀ k, k < w.heap.size → k ∉ H → w'.heap[k]? = w.heap[k]?) ∧ ∀ k ∈ H', k ∈ H ∨ w.heap.size ≤ k
theorem Mv.refl (w : World) (H : List Nat) : Mv w w H H := ⟨Below.refl _ _, fun _ _ _ => rfl, fun _ h => .inl h⟩
theorem Mv.of_below {w w' : World} (h : Below w.heap.size w w') (H : List Nat) : Mv w w' H H := ⟨h.mono (Nat.zero_le _), fun k hk _ => h.block k hk, fun _ h => .inl h⟩
theorem Mv.trans {w w1 w2 : World} {H H1 H2 : List Nat} (h : Mv w w1 H H1) (h' : Mv w1 w2 H1 H2) : Mv w w2 H H2 := by
  refine ⟨h.1.trans h'.1, fun k hk hn => ?_, fun k hk => ?_⟩
  · refine (h'.2.1 k (Nat.lt_of_lt_of_le hk h.1.size) (fun h1 => ?_)).trans (h.2.1 k hk hn)
    rcases h.2.2 k h1 with h2 | h2
    · exact hn h2
    · omega
  · rcases h'.2.2 k hk with h1 | h1
    · exact h.2.2 k h1
    · exact .inr (Nat.le_trans h.1.size h1)
theorem Mv.below {w w' : World} {H H' : List Nat} (h : Mv w w' H H') {B : Nat} (hB : B ≤ w.heap.size) (hH : ∀ k ∈ H, B ≤ k) : Below B w w' ∧ ∀ k ∈ H', B ≤ k := by
  refine ⟨⟨h.1.os, h.1.tape, h.1.output, h.1.size, fun k hk => h.2.1 k (by omega) (fun h1 => by have := hH k h1; omega)⟩, fun k hk => ?_⟩
  rcases h.2.2 k hk with h1 | h1
  · exact hH k h1
  · omega
/-- A value's block is none of H. -/
def Off (H : List Nat) (v : Value) : Prop := ∀ g ∈ H, v.ownBlock ≠ some g
theorem Off.nil (H : List Nat) : Off H (.slice none 0 0) := fun g _ h => by simp [Value.ownBlock] at h
theorem own_off {w : World} {b e s n : Nat} {v : Value} {xs : List Value} (ho : w.ownsRow b e s v n xs) {H : List Nat} (h : ∀ k ∈ H, k < b) : Off H v := fun g hg he => by
  have := (ho.lt g he).1
  have := h g hg
  omega
theorem own_mv {w w' : World} {b e s n : Nat} {v : Value} {xs : List Value} {H H' : List Nat} (ho : w.ownsRow b e s v n xs) (hm : Mv w w' H H') (hf : Off H v) : w'.ownsRow b e s v n xs ∧ Off H' v := by
  refine ⟨⟨ho.1, ?_⟩, fun g hg he => ?_⟩
  · rcases ho.2 with h | ⟨g, cap, cur, rfl, h2, h3, h4⟩
    · exact .inl h
    · exact .inr ⟨g, cap, cur, rfl, h2, (hm.2.1 g (ho.lt g rfl).2 (fun h => hf g h rfl)).trans h3, h4⟩
  · rcases hm.2.2 g hg with h | h
    · exact hf g h he
    · have := (ho.lt g he).2; omega
def OffAll (H : List Nat) (V : List Value) : Prop := ∀ u ∈ V, Off H u
theorem OffAll.nil (H : List Nat) : OffAll H [] := fun u h => by cases h
theorem OffAll.append {H : List Nat} {V U : List Value} (h : OffAll H V) (h' : OffAll H U) : OffAll H (V ++ U) := fun u hu => by
  rcases List.mem_append.1 hu with h1 | h1
  · exact h u h1
  · exact h' u h1
theorem OffAll.two {H : List Nat} {v : Value} (h : Off H v) (e : Int) : OffAll H [v, .int .i64 e] := fun u hu => by
  rcases List.mem_cons.1 hu with rfl | h1
  · exact h
  · rcases List.mem_cons.1 h1 with rfl | h2
    · intro g _ h; simp [Value.ownBlock] at h
    · cases h2
theorem Founds.off {w : World} {B : Nat} {V : List Value} {L : List (List Nat × Int)} (hf : Founds w B V L) {H : List Nat} (h : ∀ k ∈ H, k < B) : OffAll H V := by
  intro u hu
  obtain ⟨j, hj, rfl⟩ := List.getElem_of_mem hu
  obtain ⟨a, m, c, h1, h2, h3, h4⟩ := hf.2 (j / 2) (by have := hf.1; omega)
  rcases Nat.mod_two_eq_zero_or_one j with h0 | h0
  · rw [show j / 2 * 2 = j by omega, List.getElem?_eq_getElem hj] at h1
    injection h1 with h1
    rw [h1]
    exact own_off h4 h
  · rw [show j / 2 * 2 + 1 = j by omega, List.getElem?_eq_getElem hj] at h2
    injection h2 with h2
    rw [h2]
    intro g _ h; simp [Value.ownBlock] at h
theorem Founds.mv {w w' : World} {B : Nat} {V : List Value} {L : List (List Nat × Int)} {H H' : List Nat} (hf : Founds w B V L) (hm : Mv w w' H H') (ho : OffAll H V) : Founds w' B V L ∧ OffAll H' V := by
  refine ⟨⟨hf.1, fun i hi => ?_⟩, fun u hu => ?_⟩
  · obtain ⟨a, m, c, h1, h2, h3, h4⟩ := hf.2 i hi
    exact ⟨a, m, c, h1, h2, h3, (own_mv h4 hm (ho _ (List.mem_of_getElem? h1))).1⟩
  · obtain ⟨j, hj, rfl⟩ := List.getElem_of_mem hu
    obtain ⟨a, m, c, h1, h2, h3, h4⟩ := hf.2 (j / 2) (by have := hf.1; omega)
    rcases Nat.mod_two_eq_zero_or_one j with h0 | h0
    · rw [show j / 2 * 2 = j by omega, List.getElem?_eq_getElem hj] at h1
      injection h1 with h1
      have ho' := ho _ (List.getElem_mem hj)
      rw [h1] at ho' ⊢
      exact (own_mv h4 hm ho').2
    · rw [show j / 2 * 2 + 1 = j by omega, List.getElem?_eq_getElem hj] at h2
      injection h2 with h2
      rw [h2]
      intro g _ h; simp [Value.ownBlock] at h
theorem Founds.append {w : World} {B : Nat} {V U : List Value} {L M : List (List Nat × Int)} (h : Founds w B V L) (h' : Founds w B U M) : Founds w B (V ++ U) (L ++ M) := by
  refine ⟨by simp [h.1, h'.1]; omega, fun i hi => ?_⟩
  have hV := h.1
  rcases Nat.lt_or_ge i L.length with h1 | h1
  · obtain ⟨a', m', c', e1, e2, e3, e4⟩ := h.2 i h1
    have eg : (L ++ M).getD i ([], 0) = L.getD i ([], 0) := by
      rw [List.getD_eq_getElem?_getD, List.getD_eq_getElem?_getD, List.getElem?_append_left h1]
    rw [eg]
    exact ⟨a', m', c', by rw [List.getElem?_append_left (by omega)]; exact e1, by rw [List.getElem?_append_left (by omega)]; exact e2, e3, e4⟩
  · obtain ⟨a', m', c', e1, e2, e3, e4⟩ := h'.2 (i - L.length) (by simp at hi; omega)
    have eg : (L ++ M).getD i ([], 0) = M.getD (i - L.length) ([], 0) := by
      rw [List.getD_eq_getElem?_getD, List.getD_eq_getElem?_getD, List.getElem?_append_right h1]
    rw [eg]
    exact ⟨a', m', c', by rw [List.getElem?_append_right (by omega), show i * 2 - V.length = (i - L.length) * 2 by omega]; exact e1, by rw [List.getElem?_append_right (by omega), show i * 2 + 1 - V.length = (i - L.length) * 2 + 1 by omega]; exact e2, e3, e4⟩
theorem Founds.lower {w : World} {B B' : Nat} {V : List Value} {L : List (List Nat × Int)} (h : Founds w B V L) (hB : B' ≤ B) : Founds w B' V L :=
  ⟨h.1, fun i hi => by
    obtain ⟨a, m, c, h1, h2, h3, h4⟩ := h.2 i hi
    exact ⟨a, m, c, h1, h2, h3, own_lower h4 hB⟩⟩
namespace Fr
theorem tells_dead (l : List Nat) : tells l true = [] ∧ keeps l true = [] ∧ dies l true = true := ⟨rfl, rfl, rfl⟩
theorem tells_more {l : List Nat} (h : (tkA l 0).2.2 = 70) : tells l false = [] ∧ keeps l false = l ∧ dies l false = false := by
  have e := from_more h
  refine ⟨?_, ?_, ?_⟩
  · show (from_ l 0).1 = []; rw [e]
  · unfold keeps dies; rw [e]; rfl
  · unfold dies; rw [e]; rfl
theorem tells_long {l : List Nat} (h : (tkA l 0).2.2 = 71) : tells l false = [([], 71)] ∧ keeps l false = [] ∧ dies l false = true := by
  have e := from_long h
  refine ⟨?_, ?_, ?_⟩
  · show (from_ l 0).1 = _; rw [e]
  · unfold keeps dies; rw [e]; rfl
  · unfold dies; rw [e]; rfl
theorem tells_one {l : List Nat} (h : (tkA l 0).2.2 ≠ 70) (h2 : (tkA l 0).2.2 ≠ 71) : tells l false = ((tkA l 0).1, (tkA l 0).2.2) :: tells (l.drop (tkA l 0).2.1) false ∧ keeps l false = keeps (l.drop (tkA l 0).2.1) false ∧ dies l false = dies (l.drop (tkA l 0).2.1) false := by
  have e := from_step h h2
  rcases tkA_cases l 0 with h1 | h1 | ⟨_, h3, h4, _⟩
  · rw [h1] at h; exact absurd rfl h
  · rw [h1] at h2; exact absurd rfl h2
  · generalize hn : (tkA l 0).2.1 = n at e h4 ⊢
    have hs := from_shift (l.take n) (l.drop n) 0
    rw [List.length_take, Nat.min_eq_left h4, Nat.add_zero, List.take_append_drop] at hs
    rw [hs] at e
    dsimp only at e
    have hd : dead (from_ l 0).1 = dead (from_ (l.drop n) 0).1 := by
      rw [e, dead_cons]
      have : ((tkA l 0).2.2 == 71) = false := by rw [beq_eq_false_iff_ne]; exact h2
      dsimp only
      rw [this, Bool.false_or]
    have hdi : dies l false = dies (l.drop n) false := by unfold dies; rw [hd]
    refine ⟨?_, ?_, hdi⟩
    · show (from_ l 0).1 = _
      rw [e]
      rfl
    · unfold keeps
      rw [hdi]
      split
      · rfl
      · rw [e]
        dsimp only
        rw [List.drop_drop]
theorem from_lenA (b : List Nat) : ∀ n a, b.length + 1 - a ≤ n → a ≤ b.length → (from_ b a).1.length ≤ b.length + 1 - a := by
  intro n
  induction n with
  | zero => intro a h h2; omega
  | succ n ih =>
    intro a h h2
    by_cases h70 : (tkA b a).2.2 = 70
    · rw [from_more h70]; simp
    · by_cases h71 : (tkA b a).2.2 = 71
      · rw [from_long h71]; simp; omega
      · rcases tkA_cases b a with h1 | h1 | ⟨_, h3, h4, _⟩
        · rw [h1] at h70; exact absurd rfl h70
        · rw [h1] at h71; exact absurd rfl h71
        · rw [from_step h70 h71]
          have := ih (tkA b a).2.1 (by omega) h4
          simp
          omega
theorem tells_len (l : List Nat) (d : Bool) : (tells l d).length ≤ l.length + 1 := by
  unfold tells
  split
  · simp
  · exact from_lenA l (l.length + 1) 0 (by omega) (by omega)
theorem Run.len {F l : List Nat} {G : List (List Nat × Int)} {d : Bool} (h : Run F G l d) : G.length ≤ F.length + 1 ∧ l.length ≤ F.length := by
  have hf := from_lenA F (F.length + 1) 0 (by omega) (by omega)
  rcases h with ⟨rfl, h1, h2, h3⟩ | ⟨rfl, h1, P, h2, h3⟩
  · rw [h1] at hf
    rw [h3]
    exact ⟨by omega, by simp⟩
  · have e := h3 l
    rw [← h2] at e
    rw [e] at hf
    simp at hf
    exact ⟨by omega, by rw [h2]; simp⟩
end Fr
end Go.Proofs.Ytnokbnobnhkmgaa
