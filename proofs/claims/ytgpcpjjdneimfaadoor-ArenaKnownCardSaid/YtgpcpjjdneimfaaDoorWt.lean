/- Numbers that wait, as binary digits of words in levels, in plain words. No function of the program is named here. -/
import Derived.Test.YtgpcpjjdneimfaaDoorAr
import Derived.Lib.TrailingZeros
namespace Go.Proofs.YtgpcpjjdneimfaaDoor
namespace Wt

/-- v is the word at (l, a) of the numbers S. -/
def Word (S : Nat → Prop) (l a v : Nat) : Prop := v < 18446744073709551616 ∧ ∀ d, d < 64 → (v.testBit d = true ↔ ∃ n, S n ∧ n / 64 ^ l = a * 64 + d)
/-- f are the words of S. -/
structure Rep (S : Nat → Prop) (f : Nat → Nat → Nat) : Prop where
  word : ∀ l, l < 6 → ∀ a, Word S l a (f l a)
  few : ∀ n, S n → n < 64 ^ 6
theorem div_up (n l : Nat) : n / 64 ^ (l + 1) = n / 64 ^ l / 64 := by rw [Nat.pow_succ, Nat.div_div_eq_div_mul]
theorem div_far {n m l : Nat} (h : n / 64 ^ l = m / 64 ^ l) {j : Nat} (hj : l ≤ j) : n / 64 ^ j = m / 64 ^ j := by
  obtain ⟨k, rfl⟩ : ∃ k, j = l + k := ⟨j - l, by omega⟩
  rw [Nat.pow_add, ← Nat.div_div_eq_div_mul, ← Nat.div_div_eq_div_mul, h]
section
variable {S S' : Nat → Prop} {l a v n : Nat}
theorem Word.zero (h : Word S l a v) : v = 0 ↔ ∀ n, S n → n / 64 ^ (l + 1) ≠ a := by
  constructor
  · rintro rfl n hn e
    rw [div_up] at e
    have := (h.2 (n / 64 ^ l % 64) (Nat.mod_lt _ (by decide))).2 ⟨n, hn, by omega⟩
    rw [Nat.zero_testBit] at this
    cases this
  · intro hh
    apply Nat.eq_of_testBit_eq
    intro i
    rw [Nat.zero_testBit]
    by_cases hi : i < 64
    · cases hb : v.testBit i
      · rfl
      · obtain ⟨n, hn, e⟩ := (h.2 i hi).1 hb
        exact absurd (by rw [div_up]; omega) (hh n hn)
    · refine Nat.testBit_lt_two_pow (Nat.lt_of_lt_of_le h.1 ?_)
      have : 2 ^ 64 ≤ 2 ^ i := Nat.pow_le_pow_right (by decide) (by omega)
      omega
theorem Word.congr (h : Word S l a v) (hc : ∀ d, d < 64 → ((∃ n, S n ∧ n / 64 ^ l = a * 64 + d) ↔ ∃ n, S' n ∧ n / 64 ^ l = a * 64 + d)) : Word S' l a v :=
  ⟨h.1, fun d hd => (h.2 d hd).trans (hc d hd)⟩
theorem Word.has {f : Nat → Nat → Nat} (h : Rep S f) (n : Nat) : (f 0 (n / 64)).testBit (n % 64) = true ↔ S n := by
  rw [(h.word 0 (by decide) (n / 64)).2 (n % 64) (Nat.mod_lt _ (by decide))]
  constructor
  · rintro ⟨m, hm, e⟩
    rw [Nat.pow_zero, Nat.div_one] at e
    obtain rfl : m = n := by omega
    exact hm
  · intro hn
    exact ⟨n, hn, by rw [Nat.pow_zero, Nat.div_one]; omega⟩
end
def upd (f : Nat → Nat → Nat) (l a v : Nat) : Nat → Nat → Nat := fun x y => if x = l ∧ y = a then v else f x y
theorem upd_same (f : Nat → Nat → Nat) (l a v : Nat) : upd f l a v l a = v := by simp [upd]
theorem upd_other (f : Nat → Nat → Nat) (l a v : Nat) {x y : Nat} (h : ¬(x = l ∧ y = a)) : upd f l a v x y = f x y := by simp [upd, h]
/-- Below level l the words are those of S', from there on those of S. -/
def Mid (S S' : Nat → Prop) (l : Nat) (f : Nat → Nat → Nat) : Prop := ∀ j, j < 6 → ∀ a, Word (if j < l then S' else S) j a (f j a)
theorem Mid.start {S S' : Nat → Prop} {f : Nat → Nat → Nat} (h : Rep S f) : Mid S S' 0 f := fun j hj a => by
  rw [if_neg (by omega)]
  exact h.word j hj a
theorem Mid.last {S S' : Nat → Prop} {f : Nat → Nat → Nat} (h : Mid S S' 6 f) (hf : ∀ n, S' n → n < 64 ^ 6) : Rep S' f :=
  ⟨fun l hl a => by have := h l hl a; rwa [if_pos hl] at this, hf⟩
section
variable {S : Nat → Prop} {f : Nat → Nat → Nat} {n l : Nat}
def with_ (S : Nat → Prop) (n : Nat) : Nat → Prop := fun x => S x ∨ x = n
def without (S : Nat → Prop) (n : Nat) : Nat → Prop := fun x => S x ∧ x ≠ n
/-- A digit more at level l. -/
theorem Mid.put (h : Mid S (with_ S n) l f) (hl : l < 6) : Mid S (with_ S n) (l + 1) (upd f l (n / 64 ^ l / 64) (f l (n / 64 ^ l / 64) ||| 2 ^ (n / 64 ^ l % 64))) := by
  intro j hj a
  by_cases e : j = l
  · subst e
    rw [if_pos (by omega)]
    have h0 := h j hj
    simp only [Nat.lt_irrefl, if_false] at h0
    by_cases ea : a = n / 64 ^ j / 64
    · subst ea
      rw [upd_same]
      have h1 := h0 (n / 64 ^ j / 64)
      refine ⟨?_, fun d hd => ?_⟩
      · have h2 : 2 ^ (n / 64 ^ j % 64) < 2 ^ 64 := Nat.pow_lt_pow_right (by decide) (Nat.mod_lt _ (by decide))
        exact Nat.or_lt_two_pow (n := 64) h1.1 h2
      · rw [Nat.testBit_or, Bool.or_eq_true, h1.2 d hd, Nat.testBit_two_pow, decide_eq_true_eq]
        constructor
        · rintro (⟨m, hm, e⟩ | e)
          · exact ⟨m, .inl hm, e⟩
          · exact ⟨n, .inr rfl, by omega⟩
        · rintro ⟨m, hm | rfl, e⟩
          · exact .inl ⟨m, hm, e⟩
          · exact .inr (by omega)
    · rw [upd_other _ _ _ _ (fun hh => ea hh.2)]
      refine (h0 a).congr fun d hd => ⟨fun ⟨m, hm, e⟩ => ⟨m, .inl hm, e⟩, ?_⟩
      rintro ⟨m, hm | rfl, e⟩
      · exact ⟨m, hm, e⟩
      · exact absurd (by omega) ea
  · rw [upd_other _ _ _ _ (fun hh => e hh.1)]
    have := h j hj a
    by_cases h2 : j < l
    · rw [if_pos h2] at this
      rw [if_pos (by omega)]
      exact this
    · rw [if_neg h2] at this
      rw [if_neg (by omega)]
      exact this
/-- The levels above have it. -/
theorem Mid.stop {S' : Nat → Prop} (h : Mid S S' (l + 1) f) (hf : ∀ x, S' x → x < 64 ^ 6) (hs : ∀ j, l + 1 ≤ j → ∀ q, (∃ x, S x ∧ x / 64 ^ j = q) ↔ ∃ x, S' x ∧ x / 64 ^ j = q) : Rep S' f := by
  refine ⟨fun j hj a => ?_, hf⟩
  have := h j hj a
  by_cases h2 : j < l + 1
  · rwa [if_pos h2] at this
  · rw [if_neg h2] at this
    exact this.congr fun d _ => hs j (by omega) _
theorem same_with {x0 : Nat} (h0 : S x0) (e : x0 / 64 ^ (l + 1) = n / 64 ^ (l + 1)) (j : Nat) (hj : l + 1 ≤ j) (q : Nat) : (∃ x, S x ∧ x / 64 ^ j = q) ↔ ∃ x, with_ S n x ∧ x / 64 ^ j = q := by
  constructor
  · rintro ⟨x, hx, e⟩
    exact ⟨x, .inl hx, e⟩
  · rintro ⟨x, hx | rfl, e2⟩
    · exact ⟨x, hx, e2⟩
    · exact ⟨x0, h0, (div_far e hj).trans e2⟩
theorem same_without {x0 : Nat} (h0 : without S n x0) (e : x0 / 64 ^ (l + 1) = n / 64 ^ (l + 1)) (j : Nat) (hj : l + 1 ≤ j) (q : Nat) : (∃ x, S x ∧ x / 64 ^ j = q) ↔ ∃ x, without S n x ∧ x / 64 ^ j = q := by
  constructor
  · rintro ⟨x, hx, e2⟩
    by_cases hn : x = n
    · subst hn
      exact ⟨x0, h0, (div_far e hj).trans e2⟩
    · exact ⟨x, ⟨hx, hn⟩, e2⟩
  · rintro ⟨x, hx, e⟩
    exact ⟨x, hx.1, e⟩
/-- The word was not empty: the number waits. -/
theorem put_stop (h : Mid S (with_ S n) l f) (hl : l < 6) (hf : ∀ x, with_ S n x → x < 64 ^ 6) (hne : f l (n / 64 ^ l / 64) ≠ 0) : Rep (with_ S n) (upd f l (n / 64 ^ l / 64) (f l (n / 64 ^ l / 64) ||| 2 ^ (n / 64 ^ l % 64))) := by
  have h0 := h l hl (n / 64 ^ l / 64)
  simp only [Nat.lt_irrefl, if_false] at h0
  by_cases hx : ∃ x0, S x0 ∧ x0 / 64 ^ (l + 1) = n / 64 ^ (l + 1)
  · obtain ⟨x0, hx, e⟩ := hx
    exact (h.put hl).stop hf (same_with hx e)
  · refine absurd (h0.zero.2 fun x hs e => hx ⟨x, hs, ?_⟩) hne
    rw [e, div_up]
/-- v with the digit d struck. -/
def strike (v d : Nat) : Nat := v &&& (18446744073709551615 - 2 ^ d)
theorem strike_lt (v d : Nat) (h : v < 18446744073709551616) : strike v d < 18446744073709551616 := Nat.lt_of_le_of_lt Nat.and_le_left h
theorem strike_bit (v d i : Nat) (hd : d < 64) (hi : i < 64) : (strike v d).testBit i = (v.testBit i && decide (i ≠ d)) := by
  unfold strike
  have h1 : 2 ^ d < 2 ^ 64 := Nat.pow_lt_pow_right (by decide) hd
  rw [Nat.testBit_and, show 18446744073709551615 - 2 ^ d = 2 ^ 64 - (2 ^ d + 1) by omega, Nat.testBit_two_pow_sub_succ h1, Nat.testBit_two_pow]
  simp only [hi, decide_true, Bool.true_and]
  congr 1
  by_cases e : i = d
  · subst e; simp
  · simp [e, show ¬ d = i from fun h => e h.symm]
/-- A digit less at level l. -/
theorem Mid.drop (h : Mid S (without S n) l f) (hl : l < 6) (hg : ∀ x, without S n x → x / 64 ^ l ≠ n / 64 ^ l) : Mid S (without S n) (l + 1) (upd f l (n / 64 ^ l / 64) (strike (f l (n / 64 ^ l / 64)) (n / 64 ^ l % 64))) := by
  intro j hj a
  by_cases e : j = l
  · subst e
    rw [if_pos (by omega)]
    have h0 := h j hj
    simp only [Nat.lt_irrefl, if_false] at h0
    by_cases ea : a = n / 64 ^ j / 64
    · subst ea
      rw [upd_same]
      have h1 := h0 (n / 64 ^ j / 64)
      refine ⟨strike_lt _ _ h1.1, fun d hd => ?_⟩
      rw [strike_bit _ _ _ (Nat.mod_lt _ (by decide)) hd, Bool.and_eq_true, h1.2 d hd, decide_eq_true_eq]
      constructor
      · rintro ⟨⟨m, hm, e⟩, hne⟩
        exact ⟨m, ⟨hm, by rintro rfl; exact hne (by omega)⟩, e⟩
      · rintro ⟨m, hm, e⟩
        exact ⟨⟨m, hm.1, e⟩, fun hh => hg m hm (by omega)⟩
    · rw [upd_other _ _ _ _ (fun hh => ea hh.2)]
      refine (h0 a).congr fun d hd => ⟨?_, fun ⟨m, hm, e⟩ => ⟨m, hm.1, e⟩⟩
      rintro ⟨m, hm, e⟩
      exact ⟨m, ⟨hm, by rintro rfl; exact ea (by omega)⟩, e⟩
  · rw [upd_other _ _ _ _ (fun hh => e hh.1)]
    have := h j hj a
    by_cases h2 : j < l
    · rw [if_pos h2] at this
      rw [if_pos (by omega)]
      exact this
    · rw [if_neg h2] at this
      rw [if_neg (by omega)]
      exact this
/-- Another number has the word: no level above is touched. -/
theorem drop_stop (h : Mid S (without S n) l f) (hl : l < 6) (hf : ∀ x, S x → x < 64 ^ 6) (hg : ∀ x, without S n x → x / 64 ^ l ≠ n / 64 ^ l) (hne : strike (f l (n / 64 ^ l / 64)) (n / 64 ^ l % 64) ≠ 0) : Rep (without S n) (upd f l (n / 64 ^ l / 64) (strike (f l (n / 64 ^ l / 64)) (n / 64 ^ l % 64))) := by
  have h2 := h.drop hl hg
  have h0 := h2 l hl (n / 64 ^ l / 64)
  rw [if_pos (by omega), upd_same] at h0
  by_cases hx : ∃ x0, without S n x0 ∧ x0 / 64 ^ (l + 1) = n / 64 ^ (l + 1)
  · obtain ⟨x0, hx, e⟩ := hx
    exact h2.stop (fun x hx => hf x hx.1) (same_without hx e)
  · refine absurd (h0.zero.2 fun x hs e => hx ⟨x, hs, ?_⟩) hne
    rw [e, div_up]
/-- The word is empty: no other number has this one's digits above. -/
theorem drop_on (h : Mid S (without S n) l f) (hl : l < 6) (hg : ∀ x, without S n x → x / 64 ^ l ≠ n / 64 ^ l) (he : strike (f l (n / 64 ^ l / 64)) (n / 64 ^ l % 64) = 0) : ∀ x, without S n x → x / 64 ^ (l + 1) ≠ n / 64 ^ (l + 1) := by
  have h0 := (h.drop hl hg) l hl (n / 64 ^ l / 64)
  rw [if_pos (by omega), upd_same, he] at h0
  intro x hx e
  exact h0.zero.1 rfl x hx (by rw [e, div_up])
/-- While the number waits, its word at level l is not empty. -/
theorem Mid.here (h : Mid S (without S n) l f) (hl : l < 6) (hn : S n) : f l (n / 64 ^ l / 64) ≠ 0 := by
  have h0 := h l hl (n / 64 ^ l / 64)
  simp only [Nat.lt_irrefl, if_false] at h0
  intro e
  exact h0.zero.1 e n hn (div_up n l)
theorem ctz_of {v d : Nat} (hv : v < 18446744073709551616) (hd : v.testBit d = true) (hl : ∀ i, i < d → v.testBit i = false) : Lib.ctz 64 v = d := by
  have h0 : v ≠ 0 := by
    rintro rfl
    rw [Nat.zero_testBit] at hd
    cases hd
  obtain ⟨m, hm, _⟩ := Lib.ctzFrom_spec 64 v (by omega) hv
  unfold Lib.ctz
  rw [if_neg h0]
  generalize Lib.ctzFrom 64 v = k at hm
  subst hm
  have hk : (2 ^ k * (2 * m + 1)).testBit k = true := by
    rw [Nat.mul_comm, Nat.testBit_mul_two_pow]
    simp
  rcases Nat.lt_trichotomy k d with h | h | h
  · rw [hl k h] at hk; cases hk
  · exact h
  · rw [Nat.mul_comm, Nat.testBit_mul_two_pow] at hd
    simp at hd
    omega
/-- The least number's digits, a level further down. -/
theorem take_step {s : Nat} (h : Rep S f) (hl : l < 6) (hs : S s) (hm : ∀ x, S x → s ≤ x) : f l (s / 64 ^ (l + 1)) < 18446744073709551616 ∧ s / 64 ^ (l + 1) * 64 + Lib.ctz 64 (f l (s / 64 ^ (l + 1))) = s / 64 ^ l := by
  have h0 := h.word l hl (s / 64 ^ (l + 1))
  refine ⟨h0.1, ?_⟩
  have e := div_up s l
  have hlt : s / 64 ^ l % 64 < 64 := Nat.mod_lt _ (by decide)
  rw [ctz_of (d := s / 64 ^ l % 64) h0.1 ((h0.2 _ hlt).2 ⟨s, hs, by omega⟩) (fun i hi => ?_)]
  · omega
  · cases hb : (f l (s / 64 ^ (l + 1))).testBit i
    · rfl
    · obtain ⟨x, hx, e2⟩ := (h0.2 i (by omega)).1 hb
      have := Nat.div_le_div_right (c := 64 ^ l) (hm x hx)
      omega
end
theorem rep_none : Rep (fun _ => False) (fun _ _ => 0) := ⟨fun l _ a => ⟨by decide, fun d _ => by simp⟩, fun _ h => h.elim⟩
end Wt
end Go.Proofs.YtgpcpjjdneimfaaDoor
