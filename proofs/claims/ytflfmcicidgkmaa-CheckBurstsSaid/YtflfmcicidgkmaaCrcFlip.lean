/- Plain mathematics: what a turned digit makes of a check; few digits, and digits close together, make a difference. -/
import Derived.Test.YtflfmcicidgkmaaCrcTab
namespace Go.Proofs.Ytflfmcicidgkmaa.Crc

def flip (l : List Nat) (p : Nat) : List Nat := l.set (p / 8) (l.getD (p / 8) 0 ^^^ 2 ^ (p % 8))

theorem flip_len (l : List Nat) (p : Nat) : (flip l p).length = l.length := by simp [flip]
theorem flip_lt {l : List Nat} (h : ∀ x ∈ l, x < 256) (p : Nat) : ∀ x ∈ flip l p, x < 256 := by
  intro x hx
  rcases List.mem_or_eq_of_mem_set hx with hx | rfl
  · exact h x hx
  · refine xor8_lt ?_ (Nat.lt_of_lt_of_le (Nat.pow_lt_pow_right (by omega) (Nat.mod_lt p (by omega))) (by omega))
    rw [List.getD_eq_getElem?_getD]
    rcases hy : l[p / 8]? with _ | y
    · simp
    · exact h y (List.mem_of_getElem? hy)
theorem take_xor (r b x : Nat) : take r (b ^^^ x) = take r b ^^^ eight x := by
  unfold take
  rw [← Nat.xor_assoc, eight_xor]
theorem take_xor_left (x y b : Nat) : take (x ^^^ y) b = take x b ^^^ eight y := by
  unfold take
  rw [Nat.xor_assoc, Nat.xor_comm y b, ← Nat.xor_assoc, eight_xor]
theorem run_xor (t : List Nat) : ∀ x y : Nat, run (x ^^^ y) t = run x t ^^^ halves (8 * t.length) y := by
  induction t with
  | nil => intro x y; rfl
  | cons b t ih =>
    intro x y
    show run (take (x ^^^ y) b) t = run (take x b) t ^^^ _
    rw [take_xor_left, ih, List.length_cons, show 8 * (t.length + 1) = 8 + 8 * t.length from by omega, halves_add]
    rfl
theorem halves_two (n i : Nat) (h : i ≤ n) : halves n (2 ^ i) = halves (n - i) 1 := by
  have h1 := halves_pow i 1
  rw [Nat.mul_one] at h1
  rw [show n = i + (n - i) from by omega, halves_add, h1, show i + (n - i) - i = n - i from by omega]
theorem run_flip (l : List Nat) : ∀ (r p : Nat), p < 8 * l.length → run r (flip l p) = run r l ^^^ halves (8 * l.length - p) 1 := by
  induction l with
  | nil => intro r p h; simp at h
  | cons b t ih =>
    intro r p h
    rw [List.length_cons] at h ⊢
    by_cases hp : p < 8
    · have e : flip (b :: t) p = (b ^^^ 2 ^ p) :: t := by
        unfold flip
        rw [show p / 8 = 0 from by omega, show p % 8 = p from by omega]
        rfl
      rw [e]
      show run (take r (b ^^^ 2 ^ p)) t = run (take r b) t ^^^ _
      rw [take_xor, run_xor]
      have e8 : eight (2 ^ p) = halves (8 - p) 1 := halves_two 8 p (by omega)
      rw [e8, ← halves_add, show 8 - p + 8 * t.length = 8 * (t.length + 1) - p from by omega]
    · have e : flip (b :: t) p = b :: flip t (p - 8) := by
        unfold flip
        rw [show p / 8 = (p - 8) / 8 + 1 from by omega, show (p - 8) % 8 = p % 8 from by omega]
        rfl
      rw [e]
      show run (take r b) (flip t (p - 8)) = run (take r b) t ^^^ _
      rw [ih _ (p - 8) (by omega), show 8 * t.length - (p - 8) = 8 * (t.length + 1) - p from by omega]

def flips (l : List Nat) (ps : List Nat) : List Nat := ps.foldl flip l
theorem flips_snoc (l ps : List Nat) (p : Nat) : flips l (ps ++ [p]) = flip (flips l ps) p := by unfold flips; rw [List.foldl_append]; rfl
theorem flips_len (ps : List Nat) : ∀ l : List Nat, (flips l ps).length = l.length := by
  induction ps with
  | nil => intro l; rfl
  | cons p t ih => intro l; exact (ih _).trans (flip_len l p)
theorem flips_lt (ps : List Nat) : ∀ l : List Nat, (∀ x ∈ l, x < 256) → ∀ x ∈ flips l ps, x < 256 := by
  induction ps with
  | nil => intro l h; exact h
  | cons p t ih => intro l h; exact ih _ (flip_lt h p)

theorem sum_ne {l m : List Nat} (hl : ∀ x ∈ l, x < 256) (hm : ∀ x ∈ m, x < 256) (d : Nat) (hd : d ≠ 0) (h : run 4294967295 m = run 4294967295 l ^^^ d) : sum [m] ≠ sum [l] := by
  have h1 := run_lt (l := l) (r := 4294967295) (by omega) hl
  have h2 := run_lt (l := m) (r := 4294967295) (by omega) hm
  intro e
  have e' : 4294967295 - run 4294967295 m = 4294967295 - run 4294967295 l := e
  have e2 : run 4294967295 m = run 4294967295 l := by omega
  rw [e2] at h
  have : d = 0 := by
    have := congrArg (run 4294967295 l ^^^ ·) h
    simp only [← Nat.xor_assoc, Nat.xor_self, Nat.zero_xor] at this
    exact this.symm
  exact hd this

/-- Three digits of at most 300 bytes. -/
theorem flips_three {l : List Nat} (hl : ∀ x ∈ l, x < 256) (hn : l.length ≤ 300) {a b c : Nat} (ha : a < 8 * l.length) (hb : b < 8 * l.length) (hc : c < 8 * l.length) : sum [flips l [a, b, c]] ≠ sum [l] := by
  refine sum_ne hl (flips_lt _ _ hl) (halves (8 * l.length - a) 1 ^^^ halves (8 * l.length - b) 1 ^^^ halves (8 * l.length - c) 1) (three (by omega) (by omega) (by omega)) ?_
  show run _ (flip (flip (flip l a) b) c) = _
  rw [run_flip _ _ _ (by rw [flip_len, flip_len]; exact hc), run_flip _ _ _ (by rw [flip_len]; exact hb), run_flip _ _ _ ha, flip_len, flip_len, flip_len, Nat.xor_assoc, Nat.xor_assoc, Nat.xor_assoc]

/-- The digits of turn below i, laid over l from the place first on. -/
def burst (l : List Nat) (first turn : Nat) : Nat → List Nat
  | 0 => l
  | i + 1 => if turn / 2 ^ i % 2 = 1 then flip (burst l first turn i) (first + i) else burst l first turn i
theorem burst_len (l : List Nat) (first turn : Nat) (i : Nat) : (burst l first turn i).length = l.length := by
  induction i with
  | zero => rfl
  | succ i ih =>
    unfold burst
    split
    · rw [flip_len, ih]
    · exact ih
theorem burst_lt {l : List Nat} (h : ∀ x ∈ l, x < 256) (first turn : Nat) (i : Nat) : ∀ x ∈ burst l first turn i, x < 256 := by
  induction i with
  | zero => exact h
  | succ i ih =>
    unfold burst
    split
    · exact flip_lt ih _
    · exact ih
theorem mod_next (x i : Nat) : x % 2 ^ (i + 1) = x % 2 ^ i ^^^ (if x / 2 ^ i % 2 = 1 then 2 ^ i else 0) := by
  apply Nat.eq_of_testBit_eq
  intro k
  have hb : x.testBit i = decide (x / 2 ^ i % 2 = 1) := by
    rw [Nat.testBit_eq_decide_div_mod_eq]
  rw [Nat.testBit_xor, Nat.testBit_mod_two_pow, Nat.testBit_mod_two_pow]
  by_cases h1 : x / 2 ^ i % 2 = 1
  · rw [if_pos h1, Nat.testBit_two_pow]
    by_cases hk : k = i
    · subst hk
      simp [hb, h1]
    · have hk' : ¬ i = k := fun e => hk e.symm
      by_cases hlt : k < i
      · simp [hlt, hk', show k < i + 1 from by omega]
      · simp [hlt, hk', show ¬ k < i + 1 from by omega]
  · rw [if_neg h1, Nat.zero_testBit]
    by_cases hk : k = i
    · subst hk
      simp [hb, h1]
    · by_cases hlt : k < i
      · simp [hlt, show k < i + 1 from by omega]
      · simp [hlt, show ¬ k < i + 1 from by omega]
theorem run_burst (l : List Nat) (r first turn : Nat) (h : first + 32 ≤ 8 * l.length) (i : Nat) (hi : i ≤ 32) :
    run r (burst l first turn i) = run r l ^^^ halves (8 * l.length - first) (turn % 2 ^ i) := by
  induction i with
  | zero =>
    rw [Nat.pow_zero, Nat.mod_one]
    have h0 : ∀ n, halves n 0 = 0 := fun n => by
      induction n with
      | zero => rfl
      | succ n ih => exact ih
    rw [h0, Nat.xor_zero]
    rfl
  | succ i ih =>
    have ih := ih (by omega)
    rw [mod_next, halves_xor, ← Nat.xor_assoc, ← ih]
    show run r (if turn / 2 ^ i % 2 = 1 then flip (burst l first turn i) (first + i) else burst l first turn i) = _
    by_cases h1 : turn / 2 ^ i % 2 = 1
    · rw [if_pos h1, if_pos h1, run_flip _ _ _ (by rw [burst_len]; omega), burst_len, halves_two _ i (by omega), show 8 * l.length - (first + i) = 8 * l.length - first - i from by omega]
    · rw [if_neg h1, if_neg h1]
      have h0 : ∀ n, halves n 0 = 0 := fun n => by
        induction n with
        | zero => rfl
        | succ n ih => exact ih
      rw [h0, Nat.xor_zero]
/-- Digits that lie within 32. -/
theorem burst_ne {l : List Nat} (hl : ∀ x ∈ l, x < 256) {first turn : Nat} (h : first + 32 ≤ 8 * l.length) (h0 : turn ≠ 0) (h1 : turn < 4294967296) : sum [burst l first turn 32] ≠ sum [l] := by
  have e := run_burst l 4294967295 first turn h 32 (by omega)
  rw [Nat.mod_eq_of_lt h1] at e
  exact sum_ne hl (burst_lt hl _ _ _) _ (fun hz => h0 (halves_zero _ h1 hz)) e
end Go.Proofs.Ytflfmcicidgkmaa.Crc
