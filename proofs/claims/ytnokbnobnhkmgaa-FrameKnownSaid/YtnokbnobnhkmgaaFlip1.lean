/- Plain mathematics: what one turned digit makes of a check: another one. (Cut out of CrcFlip.) -/
import Derived.Test.YtnokbnobnhkmgaaCrc
namespace Go.Proofs.Ytnokbnobnhkmgaa.Crc

def flip (l : List Nat) (p : Nat) : List Nat := l.set (p / 8) (l.getD (p / 8) 0 ^^^ 2 ^ (p % 8))

theorem flip_len (l : List Nat) (p : Nat) : (flip l p).length = l.length := by simp [flip]
theorem flip_lt {l : List Nat} (h : ∀ x ∈ l, x < 256) (p : Nat) : ∀ x ∈ flip l p, x < 256 := by
  intro x hx
  rcases List.mem_or_eq_of_mem_set hx with hx | rfl
  · exact h x hx
  · refine xor8_lt ?_ (Nat.lt_of_lt_of_le (Nat.pow_lt_pow_right (by omega) (Nat.mod_lt p (by omega))) (by omega))
    rw [List.getD_eq_getElem?_getD]
    rcases hy : l[p / 8]? with _ | y
    · simp
    · exact h y (List.mem_of_getElem? hy)
theorem take_xor (r b x : Nat) : take r (b ^^^ x) = take r b ^^^ eight x := by
  unfold take
  rw [← Nat.xor_assoc, eight_xor]
theorem take_xor_left (x y b : Nat) : take (x ^^^ y) b = take x b ^^^ eight y := by
  unfold take
  rw [Nat.xor_assoc, Nat.xor_comm y b, ← Nat.xor_assoc, eight_xor]
theorem run_xor (t : List Nat) : ∀ x y : Nat, run (x ^^^ y) t = run x t ^^^ halves (8 * t.length) y := by
  induction t with
  | nil => intro x y; rfl
  | cons b t ih =>
    intro x y
    show run (take (x ^^^ y) b) t = run (take x b) t ^^^ _
    rw [take_xor_left, ih, List.length_cons, show 8 * (t.length + 1) = 8 + 8 * t.length from by omega, halves_add]
    rfl
theorem halves_two (n i : Nat) (h : i ≤ n) : halves n (2 ^ i) = halves (n - i) 1 := by
  have h1 := halves_pow i 1
  rw [Nat.mul_one] at h1
  rw [show n = i + (n - i) from by omega, halves_add, h1, show i + (n - i) - i = n - i from by omega]
theorem run_flip (l : List Nat) : ∀ (r p : Nat), p < 8 * l.length → run r (flip l p) = run r l ^^^ halves (8 * l.length - p) 1 := by
  induction l with
  | nil => intro r p h; simp at h
  | cons b t ih =>
    intro r p h
    rw [List.length_cons] at h ⊢
    by_cases hp : p < 8
    · have e : flip (b :: t) p = (b ^^^ 2 ^ p) :: t := by
        unfold flip
        rw [show p / 8 = 0 from by omega, show p % 8 = p from by omega]
        rfl
      rw [e]
      show run (take r (b ^^^ 2 ^ p)) t = run (take r b) t ^^^ _
      rw [take_xor, run_xor]
      have e8 : eight (2 ^ p) = halves (8 - p) 1 := halves_two 8 p (by omega)
      rw [e8, ← halves_add, show 8 - p + 8 * t.length = 8 * (t.length + 1) - p from by omega]
    · have e : flip (b :: t) p = b :: flip t (p - 8) := by
        unfold flip
        rw [show p / 8 = (p - 8) / 8 + 1 from by omega, show (p - 8) % 8 = p % 8 from by omega]
        rfl
      rw [e]
      show run (take r b) (flip t (p - 8)) = run (take r b) t ^^^ _
      rw [ih _ (p - 8) (by omega), show 8 * t.length - (p - 8) = 8 * (t.length + 1) - p from by omega]

theorem sum_ne {l m : List Nat} (hl : ∀ x ∈ l, x < 256) (hm : ∀ x ∈ m, x < 256) (d : Nat) (hd : d ≠ 0) (h : run 4294967295 m = run 4294967295 l ^^^ d) : sum [m] ≠ sum [l] := by
  have h1 := run_lt (l := l) (r := 4294967295) (by omega) hl
  have h2 := run_lt (l := m) (r := 4294967295) (by omega) hm
  intro e
  have e' : 4294967295 - run 4294967295 m = 4294967295 - run 4294967295 l := e
  have e2 : run 4294967295 m = run 4294967295 l := by omega
  rw [e2] at h
  have : d = 0 := by
    have := congrArg (run 4294967295 l ^^^ ·) h
    simp only [← Nat.xor_assoc, Nat.xor_self, Nat.zero_xor] at this
    exact this.symm
  exact hd this

/-- Three digits of at most 300 bytes. -/
theorem half_zero {c : Nat} (hc : c < 4294967296) (h : half c = 0) : c = 0 := by
  unfold half at h
  split at h
  · have h2 : c / 2 = 3988292384 := by
      have := congrArg (· ^^^ 3988292384) h
      simpa [Nat.xor_assoc] using this
    omega
  · omega
theorem halves_zero (n : Nat) : ∀ {c : Nat}, c < 4294967296 → halves n c = 0 → c = 0 := by
  induction n with
  | zero => intro c _ h; exact h
  | succ n ih =>
    intro c hc h
    exact half_zero hc (ih (half_lt hc) h)
theorem flip_ne {l : List Nat} (hl : ∀ x ∈ l, x < 256) {p : Nat} (hp : p < 8 * l.length) : sum [flip l p] ≠ sum [l] :=
  sum_ne hl (flip_lt hl p) (halves (8 * l.length - p) 1) (fun h => absurd (halves_zero _ (by decide) h) (by decide)) (run_flip l 4294967295 p hp)
end Go.Proofs.Ytnokbnobnhkmgaa.Crc
