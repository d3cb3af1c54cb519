/- The plain mathematics of a check of bytes: the register of 32 digits as a natural number, its halving, what eight halvings make of it, and that all of this is linear for the exclusive or. No program is named here. -/
namespace Go.Proofs.Ytnokbnobnhkmgaa.Crc

def half (c : Nat) : Nat := if c % 2 = 1 then (c / 2) ^^^ 3988292384 else c / 2
def halves : Nat → Nat → Nat
  | 0, c => c
  | n + 1, c => halves n (half c)
def eight (c : Nat) : Nat := halves 8 c
def take (r b : Nat) : Nat := eight (r ^^^ b)
def run (r : Nat) (l : List Nat) : Nat := l.foldl take r
def runs (r : Nat) (ls : List (List Nat)) : Nat := ls.foldl run r
def upd (s : Nat) (l : List Nat) : Nat := 4294967295 - run (4294967295 - s) l
def sum (ls : List (List Nat)) : Nat := 4294967295 - runs 4294967295 ls

theorem bit_none {b n i : Nat} (hb : b < 2 ^ n) (h : n ≤ i) : b.testBit i = false := Nat.testBit_lt_two_pow (Nat.lt_of_lt_of_le hb (Nat.pow_le_pow_right (by decide) h))
theorem half_testBit (c i : Nat) : (half c).testBit i = (c.testBit (i + 1) ^^ (c.testBit 0 && Nat.testBit 3988292384 i)) := by
  unfold half
  by_cases h : c % 2 = 1
  · rw [if_pos h, Nat.testBit_xor, Nat.testBit_div_two]
    simp [Nat.testBit_zero, h]
  · rw [if_neg h, Nat.testBit_div_two]
    simp [Nat.testBit_zero, h]
theorem half_xor (x y : Nat) : half (x ^^^ y) = half x ^^^ half y := by
  apply Nat.eq_of_testBit_eq
  intro i
  simp only [half_testBit, Nat.testBit_xor]
  cases x.testBit (i + 1) <;> cases y.testBit (i + 1) <;> cases x.testBit 0 <;> cases y.testBit 0 <;> cases Nat.testBit 3988292384 i <;> rfl
theorem halves_xor (n : Nat) : ∀ x y : Nat, halves n (x ^^^ y) = halves n x ^^^ halves n y := by
  induction n with
  | zero => intro x y; rfl
  | succ n ih => intro x y; simp only [halves, half_xor, ih]
theorem half_lt {c : Nat} (h : c < 4294967296) : half c < 4294967296 := by
  unfold half
  split
  · exact Nat.xor_lt_two_pow (n := 32) (by omega) (by omega)
  · omega
theorem halves_lt (n : Nat) : ∀ {c : Nat}, c < 4294967296 → halves n c < 4294967296 := by
  induction n with
  | zero => intro c h; exact h
  | succ n ih => intro c h; exact ih (half_lt h)
theorem eight_lt {c : Nat} (h : c < 4294967296) : eight c < 4294967296 := halves_lt 8 h
theorem xor_lt {a b : Nat} (ha : a < 4294967296) (hb : b < 4294967296) : a ^^^ b < 4294967296 := Nat.xor_lt_two_pow (n := 32) ha hb
theorem xor8_lt {a b : Nat} (ha : a < 256) (hb : b < 256) : a ^^^ b < 256 := Nat.xor_lt_two_pow (n := 8) ha hb
theorem take_lt {r b : Nat} (hr : r < 4294967296) (hb : b < 256) : take r b < 4294967296 := eight_lt (xor_lt hr (by omega))
theorem halves_add (a b c : Nat) : halves (a + b) c = halves b (halves a c) := by
  induction a generalizing c with
  | zero => simp [halves]
  | succ a ih => rw [Nat.succ_add]; exact ih _
theorem half_double (x : Nat) : half (2 * x) = x := by
  unfold half
  rw [if_neg (by omega)]
  omega
theorem halves_pow (n : Nat) : ∀ x : Nat, halves n (2 ^ n * x) = x := by
  induction n with
  | zero => intro x; simp [halves]
  | succ n ih =>
    intro x
    have e : 2 ^ (n + 1) * x = 2 * (2 ^ n * x) := by rw [Nat.pow_succ, Nat.mul_comm (2 ^ n) 2, Nat.mul_assoc]
    rw [e]
    simp only [halves, half_double]
    exact ih x
theorem eight_mul (x : Nat) : eight (256 * x) = x := halves_pow 8 x
theorem eight_xor (x y : Nat) : eight (x ^^^ y) = eight x ^^^ eight y := halves_xor 8 x y
theorem split8 (x : Nat) : x = (x % 256) ^^^ (256 * (x / 256)) := by
  apply Nat.eq_of_testBit_eq
  intro i
  rw [Nat.testBit_xor]
  have e : 256 = 2 ^ 8 := rfl
  rw [e, Nat.testBit_mod_two_pow, Nat.testBit_two_pow_mul, Nat.testBit_div_two_pow]
  by_cases h : i < 8
  · simp [h, Nat.not_le.2 h]
  · have h' : 8 ≤ i := by omega
    simp [h, h', Nat.sub_add_cancel h']
/-- What a table of 256 makes of a register and a byte. -/
theorem eight_split (x : Nat) : eight x = eight (x % 256) ^^^ (x / 256) := by
  have h : eight x = eight ((x % 256) ^^^ (256 * (x / 256))) := congrArg eight (split8 x)
  rw [h, eight_xor, eight_mul]
theorem xor_byte_mod (r b : Nat) (hb : b < 256) : (r ^^^ b) % 256 = (r % 256) ^^^ b := by
  have e : 256 = 2 ^ 8 := rfl
  apply Nat.eq_of_testBit_eq
  intro i
  rw [e, Nat.testBit_mod_two_pow, Nat.testBit_xor, Nat.testBit_xor, Nat.testBit_mod_two_pow]
  by_cases h : i < 8
  · simp [h]
  · have : b.testBit i = false := bit_none (n := 8) hb (by omega)
    simp [h, this]
theorem xor_byte_div (r b : Nat) (hb : b < 256) : (r ^^^ b) / 256 = r / 256 := by
  have e : 256 = 2 ^ 8 := rfl
  apply Nat.eq_of_testBit_eq
  intro i
  rw [e, Nat.testBit_div_two_pow, Nat.testBit_xor, Nat.testBit_div_two_pow]
  have : b.testBit (i + 8) = false := bit_none (n := 8) hb (by omega)
  simp [this]
theorem take_table (r b : Nat) (hb : b < 256) : eight ((r % 256) ^^^ b) ^^^ (r / 256) = take r b := by
  unfold take
  rw [eight_split (r ^^^ b), xor_byte_mod r b hb, xor_byte_div r b hb]

theorem run_lt {l : List Nat} : ∀ {r : Nat}, r < 4294967296 → (∀ b ∈ l, b < 256) → run r l < 4294967296 := by
  induction l with
  | nil => intro r hr _; exact hr
  | cons b t ih => intro r hr h; exact ih (take_lt hr (h b (by simp))) (fun x hx => h x (by simp [hx]))
theorem runs_lt {ls : List (List Nat)} : ∀ {r : Nat}, r < 4294967296 → (∀ l ∈ ls, ∀ b ∈ l, b < 256) → runs r ls < 4294967296 := by
  induction ls with
  | nil => intro r hr _; exact hr
  | cons b t ih => intro r hr h; exact ih (run_lt hr (h b (by simp))) (fun x hx => h x (by simp [hx]))
theorem upd_lt (s : Nat) (l : List Nat) : upd s l < 4294967296 := by unfold upd; omega
theorem sum_lt (ls : List (List Nat)) : sum ls < 4294967296 := by unfold sum; omega
theorem run_append (r : Nat) (a b : List Nat) : run r (a ++ b) = run (run r a) b := by unfold run; rw [List.foldl_append]
theorem run_snoc (r : Nat) (a : List Nat) (b : Nat) : run r (a ++ [b]) = take (run r a) b := by rw [run_append]; rfl
theorem runs_append (r : Nat) (a b : List (List Nat)) : runs r (a ++ b) = runs (runs r a) b := by unfold runs; rw [List.foldl_append]
theorem runs_snoc (r : Nat) (a : List (List Nat)) (b : List Nat) : runs r (a ++ [b]) = run (runs r a) b := by rw [runs_append]; rfl
theorem runs_flatten (ls : List (List Nat)) : ∀ r, runs r ls = run r ls.flatten := by
  induction ls with
  | nil => intro r; rfl
  | cons a t ih => intro r; rw [List.flatten_cons, run_append, ← ih]; rfl
theorem not_xor {a : Nat} (h : a < 4294967296) : 4294967295 ^^^ a = 4294967295 - a := by
  apply Nat.eq_of_testBit_eq
  intro i
  have e : 4294967295 - a = 2 ^ 32 - (a + 1) := by omega
  rw [e, Nat.testBit_two_pow_sub_succ h, Nat.testBit_xor]
  have e1 : (4294967295 : Nat) = 2 ^ 32 - 1 := rfl
  rw [e1, Nat.testBit_two_pow_sub_one]
  by_cases hi : i < 32
  · simp [hi]
  · have : a.testBit i = false := bit_none (n := 32) h (by omega)
    simp [hi, this]
theorem upd_upd (s : Nat) (a b : List Nat) (hs : s < 4294967296) (ha : ∀ x ∈ a, x < 256) : upd (upd s a) b = upd s (a ++ b) := by
  unfold upd
  have h := run_lt (l := a) (r := 4294967295 - s) (by omega) ha
  rw [show 4294967295 - (4294967295 - run (4294967295 - s) a) = run (4294967295 - s) a from by omega, run_append]
theorem upd_sum (ls : List (List Nat)) (a : List Nat) (h : ∀ l ∈ ls, ∀ b ∈ l, b < 256) : upd (sum ls) a = sum (ls ++ [a]) := by
  unfold upd sum
  have h := runs_lt (ls := ls) (r := 4294967295) (by omega) h
  rw [show 4294967295 - (4294967295 - runs 4294967295 ls) = runs 4294967295 ls from by omega, runs_snoc]
theorem upd_zero (l : List Nat) : upd 0 l = sum [l] := rfl
theorem sum_flatten (ls : List (List Nat)) : sum ls = upd 0 ls.flatten := by unfold sum upd; rw [runs_flatten]

/-- Four bytes that a register takes one behind the other, the least first, count as the number that they write. -/
theorem take_four (r a b c d : Nat) (ha : a < 256) (hb : b < 256) (hc : c < 256) :
    take (take (take (take r a) b) c) d = halves 32 (r ^^^ (a + 256 * b + 65536 * c + 16777216 * d)) := by
  have q : ∀ x y : Nat, x < 256 → x + 256 * y = x ^^^ (256 * y) := fun x y hx => by
    have h := split8 (x + 256 * y)
    rw [show (x + 256 * y) % 256 = x from by omega, show (x + 256 * y) / 256 = y from by omega] at h
    exact h
  have e1 : a + 256 * b + 65536 * c + 16777216 * d = a ^^^ (256 * (b + 256 * (c + 256 * d))) := by rw [← q a _ ha]; omega
  have s : ∀ r x y : Nat, x < 256 → eight (r ^^^ (x ^^^ (256 * y))) = take r x ^^^ y := fun r x y _ => by
    rw [← Nat.xor_assoc, eight_xor, eight_mul]; rfl
  have h32 : ∀ x, halves 32 x = eight (eight (eight (eight x))) := fun x => by
    show halves (8 + (8 + (8 + 8))) x = _
    rw [halves_add, halves_add, halves_add]; rfl
  rw [h32, e1, s _ _ _ ha, q b _ hb, s _ _ _ hb, q c _ hc, s _ _ _ hc]
  show take _ d = _
  rfl
theorem bytes_of (s : Nat) : s % 256 + 256 * (s / 256 % 256) + 65536 * (s / 65536 % 256) + 16777216 * (s / 16777216) = s := by omega
theorem residue (l : List Nat) (h : ∀ x ∈ l, x < 256) : sum [l ++ [sum [l] % 256, sum [l] / 256 % 256, sum [l] / 65536 % 256, sum [l] / 16777216]] = 558161692 := by
  have hs := sum_lt [l]
  have hr := run_lt (l := l) (r := 4294967295) (by omega) h
  have e : sum [l] = 4294967295 - run 4294967295 l := rfl
  have key : run 4294967295 (l ++ [sum [l] % 256, sum [l] / 256 % 256, sum [l] / 65536 % 256, sum [l] / 16777216]) = 3736805603 := by
    rw [run_append]
    show take (take (take (take _ _) _) _) _ = _
    rw [take_four _ _ _ _ _ (by omega) (by omega) (by omega), bytes_of _, e, ← not_xor hr, ← Nat.xor_assoc, Nat.xor_comm (run _ _) 4294967295, Nat.xor_assoc, Nat.xor_self, Nat.xor_zero]
    decide +kernel
  show 4294967295 - run 4294967295 _ = _
  rw [key]
end Go.Proofs.Ytnokbnobnhkmgaa.Crc
