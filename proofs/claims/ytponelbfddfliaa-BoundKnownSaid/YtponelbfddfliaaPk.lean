/- Layer 2's plain mathematics: numbers as bytes, the highest first; what a reader takes of bytes. -/
import Derived.Lib.Hide
namespace Go.Proofs.Ytponelbfddfliaa.Pk

def be : Nat → Nat → List Nat
  | 0, _ => []
  | k + 1, n => n / 256 ^ k % 256 :: be k n
theorem be_len (k n : Nat) : (be k n).length = k := by
  induction k with
  | zero => rfl
  | succ k ih => simp [be, ih]
theorem be_lt (k n : Nat) : ∀ x ∈ be k n, x < 256 := by
  induction k with
  | zero => intro x h; simp [be] at h
  | succ k ih =>
    intro x h
    simp only [be, List.mem_cons] at h
    rcases h with rfl | h
    · exact Nat.mod_lt _ (by decide)
    · exact ih x h
def num (l : List Nat) : Nat := l.foldl (fun a c => a * 256 + c) 0
theorem num_nil : num [] = 0 := rfl
theorem num_snoc (l : List Nat) (x : Nat) : num (l ++ [x]) = num l * 256 + x := by simp [num]
theorem num_from (l : List Nat) (a : Nat) : l.foldl (fun a c => a * 256 + c) a = a * 256 ^ l.length + num l := by
  induction l generalizing a with
  | nil => simp [num]
  | cons x t ih =>
    have h1 := ih (a * 256 + x)
    have h2 := ih (0 * 256 + x)
    simp only [num, List.foldl_cons, List.length_cons] at h1 h2 ⊢
    rw [h1, h2, Nat.pow_succ, Nat.add_mul, Nat.zero_mul, Nat.zero_add, Nat.mul_assoc, Nat.mul_comm 256, Nat.add_assoc]
theorem num_cons (x : Nat) (l : List Nat) : num (x :: l) = x * 256 ^ l.length + num l := by
  have := num_from l (0 * 256 + x)
  simp only [Nat.zero_mul, Nat.zero_add] at this
  simpa [num] using this
theorem num_lt (l : List Nat) (h : ∀ x ∈ l, x < 256) : num l < 256 ^ l.length := by
  induction l with
  | nil => simp [num]
  | cons x t ih =>
    have h1 := h x (by simp)
    have h2 := ih (fun y hy => h y (by simp [hy]))
    rw [num_cons, List.length_cons, Nat.pow_succ]
    have h3 : x * 256 ^ t.length ≤ 255 * 256 ^ t.length := Nat.mul_le_mul_right _ (by omega)
    omega
theorem num_be (k n : Nat) : num (be k n) = n % 256 ^ k := by
  induction k with
  | zero => simp [be, num, Nat.mod_one]
  | succ k ih => rw [be, num_cons, ih, be_len, Nat.mod_pow_succ, Nat.mul_comm, Nat.add_comm]
theorem be_mod (k m n : Nat) (h : k ≤ m) : be k (n % 256 ^ m) = be k n := by
  induction k with
  | zero => rfl
  | succ k ih =>
    rw [be, be, ih (by omega)]
    congr 1
    obtain ⟨j, rfl⟩ : ∃ j, m = k + (j + 1) := ⟨m - k - 1, by omega⟩
    rw [Nat.pow_add, Nat.mod_mul_right_div_self, Nat.pow_succ, Nat.mod_mul_left_mod]
theorem num_take_lt (l : List Nat) (k : Nat) (h : ∀ x ∈ l, x < 256) (hk : k ≤ l.length) : num (l.take k) < 256 ^ k := by
  have := num_lt (l.take k) (fun x hx => h x (List.mem_of_mem_take hx))
  rwa [List.length_take, Nat.min_eq_left hk] at this

/-- Does taking k bytes fail? What is taken; what is left. -/
def fails (f : Bool) (l : List Nat) (k : Nat) : Bool := f || decide (l.length < k)
def taken (f : Bool) (l : List Nat) (k : Nat) : List Nat := if fails f l k = true then [] else l.take k
def left (f : Bool) (l : List Nat) (k : Nat) : List Nat := if fails f l k = true then l else l.drop k
theorem fails_yes {f : Bool} {l : List Nat} {k : Nat} (h : f = true ∨ l.length < k) : fails f l k = true := by
  unfold fails
  rcases h with rfl | h
  · rfl
  · simp [h]
theorem fails_no {l : List Nat} {k : Nat} (h : k ≤ l.length) : fails false l k = false := by
  unfold fails
  simp; omega
theorem taken_yes {f : Bool} {l : List Nat} {k : Nat} (h : fails f l k = true) : taken f l k = [] := by unfold taken; rw [if_pos h]
theorem left_yes {f : Bool} {l : List Nat} {k : Nat} (h : fails f l k = true) : left f l k = l := by unfold left; rw [if_pos h]
theorem taken_no {f : Bool} {l : List Nat} {k : Nat} (h : fails f l k = false) : taken f l k = l.take k := by unfold taken; rw [if_neg (by simp [h])]
theorem left_no {f : Bool} {l : List Nat} {k : Nat} (h : fails f l k = false) : left f l k = l.drop k := by unfold left; rw [if_neg (by simp [h])]
theorem fails_iff {f : Bool} {l : List Nat} {k : Nat} : fails f l k = false ↔ f = false ∧ k ≤ l.length := by
  unfold fails
  simp
theorem taken_len (f : Bool) (l : List Nat) (k : Nat) : (taken f l k).length ≤ k := by
  unfold taken
  split
  · simp
  · simp; omega
theorem taken_lt (f : Bool) (l : List Nat) (k : Nat) (h : ∀ x ∈ l, x < 256) : ∀ x ∈ taken f l k, x < 256 := by
  intro x hx
  unfold taken at hx
  split at hx
  · simp at hx
  · exact h x (List.mem_of_mem_take hx)
theorem left_lt (f : Bool) (l : List Nat) (k : Nat) (h : ∀ x ∈ l, x < 256) : ∀ x ∈ left f l k, x < 256 := by
  intro x hx
  unfold left at hx
  split at hx
  · exact h x hx
  · exact h x (List.mem_of_mem_drop hx)
theorem taken_num_lt (f : Bool) (l : List Nat) (k : Nat) (h : ∀ x ∈ l, x < 256) : num (taken f l k) < 256 ^ k :=
  Nat.lt_of_lt_of_le (num_lt _ (taken_lt f l k h)) (Nat.pow_le_pow_right (by decide) (taken_len f l k))

/-- A text: its length in two bytes, and its bytes. -/
def tlen (f : Bool) (l : List Nat) : Nat := num (taken f l 2)
def tfails (f : Bool) (l : List Nat) : Bool := fails (fails f l 2) (left f l 2) (tlen f l)
def ttaken (f : Bool) (l : List Nat) : List Nat := if tfails f l = true then [] else (l.drop 2).take (tlen f l)
def tleft (f : Bool) (l : List Nat) : List Nat := if tfails f l = true then l else l.drop (2 + tlen f l)
theorem ttaken_yes {f : Bool} {l : List Nat} (h : tfails f l = true) : ttaken f l = [] := by unfold ttaken; rw [if_pos h]
theorem tleft_yes {f : Bool} {l : List Nat} (h : tfails f l = true) : tleft f l = l := by unfold tleft; rw [if_pos h]
theorem ttaken_no {f : Bool} {l : List Nat} (h : tfails f l = false) : ttaken f l = (l.drop 2).take (tlen f l) := by unfold ttaken; rw [if_neg (by simp [h])]
theorem tleft_no {f : Bool} {l : List Nat} (h : tfails f l = false) : tleft f l = l.drop (2 + tlen f l) := by unfold tleft; rw [if_neg (by simp [h])]
theorem tfails_iff {f : Bool} {l : List Nat} : tfails f l = false ↔ fails f l 2 = false ∧ tlen f l ≤ l.length - 2 := by
  unfold tfails
  rw [fails_iff]
  constructor
  · rintro ⟨h1, h2⟩
    rw [left_no h1, List.length_drop] at h2
    exact ⟨h1, h2⟩
  · rintro ⟨h1, h2⟩
    rw [left_no h1, List.length_drop]
    exact ⟨h1, h2⟩

/-- A number, and what stands behind it. -/
theorem fails_at (e r : List Nat) : fails false (e ++ r) e.length = false := fails_no (by simp)
theorem taken_at (e r : List Nat) : taken false (e ++ r) e.length = e := by rw [taken_no (fails_at e r)]; simp
theorem left_at (e r : List Nat) : left false (e ++ r) e.length = r := by rw [left_no (fails_at e r)]; simp
/-- A text, packed. -/
def tx (l : List Nat) : List Nat := be 2 l.length ++ l
theorem tx_ne (l : List Nat) : tx l ≠ [] := by simp [tx, be]
theorem tx_lt (l : List Nat) (h : ∀ x ∈ l, x < 256) : ∀ x ∈ tx l, x < 256 := by
  intro x hx
  rcases List.mem_append.1 hx with hx | hx
  · exact be_lt _ _ x hx
  · exact h x hx
theorem tlen_at (l r : List Nat) (h : l.length < 65536) : tlen false (tx l ++ r) = l.length := by
  have := taken_at (be 2 l.length) (l ++ r)
  rw [be_len] at this
  unfold tlen tx
  rw [List.append_assoc, this, num_be]
  exact Nat.mod_eq_of_lt h
theorem tfails_at (l r : List Nat) (h : l.length < 65536) : tfails false (tx l ++ r) = false := by
  rw [tfails_iff, tlen_at l r h]
  refine ⟨fails_no ?_, ?_⟩ <;> simp [tx, be_len] <;> omega
theorem ttaken_at (l r : List Nat) (h : l.length < 65536) : ttaken false (tx l ++ r) = l := by
  rw [ttaken_no (tfails_at l r h), tlen_at l r h, tx, List.append_assoc]
  have : (be 2 l.length ++ (l ++ r)).drop 2 = l ++ r := by
    have h2 := List.drop_left (l₁ := be 2 l.length) (l₂ := l ++ r)
    rwa [be_len] at h2
  rw [this, List.take_left]
theorem tleft_at (l r : List Nat) (h : l.length < 65536) : tleft false (tx l ++ r) = r := by
  rw [tleft_no (tfails_at l r h), tlen_at l r h]
  have h2 := List.drop_left (l₁ := tx l) (l₂ := r)
  rwa [show (tx l).length = 2 + l.length from by simp [tx, be_len]] at h2

/-- What is left to the reader that lacks the last byte: all but that, as long as something is to come; else it has failed. -/
def Short (l : List Nat) (f : Bool) (rem : List Nat) : Prop := f = true ∨ (f = false ∧ rem ≠ [] ∧ l = rem.dropLast)
theorem Short.take {l e rem : List Nat} {f : Bool} (h : Short l f (e ++ rem)) (he : e ≠ []) : Short (left f l e.length) (fails f l e.length) rem := by
  rcases h with rfl | ⟨rfl, -, rfl⟩
  · exact .inl (fails_yes (.inl rfl))
  · by_cases hr : rem = []
    · subst hr
      refine .inl (fails_yes (.inr ?_))
      have : 0 < e.length := List.length_pos_iff.2 he
      simp
      omega
    · rw [List.dropLast_append_of_ne_nil hr]
      exact .inr ⟨fails_at _ _, hr, left_at _ _⟩
theorem Short.text {l t rem : List Nat} {f : Bool} (h : Short l f (tx t ++ rem)) (ht : t.length < 65536) : Short (tleft f l) (tfails f l) rem := by
  rcases h with rfl | ⟨rfl, -, rfl⟩
  · exact .inl (by unfold tfails; rw [fails_yes (.inl (fails_yes (.inl rfl)))])
  · by_cases hr : rem = []
    · subst hr
      left
      rw [List.append_nil]
      rcases Bool.eq_false_or_eq_true (tfails false (tx t).dropLast) with h | h
      · exact h
      · exfalso
        rw [tfails_iff, fails_iff] at h
        obtain ⟨⟨-, h1⟩, h2⟩ := h
        have hl : (tx t).dropLast.length = t.length + 1 := by simp [tx, be_len]; omega
        rw [hl] at h1 h2
        have hne : t ≠ [] := by rintro rfl; simp at h1
        have hd : (tx t).dropLast = be 2 t.length ++ t.dropLast := by rw [tx, List.dropLast_append_of_ne_nil hne]
        have h3 : tlen false (tx t).dropLast = t.length := by
          have := taken_at (be 2 t.length) t.dropLast
          rw [be_len] at this
          unfold tlen
          rw [hd, this, num_be]
          exact Nat.mod_eq_of_lt ht
        rw [h3] at h2
        omega
    · rw [List.dropLast_append_of_ne_nil hr]
      exact .inr ⟨tfails_at _ _ ht, hr, tleft_at _ _ ht⟩
theorem Short.end_ {l : List Nat} {f : Bool} (h : Short l f []) : f = true := by
  rcases h with h | ⟨-, h, -⟩
  · exact h
  · exact absurd rfl h
end Go.Proofs.Ytponelbfddfliaa.Pk
