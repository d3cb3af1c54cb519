/- Layer 4's plain mathematics: rows of parts as bytes whose order is theirs; what comes after a beginning. -/
import Derived.Test.YtponelbfddfliaaPk
namespace Go.Proofs.Ytponelbfddfliaa.Ky

/-- Bytes, one by one: -1, 0, 1. -/
def cmp : List Nat → List Nat → Int
  | [], [] => 0
  | [], _ :: _ => -1
  | _ :: _, [] => 1
  | a :: x, b :: y => if a < b then -1 else if b < a then 1 else cmp x y
theorem cmp_refl (x : List Nat) : cmp x x = 0 := by
  induction x with
  | nil => rfl
  | cons a x ih => simp [cmp, ih]
theorem cmp_three (x y : List Nat) : cmp x y = -1 ∨ cmp x y = 0 ∨ cmp x y = 1 := by
  induction x generalizing y with
  | nil => cases y <;> simp [cmp]
  | cons a x ih =>
    cases y with
    | nil => simp [cmp]
    | cons b y =>
      simp only [cmp]
      split
      · exact .inl rfl
      · split
        · exact .inr (.inr rfl)
        · exact ih y
theorem cmp_eq {x y : List Nat} (h : cmp x y = 0) : x = y := by
  induction x generalizing y with
  | nil =>
    cases y with
    | nil => rfl
    | cons b y => simp [cmp] at h
  | cons a x ih =>
    cases y with
    | nil => simp [cmp] at h
    | cons b y =>
      simp only [cmp] at h
      split at h
      · simp at h
      · split at h
        · simp at h
        · rw [show a = b by omega, ih h]
theorem cmp_swap (x y : List Nat) : cmp y x = -cmp x y := by
  induction x generalizing y with
  | nil => cases y <;> simp [cmp]
  | cons a x ih =>
    cases y with
    | nil => simp [cmp]
    | cons b y =>
      simp only [cmp]
      rcases Nat.lt_trichotomy a b with h | h | h
      · rw [if_neg (by omega), if_pos h, if_pos h]; rfl
      · rw [if_neg (by omega), if_neg (by omega), if_neg (by omega), if_neg (by omega), ih]
      · rw [if_pos h, if_neg (by omega), if_pos h]
theorem cmp_same (p x y : List Nat) : cmp (p ++ x) (p ++ y) = cmp x y := by
  induction p with
  | nil => rfl
  | cons a p ih => simp [cmp, ih]
/-- Less, whatever stands behind. -/
def Less (x y : List Nat) : Prop := ∀ r s, cmp (x ++ r) (y ++ s) = -1
theorem Less.same {x y : List Nat} (p : List Nat) (h : Less x y) : Less (p ++ x) (p ++ y) := fun r s => by
  rw [List.append_assoc, List.append_assoc, cmp_same]
  exact h r s
theorem Less.more {x y : List Nat} (h : Less x y) (u v : List Nat) : Less (x ++ u) (y ++ v) := fun r s => by
  rw [List.append_assoc, List.append_assoc]
  exact h _ _
theorem Less.cmp {x y : List Nat} (h : Less x y) : cmp x y = -1 := by
  have := h [] []
  simpa using this
theorem Less.cmp' {x y : List Nat} (h : Less x y) : Ky.cmp y x = 1 := by
  rw [cmp_swap, h.cmp]
  rfl
theorem Less.apart {x y : List Nat} (h : Less x y) : (∀ z, y ≠ x ++ z) ∧ (∀ z, x ≠ y ++ z) := by
  constructor
  · rintro z rfl
    have := h z []
    rw [List.append_nil, cmp_refl] at this
    simp at this
  · rintro z rfl
    have := h [] z
    rw [List.append_nil, cmp_refl] at this
    simp at this
theorem Less.head {a b : Nat} (h : a < b) (x y : List Nat) : Less (a :: x) (b :: y) := fun r s => by
  simp [Ky.cmp, h]

/-- Rows of the same length that differ. -/
theorem less_len {x y : List Nat} (hl : x.length = y.length) (h : cmp x y = -1) : Less x y := by
  induction x generalizing y with
  | nil =>
    cases y with
    | nil => simp [cmp] at h
    | cons b y => simp at hl
  | cons a x ih =>
    cases y with
    | nil => simp at hl
    | cons b y =>
      simp only [cmp] at h
      split at h
      · rename_i h1; exact Less.head h1 x y
      · split at h
        · simp at h
        · rename_i h1 h2
          rw [show a = b by omega]
          exact (ih (by simpa using hl) h).same [b]
/-- Numbers, the highest byte first, stand as their bytes. -/
theorem be_cmp (k m n : Nat) : cmp (Pk.be k m) (Pk.be k n) = if m % 256 ^ k < n % 256 ^ k then -1 else if n % 256 ^ k < m % 256 ^ k then 1 else 0 := by
  induction k with
  | zero => simp [Pk.be, cmp, Nat.mod_one]
  | succ k ih =>
    simp only [Pk.be, cmp]
    have hm : m % 256 ^ (k + 1) = m / 256 ^ k % 256 * 256 ^ k + m % 256 ^ k := by rw [Nat.mod_pow_succ, Nat.mul_comm, Nat.add_comm]
    have hn : n % 256 ^ (k + 1) = n / 256 ^ k % 256 * 256 ^ k + n % 256 ^ k := by rw [Nat.mod_pow_succ, Nat.mul_comm, Nat.add_comm]
    have h1 := Nat.mod_lt m (show 0 < 256 ^ k from Nat.pow_pos (by decide))
    have h2 := Nat.mod_lt n (show 0 < 256 ^ k from Nat.pow_pos (by decide))
    rw [hm, hn, ih]
    generalize m / 256 ^ k % 256 = a
    generalize n / 256 ^ k % 256 = b
    generalize m % 256 ^ k = c at *
    generalize n % 256 ^ k = d at *
    generalize 256 ^ k = p at *
    rcases Nat.lt_trichotomy a b with h | rfl | h
    · have : (a + 1) * p ≤ b * p := Nat.mul_le_mul_right _ h
      rw [Nat.add_mul] at this
      rw [if_pos h, if_pos (by omega)]
    · rw [if_neg (by omega), if_neg (by omega)]
      rcases Nat.lt_trichotomy c d with h | rfl | h
      · rw [if_pos h, if_pos (by omega)]
      · rw [if_neg (by omega), if_neg (by omega), if_neg (by omega), if_neg (by omega)]
      · rw [if_neg (by omega), if_pos h, if_neg (by omega), if_pos (by omega)]
    · have : (b + 1) * p ≤ a * p := Nat.mul_le_mul_right _ h
      rw [Nat.add_mul] at this
      rw [if_neg (by omega), if_pos h, if_neg (by omega), if_pos (by omega)]

/-- A text's bytes, a 00 as 00 FF. -/
def esc : List Nat → List Nat
  | [] => []
  | x :: t => if x = 0 then 0 :: 255 :: esc t else x :: esc t
theorem esc_snoc (t : List Nat) (x : Nat) : esc (t ++ [x]) = esc t ++ (if x = 0 then [0, 255] else [x]) := by
  induction t with
  | nil => simp [esc]
  | cons y t ih =>
    simp only [List.cons_append, esc, ih]
    split <;> simp
theorem esc_lt (t : List Nat) (h : ∀ x ∈ t, x < 256) : ∀ x ∈ esc t, x < 256 := by
  induction t with
  | nil => simp [esc]
  | cons y t ih =>
    have h1 := h y (by simp)
    have h2 := ih (fun x hx => h x (by simp [hx]))
    intro x hx
    simp only [esc] at hx
    split at hx
    · simp at hx
      rcases hx with rfl | rfl | hx
      · omega
      · omega
      · exact h2 x hx
    · simp at hx
      rcases hx with rfl | hx
      · exact h1
      · exact h2 x hx
def text (t : List Nat) : List Nat := esc t ++ [0, 0]
theorem text_less {t u : List Nat} (h : cmp t u = -1) : Less (text t) (text u) := by
  induction t generalizing u with
  | nil =>
    cases u with
    | nil => simp [cmp] at h
    | cons y u =>
      simp only [text, esc, List.nil_append]
      split
      · exact (Less.head (a := 0) (b := 255) (by omega) [] (esc u ++ [0, 0])).same [0]
      · exact Less.head (by omega) _ _
  | cons x t ih =>
    cases u with
    | nil => simp [cmp] at h
    | cons y u =>
      simp only [cmp] at h
      split at h
      · rename_i h1
        simp only [text, esc]
        rw [if_neg (show ¬ y = 0 by omega)]
        split
        · exact Less.head (by omega) _ _
        · exact Less.head h1 _ _
      · split at h
        · simp at h
        · rename_i h1 h2
          obtain rfl : x = y := by omega
          have := ih h
          simp only [text, esc]
          split
          · exact this.same [0, 255]
          · exact this.same [x]

/-- A part: its kind, its number, its text. -/
structure Part where
  kind : Nat
  n : Int
  t : List Nat
/-- A number with its first binary digit turned about. -/
def turn (n : Int) : Nat := (n + 9223372036854775808).toNat
def enc (p : Part) : List Nat := if p.kind = 1 then Pk.be 8 (turn p.n) else text p.t
def put : List Part → List Nat
  | [] => []
  | p :: l => enc p ++ put l
theorem put_append (a b : List Part) : put (a ++ b) = put a ++ put b := by
  induction a with
  | nil => rfl
  | cons p a ih => simp [put, ih]
def cmpI (a b : Int) : Int := if a < b then -1 else if b < a then 1 else 0
def cmpPart (p q : Part) : Int := if p.kind < q.kind then -1 else if q.kind < p.kind then 1 else if p.kind = 1 then cmpI p.n q.n else cmp p.t q.t
def cmpRow : List Part → List Part → Int
  | [], [] => 0
  | [], _ :: _ => -1
  | _ :: _, [] => 1
  | p :: a, q :: b => if cmpPart p q = 0 then cmpRow a b else cmpPart p q
def Right (p : Part) : Prop := -9223372036854775808 ≤ p.n ∧ p.n ≤ 9223372036854775807
theorem be_turn {m n : Int} (hm : -9223372036854775808 ≤ m ∧ m ≤ 9223372036854775807) (hn : -9223372036854775808 ≤ n ∧ n ≤ 9223372036854775807) : cmp (Pk.be 8 (turn m)) (Pk.be 8 (turn n)) = cmpI m n := by
  have e : (256 : Nat) ^ 8 = 18446744073709551616 := by decide
  rw [be_cmp, e, Nat.mod_eq_of_lt (show turn m < 18446744073709551616 by unfold turn; omega), Nat.mod_eq_of_lt (show turn n < 18446744073709551616 by unfold turn; omega)]
  unfold cmpI turn
  rcases Int.lt_trichotomy m n with h | rfl | h
  · rw [if_pos (by omega), if_pos h]
  · rw [if_neg (by omega), if_neg (by omega), if_neg (by omega), if_neg (by omega)]
  · rw [if_neg (by omega), if_pos (by omega), if_neg (by omega), if_pos h]
/-- Two parts of one kind: the same bytes, or apart whatever stands behind. -/
theorem enc_cmp {p q : Part} (hk : p.kind = q.kind) (hp : Right p) (hq : Right q) : (cmpPart p q = 0 ∧ enc p = enc q) ∨ (cmpPart p q = -1 ∧ Less (enc p) (enc q)) ∨ (cmpPart p q = 1 ∧ Less (enc q) (enc p)) := by
  unfold cmpPart enc
  rw [if_neg (by omega), if_neg (by omega), ← hk]
  split
  · have h := be_turn hp hq
    have h' := be_turn hq hp
    unfold cmpI at h h' ⊢
    rcases Int.lt_trichotomy p.n q.n with h1 | h1 | h1
    · rw [if_pos h1] at h ⊢
      exact .inr (.inl ⟨rfl, less_len (by rw [Pk.be_len, Pk.be_len]) h⟩)
    · rw [h1]
      rw [if_neg (by omega), if_neg (by omega)]
      exact .inl ⟨rfl, rfl⟩
    · rw [if_pos h1] at h'
      rw [if_neg (by omega), if_pos h1]
      exact .inr (.inr ⟨rfl, less_len (by rw [Pk.be_len, Pk.be_len]) h'⟩)
  · rcases cmp_three p.t q.t with h | h | h
    · exact .inr (.inl ⟨h, text_less h⟩)
    · exact .inl ⟨h, by rw [cmp_eq h]⟩
    · exact .inr (.inr ⟨h, text_less (by rw [cmp_swap, h])⟩)
def kinds (l : List Part) : List Nat := l.map (·.kind)
/-- Rows of the same kinds stand as their bytes, and neither is the other's beginning. -/
theorem put_cmp {a b : List Part} (hk : kinds a = kinds b) (ha : ∀ p ∈ a, Right p) (hb : ∀ p ∈ b, Right p) : (cmpRow a b = 0 ∧ put a = put b) ∨ (cmpRow a b = -1 ∧ Less (put a) (put b)) ∨ (cmpRow a b = 1 ∧ Less (put b) (put a)) := by
  induction a generalizing b with
  | nil =>
    cases b with
    | nil => exact .inl ⟨rfl, rfl⟩
    | cons q b => simp [kinds] at hk
  | cons p a ih =>
    cases b with
    | nil => simp [kinds] at hk
    | cons q b =>
      simp only [kinds, List.map_cons, List.cons.injEq] at hk
      have hih := ih hk.2 (fun x hx => ha x (by simp [hx])) (fun x hx => hb x (by simp [hx]))
      simp only [cmpRow, put]
      rcases enc_cmp hk.1 (ha p (by simp)) (hb q (by simp)) with ⟨h1, h2⟩ | ⟨h1, h2⟩ | ⟨h1, h2⟩
      · rw [if_pos h1, h2]
        rcases hih with ⟨h3, h4⟩ | ⟨h3, h4⟩ | ⟨h3, h4⟩
        · exact .inl ⟨h3, by rw [h4]⟩
        · exact .inr (.inl ⟨h3, h4.same _⟩)
        · exact .inr (.inr ⟨h3, h4.same _⟩)
      · rw [if_neg (by rw [h1]; decide)]
        exact .inr (.inl ⟨h1, h2.more _ _⟩)
      · rw [if_neg (by rw [h1]; decide)]
        exact .inr (.inr ⟨h1, h2.more _ _⟩)

/-- How many bytes stay, if all last FFs go. -/
def core (p : List Nat) : List Nat := (p.reverse.dropWhile (· == 255)).reverse
theorem core_split (p : List Nat) : ∃ k, p = core p ++ List.replicate k 255 := by
  have h := List.takeWhile_append_dropWhile (p := fun x : Nat => x == 255) (l := p.reverse)
  refine ⟨(p.reverse.takeWhile (· == 255)).length, ?_⟩
  have h2 : p.reverse.takeWhile (· == 255) = List.replicate (p.reverse.takeWhile (· == 255)).length 255 := by
    rw [List.eq_replicate_iff]
    refine ⟨rfl, fun x hx => ?_⟩
    have := List.all_takeWhile (l := p.reverse) (p := fun x : Nat => x == 255)
    rw [List.all_eq_true] at this
    simpa using this x hx
  have h3 := congrArg List.reverse h
  rw [List.reverse_reverse, List.reverse_append] at h3
  rw [h2, List.reverse_replicate] at h3
  unfold core
  exact h3.symm
theorem core_last (p : List Nat) : core p = [] ∨ ∃ q c, core p = q ++ [c] ∧ c ≠ 255 := by
  unfold core
  rcases h : p.reverse.dropWhile (· == 255) with _ | ⟨c, q⟩
  · exact .inl rfl
  · refine .inr ⟨q.reverse, c, by simp, ?_⟩
    have := List.head?_dropWhile_not (fun x : Nat => x == 255) p.reverse
    rw [h] at this
    simpa using this
def after (p : List Nat) : Option (List Nat) := if core p = [] then none else some ((core p).dropLast ++ [(core p).getLast?.getD 0 + 1])
/-- At least as great as FF, some times: it begins so. -/
theorem ffs (k : Nat) (t : List Nat) (ht : ∀ x ∈ t, x < 256) : cmp t (List.replicate k 255) ≠ -1 ↔ ∃ z, t = List.replicate k 255 ++ z := by
  induction k generalizing t with
  | zero =>
    cases t with
    | nil => simp [cmp]
    | cons x t => simp [cmp]
  | succ k ih =>
    rw [List.replicate_succ]
    cases t with
    | nil => simp [cmp]
    | cons x t =>
      have hx := ht x (by simp)
      have h := ih t (fun y hy => ht y (by simp [hy]))
      simp only [cmp]
      by_cases h1 : x = 255
      · subst h1
        rw [if_neg (by omega), if_neg (by omega), h]
        simp
      · rw [if_pos (by omega)]
        simp
        intro h2
        exact absurd h2 h1
theorem begins_cons (a : Nat) (p t : List Nat) : (∃ z, t = a :: p ++ z) ↔ ∃ t', t = a :: t' ∧ ∃ z, t' = p ++ z := by
  constructor
  · rintro ⟨z, rfl⟩
    exact ⟨p ++ z, rfl, z, rfl⟩
  · rintro ⟨_, rfl, z, rfl⟩
    exact ⟨z, rfl⟩
/-- A text begins with a beginning, if it is at least that, and less than what comes after it. -/
theorem begins_mid (q : List Nat) (c k : Nat) (hc : c < 255) (t : List Nat) (ht : ∀ x ∈ t, x < 256) : (∃ z, t = q ++ [c] ++ List.replicate k 255 ++ z) ↔ (cmp t (q ++ [c] ++ List.replicate k 255) ≠ -1 ∧ cmp t (q ++ [c + 1]) = -1) := by
  induction q generalizing t with
  | nil =>
    cases t with
    | nil => simp [cmp]
    | cons x t =>
      have h := ffs k t (fun y hy => ht y (by simp [hy]))
      simp only [List.nil_append, List.cons_append, cmp]
      rcases Nat.lt_trichotomy x c with h1 | h1 | h1
      · rw [if_pos h1]
        simp
        intro z h2
        omega
      · subst h1
        rw [if_neg (by omega), if_neg (by omega), if_pos (by omega), h]
        simp
      · rw [if_neg (by omega), if_pos h1, if_neg (by omega)]
        by_cases h2 : c + 1 < x
        · rw [if_pos h2]
          simp
          intro z h3
          omega
        · rw [if_neg h2]
          have h3 : cmp t [] ≠ -1 := by cases t <;> simp [cmp]
          simp [h3]
          intro z h4
          omega
  | cons a q ih =>
    cases t with
    | nil => simp [cmp]
    | cons x t =>
      have h := ih t (fun y hy => ht y (by simp [hy]))
      simp only [List.cons_append, cmp]
      rcases Nat.lt_trichotomy x a with h1 | h1 | h1
      · rw [if_pos h1]
        simp
        intro z h2
        omega
      · subst h1
        rw [if_neg (by omega), if_neg (by omega), if_neg (by omega), if_neg (by omega), ← h]
        simp
      · rw [if_neg (by omega), if_pos h1, if_neg (by omega), if_pos h1]
        simp
        intro z h2
        omega
theorem begins_after (p t : List Nat) (hp : ∀ x ∈ p, x < 256) (ht : ∀ x ∈ t, x < 256) : (∃ z, t = p ++ z) ↔ (cmp t p ≠ -1 ∧ ∀ a, after p = some a → cmp t a = -1) := by
  obtain ⟨k, hk⟩ := core_split p
  rcases core_last p with h | ⟨q, c, h, hc⟩
  · rw [h, List.nil_append] at hk
    unfold after
    rw [if_pos h]
    rw [hk, ← ffs k t ht]
    simp
  · have hne : core p ≠ [] := by rw [h]; simp
    have hcp : c ∈ p := by rw [hk, h]; simp
    have hc2 := hp c hcp
    unfold after
    rw [if_neg hne, h]
    simp only [List.dropLast_concat, List.getLast?_concat, Option.getD_some]
    rw [h] at hk
    rw [hk]
    have := begins_mid q c k (by omega) t ht
    rw [this]
    constructor
    · rintro ⟨h1, h2⟩
      exact ⟨h1, fun a ha => by injection ha with ha; rw [← ha]; exact h2⟩
    · rintro ⟨h1, h2⟩
      exact ⟨h1, h2 _ rfl⟩
end Go.Proofs.Ytponelbfddfliaa.Ky
