/- Layer 4's plain mathematics: rows of parts, read. -/
import Derived.Test.YtponelbfddfliaaKy
namespace Go.Proofs.Ytponelbfddfliaa.Ky

/-- A text, as it might be read, and how many bytes it has. -/
def rd : List Nat → Option (List Nat × Nat)
  | [] => none
  | [_] => none
  | x :: y :: r => if x = 0 then (if y = 0 then some ([], 2) else (rd r).map fun q => (0 :: q.1, q.2 + 2)) else (rd (y :: r)).map fun q => (x :: q.1, q.2 + 1)
theorem text_cons (x : Nat) (t : List Nat) : text (x :: t) = if x = 0 then 0 :: 255 :: text t else x :: text t := by
  unfold text
  simp only [esc]
  split <;> rfl
theorem text_ne (t r : List Nat) : ∃ y z, text t ++ r = y :: z := by
  cases t with
  | nil => exact ⟨0, 0 :: r, rfl⟩
  | cons x t =>
    rw [text_cons]
    split
    · exact ⟨0, 255 :: text t ++ r, rfl⟩
    · exact ⟨x, text t ++ r, rfl⟩
theorem rd_text (t r : List Nat) : rd (text t ++ r) = some (t, (text t).length) := by
  induction t with
  | nil => simp [text, esc, rd]
  | cons x t ih =>
    rw [text_cons]
    by_cases hx : x = 0
    · subst hx
      rw [if_pos rfl]
      simp only [List.cons_append, rd]
      rw [ih]
      simp
    · rw [if_neg hx]
      obtain ⟨y, z, hyz⟩ := text_ne t r
      rw [List.cons_append, hyz]
      simp only [rd]
      rw [if_neg hx, ← hyz, ih]
      simp
theorem rd_byte (s : List Nat) (h : ∀ x ∈ s, x < 256) : ∀ t n, rd s = some (t, n) → (∀ x ∈ t, x < 256) ∧ n ≤ s.length ∧ 2 ≤ n ∧ t.length ≤ s.length := by
  induction s using rd.induct with
  | case1 => intro t n h; simp [rd] at h
  | case2 => intro t n h; simp [rd] at h
  | case3 r => intro t n hr; simp [rd] at hr; obtain ⟨rfl, rfl⟩ := hr; simp
  | case4 y r hy ih =>
    intro t n hr
    simp only [rd, if_true, if_neg hy, Option.map_eq_some_iff] at hr
    obtain ⟨⟨t', n'⟩, h1, h2⟩ := hr
    have := ih (fun x hx => h x (by simp [hx])) t' n' h1
    simp only [Prod.mk.injEq] at h2
    obtain ⟨rfl, rfl⟩ := h2
    refine ⟨fun x hx => ?_, by simp; omega, by omega, by simp; omega⟩
    rcases List.mem_cons.1 hx with rfl | hx
    · omega
    · exact this.1 x hx
  | case5 x y r hx ih =>
    intro t n hr
    simp only [rd, if_neg hx, Option.map_eq_some_iff] at hr
    obtain ⟨⟨t', n'⟩, h1, h2⟩ := hr
    have := ih (fun z hz => h z (by simp [hz])) t' n' h1
    simp only [Prod.mk.injEq] at h2
    obtain ⟨rfl, rfl⟩ := h2
    have h2 := this.2
    simp only [List.length_cons] at h2
    refine ⟨fun z hz => ?_, by simp; omega, by omega, by simp; omega⟩
    rcases List.mem_cons.1 hz with rfl | hz
    · exact h z (by simp)
    · exact this.1 z hz

/-- The first part of a kind, as it might be read, and how many bytes it has. -/
def fst (s : List Nat) (k : Nat) : Option (Part × Nat) :=
  if k = 1 then (if s.length < 8 then none else some (⟨1, (Pk.num (s.take 8) : Int) - 9223372036854775808, []⟩, 8))
  else if k = 2 then (rd s).map fun q => (⟨2, 0, q.1⟩, q.2) else none
def lax : List Nat → List Nat → Option (List Part)
  | [], _ => some []
  | k :: ks, s => match fst s k with
    | none => none
    | some q => (lax ks (s.drop q.2)).map (q.1 :: ·)
def parse (s ks : List Nat) : Option (List Part) := match lax ks s with
  | none => none
  | some l => if put l = s then some l else none
/-- A part that is nothing but its kind says. -/
def Normal (p : Part) : Prop := (p.kind = 1 ∧ p.t = [] ∧ Right p) ∨ (p.kind = 2 ∧ p.n = 0 ∧ ∀ x ∈ p.t, x < 256)
theorem fst_enc {p : Part} (h : Normal p) (r : List Nat) : fst (enc p ++ r) p.kind = some (p, (enc p).length) := by
  obtain ⟨k, n, t⟩ := p
  rcases h with ⟨hk, ht, hr⟩ | ⟨hk, hn, ht⟩
  · simp only at hk ht
    subst hk ht
    have e : (256 : Nat) ^ 8 = 18446744073709551616 := by decide
    have hr1 : -9223372036854775808 ≤ n ∧ n ≤ 9223372036854775807 := hr
    have hl : (enc ⟨1, n, []⟩) = Pk.be 8 (turn n) := rfl
    unfold fst
    rw [hl, if_pos rfl, if_neg (by rw [List.length_append, Pk.be_len]; omega), Pk.be_len]
    have h8 : (Pk.be 8 (turn n) ++ r).take 8 = Pk.be 8 (turn n) := by
      have := List.take_left (l₁ := Pk.be 8 (turn n)) (l₂ := r)
      rwa [Pk.be_len] at this
    rw [h8, Pk.num_be, e, Nat.mod_eq_of_lt (show turn n < 18446744073709551616 by unfold turn; omega)]
    have : ((turn n : Nat) : Int) - 9223372036854775808 = n := by unfold turn; omega
    rw [this]
  · simp only at hk hn
    subst hk hn
    unfold fst enc
    simp [rd_text]
theorem fst_normal {s : List Nat} {k : Nat} (hs : ∀ x ∈ s, x < 256) {p : Part} {n : Nat} (h : fst s k = some (p, n)) : Normal p ∧ p.kind = k ∧ n ≤ s.length ∧ 2 ≤ n ∧ p.t.length ≤ s.length := by
  unfold fst at h
  split at h
  · rename_i hk
    split at h
    · simp at h
    · simp only [Option.some.injEq, Prod.mk.injEq] at h
      obtain ⟨rfl, rfl⟩ := h
      have := Pk.num_take_lt s 8 hs (by omega)
      have e : (256 : Nat) ^ 8 = 18446744073709551616 := by decide
      rw [e] at this
      exact ⟨.inl ⟨rfl, rfl, by unfold Right; constructor <;> simp only <;> omega⟩, hk.symm, by omega, by omega, by simp⟩
  · split at h
    · rename_i hk
      simp only [Option.map_eq_some_iff] at h
      obtain ⟨⟨t, m⟩, h1, h2⟩ := h
      simp only [Prod.mk.injEq] at h2
      obtain ⟨rfl, rfl⟩ := h2
      have := rd_byte s hs t m h1
      exact ⟨.inr ⟨rfl, rfl, this.1⟩, hk.symm, this.2.1, this.2.2.1, this.2.2.2⟩
    · simp at h
theorem lax_put (l : List Part) (h : ∀ p ∈ l, Normal p) (r : List Nat) : lax (kinds l) (put l ++ r) = some l := by
  induction l with
  | nil => rfl
  | cons p l ih =>
    simp only [kinds, List.map_cons, lax, put]
    rw [List.append_assoc, fst_enc (h p (by simp))]
    simp only [List.drop_left]
    rw [show l.map (·.kind) = kinds l from rfl, ih (fun q hq => h q (by simp [hq]))]
    rfl
theorem lax_normal (ks s : List Nat) (hs : ∀ x ∈ s, x < 256) (l : List Part) (h : lax ks s = some l) : kinds l = ks ∧ ∀ p ∈ l, Normal p ∧ p.t.length ≤ s.length := by
  induction ks generalizing s l with
  | nil => simp [lax] at h; subst h; exact ⟨rfl, by simp⟩
  | cons k ks ih =>
    simp only [lax] at h
    split at h
    · simp at h
    · rename_i q hq
      simp only [Option.map_eq_some_iff] at h
      obtain ⟨l', h1, rfl⟩ := h
      obtain ⟨h2, h3⟩ := ih (s.drop q.2) (fun x hx => hs x (List.mem_of_mem_drop hx)) l' h1
      have h4 := fst_normal hs (p := q.1) (n := q.2) hq
      refine ⟨by simp only [kinds, List.map_cons] at h2 ⊢; rw [h4.2.1, h2], fun p hp => ?_⟩
      rcases List.mem_cons.1 hp with rfl | hp
      · exact ⟨h4.1, h4.2.2.2.2⟩
      · have := h3 p hp
        exact ⟨this.1, Nat.le_trans this.2 (by rw [List.length_drop]; omega)⟩
/-- What is written is read as it was; what is read is written so. -/
theorem parse_iff (s ks : List Nat) (hs : ∀ x ∈ s, x < 256) (l : List Part) : parse s ks = some l ↔ (kinds l = ks ∧ (∀ p ∈ l, Normal p) ∧ put l = s) := by
  constructor
  · intro h
    unfold parse at h
    split at h
    · simp at h
    · rename_i l' hl
      split at h
      · rename_i hp
        injection h with h
        subst h
        have := lax_normal ks s hs l' hl
        exact ⟨this.1, fun p hp => (this.2 p hp).1, hp⟩
      · simp at h
  · rintro ⟨rfl, hn, rfl⟩
    have := lax_put l hn []
    rw [List.append_nil] at this
    unfold parse
    rw [this]
    simp
end Go.Proofs.Ytponelbfddfliaa.Ky
