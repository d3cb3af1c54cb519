/- Layer 4's plain mathematics: rows of parts, read strictly: the first byte that is wrong ends it. -/
import Derived.Test.YtponelbfddfliaaKyP
namespace Go.Proofs.Ytponelbfddfliaa.Ky

/-- A text, read byte by byte: whether the byte ahead was a 00. -/
def sc : Bool → List Nat → Option (List Nat × Nat)
  | _, [] => none
  | true, x :: r => if x = 0 then some ([], 1) else if x = 255 then (sc false r).map fun q => (0 :: q.1, q.2 + 1) else none
  | false, x :: r => if x = 0 then (sc true r).map fun q => (q.1, q.2 + 1) else (sc false r).map fun q => (x :: q.1, q.2 + 1)
theorem sc_sound (s : List Nat) (hs : ∀ x ∈ s, x < 256) : (∀ t n, sc false s = some (t, n) → (∃ r, s = text t ++ r) ∧ n = (text t).length ∧ ∀ x ∈ t, x < 256) ∧ (∀ t n, sc true s = some (t, n) → (∃ r, 0 :: s = text t ++ r) ∧ n + 1 = (text t).length ∧ ∀ x ∈ t, x < 256) := by
  induction s with
  | nil => exact ⟨fun t n h => by simp [sc] at h, fun t n h => by simp [sc] at h⟩
  | cons x s ih =>
    obtain ⟨i1, i2⟩ := ih (fun y hy => hs y (by simp [hy]))
    refine ⟨fun t n h => ?_, fun t n h => ?_⟩
    · simp only [sc] at h
      split at h
      · rename_i hx
        subst hx
        simp only [Option.map_eq_some_iff] at h
        obtain ⟨⟨t', n'⟩, h1, h2⟩ := h
        simp only [Prod.mk.injEq] at h2
        obtain ⟨rfl, rfl⟩ := h2
        exact i2 _ _ h1
      · rename_i hx
        simp only [Option.map_eq_some_iff] at h
        obtain ⟨⟨t', n'⟩, h1, h2⟩ := h
        simp only [Prod.mk.injEq] at h2
        obtain ⟨rfl, rfl⟩ := h2
        obtain ⟨⟨r, e⟩, e2, e3⟩ := i1 _ _ h1
        refine ⟨⟨r, ?_⟩, ?_, ?_⟩
        · rw [text_cons, if_neg hx, e]; rfl
        · rw [text_cons, if_neg hx, e2]; rfl
        · intro y hy
          rcases List.mem_cons.1 hy with rfl | hy
          · exact hs y (by simp)
          · exact e3 y hy
    · simp only [sc] at h
      split at h
      · rename_i hx
        subst hx
        simp only [Option.some.injEq, Prod.mk.injEq] at h
        obtain ⟨rfl, rfl⟩ := h
        exact ⟨⟨s, rfl⟩, rfl, by simp⟩
      · split at h
        · rename_i hx
          subst hx
          simp only [Option.map_eq_some_iff] at h
          obtain ⟨⟨t', n'⟩, h1, h2⟩ := h
          simp only [Prod.mk.injEq] at h2
          obtain ⟨rfl, rfl⟩ := h2
          obtain ⟨⟨r, e⟩, e2, e3⟩ := i1 _ _ h1
          refine ⟨⟨r, ?_⟩, ?_, ?_⟩
          · rw [text_cons, if_pos rfl, e]; rfl
          · rw [text_cons, if_pos rfl, e2]; rfl
          · intro y hy
            rcases List.mem_cons.1 hy with rfl | hy
            · omega
            · exact e3 y hy
        · simp at h
theorem sc_text (t r : List Nat) : sc false (text t ++ r) = some (t, (text t).length) := by
  induction t with
  | nil => simp [text, esc, sc]
  | cons x t ih =>
    rw [text_cons]
    by_cases hx : x = 0
    · subst hx
      rw [if_pos rfl]
      simp only [List.cons_append, sc, if_true]
      rw [if_neg (by decide), ih]
      simp
    · rw [if_neg hx]
      simp only [List.cons_append, sc]
      rw [if_neg hx, ih]
      simp
theorem be_num (l : List Nat) (h : ∀ x ∈ l, x < 256) : Pk.be l.length (Pk.num l) = l := by
  induction l with
  | nil => rfl
  | cons x l ih =>
    have hx := h x (by simp)
    have hl := Pk.num_lt l (fun y hy => h y (by simp [hy]))
    have e1 : (x * 256 ^ l.length + Pk.num l) / 256 ^ l.length % 256 = x := by
      rw [Nat.mul_comm, Nat.mul_add_div (Nat.pow_pos (by decide)), Nat.div_eq_of_lt hl]
      omega
    show Pk.num (x :: l) / 256 ^ l.length % 256 :: Pk.be l.length (Pk.num (x :: l)) = x :: l
    rw [Pk.num_cons, e1, ← Pk.be_mod l.length l.length _ (Nat.le_refl _), Nat.mul_add_mod_self_right, Nat.mod_eq_of_lt hl, ih (fun y hy => h y (by simp [hy]))]
def sfst (s : List Nat) (k : Nat) : Option (Part × Nat) :=
  if k = 1 then (if s.length < 8 then none else some (⟨1, (Pk.num (s.take 8) : Int) - 9223372036854775808, []⟩, 8))
  else if k = 2 then (sc false s).map fun q => (⟨2, 0, q.1⟩, q.2) else none
theorem sfst_enc {p : Part} (h : Normal p) (r : List Nat) : sfst (enc p ++ r) p.kind = some (p, (enc p).length) := by
  obtain ⟨k, n, t⟩ := p
  rcases h with ⟨hk, ht, hr⟩ | ⟨hk, hn, ht⟩
  · have := fst_enc (p := ⟨k, n, t⟩) (.inl ⟨hk, ht, hr⟩) r
    simp only at hk
    subst hk
    simpa [fst, sfst] using this
  · simp only at hk hn
    subst hk hn
    unfold sfst enc
    simp [sc_text]
theorem sfst_sound {s : List Nat} {k : Nat} (hs : ∀ x ∈ s, x < 256) {p : Part} {n : Nat} (h : sfst s k = some (p, n)) : Normal p ∧ p.kind = k ∧ (∃ r, s = enc p ++ r) ∧ n = (enc p).length := by
  unfold sfst at h
  split at h
  · rename_i hk
    have h0 : fst s k = some (p, n) := by
      unfold fst
      rw [if_pos hk]
      exact h
    obtain ⟨hn, hpk, _⟩ := fst_normal hs h0
    split at h
    · simp at h
    · simp only [Option.some.injEq, Prod.mk.injEq] at h
      obtain ⟨rfl, rfl⟩ := h
      have hlt := Pk.num_take_lt s 8 hs (by omega)
      have e8 : (256 : Nat) ^ 8 = 18446744073709551616 := by decide
      have e : enc ⟨1, (Pk.num (s.take 8) : Int) - 9223372036854775808, []⟩ = s.take 8 := by
        show Pk.be 8 (turn _) = _
        have h1 : turn ((Pk.num (s.take 8) : Int) - 9223372036854775808) = Pk.num (s.take 8) := by unfold turn; omega
        rw [h1]
        have h2 := be_num (s.take 8) (fun x hx => hs x (List.mem_of_mem_take hx))
        rwa [List.length_take, Nat.min_eq_left (by omega)] at h2
      refine ⟨hn, hpk, ⟨s.drop 8, ?_⟩, ?_⟩
      · rw [e, List.take_append_drop]
      · rw [e, List.length_take]; omega
  · split at h
    · rename_i hk
      simp only [Option.map_eq_some_iff] at h
      obtain ⟨⟨t, m⟩, h1, h2⟩ := h
      simp only [Prod.mk.injEq] at h2
      obtain ⟨rfl, rfl⟩ := h2
      obtain ⟨hr, hl, ht⟩ := (sc_sound s hs).1 t m h1
      exact ⟨.inr ⟨rfl, rfl, ht⟩, hk.symm, hr, hl⟩
    · simp at h
/-- A row, read strictly. -/
def strict : List Nat → List Nat → Option (List Part)
  | [], s => if s = [] then some [] else none
  | k :: ks, s => match sfst s k with
    | none => none
    | some q => (strict ks (s.drop q.2)).map (q.1 :: ·)
theorem strict_iff (ks s : List Nat) (hs : ∀ x ∈ s, x < 256) (l : List Part) : strict ks s = some l ↔ (kinds l = ks ∧ (∀ p ∈ l, Normal p) ∧ put l = s) := by
  induction ks generalizing s l with
  | nil =>
    constructor
    · intro h
      simp only [strict] at h
      split at h
      · rename_i he
        injection h with h
        subst h he
        exact ⟨rfl, by simp, rfl⟩
      · simp at h
    · rintro ⟨hk, _, rfl⟩
      have : l = [] := by cases l with
        | nil => rfl
        | cons p l => simp [kinds] at hk
      subst this
      simp [strict, put]
  | cons k ks ih =>
    constructor
    · intro h
      simp only [strict] at h
      split at h
      · simp at h
      · rename_i q hq
        simp only [Option.map_eq_some_iff] at h
        obtain ⟨l', h1, rfl⟩ := h
        obtain ⟨hn, hk, ⟨r, hr⟩, hl⟩ := sfst_sound hs (p := q.1) (n := q.2) hq
        rw [hl, hr, List.drop_left] at h1
        obtain ⟨i1, i2, i3⟩ := (ih r (fun x hx => hs x (by rw [hr]; simp [hx])) l').1 h1
        refine ⟨?_, ?_, ?_⟩
        · simp only [kinds, List.map_cons] at i1 ⊢
          rw [hk, i1]
        · intro p hp
          rcases List.mem_cons.1 hp with rfl | hp
          · exact hn
          · exact i2 p hp
        · rw [hr, ← i3]; rfl
    · rintro ⟨hk, hn, rfl⟩
      cases l with
      | nil => simp [kinds] at hk
      | cons p l =>
        simp only [kinds, List.map_cons, List.cons.injEq] at hk
        obtain ⟨rfl, hk⟩ := hk
        simp only [strict, put]
        rw [sfst_enc (hn p (by simp))]
        simp only [List.drop_left]
        rw [(ih (put l) (fun x hx => hs x (by simp [put, hx])) l).2 ⟨hk, fun q hq => hn q (by simp [hq]), rfl⟩]
        rfl
theorem strict_parse (ks s : List Nat) (hs : ∀ x ∈ s, x < 256) : strict ks s = parse s ks := by
  apply Option.ext
  intro l
  rw [strict_iff ks s hs l, parse_iff s ks hs l]
end Go.Proofs.Ytponelbfddfliaa.Ky
