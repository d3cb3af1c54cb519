/- Layer 6's plain mathematics: what is packed is parsed as it was, and the other way round; none is the beginning of another one. -/
import Derived.Test.YtbcdacfmhjgfiaaEvP
namespace Go.Proofs.Ytbcdacfmhjgfiaa
open Go.ChangeShapes Go.WideShapes Go.ChangeAt Go.RowKit

theorem be_num' (l : List Nat) (h : ∀ x ∈ l, x < 256) : Pk.be l.length (Pk.num l) = l := by
  induction l with
  | nil => rfl
  | cons x t ih =>
    have hx := h x (by simp)
    have ht := Pk.num_lt t (fun y hy => h y (by simp [hy]))
    have e := ih (fun y hy => h y (by simp [hy]))
    rw [Pk.num_cons, List.length_cons, Pk.be]
    have e1 : (x * 256 ^ t.length + Pk.num t) / 256 ^ t.length = x := by
      rw [Nat.mul_comm, Nat.mul_add_div (Nat.pow_pos (by omega)), Nat.div_eq_of_lt ht]; rfl
    rw [e1, Nat.mod_eq_of_lt hx]
    congr 1
    rw [← Pk.be_mod t.length t.length _ (Nat.le_refl _), Nat.mul_comm, Nat.mul_add_mod, Nat.mod_eq_of_lt ht]
    exact e
theorem nums_textOf {l : List Nat} (h : ∀ x ∈ l, x < 256) : nums (textOf l) = l := by
  have : ∀ k : List Nat, (∀ x ∈ k, x < 256) → (k.map UInt8.ofNat).map UInt8.toNat = k := by
    intro k
    induction k with
    | nil => intro _; rfl
    | cons a t ih =>
      intro hk
      rw [List.map_cons, List.map_cons, ih (fun x hx => hk x (by simp [hx])), UInt8.toNat_ofNat_of_lt' (hk a (by simp))]
  exact this l h
theorem nums_lt' (s : ByteArray) : ∀ x ∈ nums s, x < 256 := by
  intro x hx
  obtain ⟨y, _, rfl⟩ := List.mem_map.1 hx
  exact y.toNat_lt
theorem textOf_nums (s : ByteArray) : textOf (nums s) = s := nums_inj (nums_textOf (nums_lt' s))
namespace Ev
def ok (o : Evo) : Prop := (-9223372036854775808 ≤ o.t ∧ o.t ≤ 9223372036854775807) ∧ (-9223372036854775808 ≤ o.v ∧ o.v ≤ 9223372036854775807)
theorem sg_u64 {x : Int} (h : -9223372036854775808 ≤ x ∧ x ≤ 9223372036854775807) : sg (u64 x) = x := by
  unfold sg
  rw [← u64_is]
  simp only [IntKind.wrap, IntKind.bits, IntKind.signed]
  simp
  split <;> omega
theorem u64_sg {m : Nat} (h : m < 18446744073709551616) : u64 (sg m) = m := by
  have e : (sg m) % 18446744073709551616 = (m : Int) := by
    unfold sg
    simp only [IntKind.wrap, IntKind.bits, IntKind.signed]
    simp
    split <;> omega
  unfold u64
  rw [e]
  rfl
theorem sg_range (m : Nat) : -9223372036854775808 ≤ sg m ∧ sg m ≤ 9223372036854775807 := by
  unfold sg
  simp only [IntKind.wrap, IntKind.bits, IntKind.signed]
  simp
  split <;> omega
theorem zero_range : -9223372036854775808 ≤ (0 : Int) ∧ (0 : Int) ≤ 9223372036854775807 := ⟨by decide, by decide⟩
theorem num_u64 (x : Int) : Pk.num (Pk.be 8 (u64 x)) = u64 x := by
  rw [Pk.num_be, Nat.mod_eq_of_lt]
  exact u64_lt x
theorem nx_enc {o : Evo} (h : right o = 0) (hk : ok o) (rest : List Nat) : nx (enc o ++ rest) = (0, o, (enc o).length) := by
  obtain ⟨k, s, t, v⟩ := o
  have hz : (k = 1 ∧ 1 ≤ s.size ∧ s.size ≤ 32) ∨ (k = 2 ∧ s.size = 0 ∧ v = 0) := by
    unfold right at h
    dsimp only at h
    split at h
    · cases h
    split at h
    · cases h
    omega
  have ht := sg_u64 hk.1
  have hv := sg_u64 hk.2
  dsimp only at ht hv
  rcases hz with ⟨rfl, h1, h2⟩ | ⟨rfl, h1, rfl⟩
  · have e : enc ⟨1, s, t, v⟩ = 1 :: (Pk.tx (nums s) ++ (Pk.be 8 (u64 t) ++ Pk.be 8 (u64 v))) := rfl
    have hl : (nums s).length < 65536 := by rw [nums_len]; omega
    rw [e, List.cons_append, List.append_assoc]
    generalize hR : Pk.be 8 (u64 t) ++ Pk.be 8 (u64 v) ++ rest = R
    have hRl : 16 ≤ R.length := by rw [← hR]; simp [Pk.be_len]; omega
    unfold nx
    dsimp only
    rw [if_pos rfl, Pk.tfails_at _ _ hl, if_neg (by decide), Pk.tleft_at _ _ hl, if_neg (by omega), Pk.ttaken_at _ _ hl, Pk.tlen_at _ _ hl, textOf_nums]
    have e1 : R.take 8 = Pk.be 8 (u64 t) := by
      rw [← hR, List.append_assoc, List.take_append_of_le_length (by rw [Pk.be_len]; omega)]
      exact List.take_of_length_le (by rw [Pk.be_len]; omega)
    have e2 : (R.drop 8).take 8 = Pk.be 8 (u64 v) := by
      rw [← hR, List.append_assoc, List.drop_append_of_le_length (by rw [Pk.be_len]; omega), List.drop_of_length_le (by rw [Pk.be_len]; omega), List.nil_append, List.take_append_of_le_length (by rw [Pk.be_len]; omega)]
      exact List.take_of_length_le (by rw [Pk.be_len]; omega)
    rw [e1, e2, num_u64, num_u64, ht, hv]
    simp [Pk.tx, Pk.be_len]
    omega
  · obtain rfl := size_zero h1
    have e : enc ⟨2, ⟨#[]⟩, t, 0⟩ = 2 :: Pk.be 8 (u64 t) := rfl
    rw [e, List.cons_append]
    unfold nx
    dsimp only
    rw [if_neg (by decide), if_pos rfl, if_neg (by simp [Pk.be_len]), List.take_append_of_le_length (by rw [Pk.be_len]; omega), List.take_of_length_le (by rw [Pk.be_len]; omega), num_u64, ht]
    simp [Pk.be_len]
theorem er_enc {o : Evo} (h : right o = 0) (hk : ok o) (rest : List Nat) : er (enc o ++ rest) = 0 := by
  unfold er
  rw [nx_enc h hk]
  simpa using h
theorem ps_enc {o : Evo} (h : right o = 0) (hk : ok o) : ps (enc o) = (0, o) := by
  have e := nx_enc h hk []
  rw [List.append_nil] at e
  unfold ps
  rw [e]
  simp [h]
theorem psAll_flat {l : List Evo} (h : ∀ o ∈ l, right o = 0) (hk : ∀ o ∈ l, ok o) : psAll (flat l) = (0, l) := by
  induction l with
  | nil => rfl
  | cons o l ih =>
    have h1 := h o (by simp)
    have h2 := hk o (by simp)
    have e : flat (o :: l) = enc o ++ flat l := by simp [flat]
    have hlen := enc_len h1
    have ih' := ih (fun x hx => h x (by simp [hx])) (fun x hx => hk x (by simp [hx]))
    have hne : enc o ++ flat l ≠ [] := by
      intro c
      have := congrArg List.length c
      simp at this
      rw [this.1] at hlen
      simp at hlen
    rw [e, psAll_step hne (er_enc h1 h2 _), nx_enc h1 h2]
    dsimp only
    rw [List.drop_left, ih']
    simp
/-- No operation is packed as the beginning of another one. -/
theorem enc_prefix {a b : Evo} (ha : right a = 0) (hb : right b = 0) (ka : ok a) (kb : ok b) {rest : List Nat} (h : enc b = enc a ++ rest) : a = b := by
  have e1 := nx_enc ha ka rest
  have e2 := nx_enc hb kb []
  rw [List.append_nil, h, e1] at e2
  injection e2 with _ e2
  injection e2
/-- What is parsed is packed so. -/
theorem enc_nx {l : List Nat} (hl : ∀ x ∈ l, x < 256) (h : (nx l).1 = 0) (hr : right (nx l).2.1 = 0) : enc (nx l).2.1 = l.take (nx l).2.2 ∧ ok (nx l).2.1 := by
  cases l with
  | nil => simp [nx] at h
  | cons k r =>
    have hr256 : ∀ x ∈ r, x < 256 := fun x hx => hl x (by simp [hx])
    unfold nx at h hr ⊢
    dsimp only at h hr ⊢
    by_cases h1 : k = 1
    · subst h1
      rw [if_pos rfl] at h hr ⊢
      rcases hf : Pk.tfails false r with _ | _
      · rw [hf] at h hr
        rw [if_neg (by decide)] at h hr ⊢
        by_cases h2 : (Pk.tleft false r).length < 16
        · rw [if_pos h2] at h; cases h
        · rw [if_neg h2] at hr ⊢
          refine ⟨?_, sg_range _, sg_range _⟩
          have f1 := Pk.tfails_iff.1 hf
          have f2 := (Pk.fails_iff.1 f1.1).2
          have el : Pk.tlen false r = Pk.num (r.take 2) := by unfold Pk.tlen; rw [Pk.taken_no f1.1]
          generalize hL : Pk.tleft false r = L at h2 hr ⊢
          have hLe : L = r.drop (2 + Pk.tlen false r) := by rw [← hL]; exact Pk.tleft_no hf
          have hL256 : ∀ x ∈ L, x < 256 := by rw [hLe]; exact fun x hx => hr256 x (List.mem_of_mem_drop hx)
          have ht : (Pk.ttaken false r).length = Pk.tlen false r := by
            rw [Pk.ttaken_no hf, List.length_take, List.length_drop]
            have := f1.2
            omega
          have ht256 : ∀ x ∈ Pk.ttaken false r, x < 256 := by
            rw [Pk.ttaken_no hf]
            exact fun x hx => hr256 x (List.mem_of_mem_drop (List.mem_of_mem_take hx))
          have hb : ∀ X : List Nat, X.length = 8 → (∀ x ∈ X, x < 256) → Pk.be 8 (u64 (sg (Pk.num X))) = X := by
            intro X hX hx
            have := Pk.num_lt X hx
            rw [hX] at this
            rw [u64_sg this]
            have := be_num' X hx
            rwa [hX] at this
          show (1 : Nat) :: (Pk.tx (nums (textOf (Pk.ttaken false r))) ++ (Pk.be 8 (u64 (sg (Pk.num (L.take 8)))) ++ Pk.be 8 (u64 (sg (Pk.num ((L.drop 8).take 8)))))) = _
          rw [nums_textOf ht256, hb (L.take 8) (by rw [List.length_take]; omega) (fun x hx => hL256 x (List.mem_of_mem_take hx)), hb ((L.drop 8).take 8) (by rw [List.length_take, List.length_drop]; omega) (fun x hx => hL256 x (List.mem_of_mem_drop (List.mem_of_mem_take hx)))]
          have e16 : L.take 8 ++ (L.drop 8).take 8 = L.take 16 := by rw [← List.take_add]
          have e2 : Pk.be 2 (Pk.ttaken false r).length = r.take 2 := by
            rw [ht, el]
            have := be_num' (r.take 2) (fun x hx => hr256 x (List.mem_of_mem_take hx))
            rwa [List.length_take, Nat.min_eq_left f2] at this
          rw [e16, Pk.tx, e2, Pk.ttaken_no hf, hLe]
          generalize Pk.tlen false r = m
          have e3 : r.take 2 ++ (r.drop 2).take m = r.take (2 + m) := by rw [← List.take_add]
          have e4 : r.take (2 + m) ++ (r.drop (2 + m)).take 16 = r.take (2 + m + 16) := by rw [← List.take_add]
          rw [e3, e4, show 1 + (2 + m) + 16 = (2 + m + 16) + 1 by omega, List.take_succ_cons]
      · rw [hf, if_pos rfl] at h; cases h
    · rw [if_neg h1] at h hr ⊢
      by_cases h2 : k = 2
      · subst h2
        rw [if_pos rfl] at h hr ⊢
        by_cases h3 : r.length < 8
        · rw [if_pos h3] at h; cases h
        · rw [if_neg h3] at hr ⊢
          refine ⟨?_, sg_range _, zero_range⟩
          show (2 : Nat) :: Pk.be 8 (u64 (sg (Pk.num (r.take 8)))) = _
          have h8 : (r.take 8).length = 8 := by rw [List.length_take]; omega
          have hx := fun x hx => hr256 x (List.mem_of_mem_take (i := 8) hx)
          have := Pk.num_lt (r.take 8) hx
          rw [h8] at this
          rw [u64_sg this]
          have := be_num' (r.take 8) hx
          rw [h8] at this
          rw [this, show (9 : Nat) = 8 + 1 from rfl, List.take_succ_cons]
      · rw [if_neg h2] at h; cases h
/-- What Parse tells, if it is an operation: right, and packed as these bytes. -/
theorem ps_back {l : List Nat} (hl : ∀ x ∈ l, x < 256) (h : (ps l).1 = 0) : right (ps l).2 = 0 ∧ enc (ps l).2 = l ∧ ok (ps l).2 := by
  unfold ps at h ⊢
  by_cases h1 : (nx l).1 = 0
  · rw [if_neg (by simp [h1])] at h ⊢
    by_cases h2 : (nx l).2.2 < l.length
    · rw [if_pos h2] at h; cases h
    · rw [if_neg h2] at h ⊢
      by_cases h3 : right (nx l).2.1 = 0
      · rw [if_neg (by simp [h3])]
        have e := enc_nx hl h1 h3
        exact ⟨h3, by rw [e.1]; exact List.take_of_length_le (by omega), e.2⟩
      · rw [if_pos h3] at h; exact absurd h h3
  · rw [if_pos h1] at h; exact absurd h h1
theorem ps_none {l : List Nat} (h : (ps l).1 ≠ 0) : (ps l).2 = none' := by
  unfold ps at h ⊢
  by_cases h1 : (nx l).1 = 0
  · rw [if_neg (by simp [h1])] at h ⊢
    by_cases h2 : (nx l).2.2 < l.length
    · rw [if_pos h2]
    · rw [if_neg h2] at h ⊢
      by_cases h3 : right (nx l).2.1 = 0
      · rw [if_neg (by simp [h3])] at h; exact absurd rfl h
      · rw [if_pos h3]
  · rw [if_pos h1]
end Ev
end Go.Proofs.Ytbcdacfmhjgfiaa
