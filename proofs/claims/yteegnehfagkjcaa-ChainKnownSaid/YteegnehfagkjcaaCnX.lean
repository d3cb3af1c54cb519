/- Made by tools/gen/cn.py. -/
/- Layer 15, plain: what goes by a floor changes nothing from the floor on. -/
import Derived.Test.YteegnehfagkjcaaCnU
namespace Go.Proofs.Yteegnehfagkjcaa.Cn

theorem garbL_mono {v : Ver} {b : Bool} {bh f f' : Nat} (hf : f ≤ f') (h : garbL v b bh f = true) : garbL v b bh f' = true := by
  unfold garbL at h ⊢
  rw [Bool.or_eq_true, Bool.and_eq_true, Bool.and_eq_true, decide_eq_true_iff, decide_eq_true_iff, decide_eq_true_iff] at h
  rw [Bool.or_eq_true, Bool.and_eq_true, Bool.and_eq_true, decide_eq_true_iff, decide_eq_true_iff, decide_eq_true_iff]
  rcases h with ⟨h1, h2⟩ | ⟨h1, h2⟩
  · exact .inl ⟨h1, by omega⟩
  · exact .inr ⟨h1, by omega⟩
theorem isAt_mono {l : List Ver} {x f f' : Nat} (hf : f ≤ f') (h : isAt l x f = true) : isAt l x f' = true := by
  unfold isAt garb at h ⊢
  rw [Bool.and_eq_true, Bool.and_eq_true] at h
  rw [Bool.and_eq_true, Bool.and_eq_true]
  exact ⟨h.1, h.2.1, garbL_mono hf h.2.2⟩
/-- What is left is no garbage. -/
theorem left_garb {l : List Ver} {f : Nat} : ∀ (_ : right l = true), 0 < (l.drop (trimN l f)).length → garb (l.drop (trimN l f)) 0 f = false := by
  induction l with
  | nil => intro _ h; simp at h
  | cons v r ih =>
    intro hr h
    rw [trimN] at h ⊢
    cases hg : garb (v :: r) 0 f with
    | true =>
      rw [hg, if_pos rfl, List.drop_succ_cons] at h
      rw [if_pos rfl, List.drop_succ_cons]
      exact ih (right_drop hr 1) h
    | false =>
      rw [if_neg (by simp), List.drop_zero]
      exact hg
theorem left_all {l : List Ver} (hr : right l = true) {f i : Nat} (hi : i < (l.drop (trimN l f)).length) : garb (l.drop (trimN l f)) i f = false := by
  rw [← Bool.not_eq_true]
  intro h
  have h0 := garb_first (right_drop hr _) hi h
  rw [left_garb hr (by omega)] at h0
  cases h0
/-- With nothing that is garbage at most the first version is at most the floor, and is not dead. -/
theorem left_low {l : List Ver} (hr : right l = true) {f i : Nat} (hi : i < (l.drop (trimN l f)).length) (he : (ix (l.drop (trimN l f)) i).e ≤ f) : i = 0 ∧ (ix (l.drop (trimN l f)) i).d = false := by
  have hR := right_drop hr (trimN l f)
  have hG : ∀ i, i < (l.drop (trimN l f)).length → garb (l.drop (trimN l f)) i f = false := fun i hi => left_all hr hi
  revert hi he hG hR
  generalize l.drop (trimN l f) = L
  intro hi he hR hG
  have h0 : i = 0 := by
    rcases Nat.eq_zero_or_pos i with h0 | h0
    · exact h0
    · obtain ⟨j, rfl⟩ : ∃ j, i = j + 1 := ⟨i - 1, by omega⟩
      have hg := hG j (by omega)
      rw [garb_two hR hi, decide_eq_true he] at hg
      cases hg
  refine ⟨h0, ?_⟩
  subst h0
  have hg := hG 0 hi
  unfold garb garbL at hg
  rw [decide_eq_true he, show ((0 : Nat) == 0) = true from rfl, Bool.and_true, Bool.and_true, Bool.or_eq_false_iff] at hg
  exact hg.2
theorem upto_drop {l : List Ver} {x k : Nat} (hk : k ≤ upto l x) : upto (l.drop k) x = upto l x - k := by
  have hle := upto_le l x
  refine upto_is (by rw [List.length_drop]; omega) (fun i hi => ?_) (fun h => ?_)
  · rw [ix_drop]
    exact upto_lt (by omega)
  · rw [List.length_drop] at h
    rw [ix_drop, show k + (upto l x - k) = upto l x by omega]
    exact upto_at (by omega)
theorem upto_drop0 {l : List Ver} (hr : right l = true) {x k : Nat} (hk : upto l x ≤ k) : upto (l.drop k) x = 0 := by
  refine upto_is (Nat.zero_le _) (fun i hi => absurd hi (Nat.not_lt_zero _)) (fun h => ?_)
  rw [List.length_drop] at h
  rw [ix_drop]
  exact upto_ge hr (by omega) (by omega)
/-- Each one that goes has one behind it at the floor, or is dead. -/
theorem gone {l : List Ver} {f : Nat} : ∀ k, k < trimN l f → garbL (ix l k) true (behind l k) f = true := by
  induction l with
  | nil => intro k h; exact absurd h (Nat.not_lt_zero _)
  | cons v r ih =>
    intro k h
    rw [trimN] at h
    cases hg : garb (v :: r) 0 f with
    | false => rw [hg, if_neg (by simp)] at h; omega
    | true =>
      cases k with
      | zero => exact hg
      | succ k =>
        rw [hg, if_pos rfl] at h
        have := ih k (by omega)
        have e : behind (v :: r) (k + 1) = behind r k := by
          unfold behind
          rw [List.length_cons]
          by_cases h2 : k + 1 < r.length
          · rw [if_pos h2, if_pos (by omega)]; rfl
          · rw [if_neg h2, if_neg (by omega)]
        rw [e]
        exact this
theorem at_left {l : List Ver} (hr : right l = true) {f x : Nat} (hx : f ≤ x) : at_ (l.drop (trimN l f)) x = at_ l x := by
  have hle := upto_le l x
  have htl := trimN_le l f
  rcases Nat.lt_or_ge (trimN l f) (upto l x) with h | h
  · unfold at_
    rw [upto_drop (by omega), if_neg (by omega), if_neg (by omega), ix_drop, show trimN l f + (upto l x - trimN l f - 1) = upto l x - 1 by omega]
  · unfold at_
    rw [upto_drop0 hr h, if_pos rfl]
    by_cases h0 : upto l x = 0
    · rw [if_pos h0]
    · rw [if_neg h0]
      have hg := gone (upto l x - 1) (by omega : upto l x - 1 < trimN l f)
      unfold garbL at hg
      rw [Bool.or_eq_true, Bool.and_eq_true, decide_eq_true_iff, decide_eq_true_iff] at hg
      rcases hg with ⟨h1, h2⟩ | h1
      · exfalso
        unfold behind at h1 h2
        by_cases h3 : upto l x - 1 + 1 < l.length
        · rw [if_pos h3, show upto l x - 1 + 1 = upto l x by omega] at h2
          have := upto_at (l := l) (x := x) (by omega)
          omega
        · rw [if_neg h3] at h1
          exact h1 rfl
      · rw [Bool.and_eq_true, Bool.and_eq_true] at h1
        have hd := h1.1.1
        rw [hd, dead_blank (ok_at hr (by omega)) hd]
        rfl
end Go.Proofs.Yteegnehfagkjcaa.Cn
