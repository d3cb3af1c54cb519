/- Layer 10: a right filter has a pane just if its row of it is within its bounds. Plain mathematics. -/
import Derived.Test.YtponelbfddfliaaBoF
import Derived.Test.YtponelbfddfliaaBoO
namespace Go.Proofs.Ytponelbfddfliaa
open Go.ChangeShapes Go.WideShapes Go.ChangeAt Go.RowKit

/-- Is a text within two others? -/
def within (r a b : List Nat) : Bool := !decide (Ky.cmp r a = -1) && (decide (b = []) || decide (Ky.cmp r b = -1))
theorem enc_part {p q : Ky.Part} (hk : p.kind = q.kind) (hp : Ky.Right p) (hq : Ky.Right q) (z : List Nat) : Ky.cmp (Ky.enc p ++ z) (Ky.enc q) = -1 ↔ Ky.cmpPart p q = -1 := by
  rcases Ky.enc_cmp hk hp hq with ⟨h1, h2⟩ | ⟨h1, h2⟩ | ⟨h1, h2⟩
  · rw [h1, h2]
    have h3 : Ky.cmp (Ky.enc q ++ z) (Ky.enc q ++ []) = Ky.cmp z [] := Ky.cmp_same _ _ _
    rw [List.append_nil] at h3
    rw [h3]
    cases z <;> simp [Ky.cmp]
  · have h3 := h2 z []
    rw [List.append_nil] at h3
    rw [h1, h3]
  · have h3 := h2 [] z
    rw [List.append_nil] at h3
    rw [h1, Ky.cmp_swap, h3]
    decide
theorem int_lt (a b : Int) : Ky.cmpI a b = -1 ↔ a < b := by
  unfold Ky.cmpI
  by_cases h : a < b
  · simp [h]
  · rw [if_neg h]
    by_cases h2 : b < a
    · simp [h, h2]
    · simp [h, h2]
theorem text_part (k K : ByteArray) (z : List Nat) : Ky.cmp (Ky.text (nums k) ++ z) (Ky.text (nums K)) = -1 ↔ Ky.cmp (nums k) (nums K) = -1 := by
  have h := enc_part (p := ⟨2, 0, nums k⟩) (q := ⟨2, 0, nums K⟩) rfl ⟨by show _ ≤ (0 : Int); omega, by show (0 : Int) ≤ _; omega⟩ ⟨by show _ ≤ (0 : Int); omega, by show (0 : Int) ≤ _; omega⟩ z
  exact h
theorem int_part {a b : Int} (ha : i64ok a) (hb : i64ok b) (z : List Nat) : Ky.cmp (Pk.be 8 (Ky.turn a) ++ z) (Pk.be 8 (Ky.turn b)) = -1 ↔ a < b := by
  have h := enc_part (p := ⟨1, a, []⟩) (q := ⟨1, b, []⟩) rfl ha hb z
  rw [← int_lt]
  exact h
theorem row_pri (p : Pn) : row false p = Ky.text (nums p.k) ++ (Pk.be 8 (Ky.turn p.e) ++ (Pk.be 8 (Ky.turn p.s) ++ [])) := rfl
theorem row_sec (p : Pn) : row true p = Pk.be 8 (Ky.turn p.e) ++ (Ky.text (nums p.k) ++ (Pk.be 8 (Ky.turn p.s) ++ [])) := rfl
theorem row_bytes (sec : Bool) (p : Pn) : ∀ x ∈ row sec p, x < 256 := by
  have ht : ∀ x ∈ Ky.text (nums p.k), x < 256 := fun x hx => by
    rcases List.mem_append.1 hx with h | h
    · exact Ky.esc_lt _ (nums_byte _) x h
    · simp at h; omega
  have hb : ∀ n : Nat, ∀ x ∈ Pk.be 8 n, x < 256 := fun n x hx => Pk.be_lt 8 n x hx
  cases sec
  · intro x hx
    rw [row_pri] at hx
    simp only [List.mem_append, List.not_mem_nil, or_false] at hx
    rcases hx with h | h | h
    · exact ht x h
    · exact hb _ x h
    · exact hb _ x h
  · intro x hx
    rw [row_sec] at hx
    simp only [List.mem_append, List.not_mem_nil, or_false] at hx
    rcases hx with h | h | h
    · exact hb _ x h
    · exact ht x h
    · exact hb _ x h
theorem toL_eq (a b : ByteArray) : (a.toList == b.toList) = decide (nums a = nums b) := by
  by_cases h : nums a = nums b
  · rw [nums_inj h]; simp
  · rw [text_ne h, decide_eq_false h]
theorem point_begins (J : ByteArray) (l : Int) (p : Pn) (hJ : J.size ≤ 1000) (hl : i64ok l) (hp : panOk p) : (∃ z, row false p = Ky.put (tos [⟨2, 0, J⟩, ⟨1, l, ⟨#[]⟩⟩]) ++ z) ↔ (nums p.k = nums J ∧ p.e = l) := by
  constructor
  · rintro ⟨z, hz⟩
    have n1 : ∀ q ∈ tos [PT.mk 2 0 p.k, PT.mk 1 p.e ⟨#[]⟩], Ky.Normal q := to_normal (two_ok p.k p.e hp.1 hp.2.2) (by intro q hq; simp at hq; rcases hq with rfl | rfl <;> simp)
    have n2 : ∀ q ∈ tos [PT.mk 2 0 J, PT.mk 1 l ⟨#[]⟩], Ky.Normal q := to_normal (two_ok J l (Nat.le_trans hJ (by omega)) hl) (by intro q hq; simp at hq; rcases hq with rfl | rfl <;> simp)
    have e1 : row false p = Ky.put (tos [⟨2, 0, p.k⟩, ⟨1, p.e, ⟨#[]⟩⟩]) ++ Pk.be 8 (Ky.turn p.s) := by
      show Ky.text (nums p.k) ++ (Pk.be 8 (Ky.turn p.e) ++ (Pk.be 8 (Ky.turn p.s) ++ [])) = (Ky.text (nums p.k) ++ (Pk.be 8 (Ky.turn p.e) ++ [])) ++ Pk.be 8 (Ky.turn p.s)
      simp
    have h1 := Ky.lax_put _ n1 (Pk.be 8 (Ky.turn p.s))
    have h2 := Ky.lax_put _ n2 z
    rw [← e1, hz] at h1
    have hk : Ky.kinds (tos [PT.mk 2 0 p.k, PT.mk 1 p.e ⟨#[]⟩]) = Ky.kinds (tos [PT.mk 2 0 J, PT.mk 1 l ⟨#[]⟩]) := rfl
    rw [hk, h2] at h1
    injection h1 with h1
    simp [tos, PT.to] at h1
    exact ⟨h1.1.symm, h1.2.symm⟩
  · rintro ⟨h1, h2⟩
    refine ⟨Pk.be 8 (Ky.turn p.s), ?_⟩
    show Ky.text (nums p.k) ++ (Pk.be 8 (Ky.turn p.e) ++ (Pk.be 8 (Ky.turn p.s) ++ [])) = (Ky.text (nums J) ++ (Pk.be 8 (Ky.turn l) ++ [])) ++ Pk.be 8 (Ky.turn p.s)
    rw [h1, h2]
    simp
theorem point_after (J : ByteArray) (l : Int) : ∃ a, Ky.after (Ky.put (tos [⟨2, 0, J⟩, ⟨1, l, ⟨#[]⟩⟩])) = some a ∧ a ≠ [] := by
  obtain ⟨P, hP⟩ : ∃ P, Ky.put (tos [⟨2, 0, J⟩, ⟨1, l, ⟨#[]⟩⟩]) = P := ⟨_, rfl⟩
  have h0 : 0 ∈ P := by
    rw [← hP]
    show 0 ∈ (Ky.esc (nums J) ++ [0, 0]) ++ _
    simp
  rw [hP]
  unfold Ky.after
  obtain ⟨k, hk⟩ := Ky.core_split P
  by_cases hc : Ky.core P = []
  · rw [hc, List.nil_append] at hk
    rw [hk] at h0
    have := List.eq_of_mem_replicate h0
    omega
  · rw [if_neg hc]
    exact ⟨_, rfl, by simp⟩
/-- THE STAGE'S THEOREM, plainly. -/
theorem fits (f : Fl) (p : Pn) (hf : f.ok) (hp : panOk p) (hK : f.K.size ≤ 1000) (hr : f.right = true) : f.has p = within (row f.sec p) f.from f.upto := by
  obtain ⟨k, J, T, l, m⟩ := f
  have hfr : (Fl.mk k J T l m).from = if k = 1 then Ky.put (tos [⟨2, 0, J⟩, ⟨1, l, ⟨#[]⟩⟩]) else if k = 2 then Ky.put (tos [⟨2, 0, J⟩]) else Ky.put (tos [⟨1, l, ⟨#[]⟩⟩]) := by
    unfold Fl.from; rw [if_pos hr]
  have hup : (Fl.mk k J T l m).upto = if k = 1 then (Ky.after (Ky.put (tos [⟨2, 0, J⟩, ⟨1, l, ⟨#[]⟩⟩]))).getD [] else if k = 2 then (if T.toList.isEmpty then [] else Ky.put (tos [⟨2, 0, T⟩])) else Ky.put (tos [⟨1, m, ⟨#[]⟩⟩]) := by
    unfold Fl.upto; rw [if_pos hr]
  rw [hfr, hup]
  unfold within Fl.has Fl.sec
  dsimp only at hK ⊢
  by_cases h1 : k = 1
  · subst h1
    rw [if_pos rfl, if_pos rfl, if_pos rfl]
    show ((p.k.toList == J.toList) && (p.e == l)) = (!decide (Ky.cmp (row false p) _ = -1) && _)
    obtain ⟨a, ha, ha2⟩ := point_after J l
    have hb := point_begins J l p hK hf.2.1 hp
    rw [Ky.begins_after _ _ (by
      intro x hx
      rcases List.mem_append.1 hx with h | h
      · rcases List.mem_append.1 h with h | h
        · exact Ky.esc_lt _ (nums_byte _) x h
        · simp at h; omega
      · rcases List.mem_append.1 h with h | h
        · exact Pk.be_lt 8 _ x h
        · cases h) (row_bytes false p)] at hb
    rw [ha]
    rw [ha] at hb
    rw [toL_eq, Bool.eq_iff_iff]
    simp only [Option.getD_some, Bool.and_eq_true, decide_eq_true_eq, beq_iff_eq, Bool.not_eq_true', decide_eq_false_iff_not, Bool.or_eq_true]
    rw [← hb]
    constructor
    · rintro ⟨h1, h2⟩
      exact ⟨h1, .inr (h2 a rfl)⟩
    · rintro ⟨h1, h2⟩
      refine ⟨h1, fun b hb' => ?_⟩
      injection hb' with hb'
      subst hb'
      rcases h2 with h2 | h2
      · exact absurd h2 ha2
      · exact h2
  · rw [if_neg h1, if_neg h1, if_neg h1]
    by_cases h2 : k = 2
    · subst h2
      rw [if_pos rfl, if_pos rfl, if_pos rfl]
      show (!Op.bytesLess p.k.toList J.toList && (T.toList.isEmpty || Op.bytesLess p.k.toList T.toList)) = (!decide (Ky.cmp (row false p) _ = -1) && _)
      have a1 : Op.bytesLess p.k.toList J.toList = decide (Ky.cmp (row false p) (Ky.put (tos [⟨2, 0, J⟩])) = -1) := by
        rw [text_cmp, decide_eq_decide, row_pri]
        show _ ↔ Ky.cmp _ (Ky.text (nums J) ++ []) = -1
        rw [show Ky.text (nums J) ++ [] = Ky.text (nums J) from List.append_nil _, text_part]
      have a2 : (T.toList.isEmpty || Op.bytesLess p.k.toList T.toList) = (decide ((if T.toList.isEmpty then [] else Ky.put (tos [⟨2, 0, T⟩])) = []) || decide (Ky.cmp (row false p) (if T.toList.isEmpty then [] else Ky.put (tos [⟨2, 0, T⟩])) = -1)) := by
        cases hT : T.toList.isEmpty
        · rw [if_neg (by decide), Bool.false_or]
          have n1 : Ky.put (tos [⟨2, 0, T⟩]) ≠ [] := by
            show (Ky.esc (nums T) ++ [0, 0]) ++ [] ≠ []
            simp
          rw [decide_eq_false n1, Bool.false_or, text_cmp, decide_eq_decide, row_pri]
          show _ ↔ Ky.cmp _ (Ky.text (nums T) ++ []) = -1
          rw [show Ky.text (nums T) ++ [] = Ky.text (nums T) from List.append_nil _, text_part]
        · rfl
      rw [a1, a2]
      rfl
    · have h3 : k = 3 := by
        unfold Fl.right at hr
        dsimp only at hr
        by_cases h3 : k = 3
        · exact h3
        · rw [if_neg h1, if_neg h2, if_neg h3] at hr; cases hr
      subst h3
      rw [if_neg h2, if_neg h2, if_neg h2, if_pos rfl]
      show (decide (l ≤ p.e) && decide (p.e < m)) = (!decide (Ky.cmp (row true p) (Pk.be 8 (Ky.turn l) ++ []) = -1) && (decide (Pk.be 8 (Ky.turn m) ++ [] = []) || decide (Ky.cmp (row true p) (Pk.be 8 (Ky.turn m) ++ []) = -1)))
      rw [List.append_nil, List.append_nil, row_sec]
      have n1 : Pk.be 8 (Ky.turn m) ≠ [] := by
        intro h
        have := Pk.be_len 8 (Ky.turn m)
        rw [h] at this
        cases this
      rw [decide_eq_false n1, Bool.false_or, Bool.eq_iff_iff]
      simp only [Bool.and_eq_true, decide_eq_true_eq, Bool.not_eq_true', decide_eq_false_iff_not]
      rw [int_part hp.2.2 (show i64ok l from hf.2.1), int_part hp.2.2 (show i64ok m from hf.2.2)]
      omega
end Go.Proofs.Ytponelbfddfliaa
