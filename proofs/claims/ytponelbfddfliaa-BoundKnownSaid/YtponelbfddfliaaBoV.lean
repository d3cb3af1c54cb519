/- Layer 10: filters: plain words; panes sorted by their rows. No function of the program is named here. -/
import Derived.Test.YtponelbfddfliaaPnB
import Derived.Test.YtponelbfddfliaaRefQ
namespace Go.Proofs.Ytponelbfddfliaa
open Go.ChangeShapes Go.WideShapes Go.ChangeAt Go.RowKit

theorem cmp_less {x y z : List Nat} (h : Ky.cmp x y = -1) (h2 : Ky.cmp y z ≠ 1) : Ky.cmp x z = -1 := by
  induction x generalizing y z with
  | nil =>
    cases y with
    | nil => simp [Ky.cmp] at h
    | cons b y =>
      cases z with
      | nil => simp [Ky.cmp] at h2
      | cons c z => rfl
  | cons a x ih =>
    cases y with
    | nil => simp [Ky.cmp] at h
    | cons b y =>
      cases z with
      | nil => simp [Ky.cmp] at h2
      | cons c z =>
        simp only [Ky.cmp] at h h2 ⊢
        by_cases h1 : a < b
        · by_cases h3 : b < c
          · rw [if_pos (by omega)]
          · rw [if_neg h3] at h2
            by_cases h4 : c < b
            · rw [if_pos h4] at h2; exact absurd rfl h2
            · rw [if_pos (by omega)]
        · rw [if_neg h1] at h
          by_cases h5 : b < a
          · rw [if_pos h5] at h; cases h
          · rw [if_neg h5] at h
            obtain rfl : a = b := by omega
            by_cases h3 : a < c
            · rw [if_pos h3]
            · rw [if_neg h3] at h2 ⊢
              by_cases h4 : c < a
              · rw [if_pos h4] at h2; exact absurd rfl h2
              · rw [if_neg h4] at h2 ⊢
                exact ih h h2
/-- A filter. -/
structure Fl where
  k : Nat
  K : ByteArray
  T : ByteArray
  l : Int
  m : Int
instance : Inhabited Fl := ⟨⟨0, ⟨#[]⟩, ⟨#[]⟩, 0, 0⟩⟩
def Fl.val (f : Fl) : Value := .agg #[.int .u8 (f.k : Int), .string f.K, .string f.T, .int .i64 f.l, .int .i64 f.m]
def Fl.ok (f : Fl) : Prop := f.k < 256 ∧ i64ok f.l ∧ i64ok f.m
/-- Has a filter a pane? -/
def Fl.has (f : Fl) (p : Pn) : Bool :=
  if f.k = 1 then (p.k.toList == f.K.toList) && (p.e == f.l)
  else if f.k = 2 then !Op.bytesLess p.k.toList f.K.toList && (f.T.toList.isEmpty || Op.bytesLess p.k.toList f.T.toList)
  else if f.k = 3 then decide (f.l ≤ p.e) && decide (p.e < f.m) else false
def Fl.right (f : Fl) : Bool :=
  if f.k = 1 then !f.K.toList.isEmpty && decide (f.K.size ≤ 32) && (f.T.toList.isEmpty && (f.m == 0))
  else if f.k = 2 then decide (f.K.size ≤ 32) && decide (f.T.size ≤ 32) && ((f.l == 0) && (f.m == 0))
  else if f.k = 3 then f.K.toList.isEmpty && f.T.toList.isEmpty else false
/-- A pane's row: the primary, or the secondary one. -/
def rowP (sec : Bool) (p : Pn) : List PT := if sec then secL p.k p.s p.e else primL p.k p.s p.e
def row (sec : Bool) (p : Pn) : List Nat := Ky.put (tos (rowP sec p))
def Fl.sec (f : Fl) : Bool := decide (f.k = 3)
/-- Is a pane ahead of another one? -/
def ahead (sec : Bool) (a b : Pn) : Bool := decide (Ky.cmpRow (tos (rowP sec a)) (tos (rowP sec b)) < 0)
theorem to_right {l : List PT} (h : ∀ p ∈ l, p.ok) : ∀ q ∈ tos l, Ky.Right q := by
  intro q hq
  obtain ⟨p, hp, rfl⟩ := List.mem_map.1 hq
  exact (h p hp).2.1
theorem rowP_ok (sec : Bool) {p : Pn} (h : panOk p) : ∀ q ∈ rowP sec p, q.ok := by
  have := prim_ok p.k p.s p.e h.1 h.2.1 h.2.2
  cases sec
  · exact this.1
  · exact this.2
theorem rowP_kinds (sec : Bool) (p q : Pn) : Ky.kinds (tos (rowP sec p)) = Ky.kinds (tos (rowP sec q)) := by cases sec <;> rfl
theorem ahead_row (sec : Bool) {p q : Pn} (hp : panOk p) (hq : panOk q) : ahead sec p q = decide (Ky.cmp (row sec p) (row sec q) = -1) := by
  unfold ahead row
  rcases Ky.put_cmp (rowP_kinds sec p q) (to_right (rowP_ok sec hp)) (to_right (rowP_ok sec hq)) with ⟨h1, h2⟩ | ⟨h1, h2⟩ | ⟨h1, h2⟩
  · rw [h1, h2, Ky.cmp_refl]; rfl
  · rw [h1, h2.cmp]; rfl
  · rw [h1, h2.cmp']; rfl
theorem to_normal {l : List PT} (h : ∀ p ∈ l, p.ok) (h2 : ∀ p ∈ l, (p.k = 1 ∧ p.s = ⟨#[]⟩) ∨ (p.k = 2 ∧ p.n = 0)) : ∀ q ∈ tos l, Ky.Normal q := by
  intro q hq
  obtain ⟨p, hp, rfl⟩ := List.mem_map.1 hq
  rcases h2 p hp with ⟨h3, h4⟩ | ⟨h3, h4⟩
  · exact .inl ⟨h3, by show nums p.s = []; rw [h4]; rfl, (h p hp).2.1⟩
  · exact .inr ⟨h3, h4, fun x hx => by
      obtain ⟨y, _, rfl⟩ := List.mem_map.1 hx
      exact y.toNat_lt⟩
theorem rowP_normal (sec : Bool) {p : Pn} (h : panOk p) : ∀ q ∈ tos (rowP sec p), Ky.Normal q := by
  refine to_normal (rowP_ok sec h) ?_
  cases sec
  · intro q hq
    simp [rowP, primL] at hq
    rcases hq with rfl | rfl | rfl <;> simp
  · intro q hq
    simp [rowP, secL] at hq
    rcases hq with rfl | rfl | rfl <;> simp
theorem row_inj (sec : Bool) {p q : Pn} (hp : panOk p) (hq : panOk q) (h : row sec p = row sec q) : p = q := by
  have h1 := Ky.lax_put (tos (rowP sec p)) (rowP_normal sec hp) []
  have h2 := Ky.lax_put (tos (rowP sec q)) (rowP_normal sec hq) []
  unfold row at h
  rw [h, rowP_kinds sec p q, h2] at h1
  have e : tos (rowP sec q) = tos (rowP sec p) := by injection h1
  obtain ⟨pk, ps, pe⟩ := p
  obtain ⟨qk, qs, qe⟩ := q
  cases sec
  · simp [rowP, primL, tos, PT.to] at e
    obtain ⟨e1, e2, e3⟩ := e
    rw [nums_inj e1, e2, e3]
  · simp [rowP, secL, tos, PT.to] at e
    obtain ⟨e1, e2, e3⟩ := e
    rw [e1, nums_inj e2, e3]
/-- A pane sinks to its place. -/
def sinkB (f : Pn → Pn → Bool) : List Pn → Nat → List Pn
  | l, 0 => l
  | l, j + 1 => if f (l.getD (j + 1) default) (l.getD j default) = true then sinkB f ((l.set (j + 1) (l.getD j default)).set j (l.getD (j + 1) default)) j else l
theorem sinkB_stop (f : Pn → Pn → Bool) (l : List Pn) (j : Nat) (h : f (l.getD (j + 1) default) (l.getD j default) = false) : sinkB f l (j + 1) = l := by
  rw [sinkB, if_neg (by rw [h]; decide)]
theorem sinkB_go (f : Pn → Pn → Bool) (l : List Pn) (j : Nat) (h : f (l.getD (j + 1) default) (l.getD j default) = true) : sinkB f l (j + 1) = sinkB f ((l.set (j + 1) (l.getD j default)).set j (l.getD (j + 1) default)) j := by
  rw [sinkB, if_pos h]
theorem sinkB_split (f : Pn → Pn → Bool) : ∀ (n : Nat) (P : List Pn) (x : Pn) (Q : List Pn), P.length = n → ∃ P1 P2, P = P1 ++ P2 ∧ sinkB f (P ++ x :: Q) n = P1 ++ x :: (P2 ++ Q) ∧ (∀ y ∈ P2, f x y = true) ∧ (P1 = [] ∨ ∃ P0 z, P1 = P0 ++ [z] ∧ f x z = false) := by
  intro n
  induction n with
  | zero =>
    intro P x Q hP
    obtain rfl := List.eq_nil_of_length_eq_zero hP
    exact ⟨[], [], rfl, rfl, by simp, .inl rfl⟩
  | succ n ih =>
    intro P x Q hP
    obtain ⟨P', y, rfl⟩ : ∃ P' y, P = P' ++ [y] := ⟨P.dropLast, P.getLast (by intro h; rw [h] at hP; cases hP), (List.dropLast_concat_getLast _).symm⟩
    have hn : P'.length = n := by simpa using hP
    have e1 : (P' ++ [y] ++ x :: Q).getD (n + 1) default = x := by
      rw [List.getD_eq_getElem?_getD, List.getElem?_append_right (by simp [hn])]
      simp [hn]
    have e2 : (P' ++ [y] ++ x :: Q).getD n default = y := by
      rw [List.getD_eq_getElem?_getD, List.getElem?_append_left (by simp [hn]), List.getElem?_append_right (by omega)]
      simp [hn]
    have e3 : ((P' ++ [y] ++ x :: Q).set (n + 1) y).set n x = P' ++ x :: (y :: Q) := by
      rw [List.append_assoc, List.set_append_right _ _ (by omega), List.set_append_right _ _ (by omega), hn, show n + 1 - n = 1 by omega, Nat.sub_self]
      rfl
    cases hf : f x y
    · refine ⟨P' ++ [y], [], (List.append_nil _).symm, ?_, by simp, .inr ⟨P', y, rfl, hf⟩⟩
      rw [sinkB_stop _ _ _ (by rw [e1, e2]; exact hf)]
      rfl
    · rw [sinkB_go _ _ _ (by rw [e1, e2]; exact hf), e1, e2, e3]
      obtain ⟨P1, P2, h1, h2, h3, h4⟩ := ih P' x (y :: Q) hn
      refine ⟨P1, P2 ++ [y], by rw [h1, List.append_assoc], by rw [h2, List.append_assoc]; rfl, ?_, h4⟩
      intro z hz
      rcases List.mem_append.1 hz with hz | hz
      · exact h3 z hz
      · obtain rfl := List.mem_singleton.1 hz
        exact hf
theorem snoc_ind {α : Type} {P : List α → Prop} (h0 : P []) (h1 : ∀ l x, P l → P (l ++ [x])) (l : List α) : P l := by
  have h : ∀ m : List α, P m.reverse := fun m => by
    induction m with
    | nil => exact h0
    | cons x m ih => rw [List.reverse_cons]; exact h1 _ _ ih
  have := h l.reverse
  rwa [List.reverse_reverse] at this
/-- Put in one by one. -/
def srtB (f : Pn → Pn → Bool) (l : List Pn) : List Pn := l.foldl (fun X x => sinkB f (X ++ [x]) X.length) []
theorem srtB_snoc (f : Pn → Pn → Bool) (l : List Pn) (x : Pn) : srtB f (l ++ [x]) = sinkB f (srtB f l ++ [x]) (srtB f l).length := by
  unfold srtB
  rw [List.foldl_append]
  rfl
theorem srtB_perm (f : Pn → Pn → Bool) (l : List Pn) : (srtB f l).Perm l := by
  induction l using snoc_ind with
  | h0 => exact List.Perm.refl _
  | h1 l x ih =>
    rw [srtB_snoc]
    obtain ⟨P1, P2, h1, h2, _, _⟩ := sinkB_split f _ (srtB f l) x [] rfl
    rw [h2, List.append_nil]
    have h3 : (P1 ++ x :: P2).Perm (x :: (P1 ++ P2)) := List.perm_middle
    rw [← h1] at h3
    exact h3.trans ((List.Perm.cons x ih).trans (List.perm_append_singleton x l).symm)
/-- What is laid so is in order. -/
theorem srtB_sorted {f : Pn → Pn → Bool} {l : List Pn} (ht : ∀ a ∈ l, ∀ b ∈ l, ∀ c ∈ l, f b a = false → f c b = false → f c a = false) (hs : ∀ a ∈ l, ∀ b ∈ l, f a b = true → f b a = false) : (srtB f l).Pairwise fun a b => f b a = false := by
  induction l using snoc_ind with
  | h0 => exact List.Pairwise.nil
  | h1 l x ih =>
    have hp := srtB_perm f l
    have ih := ih (fun a ha b hb c hc => ht a (List.mem_append_left _ ha) b (List.mem_append_left _ hb) c (List.mem_append_left _ hc)) (fun a ha b hb => hs a (List.mem_append_left _ ha) b (List.mem_append_left _ hb))
    rw [srtB_snoc]
    obtain ⟨P1, P2, h1, h2, h3, h4⟩ := sinkB_split f _ (srtB f l) x [] rfl
    rw [h2, List.append_nil]
    rw [h1] at ih
    have hm : ∀ a, a ∈ P1 ++ P2 → a ∈ l ++ [x] := fun a ha => List.mem_append_left _ (hp.subset (by rw [h1]; exact ha))
    have hx : x ∈ l ++ [x] := by simp
    obtain ⟨i1, i2, i3⟩ := List.pairwise_append.1 ih
    refine List.pairwise_append.2 ⟨i1, List.pairwise_cons.2 ⟨fun b hb => hs x hx b (hm b (List.mem_append_right _ hb)) (h3 b hb), i2⟩, fun a ha b hb => ?_⟩
    rcases List.mem_cons.1 hb with rfl | hb
    · rcases h4 with rfl | ⟨P0, z, rfl, hz⟩
      · cases ha
      · rcases List.mem_append.1 ha with ha' | ha'
        · have hz' := (List.pairwise_append.1 i1).2.2 a ha' z (by simp)
          exact ht a (hm a (List.mem_append_left _ ha)) z (hm z (by simp)) b hx hz' hz
        · obtain rfl := List.mem_singleton.1 ha'
          exact hz
    · exact i3 a ha b hb
/-- Two of the same panes in order are the same. -/
theorem sorted_one {f : Pn → Pn → Bool} {a b : List Pn} (hp : a.Perm b) (ha : a.Pairwise fun x y => f y x = false) (hb : b.Pairwise fun x y => f y x = false) (hd : ∀ x ∈ a, ∀ y ∈ a, f x y = false → f y x = false → x = y) : a = b := by
  induction a generalizing b with
  | nil => exact (List.Perm.nil_eq hp)
  | cons x a ih =>
    cases b with
    | nil => exact absurd hp.length_eq (by simp)
    | cons y b =>
      have e : x = y := by
        have hx : x ∈ y :: b := hp.subset (by simp)
        have hy : y ∈ x :: a := hp.symm.subset (by simp)
        rcases List.mem_cons.1 hx with h | h
        · exact h
        · rcases List.mem_cons.1 hy with h2 | h2
          · exact h2.symm
          · exact hd x (by simp) y (List.mem_cons_of_mem _ h2) ((List.pairwise_cons.1 hb).1 x h) ((List.pairwise_cons.1 ha).1 y h2)
      subst e
      rw [ih (List.Perm.cons_inv hp) (List.pairwise_cons.1 ha).2 (List.pairwise_cons.1 hb).2 (fun u hu v hv => hd u (List.mem_cons_of_mem _ hu) v (List.mem_cons_of_mem _ hv))]
/-- The panes of l that a filter has, in order. -/
def Fl.sort (f : Fl) (l : List Pn) : List Pn := srtB (ahead f.sec) (l.filter f.has)
theorem Fl.sort_is (f : Fl) {l X : List Pn} (hl : ∀ p ∈ l, panOk p) (hp : X.Perm (l.filter f.has)) (hx : X.Pairwise fun a b => Ky.cmp (row f.sec b) (row f.sec a) ≠ -1) : X = f.sort l := by
  have ok : ∀ p ∈ l.filter f.has, panOk p := fun p h => hl p ((List.mem_filter.1 h).1)
  have okX : ∀ p ∈ X, panOk p := fun p h => ok p (hp.subset h)
  have A : ∀ p ∈ l.filter f.has, ∀ q ∈ l.filter f.has, ahead f.sec p q = false ↔ Ky.cmp (row f.sec p) (row f.sec q) ≠ -1 := fun p h q h' => by
    rw [ahead_row f.sec (ok p h) (ok q h')]
    exact decide_eq_false_iff_not
  refine sorted_one (f := ahead f.sec) (hp.trans (srtB_perm _ _).symm) ?_ (srtB_sorted ?_ ?_) ?_
  · exact List.Pairwise.imp_of_mem (fun ha hb h => (A _ (hp.subset hb) _ (hp.subset ha)).2 h) hx
  · intro a ha b hb c hc h1 h2
    rw [A b hb a ha] at h1
    rw [A c hc b hb] at h2
    refine (A c hc a ha).2 fun h3 => ?_
    refine h2 (cmp_less h3 fun h4 => ?_)
    rw [Ky.cmp_swap] at h4
    exact h1 (by omega)
  · intro a ha b hb h1
    refine (A b hb a ha).2 fun h2 => ?_
    rw [ahead_row f.sec (ok a ha) (ok b hb), decide_eq_true_eq] at h1
    rw [Ky.cmp_swap] at h2
    omega
  · intro a ha b hb h1 h2
    rw [A a (hp.subset ha) b (hp.subset hb)] at h1
    rw [A b (hp.subset hb) a (hp.subset ha)] at h2
    rw [Ky.cmp_swap] at h2
    refine row_inj f.sec (okX a ha) (okX b hb) (Ky.cmp_eq ?_)
    rcases Ky.cmp_three (row f.sec a) (row f.sec b) with h | h | h
    · exact absurd h h1
    · exact h
    · omega
end Go.Proofs.Ytponelbfddfliaa
