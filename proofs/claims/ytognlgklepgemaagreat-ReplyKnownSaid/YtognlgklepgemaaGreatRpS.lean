/- Layer 8, the program: which parts a kind has, as numbers; a kind. -/
import Derived.Test.YtognlgklepgemaaGreatRpP
import Derived.Test.YtognlgklepgemaaGreatRefRpA
namespace Go.Proofs.YtognlgklepgemaaGreat
open Go.ChangeShapes Go.WideShapes Go.ChangeAt Go.RowKit
namespace Rp
/-- The program's parts of a kind. -/
def pparts (k : Nat) : List Nat :=
  if k = 1 then [2, 1, 8] else if k = 2 ∨ k = 3 then [5, 2, 4] else if k = 4 then [2, 1, 8, 9] else if k = 5 then [2, 3, 6, 7] else if k = 7 then [0, 3] else []
/-- A part's letter. -/
def lett (p : Nat) : Nat :=
  if p = 0 then 99 else if p = 1 then 108 else if p = 2 then 101 else if p = 3 then 102 else if p = 4 then 117 else if p = 5 then 76 else if p = 6 then 115 else if p = 7 then 116 else if p = 8 then 114 else 103
theorem pparts_lt (k : Nat) : ∀ p ∈ pparts k, p < 10 := by
  unfold pparts
  intro p hp
  repeat' split at hp
  all_goals simp at hp
  all_goals omega
theorem pparts_len (k : Nat) : (pparts k).length ≤ 4 := by
  unfold pparts
  repeat' split
  all_goals simp
theorem parts_map (k : Nat) : parts k = (pparts k).map lett := by
  unfold parts pparts
  repeat' split
  all_goals first | rfl | omega
def pcells (l : List Nat) : Array Value := (l.map fun (p : Nat) => Value.int .u8 (p : Int)).toArray
def isK (k : Nat) : Bool := decide (1 ≤ k ∧ k ≤ 7)
end Rp
set_option maxRecDepth 100000 in
theorem isKind_any (k : Nat) (w : World) (hk : k < 256) : Calls Tryz.prog 41 #[.int .u8 (k : Int)] w fun e w' => e = .returned (.bool (Rp.isK k)) ∧ w = w' := by
  by_cases h1 : 1 ≤ k
  · have d1 : (1 : Int) ≤ k := by omega
    by_cases h2 : k ≤ 7
    · have e1 : Rp.isK k = true := decide_eq_true ⟨h1, h2⟩
      rw [e1]
      have d2 : decide ((k : Int) ≤ 7) = true := decide_eq_true (by omega)
      clear e1
      go_enter Tryz.func41, Tryz.ntmps41
      go_wp2_with fail
      go_ret
      exact ⟨rfl, rfl⟩
    · have e1 : Rp.isK k = false := decide_eq_false (fun h => h2 h.2)
      rw [e1]
      have d2 : decide ((k : Int) ≤ 7) = false := decide_eq_false (by omega)
      clear e1
      go_enter Tryz.func41, Tryz.ntmps41
      go_wp2_with fail
      go_ret
      exact ⟨rfl, rfl⟩
  · have e1 : Rp.isK k = false := decide_eq_false (fun h => h1 h.1)
    rw [e1]
    have d1 : ¬ (1 : Int) ≤ k := by omega
    clear e1
    go_enter Tryz.func41, Tryz.ntmps41
    go_wp2_with fail
    go_ret
    exact ⟨rfl, rfl⟩
theorem blk_al {W : World} {g : Nat} {t : TypeId} {cs : Array Value} (h : Blk W g t cs) (o : Obj) : Blk (W.alloc o) g t cs := h.below ((Below.refl W.heap.size W).alloc (Nat.le_refl _) o) h.lt
theorem blk_nw (W : World) (n : Nat) (t : TypeId) (cs : Array Value) (h : W.heap.size = n) : Blk (W.alloc (.cells cs t)) n t cs := h ▸ Blk.new W t cs
theorem eight_blk (w : World) (c1 c2 c3 c4 c5 c6 c7 c8 : Array Value) (t t' : TypeId) : ∀ W, W = ((((((((w.alloc (.cells c1 t)).alloc (.cells c2 t)).alloc (.cells c3 t)).alloc (.cells c4 t)).alloc (.cells c5 t)).alloc (.cells c6 t)).alloc (.cells c7 t)).alloc (.cells c8 t')) →
    Below w.heap.size w W ∧ Blk W w.heap.size t c1 ∧ Blk W (w.heap.size + 1) t c2 ∧ Blk W (w.heap.size + 1 + 1) t c3 ∧ Blk W (w.heap.size + 1 + 1 + 1) t c4 ∧ Blk W (w.heap.size + 1 + 1 + 1 + 1) t c5 ∧ Blk W (w.heap.size + 1 + 1 + 1 + 1 + 1 + 1) t c7 := by
  rintro W rfl
  refine ⟨?_, blk_al (blk_al (blk_al (blk_al (blk_al (blk_al (blk_al (Blk.new w t c1) _) _) _) _) _) _) _, blk_al (blk_al (blk_al (blk_al (blk_al (blk_al (blk_nw _ _ t c2 (by simp)) _) _) _) _) _) _, blk_al (blk_al (blk_al (blk_al (blk_al (blk_nw _ _ t c3 (by simp)) _) _) _) _) _, blk_al (blk_al (blk_al (blk_al (blk_nw _ _ t c4 (by simp)) _) _) _) _, blk_al (blk_al (blk_al (blk_nw _ _ t c5 (by simp)) _) _) _, blk_al (blk_nw _ _ t c7 (by simp)) _⟩
  exact ((((((((Below.refl _ w).alloc (Nat.le_refl _) _).alloc (by simp) _).alloc (by simp; omega) _).alloc (by simp; omega) _).alloc (by simp; omega) _).alloc (by simp; omega) _).alloc (by simp; omega) _).alloc (by simp; omega) _
/-- The parts, as partsOf tells them. -/
def PartsAt (w : World) (A : Option Addr) (l : List Nat) : Prop := l = [] ∨ ∃ g, A = some ⟨g, 0, none⟩ ∧ Blk w g 129 (Rp.pcells l)
def PartsP (w : World) (k : Nat) (e : Ending) (w' : World) : Prop := ∃ A c, e = .returned (.slice A (Rp.pparts k).length c) ∧ PartsAt w' A (Rp.pparts k) ∧ Below w.heap.size w w'
set_option maxRecDepth 100000 in
set_option maxHeartbeats 2000000 in
theorem partsOf_any (k : Nat) (w : World) (hk : k < 256) : Calls Tryz.prog 69 #[.int .u8 (k : Int)] w (PartsP w k) := by
  cases hK : Rp.isK k
  · have e1 : Rp.pparts k = [] := by
      have : ¬ (1 ≤ k ∧ k ≤ 7) := of_decide_eq_false hK
      unfold Rp.pparts
      rw [if_neg (by omega), if_neg (by omega), if_neg (by omega), if_neg (by omega), if_neg (by omega)]
    go_enter Tryz.func69, Tryz.ntmps69
    go_wp2_with fail
    refine (isKind_any k _ hk).mono ?_
    rintro e w1 ⟨rfl, rfl⟩
    rw [hK]
    go_wp2_with fail
    go_ret
    unfold PartsP
    rw [e1]
    exact ⟨none, 0, rfl, .inl rfl, Below.refl _ _⟩
  · have hh : 1 ≤ k ∧ k ≤ 7 := of_decide_eq_true hK
    have hkk : k = 1 ∨ k = 2 ∨ k = 3 ∨ k = 4 ∨ k = 5 ∨ k = 6 ∨ k = 7 := by omega
    clear hh
    rcases hkk with rfl | rfl | rfl | rfl | rfl | rfl | rfl
    · go_enter Tryz.func69, Tryz.ntmps69
      go_wp2_with fail
      refine (isKind_any _ _ hk).mono ?_
      rintro e w1 ⟨rfl, rfl⟩
      rw [hK]
      go_wp2_with fail
      obtain ⟨W, hW⟩ : ∃ W, ((((((((w.alloc (.cells #[.int .u8 2, .int .u8 1, .int .u8 8] 129)).alloc (.cells #[.int .u8 5, .int .u8 2, .int .u8 4] 129)).alloc (.cells #[.int .u8 5, .int .u8 2, .int .u8 4] 129)).alloc (.cells #[.int .u8 2, .int .u8 1, .int .u8 8, .int .u8 9] 129)).alloc (.cells #[.int .u8 2, .int .u8 3, .int .u8 6, .int .u8 7] 129)).alloc (.cells #[] 129)).alloc (.cells #[.int .u8 0, .int .u8 3] 129)).alloc (.cells #[.slice none 0 0, .slice (some ⟨w.heap.size, 0, none⟩) 3 3, .slice (some ⟨w.heap.size + 1, 0, none⟩) 3 3, .slice (some ⟨w.heap.size + 1 + 1, 0, none⟩) 3 3, .slice (some ⟨w.heap.size + 1 + 1 + 1, 0, none⟩) 4 4, .slice (some ⟨w.heap.size + 1 + 1 + 1 + 1, 0, none⟩) 4 4, .slice (some ⟨w.heap.size + 1 + 1 + 1 + 1 + 1, 0, none⟩) 0 0, .slice (some ⟨w.heap.size + 1 + 1 + 1 + 1 + 1 + 1, 0, none⟩) 2 2] 146)) = W := ⟨_, rfl⟩
      rw [hW]
      obtain ⟨b0, k1, k2, k3, k4, k5, k7⟩ := eight_blk w _ _ _ _ _ _ _ _ _ _ W hW.symm
      clear hW
      go_ret
      exact ⟨some ⟨w.heap.size, 0, none⟩, _, rfl, .inr ⟨_, rfl, k1⟩, b0⟩
    · go_enter Tryz.func69, Tryz.ntmps69
      go_wp2_with fail
      refine (isKind_any _ _ hk).mono ?_
      rintro e w1 ⟨rfl, rfl⟩
      rw [hK]
      go_wp2_with fail
      obtain ⟨W, hW⟩ : ∃ W, ((((((((w.alloc (.cells #[.int .u8 2, .int .u8 1, .int .u8 8] 129)).alloc (.cells #[.int .u8 5, .int .u8 2, .int .u8 4] 129)).alloc (.cells #[.int .u8 5, .int .u8 2, .int .u8 4] 129)).alloc (.cells #[.int .u8 2, .int .u8 1, .int .u8 8, .int .u8 9] 129)).alloc (.cells #[.int .u8 2, .int .u8 3, .int .u8 6, .int .u8 7] 129)).alloc (.cells #[] 129)).alloc (.cells #[.int .u8 0, .int .u8 3] 129)).alloc (.cells #[.slice none 0 0, .slice (some ⟨w.heap.size, 0, none⟩) 3 3, .slice (some ⟨w.heap.size + 1, 0, none⟩) 3 3, .slice (some ⟨w.heap.size + 1 + 1, 0, none⟩) 3 3, .slice (some ⟨w.heap.size + 1 + 1 + 1, 0, none⟩) 4 4, .slice (some ⟨w.heap.size + 1 + 1 + 1 + 1, 0, none⟩) 4 4, .slice (some ⟨w.heap.size + 1 + 1 + 1 + 1 + 1, 0, none⟩) 0 0, .slice (some ⟨w.heap.size + 1 + 1 + 1 + 1 + 1 + 1, 0, none⟩) 2 2] 146)) = W := ⟨_, rfl⟩
      rw [hW]
      obtain ⟨b0, k1, k2, k3, k4, k5, k7⟩ := eight_blk w _ _ _ _ _ _ _ _ _ _ W hW.symm
      clear hW
      go_ret
      exact ⟨some ⟨w.heap.size + 1, 0, none⟩, _, rfl, .inr ⟨_, rfl, k2⟩, b0⟩
    · go_enter Tryz.func69, Tryz.ntmps69
      go_wp2_with fail
      refine (isKind_any _ _ hk).mono ?_
      rintro e w1 ⟨rfl, rfl⟩
      rw [hK]
      go_wp2_with fail
      obtain ⟨W, hW⟩ : ∃ W, ((((((((w.alloc (.cells #[.int .u8 2, .int .u8 1, .int .u8 8] 129)).alloc (.cells #[.int .u8 5, .int .u8 2, .int .u8 4] 129)).alloc (.cells #[.int .u8 5, .int .u8 2, .int .u8 4] 129)).alloc (.cells #[.int .u8 2, .int .u8 1, .int .u8 8, .int .u8 9] 129)).alloc (.cells #[.int .u8 2, .int .u8 3, .int .u8 6, .int .u8 7] 129)).alloc (.cells #[] 129)).alloc (.cells #[.int .u8 0, .int .u8 3] 129)).alloc (.cells #[.slice none 0 0, .slice (some ⟨w.heap.size, 0, none⟩) 3 3, .slice (some ⟨w.heap.size + 1, 0, none⟩) 3 3, .slice (some ⟨w.heap.size + 1 + 1, 0, none⟩) 3 3, .slice (some ⟨w.heap.size + 1 + 1 + 1, 0, none⟩) 4 4, .slice (some ⟨w.heap.size + 1 + 1 + 1 + 1, 0, none⟩) 4 4, .slice (some ⟨w.heap.size + 1 + 1 + 1 + 1 + 1, 0, none⟩) 0 0, .slice (some ⟨w.heap.size + 1 + 1 + 1 + 1 + 1 + 1, 0, none⟩) 2 2] 146)) = W := ⟨_, rfl⟩
      rw [hW]
      obtain ⟨b0, k1, k2, k3, k4, k5, k7⟩ := eight_blk w _ _ _ _ _ _ _ _ _ _ W hW.symm
      clear hW
      go_ret
      exact ⟨some ⟨w.heap.size + 1 + 1, 0, none⟩, _, rfl, .inr ⟨_, rfl, k3⟩, b0⟩
    · go_enter Tryz.func69, Tryz.ntmps69
      go_wp2_with fail
      refine (isKind_any _ _ hk).mono ?_
      rintro e w1 ⟨rfl, rfl⟩
      rw [hK]
      go_wp2_with fail
      obtain ⟨W, hW⟩ : ∃ W, ((((((((w.alloc (.cells #[.int .u8 2, .int .u8 1, .int .u8 8] 129)).alloc (.cells #[.int .u8 5, .int .u8 2, .int .u8 4] 129)).alloc (.cells #[.int .u8 5, .int .u8 2, .int .u8 4] 129)).alloc (.cells #[.int .u8 2, .int .u8 1, .int .u8 8, .int .u8 9] 129)).alloc (.cells #[.int .u8 2, .int .u8 3, .int .u8 6, .int .u8 7] 129)).alloc (.cells #[] 129)).alloc (.cells #[.int .u8 0, .int .u8 3] 129)).alloc (.cells #[.slice none 0 0, .slice (some ⟨w.heap.size, 0, none⟩) 3 3, .slice (some ⟨w.heap.size + 1, 0, none⟩) 3 3, .slice (some ⟨w.heap.size + 1 + 1, 0, none⟩) 3 3, .slice (some ⟨w.heap.size + 1 + 1 + 1, 0, none⟩) 4 4, .slice (some ⟨w.heap.size + 1 + 1 + 1 + 1, 0, none⟩) 4 4, .slice (some ⟨w.heap.size + 1 + 1 + 1 + 1 + 1, 0, none⟩) 0 0, .slice (some ⟨w.heap.size + 1 + 1 + 1 + 1 + 1 + 1, 0, none⟩) 2 2] 146)) = W := ⟨_, rfl⟩
      rw [hW]
      obtain ⟨b0, k1, k2, k3, k4, k5, k7⟩ := eight_blk w _ _ _ _ _ _ _ _ _ _ W hW.symm
      clear hW
      go_ret
      exact ⟨some ⟨w.heap.size + 1 + 1 + 1, 0, none⟩, _, rfl, .inr ⟨_, rfl, k4⟩, b0⟩
    · go_enter Tryz.func69, Tryz.ntmps69
      go_wp2_with fail
      refine (isKind_any _ _ hk).mono ?_
      rintro e w1 ⟨rfl, rfl⟩
      rw [hK]
      go_wp2_with fail
      obtain ⟨W, hW⟩ : ∃ W, ((((((((w.alloc (.cells #[.int .u8 2, .int .u8 1, .int .u8 8] 129)).alloc (.cells #[.int .u8 5, .int .u8 2, .int .u8 4] 129)).alloc (.cells #[.int .u8 5, .int .u8 2, .int .u8 4] 129)).alloc (.cells #[.int .u8 2, .int .u8 1, .int .u8 8, .int .u8 9] 129)).alloc (.cells #[.int .u8 2, .int .u8 3, .int .u8 6, .int .u8 7] 129)).alloc (.cells #[] 129)).alloc (.cells #[.int .u8 0, .int .u8 3] 129)).alloc (.cells #[.slice none 0 0, .slice (some ⟨w.heap.size, 0, none⟩) 3 3, .slice (some ⟨w.heap.size + 1, 0, none⟩) 3 3, .slice (some ⟨w.heap.size + 1 + 1, 0, none⟩) 3 3, .slice (some ⟨w.heap.size + 1 + 1 + 1, 0, none⟩) 4 4, .slice (some ⟨w.heap.size + 1 + 1 + 1 + 1, 0, none⟩) 4 4, .slice (some ⟨w.heap.size + 1 + 1 + 1 + 1 + 1, 0, none⟩) 0 0, .slice (some ⟨w.heap.size + 1 + 1 + 1 + 1 + 1 + 1, 0, none⟩) 2 2] 146)) = W := ⟨_, rfl⟩
      rw [hW]
      obtain ⟨b0, k1, k2, k3, k4, k5, k7⟩ := eight_blk w _ _ _ _ _ _ _ _ _ _ W hW.symm
      clear hW
      go_ret
      exact ⟨some ⟨w.heap.size + 1 + 1 + 1 + 1, 0, none⟩, _, rfl, .inr ⟨_, rfl, k5⟩, b0⟩
    · go_enter Tryz.func69, Tryz.ntmps69
      go_wp2_with fail
      refine (isKind_any _ _ hk).mono ?_
      rintro e w1 ⟨rfl, rfl⟩
      rw [hK]
      go_wp2_with fail
      obtain ⟨W, hW⟩ : ∃ W, ((((((((w.alloc (.cells #[.int .u8 2, .int .u8 1, .int .u8 8] 129)).alloc (.cells #[.int .u8 5, .int .u8 2, .int .u8 4] 129)).alloc (.cells #[.int .u8 5, .int .u8 2, .int .u8 4] 129)).alloc (.cells #[.int .u8 2, .int .u8 1, .int .u8 8, .int .u8 9] 129)).alloc (.cells #[.int .u8 2, .int .u8 3, .int .u8 6, .int .u8 7] 129)).alloc (.cells #[] 129)).alloc (.cells #[.int .u8 0, .int .u8 3] 129)).alloc (.cells #[.slice none 0 0, .slice (some ⟨w.heap.size, 0, none⟩) 3 3, .slice (some ⟨w.heap.size + 1, 0, none⟩) 3 3, .slice (some ⟨w.heap.size + 1 + 1, 0, none⟩) 3 3, .slice (some ⟨w.heap.size + 1 + 1 + 1, 0, none⟩) 4 4, .slice (some ⟨w.heap.size + 1 + 1 + 1 + 1, 0, none⟩) 4 4, .slice (some ⟨w.heap.size + 1 + 1 + 1 + 1 + 1, 0, none⟩) 0 0, .slice (some ⟨w.heap.size + 1 + 1 + 1 + 1 + 1 + 1, 0, none⟩) 2 2] 146)) = W := ⟨_, rfl⟩
      rw [hW]
      obtain ⟨b0, k1, k2, k3, k4, k5, k7⟩ := eight_blk w _ _ _ _ _ _ _ _ _ _ W hW.symm
      clear hW
      go_ret
      exact ⟨some ⟨w.heap.size + 1 + 1 + 1 + 1 + 1, 0, none⟩, _, rfl, .inl rfl, b0⟩
    · go_enter Tryz.func69, Tryz.ntmps69
      go_wp2_with fail
      refine (isKind_any _ _ hk).mono ?_
      rintro e w1 ⟨rfl, rfl⟩
      rw [hK]
      go_wp2_with fail
      obtain ⟨W, hW⟩ : ∃ W, ((((((((w.alloc (.cells #[.int .u8 2, .int .u8 1, .int .u8 8] 129)).alloc (.cells #[.int .u8 5, .int .u8 2, .int .u8 4] 129)).alloc (.cells #[.int .u8 5, .int .u8 2, .int .u8 4] 129)).alloc (.cells #[.int .u8 2, .int .u8 1, .int .u8 8, .int .u8 9] 129)).alloc (.cells #[.int .u8 2, .int .u8 3, .int .u8 6, .int .u8 7] 129)).alloc (.cells #[] 129)).alloc (.cells #[.int .u8 0, .int .u8 3] 129)).alloc (.cells #[.slice none 0 0, .slice (some ⟨w.heap.size, 0, none⟩) 3 3, .slice (some ⟨w.heap.size + 1, 0, none⟩) 3 3, .slice (some ⟨w.heap.size + 1 + 1, 0, none⟩) 3 3, .slice (some ⟨w.heap.size + 1 + 1 + 1, 0, none⟩) 4 4, .slice (some ⟨w.heap.size + 1 + 1 + 1 + 1, 0, none⟩) 4 4, .slice (some ⟨w.heap.size + 1 + 1 + 1 + 1 + 1, 0, none⟩) 0 0, .slice (some ⟨w.heap.size + 1 + 1 + 1 + 1 + 1 + 1, 0, none⟩) 2 2] 146)) = W := ⟨_, rfl⟩
      rw [hW]
      obtain ⟨b0, k1, k2, k3, k4, k5, k7⟩ := eight_blk w _ _ _ _ _ _ _ _ _ _ W hW.symm
      clear hW
      go_ret
      exact ⟨some ⟨w.heap.size + 1 + 1 + 1 + 1 + 1 + 1, 0, none⟩, _, rfl, .inr ⟨_, rfl, k7⟩, b0⟩
end Go.Proofs.YtognlgklepgemaaGreat
