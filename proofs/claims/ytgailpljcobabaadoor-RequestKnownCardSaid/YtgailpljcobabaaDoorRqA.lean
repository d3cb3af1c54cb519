/- Layer 9, the program: its two tables; a kind, its parts, its name. -/
import Derived.Test.YtgailpljcobabaaDoorRqV
import Derived.Test.YtgailpljcobabaaDoorRqC
import Derived.Test.YtgailpljcobabaaDoorHeld
namespace Go.Proofs.YtgailpljcobabaaDoor
open Go.ChangeShapes Go.WideShapes Go.ChangeAt Go.RowKit

/-- The two tables of the program, as its start lays them. -/
def Vars (w : World) : Prop := 2 ≤ w.heap.size ∧ (∀ k, k < 9 → w.cell? ⟨1, k, none⟩ = some (.string (textOf (Rq.letters k)))) ∧ (∀ k, k < 9 → w.cell? ⟨0, k, none⟩ = some (.string (textOf (Rq.word k))))
theorem Vars.below {B : Nat} {w w' : World} (h : Vars w) (hb : Below B w w') (hB : 2 ≤ B) : Vars w' :=
  ⟨Nat.le_trans h.1 hb.size, fun k hk => (hb.cell (p := ⟨1, k, none⟩) (by show 1 < B; omega)).trans (h.2.1 k hk), fun k hk => (hb.cell (p := ⟨0, k, none⟩) (by show 0 < B; omega)).trans (h.2.2 k hk)⟩
theorem Vars.next {w w' : World} (h : Vars w) (hb : Below w.heap.size w w') : Vars w' := h.below hb h.1
set_option maxRecDepth 100000 in
theorem isKind_any (k : Nat) (w : World) (hk : k < 256) : Calls Tryd.prog 32 #[.int .u8 (k : Int)] w fun e w' => e = .returned (.bool (Rq.isK k)) ∧ w = w' := by
  by_cases h1 : 1 ≤ k
  · have d1 : (1 : Int) ≤ k := by omega
    by_cases h2 : k ≤ 8
    · have e1 : Rq.isK k = true := decide_eq_true ⟨h1, h2⟩
      rw [e1]
      have d2 : decide ((k : Int) ≤ 8) = true := decide_eq_true (by omega)
      clear e1
      go_enter Tryd.func32, Tryd.ntmps32
      go_wp2_with fail
      go_ret
      exact ⟨rfl, rfl⟩
    · have e1 : Rq.isK k = false := decide_eq_false (fun h => h2 h.2)
      rw [e1]
      have d2 : decide ((k : Int) ≤ 8) = false := decide_eq_false (by omega)
      clear e1
      go_enter Tryd.func32, Tryd.ntmps32
      go_wp2_with fail
      go_ret
      exact ⟨rfl, rfl⟩
  · have e1 : Rq.isK k = false := decide_eq_false (fun h => h1 h.1)
    rw [e1]
    have d1 : ¬ (1 : Int) ≤ k := by omega
    clear e1
    go_enter Tryd.func32, Tryd.ntmps32
    go_wp2_with fail
    go_ret
    exact ⟨rfl, rfl⟩
set_option maxRecDepth 100000 in
theorem partsOf_any (k : Nat) (w : World) (hv : Vars w) (hk : k < 256) : Calls Tryd.prog 50 #[.int .u8 (k : Int)] w fun e w' => e = .returned (.string (textOf (Rq.letters k))) ∧ w = w' := by
  cases hK : Rq.isK k
  · have e1 : Rq.letters k = [] := Rq.letters_no hK
    rw [e1]
    go_enter Tryd.func50, Tryd.ntmps50
    go_wp2_with fail
    refine (isKind_any k _ hk).mono ?_
    rintro e w1 ⟨rfl, rfl⟩
    rw [hK]
    go_wp2_with fail
    go_ret
    exact ⟨rfl, rfl⟩
  · have hh : 1 ≤ k ∧ k ≤ 8 := of_decide_eq_true hK
    have hc := hv.2.1 k (by omega)
    obtain ⟨T, hT⟩ : ∃ T, textOf (Rq.letters k) = T := ⟨_, rfl⟩
    rw [hT] at hc ⊢
    have i1 : (0 : Int) ≤ k := by omega
    have i2 : (k : Int) < 9 := by omega
    have i3 : k < 9 := by omega
    clear hT hh
    go_enter Tryd.func50, Tryd.ntmps50
    go_wp2_with fail
    refine (isKind_any k _ hk).mono ?_
    rintro e w1 ⟨rfl, rfl⟩
    rw [hK]
    go_wp2_with fail
    go_ret
    exact ⟨rfl, rfl⟩
set_option maxRecDepth 100000 in
theorem word_any (k : Nat) (w : World) (hv : Vars w) (hk : k < 256) : Calls Tryd.prog 16 #[.int .u8 (k : Int)] w fun e w' => e = .returned (.string (textOf (Rq.word k))) ∧ w = w' := by
  cases hK : Rq.isK k
  · have e1 : Rq.word k = [] := Rq.word_no hK
    rw [e1]
    go_enter Tryd.func16, Tryd.ntmps16
    go_wp2_with fail
    refine (isKind_any k _ hk).mono ?_
    rintro e w1 ⟨rfl, rfl⟩
    rw [hK]
    go_wp2_with fail
    go_ret
    exact ⟨rfl, rfl⟩
  · have hh : 1 ≤ k ∧ k ≤ 8 := of_decide_eq_true hK
    have hc := hv.2.2 k (by omega)
    obtain ⟨T, hT⟩ : ∃ T, textOf (Rq.word k) = T := ⟨_, rfl⟩
    rw [hT] at hc ⊢
    have i1 : (0 : Int) ≤ k := by omega
    have i2 : (k : Int) < 9 := by omega
    have i3 : k < 9 := by omega
    clear hT hh
    go_enter Tryd.func16, Tryd.ntmps16
    go_wp2_with fail
    refine (isKind_any k _ hk).mono ?_
    rintro e w1 ⟨rfl, rfl⟩
    rw [hK]
    go_wp2_with fail
    go_ret
    exact ⟨rfl, rfl⟩
namespace Rq
def hasL8 (k c : Nat) : Bool := decide (c ∈ letters k)
theorem index_mem (l : List Nat) (c : Nat) (hl : ∀ x ∈ l, x < 128) (hc : c < 128) : decide (0 ≤ Lib.indexByte (textOf l).data.toList (c : Int).toNat.toUInt8) = decide (c ∈ l) := by
  have e : (textOf l).data.toList = l.map UInt8.ofNat := rfl
  rw [e, Int.toNat_natCast]
  clear e
  induction l with
  | nil => rfl
  | cons a t ih =>
    have ih := ih (fun x hx => hl x (List.mem_cons_of_mem _ hx))
    have ha := hl a (List.mem_cons_self ..)
    rw [List.map_cons]
    unfold Lib.indexByte
    by_cases h : a = c
    · subst h
      rw [if_pos (by simp)]
      simp
    · have hne : ¬ ((UInt8.ofNat a == c.toUInt8) = true) := by
        rw [beq_iff_eq]
        intro he
        have := congrArg UInt8.toNat he
        rw [UInt8.toNat_ofNat_of_lt' (show a < 256 by omega), show c.toUInt8.toNat = c % 256 from rfl, Nat.mod_eq_of_lt (by omega)] at this
        exact h this
      rw [if_neg hne]
      have hge := Lib.indexByte_ge (t.map UInt8.ofNat) c.toUInt8
      have hmem : c ∈ a :: t ↔ c ∈ t := by simp [Ne.symm h]
      by_cases hm : c ∈ t
      · rw [decide_eq_true hm] at ih
        have := of_decide_eq_true ih
        rw [decide_eq_true (hmem.2 hm), if_neg (by rw [beq_iff_eq]; omega)]
        exact decide_eq_true (by omega)
      · rw [decide_eq_false hm] at ih
        have := of_decide_eq_false ih
        rw [decide_eq_false (fun h => hm (hmem.1 h)), if_pos (by rw [beq_iff_eq]; omega)]
        rfl
theorem letters_lt (k : Nat) : ∀ x ∈ letters k, x < 128 := by
  intro x hx
  have := letters_all k x hx
  unfold letter at this
  omega
theorem has_D (k : Nat) : decide (68 ∈ letters k) = hasD k := by
  cases hK : isK k
  · have : ¬ (1 ≤ k ∧ k ≤ 8) := of_decide_eq_false hK
    rw [letters_no hK]
    unfold hasD
    rw [decide_eq_false (show ¬ (k = 2 ∨ k = 3 ∨ k = 5 ∨ k = 6) by omega)]
    rfl
  · rcases isK_cases hK with rfl | rfl | rfl | rfl | rfl | rfl | rfl | rfl <;> rfl
theorem has_W (k : Nat) : decide (87 ∈ letters k) = hasW k := by
  cases hK : isK k
  · have : ¬ (1 ≤ k ∧ k ≤ 8) := of_decide_eq_false hK
    rw [letters_no hK]
    unfold hasW
    rw [decide_eq_false (show ¬ (k = 1 ∨ k = 5) by omega)]
    rfl
  · rcases isK_cases hK with rfl | rfl | rfl | rfl | rfl | rfl | rfl | rfl <;> rfl
end Rq
set_option maxRecDepth 100000 in
theorem has_any (k c : Nat) (w : World) (hv : Vars w) (hk : k < 256) (hc : c < 128) : Calls Tryd.prog 52 #[.int .u8 (k : Int), .int .i32 (c : Int)] w fun e w' => e = .returned (.bool (decide (c ∈ Rq.letters k))) ∧ w = w' := by
  have HC := Lib.hid (contains_any (textOf (Rq.letters k)) (c : Int) w (by omega) (by omega))
  rw [Rq.index_mem _ _ (Rq.letters_lt k) hc] at HC
  have HP := Lib.hid (partsOf_any k w hv hk)
  clear hv
  go_enter Tryd.func52, Tryd.ntmps52
  go_wp2_with fail
  refine HP.out.mono ?_
  rintro e w1 ⟨rfl, rfl⟩
  go_wp2_with fail
  refine HC.out.mono ?_
  rintro e w1 ⟨rfl, rfl⟩
  go_wp2_with fail
  go_ret
  exact ⟨rfl, rfl⟩
end Go.Proofs.YtgailpljcobabaaDoor
