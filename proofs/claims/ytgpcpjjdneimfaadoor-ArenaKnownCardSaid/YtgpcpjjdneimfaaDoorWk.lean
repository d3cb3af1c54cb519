/- The least number that waits is taken. -/
import Derived.Test.YtgpcpjjdneimfaaDoorWd
import Derived.Test.YtgpcpjjdneimfaaDoorTz
namespace Go.Proofs.YtgpcpjjdneimfaaDoor
open Go.ChangeShapes Go.WideShapes Go.ChangeAt Go.RowKit Go.MapKept

set_option maxRecDepth 100000 in
theorem take_none (w : World) (g : Nat) (hc : w.cell? ⟨g, 2, none⟩ = some (.int .i64 0)) :
    Calls Tryd.prog 43 #[.pointer (some ⟨g, 1, none⟩)] w fun e w' => e = .returned (.tuple #[.int .i64 0, .bool false]) ∧ w = w' := by
  go_enter Tryd.func43, Tryd.ntmps43
  go_wp2_with fail
  go_ret2
  exact ⟨rfl, rfl⟩
set_option maxRecDepth 100000 in
theorem take_some (w : World) (g s mb : Nat) (sl : Value) (c : Int) (S : Nat → Prop) (f : Nat → Nat → Nat) (hb : Blk w g 73 #[sl, .map (some mb), .int .i64 c]) (hw : Words w (some mb) f) (hr : Wt.Rep S f) (hs : S s) (hm : ∀ x, S x → s ≤ x) (hc : 0 < c) (hc2 : c < 4611686018427387904) (hv : Vars w) :
    Calls Tryd.prog 43 #[.pointer (some ⟨g, 1, none⟩)] w fun e w' => e = .returned (.tuple #[.int .i64 (s : Int), .bool true]) ∧ DropPost w g mb s sl c S w' := by
  have hs6 := hr.few s hs
  have e6 : (64 : Nat) ^ 6 = 68719476736 := by decide
  have c1 := hb.cell 1
  have c2 := hb.cell 2
  simp only [List.getElem?_toArray, List.getElem?_cons_zero, List.getElem?_cons_succ] at c1 c2
  have hcz : ((c : Int) == 0) = false := by simp; omega
  have HD := Lib.hid (drop_any w g s mb sl c S f hb hw hr hs hc hc2)
  have H := Lib.hid (And.intro hw (And.intro hr (And.intro hs (And.intro hm hv))))
  clear hb hw hr hs hm hv
  go_enter Tryd.func43, Tryd.ntmps43
  go_wp2_with fail
  rename World => w
  go_loopw [4, 5] (fun q v wr => ∃ (k m : Nat), k ≤ 6 ∧ v = .int .i64 ((k : Int) - 1) ∧ q = .int .i64 (m : Int) ∧ m = s / 64 ^ k ∧ w = wr) (fun _ v _ => ((intOf v) + 1).toNat)
  case atStart =>
    exact ⟨6, 0, by omega, by rfl, rfl, by rw [Nat.div_eq_of_lt hs6], rfl⟩
  case round =>
    obtain ⟨k, m, hk, rfl, rfl, hmm, rfl⟩ := hrel
    have hmb : m ≤ s := hmm ▸ Nat.div_le_self _ _
    rcases k with _ | l
    · have i1 : ¬ (0 : Int) ≤ ((0 : Nat) : Int) - 1 := by omega
      obtain rfl : m = s := by rw [hmm]; simp
      clear hmm
      go_wp2_with fail
      refine HD.out.mono ?_
      rintro e w1 ⟨rfl, hp⟩
      have HP := Lib.hid hp
      clear hp
      go_wp2_with fail
      go_ret2
      exact ⟨rfl, HP.out⟩
    · have hst := Wt.take_step H.out.2.1 (show l < 6 by omega) H.out.2.2.1 H.out.2.2.2.1
      rw [← hmm] at hst
      have ei : (((l + 1 : Nat) : Int) - 1) = (l : Int) := by omega
      rw [ei]
      have hl := H.out.1.looki (W := w) (fun _ _ => rfl) l m (l : Int) (m : Int) rfl rfl (by omega) (by omega)
      obtain ⟨v, hv⟩ : ∃ v, f l m = v := ⟨_, rfl⟩
      rw [hv] at hst hl
      have ht := tz_any v hst.1 w H.out.2.2.2.2
      obtain ⟨z, hz⟩ : ∃ z, Lib.ctz 64 v = z := ⟨_, rfl⟩
      rw [hz] at ht hst
      have HS := Lib.hid (And.intro hst (And.intro hmm (And.intro hv hz)))
      have HT := Lib.hid ht
      have i1 : (0 : Int) ≤ (l : Int) := by omega
      have hq : s / 64 ^ l ≤ s := Nat.div_le_self _ _
      have hz2 : m * 64 + z < 9223372036854775808 := by omega
      clear hst hmm hv hz ht ei hq
      go_wp2_with fail
      refine HT.out.mono ?_
      rintro e w1 ⟨rfl, rfl⟩
      go_wp2_with fail
      refine ⟨⟨l, m * 64 + z, by omega, rfl, by go_num, by have := HS.out.1.2; omega, trivial⟩, ?_⟩
      simp [intOf]
end Go.Proofs.YtgpcpjjdneimfaaDoor
