/- ArenaPlays: the reference's Used. -/
import Derived.Test.YtgpcpjjdneimfaaDoorPlK
namespace Go.Proofs.YtgpcpjjdneimfaaDoor
open Go.ChangeShapes Go.WideShapes Go.ChangeAt Go.RowKit

set_option maxRecDepth 100000 in
theorem refUsed_any (w : World) (F : Nat → Prop) (A : Option Addr) (n c : Nat) (L : List Ar.Pl) (h : PlIn w F A n L) (hn : n ≤ 100000) : Calls Tryd.prog 34 #[.agg #[.slice A n c]] w (RowP w 51 2 (Ar.used L).length (hanL (Ar.used L))) := by
  obtain ⟨i0, hi, hz0, hz1, hz2⟩ := info_parts Tryd.info51
  obtain ⟨W, hW⟩ : ∃ W, w.alloc (.cells #[.slice A n c] 29) = W := ⟨_, rfl⟩
  obtain ⟨a, ha⟩ : ∃ a, w.heap.size = a := ⟨_, rfl⟩
  have hB : Below w.heap.size w W := hW ▸ (Below.refl _ _).alloc (Nat.le_refl _) _
  have hbox : Blk W a 29 #[.slice A n c] := by
    rw [← hW, ← ha]
    exact Blk.new _ _ _
  have hln := h.len
  have HI := Lib.hid (And.intro hi (And.intro hz0 (And.intro hz1 hz2)))
  have H := Lib.hid (And.intro hW (And.intro ha (And.intro hB (And.intro hbox (And.intro (h.below hB) hln)))))
  clear h hln hi hz0 hz1 hz2 hW ha hB hbox
  go_enter Tryd.func34, Tryd.ntmps34
  go_upto_region 1 with fail
  rw [H.out.1, H.out.2.1]
  go_wp2_with fail
  go_loopw [3, 4] (fun r i wr => ∃ j : Nat, j ≤ n ∧ i = .int .i64 (j : Int) ∧ wr.ownsRow W.heap.size 51 2 r (Ar.used (L.take j)).length (hanL (Ar.used (L.take j))) ∧ Below W.heap.size W wr) (fun _ i _ => n - (intOf i).toNat)
  case atStart => exact ⟨0, by omega, rfl, own_nil _ _ _ _, Below.refl _ _⟩
  case round =>
    obtain ⟨j, hj, rfl, hown, hbel⟩ := hrel
    have hbox := H.out.2.2.2.1.below hbel H.out.2.2.2.1.lt
    have a0 := hbox.cell 0
    simp only [List.getElem?_toArray, List.getElem?_cons_zero] at a0
    have i1 : (0 : Int) ≤ (j : Int) := by omega
    by_cases hlt : j < n
    · have i2 : (j : Int) < (n : Int) := by omega
      obtain ⟨p, hp⟩ : ∃ p, L[j]? = some p := ⟨_, List.getElem?_eq_getElem (by rw [H.out.2.2.2.2.2]; exact hlt)⟩
      obtain ⟨b, off, v, hA, -, hc⟩ := (H.out.2.2.2.2.1.below hbel).at_ hp
      have z0 := hc 0 (by omega)
      have z1 := hc 1 (by omega)
      simp only [rowP, List.getElem?_cons_zero, List.getElem?_cons_succ, Nat.add_zero] at z0 z1
      have hst := used_take L j p hp
      subst hA
      cases hu : p.used with
      | false =>
        rw [hu] at z0
        rw [hu, if_neg (by decide), List.append_nil] at hst
        have HK := Lib.hid (And.intro hown (And.intro hbel hst))
        clear hown hbel hst hc hp hbox
        go_wp2_with fail
        refine ⟨⟨j + 1, by omega, by go_num, ?_, HK.out.2.1⟩, by simp [intOf]; omega⟩
        rw [HK.out.2.2]
        exact HK.out.1
      | true =>
        rw [hu] at z0
        rw [hu, if_pos rfl] at hst
        have hul : (Ar.used (L.take j)).length ≤ 100000 := by
          rw [Ar.used_length]
          have h1 := List.countP_le_length (p := fun p : Ar.Pl => p.used) (l := L.take j)
          rw [List.length_take] at h1
          have h2 : min j L.length ≤ j := Nat.min_le_left _ _
          have h3 : List.countP (fun x => x.used) (List.take j L) = List.countP (fun p : Ar.Pl => p.used) (List.take j L) := rfl
          omega
        have HK := Lib.hid (And.intro hown (And.intro hbel hst))
        clear hown hbel hst hc hp hbox
        go_wp2_with (at_builtin; refine wpList_append_own _ rfl _ _ 46 rfl W.heap.size 51 i0 _ 2 16 Tryd.underlying46 HI.out.1 HI.out.2.1 HI.out.2.2.1 HI.out.2.2.2 rfl (by decide) _ (Ar.used (L.take j)).length _ rfl (HK.out.1.alloc _) ⟨wr.heap.size, 0, none⟩ 1 1 [.int .i64 (j : Int), .int .i64 (p.turn : Int)] rfl rfl (cell_two' _ _ _ _ _ rfl) (by simp [Value.oneCell']) (by unfold maxLen; omega) (by omega) (by have := HK.out.2.1.size; simp; omega) ?_)
        intro v' w2 hown2 hgr2 _
        have hbel2 : Below W.heap.size W w2 := grow_below HK.out.2.1 hgr2 (fun g' hg' => (HK.out.1.lt g' hg').1)
        have HO := Lib.hid (And.intro hown2 hbel2)
        clear hown2 hgr2 hbel2
        go_wp2_with fail
        refine ⟨⟨j + 1, by omega, by go_num, ?_, HO.out.2⟩, by simp [intOf]; omega⟩
        rw [HK.out.2.2, hanL_append, List.length_append]
        exact HO.out.1
    · obtain rfl : j = n := by omega
      rw [List.take_of_length_le (by rw [H.out.2.2.2.2.2]; exact Nat.le_refl _)] at hown
      obtain ⟨A', c', rfl⟩ := own_slice hown
      have HK := Lib.hid (And.intro hown hbel)
      clear hown hbel hbox
      go_wp2_with fail
      go_ret
      exact ⟨A', c', rfl, own_lower HK.out.1 H.out.2.2.1.size, H.out.2.2.1.trans (HK.out.2.mono H.out.2.2.1.size)⟩
end Go.Proofs.YtgpcpjjdneimfaaDoor
