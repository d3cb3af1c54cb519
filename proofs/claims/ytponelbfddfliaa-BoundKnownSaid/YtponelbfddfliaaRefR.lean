/- Layer 4's reference: rows compared. -/
import Derived.Test.YtponelbfddfliaaRefC
namespace Go.Proofs.Ytponelbfddfliaa
open Go.ChangeShapes Go.WideShapes Go.ChangeAt Go.RowKit

theorem row_step (a b : List PT) (i : Nat) (ha : i < a.length) (hb : i < b.length) : Ky.cmpRow (tos (a.drop i)) (tos (b.drop i)) = if Ky.cmpPart (a.getD i default).to (b.getD i default).to = 0 then Ky.cmpRow (tos (a.drop (i + 1))) (tos (b.drop (i + 1))) else Ky.cmpPart (a.getD i default).to (b.getD i default).to := by
  rw [List.drop_eq_getElem_cons ha, List.drop_eq_getElem_cons hb, List.getD_eq_getElem?_getD, List.getElem?_eq_getElem ha, List.getD_eq_getElem?_getD, List.getElem?_eq_getElem hb]
  rfl
theorem row_end (a b : List PT) (i : Nat) (h : i = a.length ∨ i = b.length) (ha : i ≤ a.length) (hb : i ≤ b.length) : Ky.cmpRow (tos (a.drop i)) (tos (b.drop i)) = if a.length < b.length then -1 else if b.length < a.length then 1 else 0 := by
  rcases Nat.lt_trichotomy a.length b.length with h1 | h1 | h1
  · rw [if_pos h1, List.drop_eq_nil_of_le (by omega), List.drop_eq_getElem_cons (show i < b.length by omega)]
    rfl
  · rw [if_neg (by omega), if_neg (by omega), List.drop_eq_nil_of_le (by omega), List.drop_eq_nil_of_le (by omega)]
    rfl
  · rw [if_neg (by omega), if_pos h1, show b.drop i = [] from List.drop_eq_nil_of_le (by omega), List.drop_eq_getElem_cons (show i < a.length by omega)]
    rfl
set_option maxRecDepth 100000 in
set_option maxHeartbeats 2000000 in
theorem refCompare_any (n c m d B : Nat) (A1 A2 : Option Addr) (l1 l2 : List PT) (w : World) (h1 : Parts w B A1 n l1) (h2 : Parts w B A2 m l2) (hB : B ≤ w.heap.size) (hn : n ≤ 1000) (hm : m ≤ 1000) :
    Calls Try.prog 40 #[.slice A1 n c, .slice A2 m d] w (IntP w (Ky.cmpRow (tos l1) (tos l2))) := by
  have HP := Lib.hid (And.intro h1 h2)
  clear h1 h2
  go_enter Try.func40, Try.ntmps40
  go_wp2_with fail
  go_loopw [5] (fun i wr => ∃ j : Nat, j ≤ n ∧ j ≤ m ∧ i = .int .i64 (j : Int) ∧ Ky.cmpRow (tos l1) (tos l2) = Ky.cmpRow (tos (l1.drop j)) (tos (l2.drop j)) ∧ Below w.heap.size w wr) (fun i _ => n - (intOf i).toNat)
  case atStart => exact ⟨0, by omega, by omega, rfl, rfl, Below.refl _ _⟩
  case round =>
    obtain ⟨j, hj1, hj2, rfl, he, hbel⟩ := hrel
    have HE := Lib.hid he
    have HB := Lib.hid hbel
    clear he hbel
    by_cases hlt : j < n ∧ j < m
    · obtain ⟨g1, g2⟩ := hlt
      obtain ⟨b1, o1, rfl, hb1, hc1⟩ := HP.out.1.2.2 (by omega)
      obtain ⟨b2, o2, rfl, hb2, hc2⟩ := HP.out.2.2.2 (by omega)
      obtain ⟨x1, x2, x3⟩ := hc1 j g1
      obtain ⟨y1, y2, y3⟩ := hc2 j g2
      have hst := row_step l1 l2 j (by rw [HP.out.1.1]; exact g1) (by rw [HP.out.2.1]; exact g2)
      generalize l1.getD j default = p at x1 x2 x3 hst
      generalize l2.getD j default = q at y1 y2 y3 hst
      have HK : Hid (∀ W, Below w.heap.size w W → W.cell? ⟨b1, o1 + j * 3, none⟩ = some (.int .u8 (p.k : Int)) ∧ W.cell? ⟨b1, o1 + j * 3 + 1, none⟩ = some (.int .i64 p.n) ∧ W.cell? ⟨b1, o1 + j * 3 + 2, none⟩ = some (.string p.s) ∧ W.cell? ⟨b2, o2 + j * 3, none⟩ = some (.int .u8 (q.k : Int)) ∧ W.cell? ⟨b2, o2 + j * 3 + 1, none⟩ = some (.int .i64 q.n) ∧ W.cell? ⟨b2, o2 + j * 3 + 2, none⟩ = some (.string q.s)) := Lib.hid fun W hW => by
        have z1 : b1 < w.heap.size := by omega
        have z2 : b2 < w.heap.size := by omega
        exact ⟨(hW.cell (p := ⟨b1, _, none⟩) z1).trans x1, (hW.cell (p := ⟨b1, _, none⟩) z1).trans x2, (hW.cell (p := ⟨b1, _, none⟩) z1).trans x3, (hW.cell (p := ⟨b2, _, none⟩) z2).trans y1, (hW.cell (p := ⟨b2, _, none⟩) z2).trans y2, (hW.cell (p := ⟨b2, _, none⟩) z2).trans y3⟩
      have HST := Lib.hid hst
      have D0 : Below w.heap.size w wr.drew := HB.out.drew
      clear x1 x2 x3 y1 y2 y3 hc1 hc2 hst
      have i1 : (0 : Int) ≤ j := by omega
      have i2 : (j : Int) < n := by omega
      have i3 : (j : Int) < m := by omega
      go_wp2_with fail
      go_region_held3 (fun W => W.cell? ⟨b1, o1 + j * 3, none⟩ = some (.int .u8 (p.k : Int)) ∧ W.cell? ⟨b1, o1 + j * 3 + 1, none⟩ = some (.int .i64 p.n) ∧ W.cell? ⟨b1, o1 + j * 3 + 2, none⟩ = some (.string p.s) ∧ W.cell? ⟨b2, o2 + j * 3, none⟩ = some (.int .u8 (q.k : Int)) ∧ W.cell? ⟨b2, o2 + j * 3 + 1, none⟩ = some (.int .i64 q.n) ∧ W.cell? ⟨b2, o2 + j * 3 + 2, none⟩ = some (.string q.s)) (first | exact HK.out _ D0 | exact HK.out _ D1) (first
        | (go_at_call 59; (refine (refParts_any p q _).mono ?_); rintro e w1 ⟨rfl, b1'⟩; have D1 := below_next D0 b1'; clear D0 b1'))
      clear i1
      by_cases hz : Ky.cmpPart p.to q.to = 0
      · rw [if_pos hz] at HST
        rw [hz]
        go_wp2_with fail
        go_roundw
        case rel => exact ⟨j + 1, by omega, by omega, by go_num, by rw [HE.out, HST.out], D1⟩
        case measure => simp [intOf]; omega
      · rw [if_neg hz] at HST
        have hzb : (Ky.cmpPart p.to q.to == 0) = false := by rw [beq_eq_false_iff_ne]; exact hz
        go_wp2_with fail
        go_ret
        exact ⟨ret_int (by rw [HE.out, HST.out]), D1⟩
    · have hend := row_end l1 l2 j (by rw [HP.out.1.1, HP.out.2.1]; omega) (by rw [HP.out.1.1]; exact hj1) (by rw [HP.out.2.1]; exact hj2)
      rw [HP.out.1.1, HP.out.2.1] at hend
      rcases Nat.lt_trichotomy n m with h | h | h
      · rw [if_pos h] at hend
        have HN := Lib.hid hend
        have i1 : ¬ (j : Int) < n := by omega
        have i2 : (n : Int) < m := by omega
        clear hend
        go_wp2_with fail
        go_ret
        exact ⟨ret_int (by rw [HE.out, HN.out]), HB.out⟩
      · rw [if_neg (by omega), if_neg (by omega)] at hend
        have HN := Lib.hid hend
        have i1 : ¬ (j : Int) < n := by omega
        have i2 : ¬ (n : Int) < m := by omega
        have i3 : ¬ (m : Int) < n := by omega
        clear hend
        go_wp2_with fail
        go_ret
        exact ⟨ret_int (by rw [HE.out, HN.out]), HB.out⟩
      · rw [if_neg (by omega), if_pos h] at hend
        have HN := Lib.hid hend
        have i0 : (j : Int) < n := by omega
        have i1 : ¬ (j : Int) < m := by omega
        have i2 : ¬ (n : Int) < m := by omega
        have i3 : (m : Int) < n := by omega
        clear hend
        go_wp2_with fail
        go_ret
        exact ⟨ret_int (by rw [HE.out, HN.out]), HB.out⟩
end Go.Proofs.Ytponelbfddfliaa
