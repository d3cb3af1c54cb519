/- Layer 10's reference: a filter's bounds. Made by tools/gen/bof.py. -/
import Derived.Test.YtponelbfddfliaaBoF
import Derived.Test.YtponelbfddfliaaBoR
namespace Go.Proofs.Ytponelbfddfliaa
open Go.ChangeShapes Go.WideShapes Go.ChangeAt Go.RowKit

set_option maxRecDepth 100000 in
set_option maxHeartbeats 2000000 in
theorem refBounds1_any (J T : ByteArray) (l m : Int) (w : World) (hr : (Fl.mk 1 J T l m).right = true) (hJ : J.size ≤ 1000) (hT : T.size ≤ 1000) (hl : i64ok l) (hm : i64ok m) : Calls Try.prog 29 #[.agg #[.int .u8 1, .string J, .string T, .int .i64 l, .int .i64 m]] w (TwoP w (Fl.mk 1 J T l m).from (Fl.mk 1 J T l m).upto) := by
  have hf : (Fl.mk 1 J T l m).from = Ky.put (tos [⟨2, 0, J⟩, ⟨1, l, ⟨#[]⟩⟩]) := by unfold Fl.from; rw [if_pos hr]; rfl
  have hu : (Fl.mk 1 J T l m).upto = (Ky.after (Ky.put (tos [⟨2, 0, J⟩, ⟨1, l, ⟨#[]⟩⟩]))).getD [] := by unfold Fl.upto; rw [if_pos hr]; rfl
  rw [hf, hu]
  clear hf hu
  obtain ⟨w0, hw0⟩ : ∃ w0, w.alloc (.cells #[.int .u8 1, .string J, .string T, .int .i64 l, .int .i64 m] 37) = w0 := ⟨_, rfl⟩
  have hbk := Blk.new w 37 #[.int .u8 1, .string J, .string T, .int .i64 l, .int .i64 m]
  have hbe : Below w.heap.size w (w.alloc (.cells #[.int .u8 1, .string J, .string T, .int .i64 l, .int .i64 m] 37)) := (Below.refl _ _).alloc (Nat.le_refl _) _
  have hz : (w.alloc (.cells #[.int .u8 1, .string J, .string T, .int .i64 l, .int .i64 m] 37)).heap.size = w.heap.size + 1 := by simp
  rw [hw0] at hbk hbe hz
  have HC : Hid (∀ W, Below w0.heap.size w0 W → (W.cell? ⟨w.heap.size, 0, none⟩ = some (.int .u8 1) ∧ W.cell? ⟨w.heap.size, 1, none⟩ = some (.string J) ∧ W.cell? ⟨w.heap.size, 2, none⟩ = some (.string T) ∧ W.cell? ⟨w.heap.size, 3, none⟩ = some (.int .i64 l) ∧ W.cell? ⟨w.heap.size, 4, none⟩ = some (.int .i64 m))) := Lib.hid fun W hW => by
    have hb := hbk.below hW (by omega)
    exact ⟨hb.cell 0, hb.cell 1, hb.cell 2, hb.cell 3, hb.cell 4⟩
  have HBE := Lib.hid hbe
  have HOK := Lib.hid (And.intro (And.intro hJ hT) (And.intro hl hm))
  have HR := Lib.hid (fun W => refRight_any (Fl.mk 1 J T l m) W)
  rw [hr] at HR
  unfold Fl.val at HR
  dsimp only at HR
  clear hbk hbe hz hr hJ hT hl hm
  go_enter Try.func29, Try.ntmps29
  obtain ⟨c0, c1, c2, c3, c4⟩ := HC.out w0 (Below.refl _ _)
  go_wp2_with fail
  clear hw0 c0 c1 c2 c3 c4
  refine (HR.out _).mono ?_
  rintro e w1 ⟨rfl, b1⟩
  obtain ⟨c0, c1, c2, c3, c4⟩ := HC.out w1 b1
  have B1 := Lib.hid b1
  clear b1
  go_wp2_with fail
  clear c0 c1 c2 c3 c4
  have D1 := B1.out
  refine (refTextP_any J _).mono ?_
  rintro e v1 ⟨rfl, d8⟩
  have D2 := below_next D1 d8
  simp only [partV]
  clear d8 D1
  go_wp2_with fail
  refine (refPut_any 1 1 _ _ [⟨2, 0, J⟩] _ ((parts_lit _ _ [⟨2, 0, J⟩] 1 _ (by rfl) (one_text_ok J (Nat.le_trans HOK.out.1.1 (by omega))) rfl).more (Nat.le_refl _)) (by simp) (by omega)).mono ?_
  rintro e v2 ⟨U, rfl, hU, hsU, d9⟩
  have HU := Lib.hid hU
  have D3 := (D2.alloc D2.size _).trans (d9.mono (by have := D2.size; simp; omega))
  clear hU hsU D2 d9
  obtain ⟨c0, c1, c2, c3, c4⟩ := HC.out _ D3
  go_wp2_with fail
  clear c0 c1 c2 c3 c4
  refine (refIntP_any l _).mono ?_
  rintro e v3 ⟨rfl, d8⟩
  have D4 := below_next D3 d8
  simp only [partV]
  clear d8 D3
  go_wp2_with fail
  refine (refPut_any 1 1 _ _ [⟨1, l, ⟨#[]⟩⟩] _ ((parts_lit _ _ [⟨1, l, ⟨#[]⟩⟩] 1 _ (by rfl) (one_int_ok l HOK.out.2.1) rfl).more (Nat.le_refl _)) (by simp) (by omega)).mono ?_
  rintro e v4 ⟨V, rfl, hV, hsV, d9⟩
  have HV := Lib.hid hV
  have D5 := (D4.alloc D4.size _).trans (d9.mono (by have := D4.size; simp; omega))
  clear hV hsV D4 d9
  have hcat : nums (U ++ V) = Ky.put (tos [⟨2, 0, J⟩, ⟨1, l, ⟨#[]⟩⟩]) := by
    have e : nums (U ++ V) = nums U ++ nums V := by unfold nums; simp
    rw [e, HU.out, HV.out, ← Ky.put_append]
    rfl
  have HCT := Lib.hid hcat
  have hUs : (U ++ V).size ≤ 1000000 := by
    have e := nums_len (U ++ V)
    rw [hcat] at e
    have h1 := two_len J l
    have h2 := HOK.out.1.1
    omega
  have HUV := Lib.hid hUs
  have hsa : (U ++ V).size = U.size + V.size := ByteArray.size_append
  have hsz : U.size + V.size ≤ 9223372036854775807 := by omega
  have hsn : ¬ 9223372036854775807 < U.size + V.size := by omega
  clear hcat hUs hsa
  go_wp2_with fail
  refine (refAfter_any (U ++ V) _ HUV.out).mono ?_
  rintro e v5 ⟨X, rfl, hX, d9⟩
  have HX := Lib.hid hX
  have D6 := below_next D5 d9
  clear hX d9 D5
  go_wp2_with fail
  go_ret2
  exact ⟨U ++ V, X, rfl, HCT.out, by rw [HX.out, HCT.out], HBE.out.trans (D6.mono HBE.out.size)⟩
set_option maxRecDepth 100000 in
set_option maxHeartbeats 2000000 in
theorem refBounds2_any (J T : ByteArray) (l m : Int) (w : World) (hr : (Fl.mk 2 J T l m).right = true) (hJ : J.size ≤ 1000) (hT : T.size ≤ 1000) (hl : i64ok l) (hm : i64ok m) : Calls Try.prog 29 #[.agg #[.int .u8 2, .string J, .string T, .int .i64 l, .int .i64 m]] w (TwoP w (Fl.mk 2 J T l m).from (Fl.mk 2 J T l m).upto) := by
  have hf : (Fl.mk 2 J T l m).from = Ky.put (tos [⟨2, 0, J⟩]) := by unfold Fl.from; rw [if_pos hr]; rfl
  have hu : (Fl.mk 2 J T l m).upto = (if T.toList.isEmpty then [] else Ky.put (tos [⟨2, 0, T⟩])) := by unfold Fl.upto; rw [if_pos hr]; rfl
  rw [hf, hu]
  clear hf hu
  obtain ⟨w0, hw0⟩ : ∃ w0, w.alloc (.cells #[.int .u8 2, .string J, .string T, .int .i64 l, .int .i64 m] 37) = w0 := ⟨_, rfl⟩
  have hbk := Blk.new w 37 #[.int .u8 2, .string J, .string T, .int .i64 l, .int .i64 m]
  have hbe : Below w.heap.size w (w.alloc (.cells #[.int .u8 2, .string J, .string T, .int .i64 l, .int .i64 m] 37)) := (Below.refl _ _).alloc (Nat.le_refl _) _
  have hz : (w.alloc (.cells #[.int .u8 2, .string J, .string T, .int .i64 l, .int .i64 m] 37)).heap.size = w.heap.size + 1 := by simp
  rw [hw0] at hbk hbe hz
  have HC : Hid (∀ W, Below w0.heap.size w0 W → (W.cell? ⟨w.heap.size, 0, none⟩ = some (.int .u8 2) ∧ W.cell? ⟨w.heap.size, 1, none⟩ = some (.string J) ∧ W.cell? ⟨w.heap.size, 2, none⟩ = some (.string T) ∧ W.cell? ⟨w.heap.size, 3, none⟩ = some (.int .i64 l) ∧ W.cell? ⟨w.heap.size, 4, none⟩ = some (.int .i64 m))) := Lib.hid fun W hW => by
    have hb := hbk.below hW (by omega)
    exact ⟨hb.cell 0, hb.cell 1, hb.cell 2, hb.cell 3, hb.cell 4⟩
  have HBE := Lib.hid hbe
  have HOK := Lib.hid (And.intro (And.intro hJ hT) (And.intro hl hm))
  have HR := Lib.hid (fun W => refRight_any (Fl.mk 2 J T l m) W)
  rw [hr] at HR
  unfold Fl.val at HR
  dsimp only at HR
  clear hbk hbe hz hr hJ hT hl hm
  obtain ⟨UP, hUP⟩ : ∃ u, (if T.toList.isEmpty then [] else Ky.put (tos [⟨2, 0, T⟩])) = u := ⟨_, rfl⟩
  rw [hUP]
  have HUP := Lib.hid hUP
  clear hUP
  go_enter Try.func29, Try.ntmps29
  obtain ⟨c0, c1, c2, c3, c4⟩ := HC.out w0 (Below.refl _ _)
  go_wp2_with fail
  clear hw0 c0 c1 c2 c3 c4
  refine (HR.out _).mono ?_
  rintro e w1 ⟨rfl, b1⟩
  obtain ⟨c0, c1, c2, c3, c4⟩ := HC.out w1 b1
  have B1 := Lib.hid b1
  clear b1
  go_wp2_with fail
  clear c0 c1 c2 c3 c4
  have D1 := B1.out
  refine (refTextP_any J _).mono ?_
  rintro e v1 ⟨rfl, d8⟩
  have D2 := below_next D1 d8
  simp only [partV]
  clear d8 D1
  go_wp2_with fail
  refine (refPut_any 1 1 _ _ [⟨2, 0, J⟩] _ ((parts_lit _ _ [⟨2, 0, J⟩] 1 _ (by rfl) (one_text_ok J (Nat.le_trans HOK.out.1.1 (by omega))) rfl).more (Nat.le_refl _)) (by simp) (by omega)).mono ?_
  rintro e v2 ⟨U, rfl, hU, hsU, d9⟩
  have HU := Lib.hid hU
  have D3 := (D2.alloc D2.size _).trans (d9.mono (by have := D2.size; simp; omega))
  clear hU hsU D2 d9
  obtain ⟨c0, c1, c2, c3, c4⟩ := HC.out _ D3
  cases ht : T.toList.isEmpty
  · have n1 : (T.toList == []) = false := by cases h : T.toList <;> simp_all
    have HTT := Lib.hid ht
    clear ht
    go_wp2_with fail
    clear c0 c1 c2 c3 c4
    refine (refTextP_any T _).mono ?_
    rintro e v3 ⟨rfl, d8⟩
    have D4 := below_next D3 d8
    simp only [partV]
    clear d8 D3
    go_wp2_with fail
    refine (refPut_any 1 1 _ _ [⟨2, 0, T⟩] _ ((parts_lit _ _ [⟨2, 0, T⟩] 1 _ (by rfl) (one_text_ok T (Nat.le_trans HOK.out.1.2 (by omega))) rfl).more (Nat.le_refl _)) (by simp) (by omega)).mono ?_
    rintro e v4 ⟨V, rfl, hV, hsV, d9⟩
    have HV := Lib.hid hV
    have D5 := (D4.alloc D4.size _).trans (d9.mono (by have := D4.size; simp; omega))
    clear hV hsV D4 d9
    go_wp2_with fail
    go_ret2
    exact ⟨U, V, rfl, HU.out, by rw [HV.out, ← HUP.out, HTT.out]; rfl, HBE.out.trans (D5.mono HBE.out.size)⟩
  · have n1 : (T.toList == []) = true := by cases h : T.toList <;> simp_all
    have HTT := Lib.hid ht
    clear ht
    go_wp2_with fail
    go_ret2
    exact ⟨U, _, rfl, HU.out, by rw [← HUP.out, HTT.out]; rfl, HBE.out.trans (D3.mono HBE.out.size)⟩
set_option maxRecDepth 100000 in
set_option maxHeartbeats 2000000 in
theorem refBounds3_any (J T : ByteArray) (l m : Int) (w : World) (hr : (Fl.mk 3 J T l m).right = true) (hJ : J.size ≤ 1000) (hT : T.size ≤ 1000) (hl : i64ok l) (hm : i64ok m) : Calls Try.prog 29 #[.agg #[.int .u8 3, .string J, .string T, .int .i64 l, .int .i64 m]] w (TwoP w (Fl.mk 3 J T l m).from (Fl.mk 3 J T l m).upto) := by
  have hf : (Fl.mk 3 J T l m).from = Ky.put (tos [⟨1, l, ⟨#[]⟩⟩]) := by unfold Fl.from; rw [if_pos hr]; rfl
  have hu : (Fl.mk 3 J T l m).upto = Ky.put (tos [⟨1, m, ⟨#[]⟩⟩]) := by unfold Fl.upto; rw [if_pos hr]; rfl
  rw [hf, hu]
  clear hf hu
  obtain ⟨w0, hw0⟩ : ∃ w0, w.alloc (.cells #[.int .u8 3, .string J, .string T, .int .i64 l, .int .i64 m] 37) = w0 := ⟨_, rfl⟩
  have hbk := Blk.new w 37 #[.int .u8 3, .string J, .string T, .int .i64 l, .int .i64 m]
  have hbe : Below w.heap.size w (w.alloc (.cells #[.int .u8 3, .string J, .string T, .int .i64 l, .int .i64 m] 37)) := (Below.refl _ _).alloc (Nat.le_refl _) _
  have hz : (w.alloc (.cells #[.int .u8 3, .string J, .string T, .int .i64 l, .int .i64 m] 37)).heap.size = w.heap.size + 1 := by simp
  rw [hw0] at hbk hbe hz
  have HC : Hid (∀ W, Below w0.heap.size w0 W → (W.cell? ⟨w.heap.size, 0, none⟩ = some (.int .u8 3) ∧ W.cell? ⟨w.heap.size, 1, none⟩ = some (.string J) ∧ W.cell? ⟨w.heap.size, 2, none⟩ = some (.string T) ∧ W.cell? ⟨w.heap.size, 3, none⟩ = some (.int .i64 l) ∧ W.cell? ⟨w.heap.size, 4, none⟩ = some (.int .i64 m))) := Lib.hid fun W hW => by
    have hb := hbk.below hW (by omega)
    exact ⟨hb.cell 0, hb.cell 1, hb.cell 2, hb.cell 3, hb.cell 4⟩
  have HBE := Lib.hid hbe
  have HOK := Lib.hid (And.intro (And.intro hJ hT) (And.intro hl hm))
  have HR := Lib.hid (fun W => refRight_any (Fl.mk 3 J T l m) W)
  rw [hr] at HR
  unfold Fl.val at HR
  dsimp only at HR
  clear hbk hbe hz hr hJ hT hl hm
  go_enter Try.func29, Try.ntmps29
  obtain ⟨c0, c1, c2, c3, c4⟩ := HC.out w0 (Below.refl _ _)
  go_wp2_with fail
  clear hw0 c0 c1 c2 c3 c4
  refine (HR.out _).mono ?_
  rintro e w1 ⟨rfl, b1⟩
  obtain ⟨c0, c1, c2, c3, c4⟩ := HC.out w1 b1
  have B1 := Lib.hid b1
  clear b1
  go_wp2_with fail
  clear c0 c1 c2 c3 c4
  have D1 := B1.out
  refine (refTextP_any J _).mono ?_
  rintro e v1 ⟨rfl, d8⟩
  have D2 := below_next D1 d8
  simp only [partV]
  clear d8 D1
  go_wp2_with fail
  refine (refPut_any 1 1 _ _ [⟨2, 0, J⟩] _ ((parts_lit _ _ [⟨2, 0, J⟩] 1 _ (by rfl) (one_text_ok J (Nat.le_trans HOK.out.1.1 (by omega))) rfl).more (Nat.le_refl _)) (by simp) (by omega)).mono ?_
  rintro e v2 ⟨U, rfl, hU, hsU, d9⟩
  have HU := Lib.hid hU
  have D3 := (D2.alloc D2.size _).trans (d9.mono (by have := D2.size; simp; omega))
  clear hU hsU D2 d9
  obtain ⟨c0, c1, c2, c3, c4⟩ := HC.out _ D3
  have D0 := D3.drew
  clear D3
  go_wp2_with fail
  clear c0 c1 c2 c3 c4
  go_region_held3 (fun W => (W.cell? ⟨w.heap.size, 0, none⟩ = some (.int .u8 3) ∧ W.cell? ⟨w.heap.size, 1, none⟩ = some (.string J) ∧ W.cell? ⟨w.heap.size, 2, none⟩ = some (.string T) ∧ W.cell? ⟨w.heap.size, 3, none⟩ = some (.int .i64 l) ∧ W.cell? ⟨w.heap.size, 4, none⟩ = some (.int .i64 m))) (first | with_reducible exact HC.out _ D0 | with_reducible exact HC.out _ D1 | with_reducible exact HC.out _ (D1.alloc D1.size _) | with_reducible exact HC.out _ D2 | with_reducible exact HC.out _ D3 | with_reducible exact HC.out _ (D3.alloc D3.size _) | with_reducible exact HC.out _ D4) (first
    | (go_at_call 50; have _ := D3; (refine (refPut_any 1 1 _ _ [⟨1, m, ⟨#[]⟩⟩] _ ((parts_lit _ _ [⟨1, m, ⟨#[]⟩⟩] 1 _ (by rfl) (one_int_ok m HOK.out.2.2) rfl).more (Nat.le_refl _)) (by simp) (by omega)).mono ?_); rintro x u4 ⟨Y, rfl, hY, hsY, d4⟩; have HY := Lib.hid hY; have D4 := (D3.alloc D3.size _).trans (d4.mono (by have := D3.size; simp; omega)); clear D3 d4 hY hsY)
    | (go_at_call 39; have _ := D2; (refine (refIntP_any m _).mono ?_); rintro x u3 ⟨rfl, d3⟩; simp only [partV]; have D3 := below_next D2 d3; clear D2 d3)
    | (go_at_call 50; have _ := D1; (refine (refPut_any 1 1 _ _ [⟨1, l, ⟨#[]⟩⟩] _ ((parts_lit _ _ [⟨1, l, ⟨#[]⟩⟩] 1 _ (by rfl) (one_int_ok l HOK.out.2.1) rfl).more (Nat.le_refl _)) (by simp) (by omega)).mono ?_); rintro x u2 ⟨X, rfl, hX, hsX, d2⟩; have HX := Lib.hid hX; have D2 := (D1.alloc D1.size _).trans (d2.mono (by have := D1.size; simp; omega)); clear D1 d2 hX hsX)
    | (go_at_call 39; have _ := D0; (refine (refIntP_any l _).mono ?_); rintro x u1 ⟨rfl, d1⟩; simp only [partV]; have D1 := below_next D0 d1; clear D0 d1))
  go_wp2_with fail
  go_ret2
  exact ⟨X, Y, rfl, HX.out, HY.out, HBE.out.trans (D4.mono HBE.out.size)⟩
set_option maxRecDepth 100000 in
set_option maxHeartbeats 1000000 in
theorem refBounds_any (f : Fl) (w : World) (hf : f.ok) (hK : f.K.size ≤ 1000) (hT : f.T.size ≤ 1000) : Calls Try.prog 29 #[f.val] w (TwoP w f.from f.upto) := by
  cases hr : f.right
  · have e1 : f.from = [0] := by unfold Fl.from; rw [hr]; rfl
    have e2 : f.upto = [0] := by unfold Fl.upto; rw [hr]; rfl
    rw [e1, e2]
    have HR := Lib.hid (fun W => refRight_any f W)
    rw [hr] at HR
    obtain ⟨k, J, T, l, m⟩ := f
    unfold Fl.val at HR ⊢
    dsimp only at HR ⊢
    clear hr hf hK hT e1 e2
    go_enter Try.func29, Try.ntmps29
    go_wp2_with fail
    refine (HR.out _).mono ?_
    rintro e w1 ⟨rfl, b1⟩
    go_wp2_with fail
    go_ret2
    exact ⟨_, _, rfl, rfl, rfl, ((Below.refl _ _).alloc (Nat.le_refl _) _).trans (b1.mono (by simp))⟩
  · obtain ⟨k, J, T, l, m⟩ := f
    have hk : k = 1 ∨ k = 2 ∨ k = 3 := by
      unfold Fl.right at hr
      dsimp only at hr
      by_cases h1 : k = 1
      · exact .inl h1
      · by_cases h2 : k = 2
        · exact .inr (.inl h2)
        · by_cases h3 : k = 3
          · exact .inr (.inr h3)
          · rw [if_neg h1, if_neg h2, if_neg h3] at hr; cases hr
    rcases hk with rfl | rfl | rfl
    · exact refBounds1_any J T l m w hr hK hT hf.2.1 hf.2.2
    · exact refBounds2_any J T l m w hr hK hT hf.2.1 hf.2.2
    · exact refBounds3_any J T l m w hr hK hT hf.2.1 hf.2.2
end Go.Proofs.Ytponelbfddfliaa
