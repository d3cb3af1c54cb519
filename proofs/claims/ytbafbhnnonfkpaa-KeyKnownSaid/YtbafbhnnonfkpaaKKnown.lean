/- KeyKnown, walked. -/
import Derived.Test.YtbafbhnnonfkpaaKKnA
namespace Go.Proofs.Ytbafbhnnonfkpaa
open Go.ChangeShapes Go.WideShapes Go.ChangeAt Go.RowKit

set_option maxRecDepth 100000 in
set_option maxHeartbeats 20000000 in
theorem keyKnown_any (w : World) : Calls Try.prog 7 #[] w (TrueP w) := by
  have hlaid := laid_new w 2 9
  have hbe : Below w.heap.size w ((w.alloc (.cells #[.int .i64 0, .int .i64 1, .int .i64 (-1), .int .i64 255, .int .i64 256, .int .i64 (-256), .int .i64 9223372036854775807, .int .i64 (-9223372036854775808), .int .i64 1099511627776, .int .i64 (-1099511627776)] 2)).alloc (.cells #[.string ⟨#[]⟩, .string ⟨#[97]⟩, .string ⟨#[0]⟩, .string ⟨#[0, 0]⟩, .string ⟨#[97, 0]⟩, .string ⟨#[97, 0, 98]⟩, .string ⟨#[255]⟩, .string ⟨#[255, 255]⟩, .string ⟨#[97, 255]⟩, .string ⟨#[0, 255]⟩, .string ⟨#[98]⟩] 9)) := ((Below.refl _ _).alloc (Nat.le_refl _) _).alloc (by simp) _
  obtain ⟨w2, hw2⟩ : ∃ w2, ((w.alloc (.cells #[.int .i64 0, .int .i64 1, .int .i64 (-1), .int .i64 255, .int .i64 256, .int .i64 (-256), .int .i64 9223372036854775807, .int .i64 (-9223372036854775808), .int .i64 1099511627776, .int .i64 (-1099511627776)] 2)).alloc (.cells #[.string ⟨#[]⟩, .string ⟨#[97]⟩, .string ⟨#[0]⟩, .string ⟨#[0, 0]⟩, .string ⟨#[97, 0]⟩, .string ⟨#[97, 0, 98]⟩, .string ⟨#[255]⟩, .string ⟨#[255, 255]⟩, .string ⟨#[97, 255]⟩, .string ⟨#[0, 255]⟩, .string ⟨#[98]⟩] 9)) = w2 := ⟨_, rfl⟩
  have hz : w2.heap.size = w.heap.size + 2 := by rw [← hw2]; simp
  rw [hw2] at hlaid hbe
  have H2 := Lib.hid (And.intro hlaid (And.intro hbe hz))
  clear hlaid hbe hz
  go_enter Try.func7, Try.ntmps7
  go_wp2_with fail
  clear hw2
  go_loopw [3] (fun i wr => ∃ j : Nat, j ≤ 10 ∧ i = .int .i64 (j : Int) ∧ Below w2.heap.size w2 wr) (fun i _ => 10 - (intOf i).toNat)
  case atStart => exact ⟨0, by omega, rfl, Below.refl _ _⟩
  case round =>
    obtain ⟨i, hi, rfl, hbel⟩ := hrel
    have HB := Lib.hid hbel
    clear hbel
    by_cases hlt : i < 10
    · have i1 : (i : Int) < 10 := by omega
      have i0 : (0 : Int) ≤ i := by omega
      go_wp2_with fail
      go_loopw [4] (fun k wx => ∃ j : Nat, j ≤ 11 ∧ k = .int .i64 (j : Int) ∧ Below w2.heap.size w2 wx) (fun k _ => 11 - (intOf k).toNat)
      case atStart => exact ⟨0, by omega, rfl, HB.out⟩
      case round =>
        obtain ⟨k, hk, rfl, hbel⟩ := hrel
        by_cases hlk : k < 11
        · have k1 : (k : Int) < 11 := by omega
          have k0 : (0 : Int) ≤ k := by omega
          clear HB
          obtain ⟨q1, hq1, hq1'⟩ : ∃ q : Nat, (k : Int).tmod 10 = (q : Int) ∧ q < 10 := mod_ex k 10 (by omega)
          obtain ⟨q2, hq2, hq2'⟩ : ∃ q : Nat, ((i : Int) + k).tmod 11 = (q : Int) ∧ q < 11 := by simpa using mod_ex (i + k) 11 (by omega)
          obtain ⟨q3, hq3, hq3'⟩ : ∃ q : Nat, (3 * (i : Int) + k).tmod 10 = (q : Int) ∧ q < 10 := by simpa using mod_ex (3 * i + k) 10 (by omega)
          obtain ⟨q4, hq4, hq4'⟩ : ∃ q : Nat, ((i : Int) + k).tmod 10 = (q : Int) ∧ q < 10 := by simpa using mod_ex (i + k) 10 (by omega)
          obtain ⟨q5, hq5, hq5'⟩ : ∃ q : Nat, ((i : Int) + 3).tmod 10 = (q : Int) ∧ q < 10 := by simpa using mod_ex (i + 3) 10 (by omega)
          obtain ⟨q6, hq6, hq6'⟩ : ∃ q : Nat, ((k : Int) + i).tmod 11 = (q : Int) ∧ q < 11 := by simpa using mod_ex (k + i) 11 (by omega)
          have v1 : IntKind.i64.wrap ((i : Int) + (k : Int)) = (i : Int) + k := by rw [IntKind.wrap_i64]; omega
          have v2 : IntKind.i64.wrap (3 * (i : Int)) = 3 * (i : Int) := by rw [IntKind.wrap_i64]; omega
          have v3 : IntKind.i64.wrap (3 * (i : Int) + (k : Int)) = 3 * (i : Int) + k := by rw [IntKind.wrap_i64]; omega
          have v4 : IntKind.i64.wrap ((i : Int) + 3) = (i : Int) + 3 := by rw [IntKind.wrap_i64]; omega
          have v5 : IntKind.i64.wrap ((k : Int) + (i : Int)) = (k : Int) + i := by rw [IntKind.wrap_i64]; omega
          have p1 : (q1 : Int) < 10 := by omega
          have p2 : (q2 : Int) < 11 := by omega
          have p3 : (q3 : Int) < 10 := by omega
          have p4 : (q4 : Int) < 10 := by omega
          have p5 : (q5 : Int) < 10 := by omega
          have p6 : (q6 : Int) < 11 := by omega
          have p7 : (i : Int) < 11 := by omega
          have HC : Hid (∀ W, Below w2.heap.size w2 W → Laid w W) := Lib.hid fun W hW => H2.out.1.below hW (by rw [H2.out.2.2]; omega)
          have D0 : Below w2.heap.size w2 wr.drew := hbel.drew
          obtain ⟨x1, hx1⟩ : ∃ x, NL.getD i 0 = x := ⟨_, rfl⟩
          obtain ⟨x2, hx2⟩ : ∃ x, NL.getD q1 0 = x := ⟨_, rfl⟩
          obtain ⟨x3, hx3⟩ : ∃ x, NL.getD q3 0 = x := ⟨_, rfl⟩
          obtain ⟨x4, hx4⟩ : ∃ x, NL.getD q4 0 = x := ⟨_, rfl⟩
          obtain ⟨x5, hx5⟩ : ∃ x, NL.getD q5 0 = x := ⟨_, rfl⟩
          obtain ⟨t1, ht1⟩ : ∃ x, TL.getD k ByteArray.empty = x := ⟨_, rfl⟩
          obtain ⟨t2, ht2⟩ : ∃ x, TL.getD q2 ByteArray.empty = x := ⟨_, rfl⟩
          obtain ⟨t3, ht3⟩ : ∃ x, TL.getD i ByteArray.empty = x := ⟨_, rfl⟩
          obtain ⟨t4, ht4⟩ : ∃ x, TL.getD q6 ByteArray.empty = x := ⟨_, rfl⟩
          have HX : Hid ((big x1 ∧ big x2 ∧ big x3 ∧ big x4 ∧ big x5) ∧ t1.size ≤ 3 ∧ t2.size ≤ 3 ∧ t3.size ≤ 3 ∧ t4.size ≤ 3) := Lib.hid ⟨⟨hx1 ▸ NL_big i, hx2 ▸ NL_big q1, hx3 ▸ NL_big q3, hx4 ▸ NL_big q4, hx5 ▸ NL_big q5⟩, ht1 ▸ TL_small k, ht2 ▸ TL_small q2, ht3 ▸ TL_small i, ht4 ▸ TL_small q6⟩
          have HW : Hid (∀ W, Below w2.heap.size w2 W → (W.cell? ⟨w.heap.size, i, none⟩ = some (.int .i64 x1) ∧ W.cell? ⟨w.heap.size, q1, none⟩ = some (.int .i64 x2) ∧ W.cell? ⟨w.heap.size, q3, none⟩ = some (.int .i64 x3) ∧ W.cell? ⟨w.heap.size, q4, none⟩ = some (.int .i64 x4) ∧ W.cell? ⟨w.heap.size, q5, none⟩ = some (.int .i64 x5)) ∧ W.cell? ⟨w.heap.size + 1, k, none⟩ = some (.string t1) ∧ W.cell? ⟨w.heap.size + 1, q2, none⟩ = some (.string t2) ∧ W.cell? ⟨w.heap.size + 1, i, none⟩ = some (.string t3) ∧ W.cell? ⟨w.heap.size + 1, q6, none⟩ = some (.string t4)) := Lib.hid fun W hW => by
            have h := HC.out W hW
            exact ⟨⟨hx1 ▸ h.1 i hlt, hx2 ▸ h.1 q1 hq1', hx3 ▸ h.1 q3 hq3', hx4 ▸ h.1 q4 hq4', hx5 ▸ h.1 q5 hq5'⟩, ht1 ▸ h.2 k hlk, ht2 ▸ h.2 q2 hq2', ht3 ▸ h.2 i (by omega), ht4 ▸ h.2 q6 hq6'⟩
          have HBW := Lib.hid hbel
          clear hx1 hx2 hx3 hx4 hx5 ht1 ht2 ht3 ht4 HC hbel
          go_wp2_with fail
          go_region_held3 (fun W => W.cell? ⟨w.heap.size, i, none⟩ = some (.int .i64 x1) ∧ W.cell? ⟨w.heap.size, q1, none⟩ = some (.int .i64 x2) ∧ W.cell? ⟨w.heap.size + 1, k, none⟩ = some (.string t1)) (first | exact ⟨(HW.out _ D0).1.1, (HW.out _ D0).1.2.1, (HW.out _ D0).2.1⟩ | exact ⟨(HW.out _ (D0.alloc D0.size _)).1.1, (HW.out _ (D0.alloc D0.size _)).1.2.1, (HW.out _ (D0.alloc D0.size _)).2.1⟩) (fail)
          clear D0
          obtain ⟨la, hla⟩ : ∃ la, [PT.mk 1 x1 ⟨#[]⟩, PT.mk 2 0 t1, PT.mk 1 x2 ⟨#[]⟩] = la := ⟨_, rfl⟩
          obtain ⟨lb, hlb⟩ : ∃ lb, [PT.mk 2 0 t2, PT.mk 1 x3 ⟨#[]⟩] = lb := ⟨_, rfl⟩
          have hpa : ∀ p ∈ la, Plain p := by
            intro p hp
            rw [← hla] at hp
            simp at hp
            rcases hp with rfl | rfl | rfl
            · exact .inl ⟨rfl, rfl, HX.out.1.1⟩
            · exact .inr ⟨rfl, rfl, by have := HX.out.2.1; show t1.size ≤ 100; omega⟩
            · exact .inl ⟨rfl, rfl, HX.out.1.2.1⟩
          have hpb : ∀ p ∈ lb, Plain p := by
            intro p hp
            rw [← hlb] at hp
            simp at hp
            rcases hp with rfl | rfl
            · exact .inr ⟨rfl, rfl, by have := HX.out.2.2.1; show t2.size ≤ 100; omega⟩
            · exact .inl ⟨rfl, rfl, HX.out.1.2.2.1⟩
          have hna : la.length = 3 := by rw [← hla]; rfl
          have hnb : lb.length = 2 := by rw [← hlb]; rfl
          have HPL := Lib.hid (And.intro hpa (And.intro hpb (And.intro hna hnb)))
          have E9 : Below w2.heap.size w2 (wr.alloc (.cells #[.int .u8 1, .int .i64 x1, .string ⟨#[]⟩, .int .u8 2, .int .i64 0, .string t1, .int .u8 1, .int .i64 x2, .string ⟨#[]⟩] 39)).drew := (HBW.out.alloc HBW.out.size _).drew
          have P9 : Parts (wr.alloc (.cells #[.int .u8 1, .int .i64 x1, .string ⟨#[]⟩, .int .u8 2, .int .i64 0, .string t1, .int .u8 1, .int .i64 x2, .string ⟨#[]⟩] 39)).drew (wr.heap.size + 1) (some ⟨wr.heap.size, 0, none⟩) 3 la := parts_lit wr _ la 3 _ (by rw [← hla]; rfl) (fun p hp => (hpa p hp).ok) hna
          have Z9 : wr.heap.size + 1 ≤ (wr.alloc (.cells #[.int .u8 1, .int .i64 x1, .string ⟨#[]⟩, .int .u8 2, .int .i64 0, .string t1, .int .u8 1, .int .i64 x2, .string ⟨#[]⟩] 39)).drew.heap.size := by show wr.heap.size + 1 ≤ (wr.alloc _).heap.size; simp
          obtain ⟨W9, hW9⟩ : ∃ W9, (wr.alloc (.cells #[.int .u8 1, .int .i64 x1, .string ⟨#[]⟩, .int .u8 2, .int .i64 0, .string t1, .int .u8 1, .int .i64 x2, .string ⟨#[]⟩] 39)).drew = W9 := ⟨_, rfl⟩
          rw [hW9] at E9 P9 Z9 ⊢
          have H9 := Lib.hid (And.intro E9 (P9.more Z9))
          have D0 : Below w2.heap.size w2 W9.drew := E9.drew
          clear hW9 P9 Z9 E9 hpa hpb hna hnb
          go_wp2_with fail
          go_region_held3 (fun W => W.cell? ⟨w.heap.size, q3, none⟩ = some (.int .i64 x3) ∧ W.cell? ⟨w.heap.size + 1, q2, none⟩ = some (.string t2)) (first | exact ⟨(HW.out _ D0).1.2.2.1, (HW.out _ D0).2.2.1⟩ | exact ⟨(HW.out _ (D0.alloc D0.size _)).1.2.2.1, (HW.out _ (D0.alloc D0.size _)).2.2.1⟩) (fail)
          clear D0
          have E10 : Below w2.heap.size w2 (W9.alloc (.cells #[.int .u8 2, .int .i64 0, .string t2, .int .u8 1, .int .i64 x3, .string ⟨#[]⟩] 39)).drew := (H9.out.1.alloc H9.out.1.size _).drew
          have F10 : Below W9.heap.size W9 (W9.alloc (.cells #[.int .u8 2, .int .i64 0, .string t2, .int .u8 1, .int .i64 x3, .string ⟨#[]⟩] 39)).drew := ((Below.refl _ _).alloc (Nat.le_refl _) _).drew
          have P10 : Parts (W9.alloc (.cells #[.int .u8 2, .int .i64 0, .string t2, .int .u8 1, .int .i64 x3, .string ⟨#[]⟩] 39)).drew (W9.heap.size + 1) (some ⟨W9.heap.size, 0, none⟩) 2 lb := parts_lit W9 _ lb 2 _ (by rw [← hlb]; rfl) (fun p hp => (HPL.out.2.1 p hp).ok) HPL.out.2.2.2
          have Z10 : W9.heap.size + 1 ≤ (W9.alloc (.cells #[.int .u8 2, .int .i64 0, .string t2, .int .u8 1, .int .i64 x3, .string ⟨#[]⟩] 39)).drew.heap.size := by show W9.heap.size + 1 ≤ (W9.alloc _).heap.size; simp
          obtain ⟨W10, hW10⟩ : ∃ W10, (W9.alloc (.cells #[.int .u8 2, .int .i64 0, .string t2, .int .u8 1, .int .i64 x3, .string ⟨#[]⟩] 39)).drew = W10 := ⟨_, rfl⟩
          rw [hW10] at E10 F10 P10 Z10 ⊢
          have H10 := Lib.hid (And.intro E10 (And.intro ((H9.out.2.below F10 (Nat.le_refl _)).more F10.size) (P10.more Z10)))
          clear hW10 P10 Z10 E10 F10 H9 hla hlb
          go_wp2_with fail
          refine (ref_any 3 3 W10.heap.size _ la W10 H10.out.2.1 (Nat.le_refl _) (by omega)).mono ?_
          rintro e w11 ⟨A11, c11, rfl, ho11, b11⟩
          have H11 := Lib.hid (And.intro b11 (Parts.of_own ho11 fun p hp => (HPL.out.1 p hp).ok))
          clear b11 ho11
          go_wp2_with fail
          refine (refPut_any la.length c11 w11.heap.size A11 la w11 H11.out.2 (Nat.le_refl _) (by rw [HPL.out.2.2.1]; omega)).mono ?_
          rintro e w12 ⟨U, rfl, hU, hsU, b12⟩
          have H12 := Lib.hid (below_next H11.out.1 b12)
          have HU := Lib.hid (plain_len HPL.out.1 (by rw [HPL.out.2.2.1]; omega) hU)
          clear b12 hU hsU H11
          have D0 : Below w2.heap.size w2 w12.drew := (H10.out.1.trans (H12.out.mono H10.out.1.size)).drew
          go_wp2_with fail
          go_region_held3 (fun W => W.cell? ⟨w.heap.size, i, none⟩ = some (.int .i64 x1) ∧ W.cell? ⟨w.heap.size, q4, none⟩ = some (.int .i64 x4) ∧ W.cell? ⟨w.heap.size + 1, k, none⟩ = some (.string t1)) (first | exact ⟨(HW.out _ D0).1.1, (HW.out _ D0).1.2.2.2.1, (HW.out _ D0).2.1⟩ | exact ⟨(HW.out _ (D0.alloc D0.size _)).1.1, (HW.out _ (D0.alloc D0.size _)).1.2.2.2.1, (HW.out _ (D0.alloc D0.size _)).2.1⟩) (fail)
          clear D0
          have E13 : Below w2.heap.size w2 (w12.alloc (.cells #[.string t1, .int .i64 x1, .int .i64 x4] 44)).drew := ((H10.out.1.trans (H12.out.mono H10.out.1.size)).alloc (by have := (H10.out.1.trans (H12.out.mono H10.out.1.size)).size; omega) _).drew
          have F13 : Below W10.heap.size W10 (w12.alloc (.cells #[.string t1, .int .i64 x1, .int .i64 x4] 44)).drew := (H12.out.alloc H12.out.size _).drew
          have C13 : Blk (w12.alloc (.cells #[.string t1, .int .i64 x1, .int .i64 x4] 44)).drew w12.heap.size 44 #[.string t1, .int .i64 x1, .int .i64 x4] := Blk.new w12 _ _
          obtain ⟨W13, hW13⟩ : ∃ W13, (w12.alloc (.cells #[.string t1, .int .i64 x1, .int .i64 x4] 44)).drew = W13 := ⟨_, rfl⟩
          rw [hW13] at E13 F13 C13 ⊢
          have H13 := Lib.hid (And.intro E13 (And.intro ((H10.out.2.1.below F13 (Nat.le_refl _)).more F13.size) ((H10.out.2.2.below F13 (Nat.le_refl _)).more F13.size)))
          have HP13 : Hid (∀ W, Below W13.heap.size W13 W → W.cell? ⟨w12.heap.size, 0, none⟩ = some (.string t1) ∧ W.cell? ⟨w12.heap.size, 1, none⟩ = some (.int .i64 x1) ∧ W.cell? ⟨w12.heap.size, 2, none⟩ = some (.int .i64 x4)) := Lib.hid fun W hW => by
            have hb := C13.below hW C13.lt
            exact ⟨hb.cell 0, hb.cell 1, hb.cell 2⟩
          have D0 : Below W13.heap.size W13 W13.drew := (Below.refl _ _).drew
          clear hW13 E13 F13 C13 H10 H12
          have n3 : (3 : Nat) ≤ 9223372036854775807 := by omega
          have n2 : (2 : Nat) ≤ 9223372036854775807 := by omega
          have m2 : (2 : Nat) ≤ 1000 := by omega
          go_wp2_with fail
          go_region_held3 (fun W => W.cell? ⟨w12.heap.size, 0, none⟩ = some (.string t1) ∧ W.cell? ⟨w12.heap.size, 1, none⟩ = some (.int .i64 x1) ∧ W.cell? ⟨w12.heap.size, 2, none⟩ = some (.int .i64 x4)) (first | exact HP13.out _ D0 | exact HP13.out _ D1 | exact HP13.out _ D2 | exact HP13.out _ D3 | exact HP13.out _ D4 | exact HP13.out _ D5 | exact HP13.out _ D6) (first
            | (go_at_call 5; have _ := D5; (refine (panes_any t1 x1 x4 U2 _ HX.out.1.1 HX.out.1.2.2.2.1).mono ?_); rintro e V6 ⟨rfl, c6⟩; have D6 := below_next D5 c6; clear D5 c6)
            | (go_at_call 11; have _ := D4; (refine (refPut_any lb.length cc _ Ac lb V4 hpc (Nat.le_refl _) (by rw [HPL.out.2.2.2]; omega)).mono ?_); rintro e V5 ⟨U2, rfl, _, _, c5⟩; have D5 := below_next D4 c5; clear D4 c5 hpc)
            | (go_at_call 12; have _ := D3; (refine (ref_any 2 2 W13.heap.size _ lb _ (H13.out.2.2.below D3 (Nat.le_refl _)) D3.size m2).mono ?_); rintro e V4 ⟨Ac, cc, rfl, hoc, c4⟩; have D4 := below_next D3 c4; have hpc := Parts.of_own hoc (fun p hp => (HPL.out.2.1 p hp).ok); clear D3 c4 hoc)
            | (go_at_call 5; have _ := D2; (refine (panes_any t1 x1 x4 U _ HX.out.1.1 HX.out.1.2.2.2.1).mono ?_); rintro e V3 ⟨rfl, c3⟩; have D3 := below_next D2 c3; clear D2 c3)
            | (go_at_call 3; have _ := D1; (refine (keyPuts_any 3 3 2 3 W13.heap.size _ _ la (la.take 2) _ ((H13.out.2.1.below D1 (Nat.le_refl _)).raw) (((H13.out.2.1.below D1 (Nat.le_refl _)).raw).head (by omega)) D1.size n3 n2).mono ?_); rintro e V2 ⟨rfl, c2⟩; have D2 := below_next D1 c2; clear D1 c2)
            | (go_at_call 3; (refine (keyPuts_any 3 3 2 2 W13.heap.size _ _ la lb _ ((H13.out.2.1.below D0 (Nat.le_refl _)).raw) ((H13.out.2.2.below D0 (Nat.le_refl _)).raw) D0.size n3 n2).mono ?_); rintro e V1 ⟨rfl, c1⟩; have D1 := below_next D0 c1; clear D0 c1))
          have HD6 := Lib.hid D6
          have OA := Lib.hid (laid_numbers_texts V6 2 9 x1 x5 x2 t1 t4 ⟨HX.out.1.1, HX.out.1.2.2.2.2, HX.out.1.2.1⟩ ⟨HX.out.2.1, HX.out.2.2.2.2⟩)
          have OB := Lib.hid (laid_texts_numbers V6 2 9 x1 x5 x2 t1 t4 ⟨HX.out.1.1, HX.out.1.2.2.2.2, HX.out.1.2.1⟩ ⟨HX.out.2.1, HX.out.2.2.2.2⟩)
          have HKA : Hid (∀ X A2 A3, Below V6.heap.size V6 X → Ints X (V6.heap.size + 2) A2 3 [x1, x5, x2] → Strs X (V6.heap.size + 2) A3 2 [t1, t4] → V6.heap.size + 2 ≤ X.heap.size → Calls Try.prog 6 #[.slice (some ⟨wr.heap.size, 0, none⟩) 3 3, .slice A2 3 3, .slice A3 2 2, .string t1, .string (t3 ++ t1)] X (TrueP X)) := Lib.hid fun X A2 A3 hX hi hs hz => keyOrder_any 3 3 3 3 2 2 (V6.heap.size + 2) _ A2 A3 la [x1, x5, x2] [t1, t4] t1 (t3 ++ t1) X (((H13.out.2.1.below (HD6.out.trans (hX.mono HD6.out.size)) (Nat.le_refl _)).more (by have := HD6.out.size; omega)).raw) hi hs hz (by omega) (by omega) (by omega) (by omega) (by omega)
          have HKB : Hid (∀ X, Below W13.heap.size W13 X → Calls Try.prog 6 #[.slice (some ⟨W9.heap.size, 0, none⟩) 2 2, .slice none 0 0, .slice none 0 0, .string t3, .string t1] X (TrueP X)) := Lib.hid fun X hX => keyOrder_any 2 2 0 0 0 0 W13.heap.size _ none none lb [] [] t3 t1 X ((H13.out.2.2.below hX (Nat.le_refl _)).raw) Ints.nil Strs.nil hX.size (by omega) (by omega) (by omega) (by omega) (by omega)
          have HWG : Hid (∀ W, Below W13.heap.size W13 W → W.cell? ⟨w.heap.size, i, none⟩ = some (.int .i64 x1) ∧ W.cell? ⟨w.heap.size, q5, none⟩ = some (.int .i64 x5) ∧ W.cell? ⟨w.heap.size, q1, none⟩ = some (.int .i64 x2) ∧ W.cell? ⟨w.heap.size + 1, k, none⟩ = some (.string t1) ∧ W.cell? ⟨w.heap.size + 1, q6, none⟩ = some (.string t4) ∧ W.cell? ⟨w.heap.size + 1, i, none⟩ = some (.string t3)) := Lib.hid fun W hW => by
            have h := HW.out W (H13.out.1.trans (hW.mono H13.out.1.size))
            exact ⟨h.1.1, h.1.2.2.2.2, h.1.2.1, h.2.1, h.2.2.2.2, h.2.2.2.1⟩
          have G0 : Below W13.heap.size W13 V6.drew := D6.drew
          have hsz : t3.size + t1.size ≤ 9223372036854775807 := by have := HX.out.2; omega
          have hsn : ¬ 9223372036854775807 < t3.size + t1.size := by omega
          have hsm : t3.size + t1.size ≤ maxLen := hsz
          clear D6
          go_wp2_with fail
          go_cut [159] (fun r wx => r = .bool false ∧ Below W13.heap.size W13 wx)
          case first =>
            go_region_held3 (fun W => W.cell? ⟨w.heap.size, i, none⟩ = some (.int .i64 x1) ∧ W.cell? ⟨w.heap.size, q5, none⟩ = some (.int .i64 x5) ∧ W.cell? ⟨w.heap.size, q1, none⟩ = some (.int .i64 x2) ∧ W.cell? ⟨w.heap.size + 1, k, none⟩ = some (.string t1) ∧ W.cell? ⟨w.heap.size + 1, q6, none⟩ = some (.string t4) ∧ W.cell? ⟨w.heap.size + 1, i, none⟩ = some (.string t3)) (first | exact HWG.out _ G0 | exact HWG.out _ (G0.alloc G0.size _) | exact HWG.out _ ((G0.alloc G0.size _).alloc (G0.alloc G0.size _).size _) | exact HWG.out _ G1 | exact HWG.out _ G2) (first
              | (go_at_call 6; have _ := G1; (with_reducible refine (HKB.out _ G1).mono ?_); rintro e V8 ⟨rfl, c8⟩; have G2 := below_next G1 c8; clear G1 c8)
              | (go_at_call 6; have _ := G0; (with_reducible refine (HKA.out _ _ _ OA.out.1 OA.out.2.1 OA.out.2.2 (by simp)).mono ?_); rintro e V7 ⟨rfl, c7⟩; have G1 := below_next (HD6.out.trans (OA.out.1.mono HD6.out.size)) c7; clear G0 c7)
              | (go_at_call 6; have _ := G0; (with_reducible refine (HKA.out _ _ _ OB.out.1 OB.out.2.1 OB.out.2.2 (by simp)).mono ?_); rintro e V7 ⟨rfl, c7⟩; have G1 := below_next (HD6.out.trans (OB.out.1.mono HD6.out.size)) c7; clear G0 c7))
            all_goals (go_wp2_with fail)
            all_goals (go_meet)
            all_goals (exact ⟨rfl, G2⟩)
          case rest =>
          obtain ⟨rfl, hb15⟩ := hcut
          have HB15 := Lib.hid hb15
          clear hb15
          clear HKA HKB HWG OA OB HD6 hsz hsn hsm HP13 HX HW HPL hq1 hq2 hq3 hq4 hq5 hq6
          go_wp2_with fail
          go_loopw [9] (fun y wx => ∃ j : Nat, j ≤ U.size + 1 ∧ y = .int .i64 (j : Int) ∧ Below W13.heap.size W13 wx) (fun y _ => U.size + 1 - (intOf y).toNat)
          case atStart => exact ⟨0, by omega, rfl, HB15.out⟩
          case round =>
            obtain ⟨j, hj, rfl, hbj⟩ := hrel
            have HJ := Lib.hid hbj
            have hUs := HU.out
            clear hbj
            by_cases hlj : j ≤ U.size
            · have s1 : (j : Int) ≤ U.size := by omega
              have s0 : (0 : Int) ≤ j := by omega
              clear HB15
              go_wp2_with fail
              refine (keyReads_any _ 3 3 _ _ [1, 2, 1] _ (bytes_lit3 _ 5 1 2 1 (by omega) (by omega) (by omega)) (by simp)).mono ?_
              rintro e y1 ⟨rfl, d1⟩
              have HJ1 := Lib.hid (below_next (HJ.out.alloc HJ.out.size _) d1)
              clear d1 HJ
              go_wp2_with fail
              refine (keyReads_any _ 2 2 _ _ [2, 1] _ (bytes_lit2 _ 5 2 1 (by omega) (by omega)) (by simp)).mono ?_
              rintro e y2 ⟨rfl, d2⟩
              have HJ2 := Lib.hid (below_next (HJ1.out.alloc HJ1.out.size _) d2)
              clear d2 HJ1
              go_wp2_with fail
              exact ⟨⟨j + 1, by omega, by go_num, HJ2.out⟩, by simp [intOf]; omega⟩
            · obtain rfl : j = U.size + 1 := by omega
              have s1 : ¬ (((U.size + 1 : Nat) : Int) ≤ U.size) := by omega
              have s2 : ¬ ((U.size : Int) + 1 ≤ U.size) := by omega
              have HE := Lib.hid (H13.out.1.trans (HJ.out.mono H13.out.1.size))
              clear HJ HB15
              go_wp2_with fail
              exact ⟨⟨k + 1, by omega, by go_num, HE.out⟩, by simp [intOf]; omega⟩
        · obtain rfl : k = 11 := by omega
          have HE := Lib.hid hbel
          clear hbel HB
          go_wp2_with fail
          exact ⟨⟨i + 1, by omega, by go_num, HE.out⟩, by simp [intOf]; omega⟩
    · obtain rfl : i = 10 := by omega
      go_wp2_with fail
      refine (keyReads_any ⟨#[97, 0, 98, 0, 0]⟩ 1 1 _ _ [2] _ (bytes_lit1 wr 5 2 (by omega)) (by simp)).mono ?_
      rintro e u1 ⟨rfl, b1⟩
      have B1 := Lib.hid (below_next (HB.out.alloc HB.out.size _) b1)
      clear b1 HB
      go_wp2_with fail
      refine (keyReads_any ⟨#[]⟩ 1 1 _ _ [0] _ (bytes_lit1 u1 5 0 (by omega)) (by simp)).mono ?_
      rintro e u2 ⟨rfl, b2⟩
      have B2 := Lib.hid (below_next (B1.out.alloc B1.out.size _) b2)
      clear b2 B1
      go_wp2_with fail
      refine (keyReads_any ⟨#[49, 50, 51, 52, 53, 54, 55, 56]⟩ 1 1 _ _ [3] _ (bytes_lit1 u2 5 3 (by omega)) (by simp)).mono ?_
      rintro e u3 ⟨rfl, b3⟩
      have B3 := Lib.hid (below_next (B2.out.alloc B2.out.size _) b3)
      clear b3 B2
      go_wp2_with fail
      refine (keyReads_any ⟨#[]⟩ 0 0 0 none [] u3 Bytes.nil (by omega)).mono ?_
      rintro e u4 ⟨rfl, b4⟩
      have B4 := Lib.hid (below_next B3.out b4)
      clear b4 B3
      go_wp2_with fail
      refine (works_any u4).mono ?_
      rintro e u5 ⟨rfl, b5⟩
      have B5 := Lib.hid (below_next B4.out b5)
      clear b5 B4
      go_wp2_with fail
      go_ret
      exact ⟨rfl, H2.out.2.1.trans (B5.out.mono H2.out.2.1.size)⟩
end Go.Proofs.Ytbafbhnnonfkpaa
