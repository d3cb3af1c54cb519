/- FrameKnown, walked. -/
import Derived.Test.YtnokbnobnhkmgaaLaw7C
import Derived.Test.YtnokbnobnhkmgaaLaw7D
namespace Go.Proofs.Ytnokbnobnhkmgaa
open Go.ChangeShapes Go.WideShapes Go.ChangeAt Go.RowKit

theorem ints_lit7 (w : World) (t : TypeId) (n : Nat) (l : List Int) (cs : Array Value) (hcs : cs = (i64s l).toArray) (hl : ∀ x ∈ l, -9223372036854775808 ≤ x ∧ x ≤ 9223372036854775807) (hn : l.length = n) : Ints (w.alloc (.cells cs t)) (w.heap.size + 1) (some ⟨w.heap.size, 0, none⟩) n l := by
  subst hcs
  refine ⟨hn, hl, fun _ => ⟨w.heap.size, 0, rfl, by omega, fun i hi => ?_⟩⟩
  rw [Nat.zero_add, (Blk.new w t _).cell i]
  simp [i64s, List.getElem?_map, List.getD_eq_getElem?_getD, List.getElem?_eq_getElem (show i < l.length by omega)]
theorem bools_lit7 (w : World) (t : TypeId) (n : Nat) (l : List Bool) (cs : Array Value) (hcs : cs = (l.map Value.bool).toArray) (hn : l.length = n) : Bools (w.alloc (.cells cs t)) (w.heap.size + 1) (some ⟨w.heap.size, 0, none⟩) n l := by
  subst hcs
  refine ⟨hn, fun _ => ⟨w.heap.size, 0, rfl, by omega, fun i hi => ?_⟩⟩
  rw [Nat.zero_add, (Blk.new w t _).cell i]
  simp [List.getElem?_map, List.getD_eq_getElem?_getD, List.getElem?_eq_getElem (show i < l.length by omega)]
def Lk7 : List (List Nat) := [[], [1], [97, 98, 99], [0, 0, 0, 0, 0]]
theorem lk7 : Fr.allE Lk7 = 0 ∧ (Fr.allB Lk7).length = 41 ∧ (∀ l ∈ Lk7, ∀ x ∈ l, x < 256) := by decide +kernel
theorem u8s_put7 (l : List Nat) (j x : Nat) : (u8s l).set j (.int .u8 (x : Int)) = u8s (l.set j x) := by simp [u8s, List.map_set]
theorem two_lits (v : World) (t t' : TypeId) (xs : List Int) (ys : List Bool) (n m : Nat) (cs ds : Array Value) (hcs : cs = (i64s xs).toArray) (hxs : ∀ x ∈ xs, -9223372036854775808 ≤ x ∧ x ≤ 9223372036854775807) (hn : xs.length = n) (hds : ds = (ys.map Value.bool).toArray) (hm : ys.length = m) :
    Ints ((v.alloc (.cells cs t)).alloc (.cells ds t')) (v.heap.size + 2) (some ⟨v.heap.size, 0, none⟩) n xs ∧ Bools ((v.alloc (.cells cs t)).alloc (.cells ds t')) (v.heap.size + 2) (some ⟨v.heap.size + 1, 0, none⟩) m ys ∧ Below v.heap.size v ((v.alloc (.cells cs t)).alloc (.cells ds t')) ∧ ((v.alloc (.cells cs t)).alloc (.cells ds t')).heap.size = v.heap.size + 2 := by
  have h1 := ints_lit7 v t n xs cs hcs hxs hn
  have h2 := bools_lit7 (v.alloc (.cells cs t)) t' m ys ds hds hm
  have hs : (v.alloc (.cells cs t)).heap.size = v.heap.size + 1 := by simp
  rw [hs] at h2
  have b1 : Below v.heap.size v (v.alloc (.cells cs t)) := (Below.refl _ _).alloc (Nat.le_refl _) _
  have b2 : Below (v.alloc (.cells cs t)).heap.size (v.alloc (.cells cs t)) ((v.alloc (.cells cs t)).alloc (.cells ds t')) := (Below.refl _ _).alloc (Nat.le_refl _) _
  exact ⟨(h1.below b2 (by omega)).more (by omega), h2, b1.trans (b2.mono b1.size), by simp⟩
theorem one_lit (v : World) (t : TypeId) (xs : List Int) (n : Nat) (cs : Array Value) (hcs : cs = (i64s xs).toArray) (hxs : ∀ x ∈ xs, -9223372036854775808 ≤ x ∧ x ≤ 9223372036854775807) (hn : xs.length = n) :
    Ints (v.alloc (.cells cs t)) (v.heap.size + 1) (some ⟨v.heap.size, 0, none⟩) n xs ∧ Below v.heap.size v (v.alloc (.cells cs t)) ∧ (v.alloc (.cells cs t)).heap.size = v.heap.size + 1 :=
  ⟨ints_lit7 v t n xs cs hcs hxs hn, (Below.refl _ _).alloc (Nat.le_refl _) _, by simp⟩
def W7 (w : World) : World := (((((w.alloc (.cells #[] 5)).alloc (.cells #[.int .u8 1] 5)).alloc (.cells #[.int .u8 97, .int .u8 98, .int .u8 99] 5 (3, 4))).alloc (.cells #[.int .u8 0, .int .u8 0, .int .u8 0, .int .u8 0, .int .u8 0] 5)).alloc (.cells #[.slice (some ⟨w.heap.size, 0, none⟩) 0 0, .slice (some ⟨w.heap.size + 1, 0, none⟩) 1 1, .slice (some ⟨w.heap.size + 1 + 1, 0, none⟩) 3 3, .slice (some ⟨w.heap.size + 1 + 1 + 1, 0, none⟩) 5 5] 24))
theorem below_alloc (w : World) (o : Obj) : Below w.heap.size w (w.alloc o) := (Below.refl _ _).alloc (Nat.le_refl _) _
theorem rows7 (w : World) : RowsOf (W7 w) (W7 w).heap.size (some ⟨w.heap.size + 1 + 1 + 1 + 1, 0, none⟩) 4 Lk7 ∧ Below w.heap.size w (W7 w) := by
  obtain ⟨w1, h1⟩ : ∃ w1, w.alloc (.cells #[] 5) = w1 := ⟨_, rfl⟩
  obtain ⟨w2, h2⟩ : ∃ w2, w1.alloc (.cells #[.int .u8 1] 5) = w2 := ⟨_, rfl⟩
  obtain ⟨w3, h3⟩ : ∃ w3, w2.alloc (.cells #[.int .u8 97, .int .u8 98, .int .u8 99] 5 (3, 4)) = w3 := ⟨_, rfl⟩
  obtain ⟨w4, h4⟩ : ∃ w4, w3.alloc (.cells #[.int .u8 0, .int .u8 0, .int .u8 0, .int .u8 0, .int .u8 0] 5) = w4 := ⟨_, rfl⟩
  have s1 : w1.heap.size = w.heap.size + 1 := by rw [← h1]; simp
  have s2 : w2.heap.size = w.heap.size + 1 + 1 := by rw [← h2]; simp [s1]
  have s3 : w3.heap.size = w.heap.size + 1 + 1 + 1 := by rw [← h3]; simp [s2]
  have s4 : w4.heap.size = w.heap.size + 1 + 1 + 1 + 1 := by rw [← h4]; simp [s3]
  have a1 := bytes_lit7 w1 5 1 [1] #[.int .u8 1] rfl (by decide) rfl
  have a2 := bytes_marked w2 5 3 [97, 98, 99] #[.int .u8 97, .int .u8 98, .int .u8 99] (3, 4) rfl (by decide) rfl
  have a3 := bytes_lit7 w3 5 5 [0, 0, 0, 0, 0] #[.int .u8 0, .int .u8 0, .int .u8 0, .int .u8 0, .int .u8 0] rfl (by decide) rfl
  have b1 := below_alloc w (.cells #[] 5)
  have b2 := below_alloc w1 (.cells #[.int .u8 1] 5)
  have b3 := below_alloc w2 (.cells #[.int .u8 97, .int .u8 98, .int .u8 99] 5 (3, 4))
  have b4 := below_alloc w3 (.cells #[.int .u8 0, .int .u8 0, .int .u8 0, .int .u8 0, .int .u8 0] 5)
  have hW : W7 w = w4.alloc (.cells #[.slice (some ⟨w.heap.size, 0, none⟩) 0 0, .slice (some ⟨w.heap.size + 1, 0, none⟩) 1 1, .slice (some ⟨w.heap.size + 1 + 1, 0, none⟩) 3 3, .slice (some ⟨w.heap.size + 1 + 1 + 1, 0, none⟩) 5 5] 24) := by
    rw [← h4, ← h3, ← h2, ← h1]; rfl
  rw [hW]
  have b5 := below_alloc w4 (.cells #[.slice (some ⟨w.heap.size, 0, none⟩) 0 0, .slice (some ⟨w.heap.size + 1, 0, none⟩) 1 1, .slice (some ⟨w.heap.size + 1 + 1, 0, none⟩) 3 3, .slice (some ⟨w.heap.size + 1 + 1 + 1, 0, none⟩) 5 5] 24)
  have k5 := Blk.new w4 24 #[.slice (some ⟨w.heap.size, 0, none⟩) 0 0, .slice (some ⟨w.heap.size + 1, 0, none⟩) 1 1, .slice (some ⟨w.heap.size + 1 + 1, 0, none⟩) 3 3, .slice (some ⟨w.heap.size + 1 + 1 + 1, 0, none⟩) 5 5]
  generalize hw5 : w4.alloc (.cells #[.slice (some ⟨w.heap.size, 0, none⟩) 0 0, .slice (some ⟨w.heap.size + 1, 0, none⟩) 1 1, .slice (some ⟨w.heap.size + 1 + 1, 0, none⟩) 3 3, .slice (some ⟨w.heap.size + 1 + 1 + 1, 0, none⟩) 5 5] 24) = w5 at b5 k5 ⊢
  have s5 : w5.heap.size = w.heap.size + 1 + 1 + 1 + 1 + 1 := by rw [← hw5]; simp [s4]
  rw [h1] at b1; rw [h2] at a1 b2; rw [h3] at a2 b3; rw [h4] at a3 b4
  rw [s1] at a1 b2; rw [s2] at a2 b3; rw [s3] at a3 b4; rw [s4] at b5 k5
  refine ⟨⟨rfl, fun _ => ⟨w.heap.size + 1 + 1 + 1 + 1, 0, rfl, by omega, fun i hi => ?_⟩⟩, b1.trans ((b2.trans ((b3.trans ((b4.trans (b5.mono (by omega))).mono (by omega))).mono (by omega))).mono (by omega))⟩
  match i with
  | 0 => exact ⟨_, 0, 0, k5.cell 0, by omega, Bytes.nil⟩
  | 1 => exact ⟨_, 1, 1, k5.cell 1, by omega, (a1.below (b3.trans ((b4.trans (b5.mono (by omega))).mono (by omega))) (by omega)).more (by omega)⟩
  | 2 => exact ⟨_, 3, 3, k5.cell 2, by omega, (a2.below (b4.trans (b5.mono (by omega))) (by omega)).more (by omega)⟩
  | 3 => exact ⟨_, 5, 5, k5.cell 3, by omega, (a3.below b5 (by omega)).more (by omega)⟩
  | k + 4 => omega
set_option maxRecDepth 100000 in
set_option maxHeartbeats 8000000 in
theorem frameKnown_any (w : World) : Calls Try.prog 8 #[] w (LawP w) := by
  obtain ⟨iu, hu, hu0, hu1, hu2⟩ := info_parts Try.info5
  have HU := Lib.hid (And.intro hu (And.intro hu0 (And.intro hu1 hu2)))
  clear hu hu0 hu1 hu2
  have kc := Lib.run_convert_bytes_const (P := Try.prog) ((w.alloc (.cells #[] 5)).alloc (.cells #[.int .u8 1] 5)) 24 5 #[.int .u8 97, .int .u8 98, .int .u8 99] 3 3 Try.underlying24 Try.underlying5
  have e2 : ((w.alloc (.cells #[] 5)).alloc (.cells #[.int .u8 1] 5)).heap.size = w.heap.size + 1 + 1 := by simp
  rw [e2] at kc
  clear e2
  go_enter Try.func8, Try.ntmps8
  go_upto_region 2 with (fail)
  clear kc
  have h7 := rows7 w
  obtain ⟨W0, hW0⟩ : ∃ W, W7 w = W := ⟨_, rfl⟩
  rw [hW0] at h7
  unfold W7 at hW0
  rw [hW0]
  have HR0 := Lib.hid h7
  obtain ⟨K, hK⟩ : ∃ K, Fr.allB Lk7 = K := ⟨_, rfl⟩
  have hk := lk7
  have hK256 := Fr.allB_lt hk.2.2
  have hJ := fJoin7_any 4 4 _ _ _ W0 h7.1 (Nat.le_refl _) (by omega)
  rw [hk.1, hK] at hJ
  rw [hK] at hk hK256
  have HJ : Hid (Calls Try.prog 11 #[.slice (some ⟨w.heap.size + 1 + 1 + 1 + 1, 0, none⟩) 4 4] W0 fun e w' => ∃ A' c', e = .returned (.tuple #[.slice A' 41 c', .int .i64 0]) ∧ w'.ownsRow W0.heap.size 5 1 (.slice A' 41 c') 41 (u8s K) ∧ Below W0.heap.size W0 w') := Lib.hid (by
    have := hJ
    unfold PutB at this
    rw [hk.2.1] at this
    exact this)
  have HK := Lib.hid (And.intro hk.2.1 hK256)
  obtain ⟨gl, hgl⟩ : ∃ gl, w.heap.size + 1 + 1 + 1 + 1 = gl := ⟨_, rfl⟩
  rw [hgl] at HR0 HJ ⊢
  clear h7 hW0 hK hk hK256 hJ hgl
  go_wp2_with fail
  refine HJ.out.mono ?_
  rintro e w1 ⟨A2, c2, rfl, o2, b2⟩
  have hc2 := own_cap o2
  obtain ⟨g2, rfl, -⟩ := own_some o2 (by omega)
  have O2 := Lib.hid o2
  have D1 := Lib.hid (HR0.out.2.trans (b2.mono HR0.out.2.size))
  have HRW : Hid (∀ W, Below w1.heap.size w1 W → RowsOf W W.heap.size (some ⟨gl, 0, none⟩) 4 Lk7) := Lib.hid fun W hW => (HR0.out.1.below (b2.trans (hW.mono b2.size)) (Nat.le_refl _)).more (Nat.le_trans b2.size hW.size)
  have HKW : Hid (∀ W, Below w1.heap.size w1 W → Bytes W W.heap.size (some ⟨g2, 0, none⟩) 41 K) := Lib.hid fun W hW => own_bytes7 O2.out HK.out.2 hW
  clear o2 b2
  go_wp2_with fail
  go_loopw [4, 5] (fun i _ wx => ∃ j : Nat, j ≤ 42 ∧ i = .int .i64 (j : Int) ∧ Below w1.heap.size w1 wx) (fun i _ _ => 42 - (intOf i).toNat)
  case atStart => exact ⟨0, by omega, rfl, Below.refl _ _⟩
  case round =>
    obtain ⟨j, hj, rfl, hx⟩ := hrel
    have HX := Lib.hid hx
    clear hx
    by_cases hj41 : j ≤ 41
    · have i1 : (j : Int) ≤ 41 := by omega
      go_wp2_with fail
      refine (own_any 41 c2 _ _ K wr (HKW.out wr HX.out) (by omega)).mono ?_
      rintro e w2 ⟨A3, c3, rfl, o3, b3⟩
      obtain ⟨g3, rfl, -⟩ := own_some o3 (by omega)
      have hc3 := own_cap o3
      have O3 := Lib.hid (And.intro o3 (And.intro b3 (below_next HX.out b3)))
      clear o3 b3
      go_upto_if 43 with (fail)
      go_cut [] (fun wx => ∃ K2 : List Nat, K2.length = 41 ∧ (∀ x ∈ K2, x < 256) ∧ wx.ownsRow w1.heap.size 5 1 (.slice (some ⟨g3, 0, none⟩) 41 c3) 41 (u8s K2) ∧ Below w1.heap.size w1 wx)
      case first =>
        by_cases hlt : j < 41
        · have i2 : (0 : Int) ≤ j := by omega
          have i3 : (j : Int) < 41 := by omega
          obtain ⟨y, hy⟩ : ∃ y, K.getD j 0 = y := ⟨_, rfl⟩
          have hy256 : y < 256 := by
            rw [← hy, List.getD_eq_getElem?_getD, List.getElem?_eq_getElem (by rw [HK.out.1]; exact hlt)]
            exact HK.out.2 _ (List.getElem_mem _)
          have hcell : w2.cell? ⟨g3, j, none⟩ = some (.int .u8 (y : Int)) := by
            rw [O3.out.1.cellAt j (by omega), ← hy]
            exact u8s_at (by rw [HK.out.1]; exact hlt)
          have hfz := O3.out.1.frozenAt j
          have hst := (own_lower O3.out.1 HX.out.size).stored j (.int .u8 ((y ^^^ 16 : Nat) : Int))
          have hlo := (O3.out.1.lt g3 rfl).1
          have hbs := O3.out.2.2.setCell (p := ⟨g3, j, none⟩) (Nat.le_trans HX.out.size hlo) (.int .u8 ((y ^^^ 16 : Nat) : Int))
          have hx16 : bits .xor .u8 (y : Int) 16 = ((y ^^^ 16 : Nat) : Int) := u8_xor_nat _ 16 hy256 (by omega)
          have HS := Lib.hid (And.intro hst.1 (And.intro hbs hy256))
          clear hst hlo hbs hy hy256
          go_wp2_with fail
          go_meet
          case rel => exact ⟨K.set j (y ^^^ 16), by simp [HK.out.1], fun x hx => (List.mem_or_eq_of_mem_set hx).elim (HK.out.2 x) (fun h => by rw [h]; exact Nat.xor_lt_two_pow (n := 8) HS.out.2.2 (by omega)), by rw [← u8s_put7]; exact HS.out.1, HS.out.2.1⟩
        · have i3 : ¬ (j : Int) < 41 := by omega
          go_wp2_with fail
          go_meet
          case rel => exact ⟨K, HK.out.1, HK.out.2, own_lower O3.out.1 HX.out.size, O3.out.2.2⟩
      case rest =>
      obtain ⟨K2, hK2, hK256, o4, b4⟩ := hcut
      have H2 := Lib.hid (And.intro hK2 (And.intro hK256 o4))
      have H4 := Lib.hid b4
      clear hK2 hK256 o4 b4
      have hcut := run_cut_h (P := Try.prog) 24 5 iu Try.underlying24 HU.out.1 (some ⟨g2, 0, none⟩) 41 c2 j (by omega)
      have hHd : Hid (∀ W, Below w1.heap.size w1 W → Bytes W W.heap.size (some ⟨g2, 0, none⟩) j (K.take j)) := Lib.hid fun W hW => (HKW.out W hW).head (by omega)
      have hHo : Hid (∀ W, Below wc.heap.size wc W → Bytes W W.heap.size (some ⟨g3, 0, none⟩) 41 K2) := Lib.hid fun W hW => own_bytes7 H2.out.2.2 H2.out.2.1 hW
      go_wp2_with fail
      refine (frameTakes_any j c2 _ _ (K.take j) _ wc (hHd.out wc H4.out) (Nat.le_refl _) (by omega) (by omega) (by omega)).mono ?_
      rintro e v1 ⟨rfl, b5⟩
      have G1 := Lib.hid b5
      clear b5
      go_wp2_with fail
      refine (frameTakes_any 41 c3 _ _ K2 _ v1 (hHo.out v1 G1.out) (Nat.le_refl _) (by omega) (by omega) (by omega)).mono ?_
      rintro e v2 ⟨rfl, b5⟩
      have G2 := Lib.hid (below_next G1.out b5)
      clear b5
      go_wp2_with fail
      have h3 := two_lits v2 3 4 [(j : Int), 3, (j : Int) / 2] [true, ((j : Int) % 2 == 0), true] 3 3 _ _ rfl (by intro x hx; simp at hx; omega) rfl rfl rfl
      have G3 := Lib.hid (below_next G2.out h3.2.2.1)
      refine (frameStreams_any 41 c3 _ 3 3 3 3 _ _ _ K2 _ _ _ (hHo.out _ G3.out) (h3.2.2.2 ▸ h3.1) (h3.2.2.2 ▸ h3.2.1) (Nat.le_refl _) (by omega) (by omega) (by omega) (by omega)).mono ?_
      rintro e v3 ⟨rfl, b5⟩
      have G4 := Lib.hid (below_next G3.out b5)
      have I4 := Lib.hid (H4.out.trans (G4.out.mono H4.out.size))
      clear b5 h3
      go_wp2_with fail
      have h3 := one_lit v3 3 [1, 1, 1, 1, (j : Int)] 5 _ rfl (by intro x hx; simp at hx; omega) rfl
      have I5 := Lib.hid (below_next I4.out h3.2.1)
      refine (frameStreams_any j c2 _ 5 5 0 0 _ _ none (K.take j) _ [] _ (hHd.out _ I5.out) (h3.2.2 ▸ h3.1) Bools.nil (Nat.le_refl _) (by omega) (by omega) (by omega) (by omega)).mono ?_
      rintro e v4 ⟨rfl, b5⟩
      have I6 := Lib.hid (below_next I5.out b5)
      clear b5 h3 hcut
      go_wp2_with fail
      refine (frameSpoilt_any 4 4 _ _ Lk7 _ _ v4 (HRW.out v4 I6.out) (Nat.le_refl _) (by omega)).mono ?_
      rintro e v5 ⟨rfl, b5⟩
      have I7 := Lib.hid (below_next I6.out b5)
      clear b5
      go_wp2_with fail
      exact ⟨⟨j + 1, by omega, by go_num, I7.out⟩, by simp [intOf]; omega⟩
    · have i1 : ¬ (j : Int) ≤ 41 := by omega
      have h6 := one_lit wr 3 [8191, 8192, 8193, 65536, 16777216, 4294967295] 6 _ rfl (by intro x hx; simp at hx; omega) rfl
      go_upto_region 14 with (fail)
      obtain ⟨W6, hW6⟩ : ∃ W, wr.alloc (.cells #[.int .i64 8191, .int .i64 8192, .int .i64 8193, .int .i64 65536, .int .i64 16777216, .int .i64 4294967295] 3) = W := ⟨_, rfl⟩
      have h6' : Ints W6 (wr.heap.size + 1) (some ⟨wr.heap.size, 0, none⟩) 6 [8191, 8192, 8193, 65536, 16777216, 4294967295] ∧ Below wr.heap.size wr W6 ∧ W6.heap.size = wr.heap.size + 1 := hW6 ▸ h6
      obtain ⟨g6, hg6⟩ : ∃ g6, wr.heap.size = g6 := ⟨_, rfl⟩
      have HI6 : Hid (Ints W6 W6.heap.size (some ⟨g6, 0, none⟩) 6 [8191, 8192, 8193, 65536, 16777216, 4294967295] ∧ Below w1.heap.size w1 W6) := Lib.hid ⟨by rw [h6'.2.2, ← hg6]; exact h6'.1, below_next HX.out h6'.2.1⟩
      rw [hg6, hW6]
      clear h6 h6' hW6 hg6
      go_loopw [7, 8, 98] (fun _ _ i wx => ∃ j : Nat, j ≤ 6 ∧ i = .int .i64 (j : Int) ∧ Below W6.heap.size W6 wx) (fun _ _ i _ => 6 - (intOf i).toNat)
      case atStart => exact ⟨0, by omega, rfl, Below.refl _ _⟩
      case round =>
        obtain ⟨j6, hj6, rfl, hx6⟩ := hrel
        have HX6 := Lib.hid hx6
        clear hx6
        by_cases hlt : j6 < 6
        · have i2 : (0 : Int) ≤ j6 := by omega
          have i3 : (j6 : Int) < 6 := by omega
          obtain ⟨b6, o6, he6, hb6, hc6⟩ := HI6.out.1.2.2 (by omega)
          injection he6 with he6
          injection he6 with e1 e2
          subst e1 e2
          have hcell := (HX6.out.cell (p := ⟨g6, _, none⟩) hb6).trans (hc6 j6 hlt)
          rw [Nat.zero_add] at hcell
          obtain ⟨x, hx⟩ : ∃ x, ([8191, 8192, 8193, 65536, 16777216, 4294967295] : List Int).getD j6 0 = x := ⟨_, rfl⟩
          rw [hx] at hcell
          have HXX := Lib.hid hx
          clear hx hc6 hb6
          go_upto_region 16 with (fail)
          clear hcell
          go_cut [8] (fun v wx => ∃ l : List Nat, l.length = 6 ∧ (∀ y ∈ l, y < 256) ∧ v = .slice (some ⟨wr.heap.size, 0, none⟩) 6 6 ∧ wx.ownsRow wr.heap.size 5 1 (.slice (some ⟨wr.heap.size, 0, none⟩) 6 6) 6 (u8s l) ∧ Below wr.heap.size wr wx)
          case first =>
            have hsel : j6 = 0 ∨ j6 = 1 ∨ j6 = 2 ∨ j6 = 3 ∨ j6 = 4 ∨ j6 = 5 := by omega
            rcases hsel with rfl | rfl | rfl | rfl | rfl | rfl
            · obtain rfl : x = 8191 := HXX.out.symm
              go_wp2_with fail
              go_meet
              case rel => exact ⟨[0, 0, 31, 255, 1, 2], rfl, by decide, rfl, World.ownsRow_lit wr _ 6 (Nat.le_refl _) (by unfold maxLen; omega) rfl, below_alloc wr _⟩
            · obtain rfl : x = 8192 := HXX.out.symm
              go_wp2_with fail
              go_meet
              case rel => exact ⟨[0, 0, 32, 0, 1, 2], rfl, by decide, rfl, World.ownsRow_lit wr _ 6 (Nat.le_refl _) (by unfold maxLen; omega) rfl, below_alloc wr _⟩
            · obtain rfl : x = 8193 := HXX.out.symm
              go_wp2_with fail
              go_meet
              case rel => exact ⟨[0, 0, 32, 1, 1, 2], rfl, by decide, rfl, World.ownsRow_lit wr _ 6 (Nat.le_refl _) (by unfold maxLen; omega) rfl, below_alloc wr _⟩
            · obtain rfl : x = 65536 := HXX.out.symm
              go_wp2_with fail
              go_meet
              case rel => exact ⟨[0, 1, 0, 0, 1, 2], rfl, by decide, rfl, World.ownsRow_lit wr _ 6 (Nat.le_refl _) (by unfold maxLen; omega) rfl, below_alloc wr _⟩
            · obtain rfl : x = 16777216 := HXX.out.symm
              go_wp2_with fail
              go_meet
              case rel => exact ⟨[1, 0, 0, 0, 1, 2], rfl, by decide, rfl, World.ownsRow_lit wr _ 6 (Nat.le_refl _) (by unfold maxLen; omega) rfl, below_alloc wr _⟩
            · obtain rfl : x = 4294967295 := HXX.out.symm
              go_wp2_with fail
              go_meet
              case rel => exact ⟨[255, 255, 255, 255, 1, 2], rfl, by decide, rfl, World.ownsRow_lit wr _ 6 (Nat.le_refl _) (by unfold maxLen; omega) rfl, below_alloc wr _⟩
          case rest =>
          obtain ⟨l, hl6, hl256, rfl, o8, b8⟩ := hcut
          have O8 := Lib.hid (And.intro hl6 (And.intro hl256 o8))
          have K8 := Lib.hid (below_next HX6.out b8)
          obtain ⟨g8, hg8⟩ : ∃ g8, wr.heap.size = g8 := ⟨_, rfl⟩
          rw [hg8] at O8 ⊢
          clear hl6 hl256 o8 b8 hg8
          go_wp2_with fail
          refine (frameTakes_any 6 6 _ _ l _ wc (Bytes.of_own O8.out.2.2 O8.out.2.1) (Nat.le_refl _) (by omega) (by omega) (by omega)).mono ?_
          rintro e v1 ⟨rfl, b9⟩
          have K9 := Lib.hid (And.intro b9 (below_next K8.out b9))
          clear b9
          have O9 : Hid ((v1.alloc (.cells #[.int .u8 0] 5)).ownsRow v1.heap.size 5 1 (.slice (some ⟨v1.heap.size, 0, none⟩) 1 1) 1 (u8s [0])) := Lib.hid (World.ownsRow_lit v1 _ 1 (Nat.le_refl _) (by unfold maxLen; omega) rfl)
          have A9 : Hid (∀ j u, (u8s l)[j]? = some u → (v1.alloc (.cells #[.int .u8 0] 5)).cell? ((⟨g8, 0, none⟩ : Addr).add j) = some u) := Lib.hid ((own_below (own_below O8.out.2.2 K9.out.1) (below_alloc v1 _)).cells rfl)
          go_wp2_with (at_builtin; refine BigFrame.wpList_want rfl fun K hK => (wp_append_lies _ _ _ 24 rfl v1.heap.size 5 iu (.int .u8 0) 1 1 Try.underlying24 HU.out.1 HU.out.2.1 HU.out.2.2.1 HU.out.2.2.2 rfl (by decide) _ 1 (u8s [0]) rfl O9.out ⟨g8, 0, none⟩ 6 6 (u8s l) rfl (by rw [u8s_len, O8.out.1]) A9.out (u8s_one l) (by omega) (by unfold maxLen; omega) (by omega) (by simp) _ rfl ?_); intro g' cap w6 hown hgrow hlies _; refine hK _ _ ?_)
          have b9 : Below v1.heap.size v1 w6 := below_new hgrow
          have O10 := Lib.hid (show w6.ownsRow v1.heap.size 5 1 (.slice (some ⟨g', 0, none⟩) 7 cap) 7 (u8s ([0] ++ l)) from u8s_append [0] l ▸ hown)
          have hcap := own_cap hown
          have h256' : ∀ y ∈ [0] ++ l, y < 256 := fun y hy => (List.mem_append.1 hy).elim (fun h => by simp at h; omega) (O8.out.2.1 y)
          have K10 := Lib.hid (And.intro (below_next K9.out.1 b9) (And.intro (below_next K9.out.2 b9) h256'))
          clear hown hgrow hlies b9 h256'
          refine (frameTakes_any 7 cap _ _ ([0] ++ l) _ w6 (Bytes.of_own O10.out K10.out.2.2) (Nat.le_refl _) (by omega) (by omega) (by omega)).mono ?_
          rintro e v2 ⟨rfl, b9⟩
          have K11 := Lib.hid (And.intro (below_next K10.out.1 b9) (below_next K10.out.2.1 b9))
          clear b9
          go_wp2_with fail
          have h3 := two_lits v2 3 4 [2, 2] [true, true] 2 2 _ _ rfl (by intro x hx; simp at hx; omega) rfl rfl rfl
          refine (frameStreams_any 6 6 _ 2 2 2 2 _ _ _ l _ _ _ (own_bytes7 O8.out.2.2 O8.out.2.1 (below_next K11.out.1 h3.2.2.1)) (h3.2.2.2 ▸ h3.1) (h3.2.2.2 ▸ h3.2.1) (Nat.le_refl _) (by omega) (by omega) (by omega) (by omega)).mono ?_
          rintro e v3 ⟨rfl, b9⟩
          have K12 := Lib.hid (below_next (below_next K11.out.2 h3.2.2.1) b9)
          clear b9 h3
          go_wp2_with fail
          exact ⟨⟨j6 + 1, by omega, by go_num, K12.out⟩, by simp [intOf]; omega⟩
        · have i3 : ¬ (j6 : Int) < 6 := by omega
          obtain ⟨w3, hmk, hb3, hy3⟩ := make7_ex wr 8192 8192 rfl (by omega)
          have D3 := Lib.hid (And.intro (below_next HX6.out hb3) hy3)
          clear hb3 hy3
          obtain ⟨Z, hZ⟩ : ∃ Z, List.replicate 8192 0 = Z := ⟨_, rfl⟩
          have hZl : Z.length = 8192 := by rw [← hZ, List.length_replicate]
          have hZe : Fr.err Z = 0 := Fr.err_zero.2 (by omega)
          have hZ256 : ∀ y ∈ Z, y < 256 := by rw [← hZ]; intro y hy; have := (List.mem_replicate.1 hy).2; omega
          obtain ⟨F, hF⟩ : ∃ F, Fr.enc Z = F := ⟨_, rfl⟩
          have hFl : F.length = 8200 := by rw [← hF, Fr.enc_len, hZl]
          have hF256 : ∀ y ∈ F, y < 256 := by rw [← hF]; exact Fr.enc_lt hZ256 hZe
          have hFb : Fr.bytes Z = F := by rw [Fr.bytes_yes hZe, hF]
          have hFt : Fr.tk F 0 = (Z, 8200, 0) := by
            have h1 := Fr.tkA_whole (q := []) (Fr.enc_whole hZe)
            rw [List.append_nil, Fr.is_enc hZe, hF, hFl] at h1
            have h2 := Fr.tk_nat F 0
            rw [h1] at h2
            exact h2
          rw [hZ] at D3
          have HZ := Lib.hid (And.intro hZl (And.intro hZe (And.intro hFb (And.intro hFl (And.intro hF256 hFt)))))
          clear hZ hZl hZe hZ256 hF hFl hF256 hFb hFt
          go_wp2_with fail
          refine (put7_let HZ.out.2.2.1 HZ.out.2.1 HZ.out.2.2.2.1 D3.out.2 (Nat.le_refl _) (by omega)).mono ?_
          rintro e v1 ⟨A1, c1, rfl, o1, b1⟩
          have hcz := own_cap o1
          have D4 := Lib.hid (And.intro (below_next D3.out.1 b1) o1)
          clear o1 b1
          clear hmk
          go_wp2_with fail
          refine (take7_let (at_ := 0) HZ.out.2.2.2.2.2 HZ.out.1 (Bytes.of_own D4.out.2 HZ.out.2.2.2.2.1) (Nat.le_refl _) (by omega) hcz (by omega)).mono ?_
          rintro e v2 ⟨A3, c3, rfl, o2, b2⟩
          have D5 := Lib.hid (below_next D4.out.1 b2)
          clear o2 b2
          obtain ⟨v3, hmk, hb3, hy3⟩ := make7_ex v2 8193 8193 rfl (by omega)
          have D6 := Lib.hid (And.intro (below_next D5.out hb3) hy3)
          clear hb3 hy3
          go_wp2_with fail
          clear hmk
          refine (framePuts_any 1 1 _ _ _ _ (RowsOf.made D6.out.2 (Nat.le_refl _) (by omega)) (by simp) (by omega)).mono ?_
          rintro e x1 ⟨rfl, b⟩
          have E1 := Lib.hid (below_next (below_next D6.out.1 (below_alloc v3 _)) b)
          clear b
          go_wp2_with fail
          refine (framePuts_any 0 0 0 none [] x1 ⟨rfl, fun h => absurd h (by omega)⟩ (by omega) (by omega)).mono ?_
          rintro e x2 ⟨rfl, b⟩
          have E2 := Lib.hid (below_next E1.out b)
          clear b
          go_wp2_with fail
          refine (frameNone_any 1 1 _ _).mono ?_
          rintro e x3 ⟨rfl, b⟩
          have E3 := Lib.hid (below_next (below_next E2.out (below_alloc x2 _)) b)
          clear b
          go_wp2_with fail
          refine (frameStreams_any 0 0 0 0 0 0 0 none none none [] [] [] x3 Bytes.nil Ints.nil Bools.nil (by omega) (by omega) (by omega) (by omega) (by omega)).mono ?_
          rintro e x4 ⟨rfl, b⟩
          have E4 := Lib.hid (below_next E3.out b)
          clear b
          go_wp2_with fail
          refine (works7_any _).mono ?_
          rintro e x5 ⟨rfl, b⟩
          have E5 := Lib.hid (below_next E4.out b)
          clear b
          go_wp2_with fail
          go_ret
          exact ⟨rfl, D1.out.trans ((HI6.out.2.trans (E5.out.mono HI6.out.2.size)).mono D1.out.size)⟩
end Go.Proofs.Ytnokbnobnhkmgaa
