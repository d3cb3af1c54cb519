/- FramePuts and FrameNone, walked. -/
import Derived.Test.YtnokbnobnhkmgaaFrWk
import Derived.Test.YtnokbnobnhkmgaaRefFrB
namespace Go.Proofs.Ytnokbnobnhkmgaa
open Go.ChangeShapes Go.WideShapes Go.ChangeAt Go.RowKit

theorem spoil_below {B b n c : Nat} {w w1 w2 : World} {A : Option Addr} {e : TypeId} {xs : List Value} (h : Below B w w1) (ho : w1.ownsRow b e 1 (.slice A n c) n xs) (hB : B ≤ b) (hs : B ≤ w1.heap.size) (hg : w1.grownBy w2 (Value.slice A n c).ownBlock) : Below B w w2 :=
  h.grown hg hs (fun k hk => by have := (ho.lt k hk).1; omega)
theorem Fr.enc_lt {l : List Nat} (h : ∀ x ∈ l, x < 256) (hl : Fr.err l = 0) : ∀ x ∈ Fr.enc l, x < 256 := by
  have hs := Crc.sum_lt [l]
  have hlen := Fr.err_zero.1 hl
  intro x hx
  unfold Fr.enc be4 at hx
  simp only [List.mem_append, List.mem_cons, List.not_mem_nil, or_false] at hx
  rcases hx with (hx | hx) | hx
  · omega
  · exact h x hx
  · omega
theorem Fr.allB_lt {ls : List (List Nat)} (h : ∀ l ∈ ls, ∀ x ∈ l, x < 256) : ∀ x ∈ Fr.allB ls, x < 256 := by
  unfold Fr.allB
  split
  · rename_i hE
    intro x hx
    unfold Fr.flat at hx
    obtain ⟨l, hl, hx⟩ := List.mem_flatMap.1 hx
    exact Fr.enc_lt (h l hl) ((Fr.allE_zero ls).1 hE l hl) x hx
  · simp
theorem Fr.allB_len (ls : List (List Nat)) : (Fr.allB ls).length ≤ ls.length * 8200 := by
  unfold Fr.allB
  split
  · rename_i hE
    exact Fr.flat_len ((Fr.allE_zero ls).1 hE)
  · simp
theorem Fr.bytes_lt {l : List Nat} (h : ∀ x ∈ l, x < 256) : (∀ x ∈ Fr.bytes l, x < 256) ∧ (Fr.bytes l).length ≤ 8200 := by
  by_cases hE : Fr.err l = 0
  · rw [Fr.bytes_yes hE, Fr.enc_len]
    exact ⟨Fr.enc_lt h hE, by have := Fr.err_zero.1 hE; omega⟩
  · rw [Fr.bytes_no hE]
    simp
set_option maxRecDepth 100000 in
set_option maxHeartbeats 4000000 in
theorem frameNone_any (n c : Nat) (A : Option Addr) (w : World) : Calls Try.prog 7 #[.slice A n c] w (LawP w) := by
  go_enter Try.func7, Try.ntmps7
  go_wp2_with fail
  refine (fFeed_nil _ _ _ _).mono ?_
  rintro e w1 ⟨rfl, b1⟩
  have D1 := Lib.hid (((Below.refl w.heap.size w).alloc (Nat.le_refl _) _).trans (b1.mono (by simp)))
  clear b1
  go_wp2_with fail
  refine (fNext_nil _).mono ?_
  rintro e w2 ⟨rfl, b2⟩
  have S2 := ((Held.start w).step (D1.out) |>.step b2).new #[.slice none 0 0, .int .i64 1] 44
  clear b2
  go_upto_region 4 with (fail)
  obtain ⟨W2, hW⟩ : ∃ W, w2.alloc (.cells #[.slice none 0 0, .int .i64 1] 44) = W := ⟨_, rfl⟩
  rw [hW] at S2 ⊢
  have kk := S2.top
  have c0 := kk.cell 0
  have c1 := kk.cell 1
  have S2' := Lib.hid S2
  clear hW S2 kk
  go_wp2_with fail
  clear c0 c1
  refine (fLeft_nil _).mono ?_
  rintro e w3 ⟨rfl, b3⟩
  have D3 := Lib.hid (below_next S2'.out.1 b3)
  clear b3
  go_wp2_with fail
  refine (fDead_nil _).mono ?_
  rintro e w4 ⟨rfl, b4⟩
  have D4 := Lib.hid (below_next D3.out b4)
  clear b4
  go_wp2_with fail
  refine (works7_any _).mono ?_
  rintro e w5 ⟨rfl, b5⟩
  have D5 := Lib.hid (below_next D4.out b5)
  clear b5
  go_wp2_with fail
  go_ret
  exact ⟨rfl, D5.out⟩
set_option maxRecDepth 100000 in
set_option maxHeartbeats 4000000 in
theorem framePuts_any (n c B : Nat) (A : Option Addr) (ls : List (List Nat)) (w : World) (h : RowsOf w B A n ls) (hB : B ≤ w.heap.size) (hn : n ≤ 9223372036854775807) :
    Calls Try.prog 3 #[.slice A n c] w (LawP w) := by
  have HP := Lib.hid (And.intro h hB)
  clear h hB
  obtain ⟨fb, hfb⟩ : ∃ b, fewB ls = b := ⟨_, rfl⟩
  have HFW := fun W (hW : W = w) => (few_any n c B A ls W (hW ▸ HP.out.1) hn)
  rw [hfb] at HFW
  have HFW' := Lib.hid HFW
  have HF := Lib.hid hfb
  clear hfb HFW
  go_enter Try.func3, Try.ntmps3
  go_upto_region 1 with (fail)
  go_cut [27] (fun v wx => ∃ go : Bool, v = .bool (!go) ∧ w = wx ∧ (go = true → n ≤ 8))
  case first =>
    cases fb
    · by_cases h1 : n = 1
      · subst h1
        obtain ⟨b, off, rfl, hb, hc⟩ := HP.out.1.2 (by omega)
        obtain ⟨a, m, c1, e1, e2, e3⟩ := hc 0 (by omega)
        rw [Nat.add_zero] at e1
        clear hc e3
        by_cases h2 : m ≤ 8192
        · have i2 : (m : Int) ≤ 8192 := by omega
          go_wp2_with fail
          refine (HFW'.out _ rfl).mono ?_
          rintro e w' ⟨rfl, rfl⟩
          go_wp2_with fail
          go_meet
          case rel => exact ⟨false, rfl, rfl, fun h => by cases h⟩
        · have i2 : ¬ (m : Int) ≤ 8192 := by omega
          go_wp2_with fail
          refine (HFW'.out _ rfl).mono ?_
          rintro e w' ⟨rfl, rfl⟩
          go_wp2_with fail
          go_meet
          case rel => exact ⟨true, congrArg Value.bool (decide_eq_false (by omega)), rfl, fun _ => by omega⟩
      · have i1 : ((n : Int) == 1) = false := by rw [beq_eq_false_iff_ne]; omega
        have i2 : ((n : Int) != 1) = true := by rw [bne_iff_ne]; omega
        have i3 : ¬ (n : Int) = 1 := by omega
        go_wp2_with fail
        refine (HFW'.out _ rfl).mono ?_
        rintro e w' ⟨rfl, rfl⟩
        go_wp2_with fail
        go_meet
        case rel => exact ⟨false, rfl, rfl, fun h => by cases h⟩
    · go_wp2_with fail
      refine (HFW'.out _ rfl).mono ?_
      rintro e w' ⟨rfl, rfl⟩
      go_wp2_with fail
      go_meet
      case rel => exact ⟨true, rfl, rfl, fun _ => by have := (few_yes HF.out).1; rw [HP.out.1.1] at this; omega⟩
  case rest =>
  obtain ⟨go, rfl, rfl, hgo⟩ := hcut
  cases go
  · go_wp2_with fail
    refine (works7_any _).mono ?_
    rintro e w1 ⟨rfl, b1⟩
    have D := Lib.hid b1
    clear b1
    go_wp2_with fail
    go_ret
    exact ⟨rfl, D.out⟩
  · have hn1 : n ≤ 8 := hgo rfl
    rw [show (!true) = false from rfl]
    have hall := HP.out.1.all
    have H256 := Lib.hid hall
    have hlen : (Fr.allB ls).length ≤ 8 * 8200 := by have := Fr.allB_len ls; rw [HP.out.1.1] at this; omega
    have hlen2 := Fr.allB_lt hall
    obtain ⟨L, hL⟩ : ∃ L, Fr.allB ls = L := ⟨_, rfl⟩
    obtain ⟨E, hE⟩ : ∃ E, Fr.allE ls = E := ⟨_, rfl⟩
    obtain ⟨m, hm⟩ : ∃ m, L.length = m := ⟨_, rfl⟩
    rw [hL] at hlen hlen2
    rw [hm] at hlen
    have HLE := Lib.hid (And.intro hL (And.intro hE (And.intro hm hlen2)))
    clear hall hgo hL hE hm hlen2
    go_wp2_with fail
    go_loopw [3] (fun t wx => ∃ k : Nat, k ≤ 2 ∧ t = .int .i64 (k : Int) ∧ Below w.heap.size w wx) (fun t _ => 2 - (intOf t).toNat)
    case atStart => exact ⟨0, by omega, rfl, Below.refl _ _⟩
    case round =>
      obtain ⟨k, hk, rfl, hx⟩ := hrel
      have HX := Lib.hid hx
      clear hx
      by_cases hk2 : k < 2
      · have i1 : (k : Int) < 2 := by omega
        go_wp2_with fail
        refine (fJoin7_any n c B A ls wr (HP.out.1.below HX.out HP.out.2) (Nat.le_trans HP.out.2 HX.out.size) (by omega)).mono ?_
        rintro e w3 ⟨A6, c6, rfl, ho6, b6⟩
        rw [HLE.out.1, HLE.out.2.2.1] at ho6
        rw [HLE.out.1, HLE.out.2.1, HLE.out.2.2.1]
        have H3 := Lib.hid (below_next HX.out b6)
        have HO6 := Lib.hid (own_lower ho6 HX.out.size)
        clear ho6 b6
        go_wp2_with fail
        refine (refJoin7_any n c B A ls w3 (HP.out.1.below H3.out HP.out.2) (Nat.le_trans HP.out.2 H3.out.size) (by omega)).mono ?_
        rintro e w4 ⟨A7, c7, rfl, ho7, b7⟩
        rw [HLE.out.1, HLE.out.2.2.1] at ho7
        rw [HLE.out.1, HLE.out.2.1, HLE.out.2.2.1]
        have H4 := Lib.hid (below_next H3.out b7)
        have O6 := Lib.hid (own_below HO6.out b7)
        have O7 := Lib.hid ho7
        clear ho7 b7
        go_wp2_with fail
        refine (same_fit m c6 c7 A6 A7 L w4 (Bytes.of_own O6.out HLE.out.2.2.2) (Bytes.of_own O7.out HLE.out.2.2.2) (by omega)).mono ?_
        rintro e w5 ⟨rfl, b8⟩
        have H5 := Lib.hid (below_next H4.out b8)
        have O8 := Lib.hid (own_below O6.out b8)
        clear b8
        go_wp2_with fail
        refine (spoil_any w.heap.size m c6 A6 (u8s L) _ O8.out (by omega)).mono ?_
        rintro e w6 ⟨rfl, hg6⟩
        have H6 := Lib.hid (spoil_below H5.out O8.out (Nat.le_refl _) H5.out.size hg6)
        clear hg6
        go_wp2_with fail
        exact ⟨⟨k + 1, by omega, by go_num, H6.out⟩, by simp [intOf]; omega⟩
      · have i1 : ¬ (k : Int) < 2 := by omega
        go_wp2_with fail
        go_loopw [8] (fun t wx => ∃ j : Nat, j ≤ n ∧ t = .int .i64 (j : Int) ∧ Below w.heap.size w wx) (fun t _ => n - (intOf t).toNat)
        case atStart => exact ⟨0, by omega, rfl, HX.out⟩
        case round =>
          obtain ⟨j, hj, rfl, hx⟩ := hrel
          have HY := Lib.hid hx
          clear hx
          by_cases hjn : j < n
          · obtain ⟨b, off, rfl, hb, hc⟩ := HP.out.1.2 (by omega)
            obtain ⟨a, q, c1, e1, e2, e3⟩ := hc j hjn
            have i2 : (0 : Int) ≤ j := by omega
            have i3 : (j : Int) < n := by omega
            have hbz : b < w.heap.size := by have := HP.out.2; omega
            have d1 := (HY.out.cell (p := ⟨b, _, none⟩) hbz).trans e1
            have Y := Lib.hid (And.intro e3 (And.intro hbz e1))
            have hbl := Fr.bytes_lt e3.2.1
            obtain ⟨K, hK⟩ : ∃ K, Fr.bytes (ls.getD j []) = K := ⟨_, rfl⟩
            obtain ⟨r, hr⟩ : ∃ r, Fr.err (ls.getD j []) = r := ⟨_, rfl⟩
            obtain ⟨u, hu⟩ : ∃ u, K.length = u := ⟨_, rfl⟩
            rw [hK, hu] at hbl
            have hu1 := hbl.2
            have HK := Lib.hid (And.intro hK (And.intro hr (And.intro hu hbl.1)))
            clear hc e1 e3 hbl hK hr hu
            go_wp2_with fail
            clear d1
            refine (put7_let HK.out.1 HK.out.2.1 HK.out.2.2.1 (Y.out.1.below HY.out HP.out.2) (Nat.le_trans HP.out.2 HY.out.size) e2).mono ?_
            rintro e v1 ⟨Aa, ca, rfl, oa, ba⟩
            have G1 := Lib.hid (below_next HY.out ba)
            have OA := Lib.hid oa
            have d1 := (G1.out.cell (p := ⟨b, _, none⟩) Y.out.2.1).trans Y.out.2.2
            clear oa ba
            go_wp2_with fail
            clear d1
            refine (refPut7_any q c1 B a (ls.getD j []) v1 (Y.out.1.below G1.out HP.out.2) (Nat.le_trans HP.out.2 G1.out.size) e2).mono ?_
            rintro e v2 ⟨Ac, cc, rfl, oc, bc⟩
            rw [HK.out.1, HK.out.2.2.1] at oc
            rw [HK.out.1, HK.out.2.1, HK.out.2.2.1]
            have G2 := Lib.hid (below_next G1.out bc)
            have OA2 := Lib.hid (own_below OA.out bc)
            have OC := Lib.hid oc
            clear oc bc
            go_wp2_with fail
            refine (same_fit u ca cc Aa Ac K v2 (Bytes.of_own OA2.out HK.out.2.2.2) (Bytes.of_own OC.out HK.out.2.2.2) (by omega)).mono ?_
            rintro e v3 ⟨rfl, b3⟩
            have G3 := Lib.hid (below_next G2.out b3)
            clear b3
            go_wp2_with fail
            exact ⟨⟨j + 1, by omega, by go_num, G3.out⟩, by simp [intOf]; omega⟩
          · have i3 : ¬ (j : Int) < n := by omega
            go_wp2_with fail
            refine (works7_any _).mono ?_
            rintro e v1 ⟨rfl, b1⟩
            have G1 := Lib.hid (below_next HY.out b1)
            clear b1
            go_wp2_with fail
            go_ret
            exact ⟨rfl, G1.out⟩
end Go.Proofs.Ytnokbnobnhkmgaa
