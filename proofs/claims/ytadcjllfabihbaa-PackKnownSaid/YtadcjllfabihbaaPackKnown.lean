/- PackKnown, walked. -/
import Derived.Test.YtadcjllfabihbaaBackB
import Derived.Test.YtadcjllfabihbaaPutsW
import Derived.Test.YtadcjllfabihbaaTakesW
namespace Go.Proofs.Ytadcjllfabihbaa
open Go.ChangeShapes Go.WideShapes Go.ChangeAt Go.RowKit

theorem nums_lit (w : World) (t : TypeId) (n : Nat) (l : List Nat) (cs : Array Value) (hcs : cs = (l.map fun (x : Nat) => Value.int .u64 (x : Int)).toArray) (hl : ∀ x ∈ l, x < 18446744073709551616) (hn : l.length = n) : Nums (w.alloc (.cells cs t)) (w.heap.size + 1) (some ⟨w.heap.size, 0, none⟩) n l :=
  ⟨hn, hl, fun _ => ⟨w.heap.size, 0, rfl, by omega, fun i hi => by
    rw [(Blk.new w t _).cell, hcs]
    simp [List.getD_eq_getElem?_getD, List.getElem?_eq_getElem (show i < l.length by omega)]⟩⟩
theorem strs_lit (w : World) (t : TypeId) (n : Nat) (l : List ByteArray) (cs : Array Value) (hcs : cs = (l.map Value.string).toArray) (hl : ∀ x ∈ l, x.size ≤ 9223372036854775807) (hn : l.length = n) : Strs (w.alloc (.cells cs t)) (w.heap.size + 1) (some ⟨w.heap.size, 0, none⟩) n l :=
  ⟨hn, hl, fun _ => ⟨w.heap.size, 0, rfl, by omega, fun i hi => by
    rw [(Blk.new w t _).cell, hcs]
    simp [List.getD_eq_getElem?_getD, List.getElem?_eq_getElem (show i < l.length by omega)]⟩⟩
theorem Nums.more {w : World} {B B' n : Nat} {A : Option Addr} {l : List Nat} (h : Nums w B A n l) (hB : B ≤ B') : Nums w B' A n l :=
  ⟨h.1, h.2.1, fun h0 => by
    obtain ⟨b, off, e, hb, hc⟩ := h.2.2 h0
    exact ⟨b, off, e, by omega, hc⟩⟩
theorem Strs.more {w : World} {B B' n : Nat} {A : Option Addr} {l : List ByteArray} (h : Strs w B A n l) (hB : B ≤ B') : Strs w B' A n l :=
  ⟨h.1, h.2.1, fun h0 => by
    obtain ⟨b, off, e, hb, hc⟩ := h.2.2 h0
    exact ⟨b, off, e, by omega, hc⟩⟩
theorem u64_ex (n : Int) : ∃ a : Nat, IntKind.u64.wrap n = (a : Int) ∧ a < 18446744073709551616 := by
  refine ⟨(n % 18446744073709551616).toNat, ?_, ?_⟩
  · rw [IntKind.wrap_u64]
    omega
  · omega
theorem xor_ex (x y : Int) : ∃ a : Nat, bits .xor .u64 x y = (a : Int) ∧ a < 18446744073709551616 := u64_ex _
theorem back_args (w : World) (t s r : TypeId) (l : List Nat) (cn cb : Array Value) (ss : List ByteArray) (cs : Array Value) (hcn : cn = (l.map fun (x : Nat) => Value.int .u64 (x : Int)).toArray) (hcs : cs = (ss.map Value.string).toArray) (hl : ∀ x ∈ l, x < 18446744073709551616) (hs : ∀ x ∈ ss, x.size ≤ 9223372036854775807) :
    Nums (((w.alloc (.cells cn t)).alloc (.cells cb s)).alloc (.cells cs r)) (((w.alloc (.cells cn t)).alloc (.cells cb s)).alloc (.cells cs r)).heap.size (some ⟨w.heap.size, 0, none⟩) l.length l ∧
    Strs (((w.alloc (.cells cn t)).alloc (.cells cb s)).alloc (.cells cs r)) (((w.alloc (.cells cn t)).alloc (.cells cb s)).alloc (.cells cs r)).heap.size (some ⟨w.heap.size + 1 + 1, 0, none⟩) ss.length ss ∧
    Below w.heap.size w (((w.alloc (.cells cn t)).alloc (.cells cb s)).alloc (.cells cs r)) := by
  have h1 := nums_lit w t l.length l cn hcn hl rfl
  have z1 : (w.alloc (.cells cn t)).heap.size = w.heap.size + 1 := by simp
  have z2 : ((w.alloc (.cells cn t)).alloc (.cells cb s)).heap.size = w.heap.size + 1 + 1 := by simp
  have z3 : (((w.alloc (.cells cn t)).alloc (.cells cb s)).alloc (.cells cs r)).heap.size = w.heap.size + 1 + 1 + 1 := by simp
  have b1 : Below (w.heap.size + 1) (w.alloc (.cells cn t)) (((w.alloc (.cells cn t)).alloc (.cells cb s)).alloc (.cells cs r)) := ((Below.refl _ _).alloc (by omega) _).alloc (by omega) _
  have h3 := strs_lit ((w.alloc (.cells cn t)).alloc (.cells cb s)) r ss.length ss cs hcs hs rfl
  rw [z2] at h3
  exact ⟨(h1.below b1 (Nat.le_refl _)).more (by omega), h3.more (by omega), (((Below.refl _ _).alloc (Nat.le_refl _) _).alloc (by omega) _).alloc (by omega) _⟩
theorem rows_123 (w : World) (t s : TypeId) : RowsOf (((w.alloc (.cells #[.int .u8 1] t)).alloc (.cells #[.int .u8 2, .int .u8 3] t)).alloc (.cells #[.slice (some ⟨w.heap.size, 0, none⟩) 1 1, .slice none 0 0, .slice (some ⟨w.heap.size + 1, 0, none⟩) 2 2] s)) (w.heap.size + 3) (some ⟨w.heap.size + 1 + 1, 0, none⟩) 3 [[1], [], [2, 3]] := by
  have h1 := ((bytes_lit w t 1 [1] #[.int .u8 1] rfl (by decide) rfl).alloc (by simp) (.cells #[.int .u8 2, .int .u8 3] t)).alloc (by simp) (.cells #[.slice (some ⟨w.heap.size, 0, none⟩) 1 1, .slice none 0 0, .slice (some ⟨w.heap.size + 1, 0, none⟩) 2 2] s)
  have h2 := (bytes_lit (w.alloc (.cells #[.int .u8 1] t)) t 2 [2, 3] #[.int .u8 2, .int .u8 3] rfl (by decide) rfl).alloc (by simp) (.cells #[.slice (some ⟨w.heap.size, 0, none⟩) 1 1, .slice none 0 0, .slice (some ⟨w.heap.size + 1, 0, none⟩) 2 2] s)
  have hz : (w.alloc (.cells #[.int .u8 1] t)).heap.size = w.heap.size + 1 := by simp
  rw [hz] at h2
  refine ⟨rfl, fun _ => ⟨w.heap.size + 1 + 1, 0, rfl, by omega, fun i hi => ?_⟩⟩
  have hn := Blk.new ((w.alloc (.cells #[.int .u8 1] t)).alloc (.cells #[.int .u8 2, .int .u8 3] t)) s #[.slice (some ⟨w.heap.size, 0, none⟩) 1 1, .slice none 0 0, .slice (some ⟨w.heap.size + 1, 0, none⟩) 2 2]
  have hz2 : ((w.alloc (.cells #[.int .u8 1] t)).alloc (.cells #[.int .u8 2, .int .u8 3] t)).heap.size = w.heap.size + 1 + 1 := by simp
  rw [hz2] at hn
  obtain rfl | rfl | rfl : i = 0 ∨ i = 1 ∨ i = 2 := by omega
  · exact ⟨_, _, _, hn.cell 0, by omega, h1.more (by omega)⟩
  · exact ⟨_, _, _, hn.cell 1, by omega, Bytes.nil⟩
  · exact ⟨_, _, _, hn.cell 2, by omega, h2.more (by omega)⟩
theorem make_ex (w : World) (N : Nat) (v : Int) (hv : v = N) (hN : N ≤ 65536) : ∃ w' T, (Instr.makeSlice 25 (.int .i64 v) (.int .i64 v)).run Try.prog w = .ok (.slice (some ⟨w.heap.size, 0, none⟩) N N) w' ∧ Below w.heap.size w w' ∧ (convert 25 9 (.slice (some ⟨w.heap.size, 0, none⟩) N N)).run Try.prog w' = .ok (.string T) w' ∧ T.size = N := by
  subst hv
  obtain ⟨i0, hi, hz0, hz1, hz2⟩ := info_parts Try.info5
  obtain ⟨w', hr, ho, hg⟩ := run_make_full (P := Try.prog) (w := w) w.heap.size 25 5 i0 (.int .u8 0) 1 Try.underlying25 hi hz0 hz1 .i64 .i64 N (by rw [hz2]; omega) (by unfold maxLen; omega) (Nat.le_refl _)
  have e : (madeCells (Value.int .u8 0).cells (N * 1)).toList = u8s (List.replicate N 0) := by
    show (madeCells #[Value.int .u8 0] (N * 1)).toList = _
    rw [toList_madeCells_one, Nat.mul_one]
    simp [u8s]
  rw [e] at ho
  have hb := Bytes.of_own ho (by intro x hx; have := (List.mem_replicate.1 hx).2; omega)
  have hc := conv_bytes (c := N) hb
  exact ⟨w', _, hr, below_none hg, hc.2.2, hc.2.1⟩
set_option maxRecDepth 100000 in
set_option maxHeartbeats 1000000 in
theorem known_any (w : World) : Calls Try.prog 6 #[] w fun e w' => e = .returned (.bool true) ∧ Below w.heap.size w w' := by
  go_enter Try.func6, Try.ntmps6
  go_wp2_with fail
  go_loopw [1] (fun i wr => ∃ k : Nat, k ≤ 64 ∧ i = .int .i64 (k : Int) ∧ Below w.heap.size w wr) (fun i _ => 64 - (intOf i).toNat)
  case atStart => exact ⟨0, by omega, rfl, Below.refl _ _⟩
  case round =>
    obtain ⟨k, hk, rfl, hb0⟩ := hrel
    by_cases hlt : k < 64
    · have hk1 : (k : Int) < 64 := by omega
      have hk0 : (0 : Int) ≤ k := by omega
      obtain ⟨a, ha, hal⟩ := u64_ex (2 ^ k)
      obtain ⟨b, hb, hbl⟩ := u64_ex ((a : Int) - 1)
      have hr3 := fun (W : World) => rows_123 W 5 25
      go_wp2_with fail
      refine (puts_any b 3 3 ⟨#[97]⟩ _ [[1], [], [2, 3]] _ hbl (by decide) ((hr3 wr).more (by simp)) (by omega)).mono ?_
      rintro e w1 ⟨rfl, b1⟩
      have d1 : Below w.heap.size w w1 := (((hb0.alloc hb0.size _).alloc (by have := hb0.size; simp; omega) _).alloc (by have := hb0.size; simp; omega) _).trans (b1.mono (by have := hb0.size; simp; omega))
      clear b1 hb0 hr3
      go_wp2_with fail
      refine (puts_any a 0 0 ⟨#[]⟩ none [] w1 hal (by decide) ⟨rfl, fun h => absurd h (by omega)⟩ (by omega)).mono ?_
      rintro e w2 ⟨rfl, b2⟩
      have d2 := below_next d1 b2
      clear b2 d1
      obtain ⟨c, hc, hcl⟩ := xor_ex IntKind.u64.max (a : Int)
      have hsg : IntKind.u64.signed = false := rfl
      have hw8 : IntKind.u8.wrap (k : Int) = k := by rw [IntKind.wrap_u8']; omega
      have hbt := bytes_lit (w2.alloc (.cells #[.int .u64 (b : Int), .int .u64 (a : Int), .int .u64 (c : Int)] 22)) 5 3 [k, 0, 255] #[.int .u8 (k : Int), .int .u8 0, .int .u8 255] rfl (by simp; omega) rfl
      have hz1 : (w2.alloc (.cells #[.int .u64 (b : Int), .int .u64 (a : Int), .int .u64 (c : Int)] 22)).heap.size = w2.heap.size + 1 := by simp
      rw [hz1] at hbt
      have hcv := (conv_bytes (c := 3) hbt).2.2
      have hsz := (conv_bytes (c := 3) hbt).2.1
      generalize textOf [k, 0, 255] = T at hcv hsz
      have hzs : ∀ x ∈ [(⟨#[]⟩ : ByteArray), T], x.size ≤ 9223372036854775807 := by
        intro x hx
        simp at hx
        rcases hx with rfl | rfl
        · decide
        · omega
      have hzn : ∀ x ∈ [b, a, c], x < 18446744073709551616 := by
        intro x hx
        simp at hx
        omega
      have HBK := Lib.hid (back_args w2 22 5 9 [b, a, c] (#[.int .u64 (b : Int), .int .u64 (a : Int), .int .u64 (c : Int)]) (#[.int .u8 (k : Int), .int .u8 0, .int .u8 255]) [⟨#[]⟩, T] #[.string ⟨#[]⟩, .string T] rfl rfl hzn hzs)
      clear hsz hz1 hbt hzs hzn
      go_wp2_with fail
      refine (back_any 3 3 2 2 _ _ [b, a, c] [⟨#[]⟩, T] _ HBK.out.1 HBK.out.2.1 (by omega) (by omega)).mono ?_
      rintro e w3 ⟨rfl, b3⟩
      have d3 : Below w.heap.size w w3 := d2.trans ((HBK.out.2.2.trans (b3.mono HBK.out.2.2.size)).mono d2.size)
      clear ha hb hc hsg hw8 hcv
      go_wp2_with fail
      go_roundw
      case rel => exact ⟨k + 1, by omega, by go_num, d3⟩
      case measure => simp [intOf]; omega
    · have hge : ¬ ((k : Int) < 64) := by omega
      obtain ⟨g, hg⟩ : ∃ g, wr.heap.size = g := ⟨_, rfl⟩
      obtain ⟨w1, hw1⟩ : ∃ w1, wr.alloc (.cells #[.int .u8 0, .int .u8 3, .int .u8 97, .int .u8 0, .int .u8 255, .int .u8 1, .int .u8 2, .int .u8 3, .int .u8 4, .int .u8 5, .int .u8 6, .int .u8 7, .int .u8 8, .int .u8 9, .int .u8 0, .int .u8 0, .int .u8 0, .int .u8 1, .int .u8 122] 5) = w1 := ⟨_, rfl⟩
      have hb19 := bytes_lit wr 5 19 [0, 3, 97, 0, 255, 1, 2, 3, 4, 5, 6, 7, 8, 9, 0, 0, 0, 1, 122] #[.int .u8 0, .int .u8 3, .int .u8 97, .int .u8 0, .int .u8 255, .int .u8 1, .int .u8 2, .int .u8 3, .int .u8 4, .int .u8 5, .int .u8 6, .int .u8 7, .int .u8 8, .int .u8 9, .int .u8 0, .int .u8 0, .int .u8 0, .int .u8 1, .int .u8 122] rfl (by decide) rfl
      have hz1 : (wr.alloc (.cells #[.int .u8 0, .int .u8 3, .int .u8 97, .int .u8 0, .int .u8 255, .int .u8 1, .int .u8 2, .int .u8 3, .int .u8 4, .int .u8 5, .int .u8 6, .int .u8 7, .int .u8 8, .int .u8 9, .int .u8 0, .int .u8 0, .int .u8 0, .int .u8 1, .int .u8 122] 5)).heap.size = wr.heap.size + 1 := by simp
      have hd1 := hb0.alloc hb0.size (.cells #[.int .u8 0, .int .u8 3, .int .u8 97, .int .u8 0, .int .u8 255, .int .u8 1, .int .u8 2, .int .u8 3, .int .u8 4, .int .u8 5, .int .u8 6, .int .u8 7, .int .u8 8, .int .u8 9, .int .u8 0, .int .u8 0, .int .u8 0, .int .u8 1, .int .u8 122] 5)
      rw [hw1, hg] at hb19
      rw [hw1, hg] at hz1
      rw [hw1] at hd1
      have hb19' := hb19.more (B' := w1.heap.size) (by omega)
      have hlen : ([0, 3, 97, 0, 255, 1, 2, 3, 4, 5, 6, 7, 8, 9, 0, 0, 0, 1, 122] : List Nat).length = 19 := rfl
      generalize ([0, 3, 97, 0, 255, 1, 2, 3, 4, 5, 6, 7, 8, 9, 0, 0, 0, 1, 122] : List Nat) = L at hb19' hlen
      have HB := Lib.hid hb19'
      have HD := Lib.hid hd1
      have HZ := Lib.hid hz1
      clear hb19 hb19' hz1 hd1 hb0 hlen
      obtain ⟨i0, hi, hz0, hzz1, hz2⟩ := info_parts Try.info5
      have HI := Lib.hid (And.intro hi (And.intro hz0 (And.intro hzz1 hz2)))
      clear hi hz0 hzz1 hz2
      go_wp2_with fail
      clear hw1 hg
      go_loopw [4] (fun i wx => ∃ n : Nat, n ≤ 20 ∧ i = .int .i64 (n : Int) ∧ Below w1.heap.size w1 wx) (fun i _ => 20 - (intOf i).toNat)
      case atStart => exact ⟨0, by omega, rfl, Below.refl _ _⟩
      case round =>
        obtain ⟨n, hn, rfl, hb1⟩ := hrel
        have HB1 := Lib.hid hb1
        clear hb1
        by_cases hln : n < 20
        · have hn0 : (0 : Int) ≤ n := by omega
          have hn1 : (n : Int) ≤ 19 := by omega
          go_wp2_with fail
          go_loopw [5] (fun i wx => ∃ k : Nat, k ≤ 6 ∧ i = .int .u8 (k : Int) ∧ Below w1.heap.size w1 wx) (fun i _ => 6 - (intOf i).toNat)
          case atStart => exact ⟨0, by omega, rfl, HB1.out⟩
          case round =>
            obtain ⟨k, hk, rfl, hb2⟩ := hrel
            have HB2 := Lib.hid hb2
            clear hb2
            by_cases hkl : k < 6
            · have hk0 : (0 : Int) ≤ k := by omega
              have hk1 : (k : Int) < 6 := by omega
              have hcut := fun W => run_cut_h (P := Try.prog) 25 5 i0 Try.underlying25 HI.out.1 (some ⟨g, 0, none⟩) 19 19 n (by omega) W
              obtain ⟨A2, n2, c2, hn2, hnc2, hcut2, hI2⟩ : ∃ A2 n2 c2, n2 ≤ 19 ∧ n2 ≤ c2 ∧ (∀ W, (Instr.sliceAt 25 (.slice (some ⟨g, 0, none⟩) 19 19) (some (.int .i64 (n : Int))) none none).run Try.prog W = .ok (.slice A2 n2 c2) W) ∧ Bytes w1 w1.heap.size A2 n2 (L.drop n) :=
                ⟨_, 19 - n, 19 - n, by omega, by omega, fun W => run_cut_l (P := Try.prog) 25 5 i0 Try.underlying25 HI.out.1 HI.out.2.2.1 (some ⟨g, 0, none⟩) 19 19 n (n : Int) rfl (by omega) W, HB.out.cut (i := n) (c := 19) (by omega) (by omega)⟩
              have HI2 := Lib.hid hI2
              clear hI2
              have H6 := Lib.hid ((bytes_lit wr 5 6 [k, k + 1, 5, k + 3, 0, 0] #[.int .u8 (k : Int), .int .u8 ((k : Int) + 1), .int .u8 5, .int .u8 ((k : Int) + 3), .int .u8 0, .int .u8 0] (by simp [u8s]) (by intro x hx; simp at hx; omega) rfl).more (B' := (wr.alloc (.cells #[.int .u8 (k : Int), .int .u8 ((k : Int) + 1), .int .u8 5, .int .u8 ((k : Int) + 3), .int .u8 0, .int .u8 0] 5)).heap.size) (by simp))
              have HA := Lib.hid ((((HB.out.head (j := n) (by omega)).below HB2.out (Nat.le_refl _)).alloc HB2.out.size (.cells #[.int .u8 (k : Int), .int .u8 ((k : Int) + 1), .int .u8 5, .int .u8 ((k : Int) + 3), .int .u8 0, .int .u8 0] 5)).more (B' := (wr.alloc (.cells #[.int .u8 (k : Int), .int .u8 ((k : Int) + 1), .int .u8 5, .int .u8 ((k : Int) + 3), .int .u8 0, .int .u8 0] 5)).heap.size) (by have := HB2.out.size; simp; omega))
              go_wp2_with fail
              refine (takes_any n 19 6 6 _ _ (L.take n) [k, k + 1, 5, k + 3, 0, 0] _ HA.out (by omega) H6.out (by omega) (by omega)).mono ?_
              rintro e w2 ⟨rfl, b2⟩
              have HB3 := Lib.hid (show Below w1.heap.size w1 w2 from (HB2.out.alloc HB2.out.size _).trans (b2.mono (by have := HB2.out.size; simp; omega)))
              clear b2 HB2
              have H5 := Lib.hid ((bytes_lit w2 5 5 [5, k, k, 1, 5] #[.int .u8 5, .int .u8 (k : Int), .int .u8 (k : Int), .int .u8 1, .int .u8 5] (by simp [u8s]) (by intro x hx; simp at hx; omega) rfl).more (B' := (w2.alloc (.cells #[.int .u8 5, .int .u8 (k : Int), .int .u8 (k : Int), .int .u8 1, .int .u8 5] 5)).heap.size) (by simp))
              have HC := Lib.hid (((HI2.out.below HB3.out (Nat.le_refl _)).alloc HB3.out.size (.cells #[.int .u8 5, .int .u8 (k : Int), .int .u8 (k : Int), .int .u8 1, .int .u8 5] 5)).more (B' := (w2.alloc (.cells #[.int .u8 5, .int .u8 (k : Int), .int .u8 (k : Int), .int .u8 1, .int .u8 5] 5)).heap.size) (by have := HB3.out.size; simp; omega))
              clear H6 HA
              go_wp2_with fail
              refine (takes_any n2 c2 5 5 _ _ (L.drop n) [5, k, k, 1, 5] _ HC.out hnc2 H5.out (by omega) (by omega)).mono ?_
              rintro e w3 ⟨rfl, b3⟩
              have HB4 := Lib.hid (show Below w1.heap.size w1 w3 from (HB3.out.alloc HB3.out.size _).trans (b3.mono (by have := HB3.out.size; simp; omega)))
              clear b3 HB3 hcut hcut2
              go_wp2_with fail
              go_roundw
              case rel => exact ⟨k + 1, by omega, by go_num, HB4.out⟩
              case measure => simp [intOf]; omega
            · have hgk : ¬ ((k : Int) < 6) := by omega
              go_wp2_with fail
              go_roundw
              case rel => exact ⟨n + 1, by omega, by go_num, HB2.out⟩
              case measure => simp [intOf]; omega
        · have hgn : ¬ ((n : Int) ≤ 19) := by omega
          obtain ⟨w2, T, hmk, hbm, hcv, hsz⟩ := make_ex wr 65536 65536 rfl (by omega)
          have HM := Lib.hid (And.intro hbm hsz)
          clear hbm hsz
          go_wp2_with (first
            | (go_at_call 24; (with_reducible refine (u8_nil _).mono ?_); rintro e w' ⟨rfl, rfl⟩)
            | (go_at_call 25; (with_reducible refine (u16_nil _).mono ?_); rintro e w' ⟨rfl, rfl⟩)
            | (go_at_call 26; (with_reducible refine (u32_nil _).mono ?_); rintro e w' ⟨rfl, rfl⟩)
            | (go_at_call 27; (with_reducible refine (u64_nil _).mono ?_); rintro e w' ⟨rfl, rfl⟩)
            | (go_at_call 28; (with_reducible refine (int_nil _).mono ?_); rintro e w' ⟨rfl, rfl⟩)
            | (go_at_call 29; (with_reducible refine (text_nil _).mono ?_); rintro e w' ⟨rfl, rfl⟩)
            | (go_at_call 32; (with_reducible refine (left_nil _).mono ?_); rintro e w' ⟨rfl, rfl⟩)
            | (go_at_call 30; (with_reducible refine (err_nil _).mono ?_); rintro e w' ⟨rfl, rfl⟩)
            | (go_at_call 31; (with_reducible refine (done_nil _).mono ?_); rintro e w' ⟨rfl, rfl⟩))
          refine (puts_any 0 0 0 T none [] w2 (by omega) (by have := HM.out.2; omega) ⟨rfl, fun h => absurd h (by omega)⟩ (by omega)).mono ?_
          rintro e w3 ⟨rfl, b3⟩
          have d3 : Below w.heap.size w w3 := (HD.out.trans (HB1.out.mono HD.out.size)).trans ((HM.out.1.trans (b3.mono HM.out.1.size)).mono (HD.out.trans (HB1.out.mono HD.out.size)).size)
          clear b3 hmk hcv
          go_wp2_with fail
          refine (takes_any 0 0 2 2 none _ [] [0, 5] _ Bytes.nil (by omega) ((bytes_lit _ _ 2 [0, 5] _ rfl (by decide) rfl).more (by simp)) (by omega) (by omega)).mono ?_
          rintro e w4 ⟨rfl, b4⟩
          have d4 : Below w.heap.size w w4 := (d3.alloc d3.size _).trans (b4.mono (by have := d3.size; simp; omega))
          clear b4 d3
          go_wp2_with fail
          refine (back_any 0 0 0 0 none none [] [] w4 ⟨rfl, by simp, fun h => absurd h (by omega)⟩ ⟨rfl, by simp, fun h => absurd h (by omega)⟩ (by omega) (by omega)).mono ?_
          rintro e w5 ⟨rfl, b5⟩
          have d5 := below_next d4 b5
          clear b5 d4
          go_wp2_with fail
          refine (works_any w5).mono ?_
          rintro e w6 ⟨rfl, b6⟩
          have d6 := below_next d5 b6
          go_wp2_with fail
          go_ret
          exact ⟨rfl, d6⟩
end Go.Proofs.Ytadcjllfabihbaa
