/- Layer 4's reference: a part, written. -/
import Derived.Test.YtponelbfddfliaaNumbI
import Derived.Test.YtponelbfddfliaaConv
import Derived.Test.YtponelbfddfliaaKy
namespace Go.Proofs.Ytponelbfddfliaa
open Go.ChangeShapes Go.WideShapes Go.ChangeAt Go.RowKit

theorem own_set {w : World} {base n c g : Nat} {e : TypeId} {xs : List Value} (h : w.ownsRow base e 1 (.slice (some ⟨g, 0, none⟩) n c) n xs) (i : Nat) (u : Value) : (w.setCell ⟨g, i, none⟩ u).ownsRow base e 1 (.slice (some ⟨g, 0, none⟩) n c) n (xs.set i u) := by
  refine ⟨by rw [List.length_set]; exact h.1, ?_⟩
  rcases h.2 with ⟨hv, _⟩ | ⟨g', cap, cur, hv, hb, hh, h1, h2, h3, h4⟩
  · cases hv
  · injection hv with e1 _ e3
    injection e1 with e1
    injection e1 with e1
    subst e1 e3
    refine .inr ⟨g, c, cur.setIfInBounds i u, rfl, hb, Blk.set_ (show Blk w g e cur from hh) i u, h1, h2, by simpa using h3, ?_⟩
    rw [Array.toList_setIfInBounds, List.take_set, h4]
theorem u8s_put (l : List Nat) (i x : Nat) : (u8s l).set i (.int .u8 (x : Int)) = u8s (l.set i x) := by simp [u8s, List.map_set]
theorem own_frozen {w : World} {base n c g size : Nat} {e : TypeId} {xs : List Value} (h : w.ownsRow base e size (.slice (some ⟨g, 0, none⟩) n c) n xs) (i : Nat) : w.frozen? ⟨g, i, none⟩ = false := by
  rcases h.2 with ⟨hv, _⟩ | ⟨g', cap, cur, hv, hb, hh, _⟩
  · cases hv
  · injection hv with e1 _ _
    injection e1 with e1
    injection e1 with e1
    subst e1
    exact Blk.frozen (show Blk w g e cur from hh) i
/-- A call's text. -/
def TextP (w : World) (l : List Nat) (e : Ending) (w' : World) : Prop := ∃ T : ByteArray, e = .returned (.string T) ∧ nums T = l ∧ T.size = l.length ∧ Below w.heap.size w w'
def partV (k : Nat) (n : Int) (s : ByteArray) : Value := .agg #[.int .u8 (k : Int), .int .i64 n, .string s]
theorem turn_be (v : Int) (n : Nat) (hv : -9223372036854775808 ≤ v ∧ v ≤ 9223372036854775807) (hn : v % 18446744073709551616 = n) :
    Pk.be 8 (Ky.turn v) = (Pk.be 8 n).set 0 (if 128 ≤ n / 72057594037927936 % 256 then n / 72057594037927936 % 256 - 128 else n / 72057594037927936 % 256 + 128) := by
  have e7 : (256 : Nat) ^ 7 = 72057594037927936 := by decide
  have h7 : Pk.be 7 (Ky.turn v) = Pk.be 7 n := by
    rw [← Pk.be_mod 7 7 (Ky.turn v) (Nat.le_refl _), ← Pk.be_mod 7 7 n (Nat.le_refl _), e7]
    congr 1
    unfold Ky.turn
    omega
  show Ky.turn v / 256 ^ 7 % 256 :: Pk.be 7 (Ky.turn v) = (n / 256 ^ 7 % 256 :: Pk.be 7 n).set 0 _
  rw [List.set_cons_zero, h7, e7]
  congr 1
  unfold Ky.turn
  split <;> omega
set_option maxRecDepth 100000 in
set_option maxHeartbeats 1000000 in
theorem refPart_int (v : Int) (s : ByteArray) (w : World) (hv : -9223372036854775808 ≤ v ∧ v ≤ 9223372036854775807) :
    Calls Try.prog 73 #[partV 1 v s] w (TextP w (Pk.be 8 (Ky.turn v))) := by
  obtain ⟨n, hn⟩ := Int.eq_ofNat_of_zero_le (Int.emod_nonneg v (by decide : (18446744073709551616 : Int) ≠ 0))
  have hn2 : n < 18446744073709551616 := by
    have := Int.emod_lt_of_pos v (by decide : (0 : Int) < 18446744073709551616)
    omega
  have HT := Lib.hid (turn_be v n hv hn)
  unfold partV
  go_enter Try.func73, Try.ntmps73
  go_wp2_with fail
  refine (refInt_any v n _ hn hn2).mono ?_
  rintro e w1 ⟨A, c, rfl, hown, hb⟩
  obtain ⟨g, cap, hv', hcap, hg⟩ := hown.form (by omega)
  injection hv' with e1 _ e3
  subst e1 e3
  have hc0 : w1.cell? ⟨g, 0, none⟩ = some (.int .u8 ((n / 72057594037927936 % 256 : Nat) : Int)) := by
    have := hown.cells (g := g) rfl 0 _ (u8s_at (by rw [Pk.be_len]; omega))
    rw [add_at] at this
    exact this
  obtain ⟨x, hx⟩ : ∃ x, n / 72057594037927936 % 256 = x := ⟨_, rfl⟩
  have hx2 : x < 256 := by omega
  rw [hx] at hc0 HT
  have hfz := own_frozen hown 0
  have hbx : Below w.heap.size w w1 := below_one (Below.refl _ _) hb
  have hgw : w.heap.size ≤ g := by simp at hcap; omega
  have hown := own_lower hown (b' := w.heap.size) (by simp)
  have hT : ∀ y : Nat, (if 128 ≤ x then x - 128 else x + 128) = y → y < 256 → (w1.setCell ⟨g, 0, none⟩ (.int .u8 (y : Int))).ownsRow w.heap.size 5 1 (.slice (some ⟨g, 0, none⟩) 8 c) 8 (u8s (Pk.be 8 (Ky.turn v))) := by
    intro y hy _
    have := own_set hown 0 (.int .u8 (y : Int))
    rw [u8s_put] at this
    rw [HT.out, hy]
    exact this
  have HB := Lib.hid hbx
  clear hn hx hb hbx HT hcap hown
  by_cases h128 : 128 ≤ x
  · obtain ⟨y, hy, hyl⟩ : ∃ y : Nat, x - 128 = y ∧ y < 256 := ⟨_, rfl, by omega⟩
    have ho := hT y (by rw [if_pos h128]; exact hy) hyl
    have hyi : (x : Int) - 128 = (y : Int) := by omega
    have hg1 : (128 : Int) ≤ x := by omega
    have hcv := conv_bytes (c := c) (Bytes.of_own ho (Pk.be_lt _ _))
    have hrun := hcv.2.2
    have HC := Lib.hid hcv
    clear hT ho hcv hy
    generalize textOf (Pk.be 8 (Ky.turn v)) = T at hrun HC
    go_wp2_with fail
    go_ret
    exact ⟨T, rfl, HC.out.1, by rw [HC.out.2.1, Pk.be_len], HB.out.setCell hgw _⟩
  · obtain ⟨y, hy, hyl⟩ : ∃ y : Nat, x + 128 = y ∧ y < 256 := ⟨_, rfl, by omega⟩
    have ho := hT y (by rw [if_neg h128]; exact hy) hyl
    have hyi : (x : Int) + 128 = (y : Int) := by omega
    have hg1 : ¬ (128 : Int) ≤ x := by omega
    have hcv := conv_bytes (c := c) (Bytes.of_own ho (Pk.be_lt _ _))
    have hrun := hcv.2.2
    have HC := Lib.hid hcv
    clear hT ho hcv hy
    generalize textOf (Pk.be 8 (Ky.turn v)) = T at hrun HC
    go_wp2_with fail
    go_ret
    exact ⟨T, rfl, HC.out.1, by rw [HC.out.2.1, Pk.be_len], HB.out.setCell hgw _⟩
theorem nums_byte (s : ByteArray) : ∀ x ∈ nums s, x < 256 := by
  intro x hx
  simp [nums] at hx
  obtain ⟨b, _, rfl⟩ := hx
  exact b.toNat_lt
theorem text_byte (s : ByteArray) : ∀ x ∈ Ky.text (nums s), x < 256 := by
  intro x hx
  rcases List.mem_append.1 hx with h | h
  · exact Ky.esc_lt _ (nums_byte s) x h
  · simp at h
    omega
theorem u8s_two (l : List Nat) : u8s (l ++ [0, 255]) = u8s l ++ [.int .u8 0] ++ [.int .u8 255] := by simp [u8s]
theorem u8s_text (t : List Nat) : u8s (Ky.esc t) ++ [.int .u8 0, .int .u8 0] = u8s (Ky.text t) := by simp [u8s, Ky.text]
theorem two_cells (w : World) (t : TypeId) (u v : Value) : ∀ j x, ([u, v] : List Value)[j]? = some x → (w.alloc (.cells #[u, v] t)).cell? ((⟨w.heap.size, 0, none⟩ : Addr).add j) = some x := by
  intro j x h
  rw [add_at, Nat.zero_add, (Blk.new w t _).cell]
  simpa using h
theorem esc_step (s : ByteArray) (k : Nat) (h : k < s.size) : Ky.esc ((nums s).take (k + 1)) = Ky.esc ((nums s).take k) ++ (if (nums s).getD k 0 = 0 then [0, 255] else [(nums s).getD k 0]) := by
  rw [take_snoc (nums s) k (by rw [nums_len]; exact h), Ky.esc_snoc]
theorem nums_at (s : ByteArray) (k : Nat) (h : k < s.size) : (nums s).getD k 0 = (s[k]'h).toNat := by
  have hl : k < s.data.toList.length := by simpa using h
  simp only [nums, List.getD_eq_getElem?_getD, List.getElem?_map, List.getElem?_eq_getElem hl]
  rfl
theorem esc_len (t : List Nat) : (Ky.esc t).length ≤ 2 * t.length := by
  induction t with
  | nil => simp [Ky.esc]
  | cons x t ih =>
    simp only [Ky.esc]
    split <;> simp <;> omega
set_option maxRecDepth 100000 in
set_option maxHeartbeats 1000000 in
theorem refPart_text (k : Nat) (v : Int) (s : ByteArray) (w : World) (hk : k ≠ 1) (hs : s.size ≤ 1000000) :
    Calls Try.prog 73 #[partV k v s] w (TextP w (Ky.text (nums s))) := by
  obtain ⟨i0, hi, hz0, hz1, hz2⟩ := info_parts Try.info5
  have HI := Lib.hid (And.intro hi (And.intro hz0 (And.intro hz1 hz2)))
  clear hi hz0 hz1 hz2
  have hkd : ((k : Int) == 1) = false := by
    rw [beq_eq_false_iff_ne]
    omega
  have hbl := (Blk.new w 71 #[.int .u8 (k : Int), .int .i64 v, .string s])
  have hB1 : Below w.heap.size w (w.alloc (.cells #[.int .u8 (k : Int), .int .i64 v, .string s] 71)) := (Below.refl _ _).alloc (Nat.le_refl _) _
  have hzz : (w.alloc (.cells #[.int .u8 (k : Int), .int .i64 v, .string s] 71)).heap.size = w.heap.size + 1 := by simp
  unfold partV
  obtain ⟨w0, hw0⟩ : ∃ w0, w.alloc (.cells #[.int .u8 (k : Int), .int .i64 v, .string s] 71) = w0 := ⟨_, rfl⟩
  rw [hw0] at hbl hB1 hzz
  have hc0 : w0.cell? ⟨w.heap.size, 0, none⟩ = some (.int .u8 (k : Int)) := hbl.cell 0
  have hc2 : w0.cell? ⟨w.heap.size, 2, none⟩ = some (.string s) := hbl.cell 2
  have HB1 := Lib.hid hB1
  have HZZ := Lib.hid hzz
  have HC2 := Lib.hid hc2
  clear hbl hB1 hzz
  go_enter Try.func73, Try.ntmps73
  go_wp2_with fail
  clear hw0 hc0 hc2 hkd
  go_loopw [4, 5] (fun r i wr => ∃ j n : Nat, j ≤ s.size ∧ i = .int .i64 (j : Int) ∧ n ≤ 2 * j ∧ wr.ownsRow w0.heap.size 5 1 r n (u8s (Ky.esc ((nums s).take j))) ∧ Below w0.heap.size w0 wr) (fun _ i _ => s.size - (intOf i).toNat)
  case atStart => exact ⟨0, 0, by omega, rfl, by omega, own_nil _ _ _ _, Below.refl _ _⟩
  case round =>
    obtain ⟨j, n, hj, rfl, hn, hown, hbel⟩ := hrel
    have hc2 : wr.cell? ⟨w.heap.size, 2, none⟩ = some (.string s) := (hbel.cell (p := ⟨w.heap.size, 2, none⟩) (by show w.heap.size < w0.heap.size; rw [HZZ.out]; omega)).trans HC2.out
    have HO := Lib.hid (And.intro hown hbel)
    clear hown hbel
    by_cases hlt : j < s.size
    · have hst := esc_step s j hlt
      have hat := nums_at s j hlt
      rw [hat] at hst
      have HST := Lib.hid hst
      clear hst hat
      by_cases hx0 : s[j].toNat = 0
      · rw [if_pos hx0] at HST
        go_wp2_with (first
          | (at_builtin; have _ := D1; refine wpList_append_own _ rfl _ _ 46 rfl w0.heap.size 5 i0 (.int .u8 0) 1 1 Try.underlying46 HI.out.1 HI.out.2.1 HI.out.2.2.1 HI.out.2.2.2 rfl (by decide) _ (n + 1) _ rfl (ho1.alloc _) ⟨w1.heap.size, 0, none⟩ 1 1 [.int .u8 255] rfl rfl (one_cell w1 _ _) (by simp [Value.oneCell']) (by unfold maxLen; omega) (by omega) (by have := D1.size; simp; omega) ?_; intro v2 w2 ho2 hg2 _; have D2 := grow_below D1 hg2 (fun g hg => (ho1.lt g hg).1))
          | (at_builtin; refine wpList_append_own _ rfl _ _ 46 rfl w0.heap.size 5 i0 (.int .u8 0) 1 1 Try.underlying46 HI.out.1 HI.out.2.1 HI.out.2.2.1 HI.out.2.2.2 rfl (by decide) _ n _ rfl (HO.out.1.alloc _) ⟨wr.heap.size, 0, none⟩ 1 1 [.int .u8 0] rfl rfl (one_cell wr _ _) (by simp [Value.oneCell']) (by unfold maxLen; omega) (by omega) (by have := HO.out.2.size; simp; omega) ?_; intro v1 w1 ho1 hg1 _; have D1 := grow_below HO.out.2 hg1 (fun g hg => (HO.out.1.lt g hg).1); have hc3 : w1.cell? ⟨w.heap.size, 2, none⟩ = some (.string s) := (D1.cell (p := ⟨w.heap.size, 2, none⟩) (by show w.heap.size < w0.heap.size; rw [HZZ.out]; omega)).trans HC2.out))
        refine ⟨⟨j + 1, n + 1 + 1, by omega, by go_num, by omega, ?_, D2⟩, by simp [intOf]; omega⟩
        rw [HST.out, u8s_two]
        exact ho2
      · rw [if_neg hx0] at HST
        have hxb : ((s[j].toNat : Int) == 0) = false := by rw [beq_eq_false_iff_ne]; omega
        go_wp2_with (at_builtin; refine wpList_append_own _ rfl _ _ 46 rfl w0.heap.size 5 i0 (.int .u8 0) 1 1 Try.underlying46 HI.out.1 HI.out.2.1 HI.out.2.2.1 HI.out.2.2.2 rfl (by decide) _ n _ rfl (HO.out.1.alloc _) ⟨wr.heap.size, 0, none⟩ 1 1 [.int .u8 (s[j].toNat : Int)] rfl rfl (one_cell wr _ _) (by simp [Value.oneCell']) (by unfold maxLen; omega) (by omega) (by have := HO.out.2.size; simp; omega) ?_; intro v1 w1 ho1 hg1 _; have D1 := grow_below HO.out.2 hg1 (fun g hg => (HO.out.1.lt g hg).1); have hc3 : w1.cell? ⟨w.heap.size, 2, none⟩ = some (.string s) := (D1.cell (p := ⟨w.heap.size, 2, none⟩) (by show w.heap.size < w0.heap.size; rw [HZZ.out]; omega)).trans HC2.out)
        refine ⟨⟨j + 1, n + 1, by omega, by go_num, by omega, ?_, D1⟩, by simp [intOf]; omega⟩
        rw [HST.out, ← u8s_append]
        exact ho1
    · have hge : ¬ ((j : Int) < (s.size : Int)) := by omega
      obtain rfl : j = s.size := by omega
      go_wp2_with (at_builtin; refine wpList_append_own _ rfl _ _ 46 rfl w0.heap.size 5 i0 (.int .u8 0) 1 1 Try.underlying46 HI.out.1 HI.out.2.1 HI.out.2.2.1 HI.out.2.2.2 rfl (by decide) _ n _ rfl (HO.out.1.alloc _) ⟨wr.heap.size, 0, none⟩ 2 2 [.int .u8 0, .int .u8 0] rfl rfl (two_cells wr _ _ _) (by simp [Value.oneCell']) (by unfold maxLen; omega) (by omega) (by have := HO.out.2.size; simp; omega) ?_; intro v1 w1 ho1 hg1 _; have D1 := grow_below HO.out.2 hg1 (fun g hg => (HO.out.1.lt g hg).1); rw [List.take_of_length_le (by rw [nums_len]; omega), u8s_text] at ho1; obtain ⟨A1, c1, rfl⟩ := own_slice ho1; have HC := Lib.hid (conv_bytes (c := c1) (Bytes.of_own ho1 (text_byte s))); have hrun := HC.out.2.2; clear ho1 hg1; generalize textOf (Ky.text (nums s)) = T at hrun HC)
      go_ret
      exact ⟨T, rfl, HC.out.1, by rw [← nums_len, HC.out.1], HB1.out.trans (D1.mono HB1.out.size)⟩
end Go.Proofs.Ytponelbfddfliaa
