/- PackBack's first half, in words that its walk uses. -/
import Derived.Test.YtadcjllfabihbaaBackA
namespace Go.Proofs.Ytadcjllfabihbaa
open Go.ChangeShapes Go.WideShapes Go.ChangeAt Go.RowKit

/-- v is a slice of the bytes l. -/
def BBuf (wr : World) (v : Value) (l : List Nat) : Prop := ∃ A n c, v = .slice A n c ∧ Bytes wr wr.heap.size A n l ∧ n ≤ c
theorem BBuf.nil_ (w : World) : BBuf w (.slice none 0 0) [] := ⟨none, 0, 0, rfl, Bytes.nil, by omega⟩
theorem rows_six {w : World} {B n0 n1 n2 n3 n4 n5 c0 c1 c2 c3 c4 c5 : Nat} {a0 a1 a2 a3 a4 a5 : Option Addr} {l0 l1 l2 l3 l4 l5 : List Nat} {t : TypeId} (h0 : Bytes w B a0 n0 l0) (h1 : Bytes w B a1 n1 l1) (h2 : Bytes w B a2 n2 l2) (h3 : Bytes w B a3 n3 l3) (h4 : Bytes w B a4 n4 l4) (h5 : Bytes w B a5 n5 l5) (hB : B ≤ w.heap.size)
    (m0 : n0 ≤ 9223372036854775807) (m1 : n1 ≤ 9223372036854775807) (m2 : n2 ≤ 9223372036854775807) (m3 : n3 ≤ 9223372036854775807) (m4 : n4 ≤ 9223372036854775807) (m5 : n5 ≤ 9223372036854775807) :
    RowsOf (w.alloc (.cells #[.slice a0 n0 c0, .slice a1 n1 c1, .slice a2 n2 c2, .slice a3 n3 c3, .slice a4 n4 c4, .slice a5 n5 c5] t)) (w.heap.size + 1) (some ⟨w.heap.size, 0, none⟩) 6 [l0, l1, l2, l3, l4, l5] := by
  have hk := Blk.new w t #[.slice a0 n0 c0, .slice a1 n1 c1, .slice a2 n2 c2, .slice a3 n3 c3, .slice a4 n4 c4, .slice a5 n5 c5]
  refine ⟨rfl, fun _ => ⟨w.heap.size, 0, rfl, by omega, fun i hi => ?_⟩⟩
  match i, hi with
  | 0, _ => exact ⟨a0, n0, c0, hk.cell 0, m0, (h0.alloc hB _).more (by omega)⟩
  | 1, _ => exact ⟨a1, n1, c1, hk.cell 1, m1, (h1.alloc hB _).more (by omega)⟩
  | 2, _ => exact ⟨a2, n2, c2, hk.cell 2, m2, (h2.alloc hB _).more (by omega)⟩
  | 3, _ => exact ⟨a3, n3, c3, hk.cell 3, m3, (h3.alloc hB _).more (by omega)⟩
  | 4, _ => exact ⟨a4, n4, c4, hk.cell 4, m4, (h4.alloc hB _).more (by omega)⟩
  | 5, _ => exact ⟨a5, n5, c5, hk.cell 5, m5, (h5.alloc hB _).more (by omega)⟩
theorem be_mod8 (n : Nat) : Pk.be 1 (n % 256) = Pk.be 1 n := Pk.be_mod 1 1 n (Nat.le_refl _)
theorem be_mod16 (n : Nat) : Pk.be 2 (n % 65536) = Pk.be 2 n := Pk.be_mod 2 2 n (Nat.le_refl _)
theorem be_mod32 (n : Nat) : Pk.be 4 (n % 4294967296) = Pk.be 4 n := Pk.be_mod 4 4 n (Nat.le_refl _)
theorem sg_mod' (n : Nat) (h : n < 18446744073709551616) : sg n % 18446744073709551616 = n := by
  unfold sg
  rw [IntKind.wrap_i64]
  omega
theorem six_flat (B : List Nat) (x : Nat) : ([B, Pk.be 1 x, Pk.be 2 x, Pk.be 4 x, Pk.be 8 x, Pk.be 8 x] : List (List Nat)).flatten = B ++ Pk.five x := by simp [Pk.five]
theorem two_flat (B C : List Nat) : ([B, C] : List (List Nat)).flatten = B ++ C := by simp
/-- What is packed of texts. -/
def numsAll (ss : List ByteArray) : List (List Nat) := ss.map nums
theorem numsAll_getD (ss : List ByteArray) (k : Nat) (h : k < ss.length) : (numsAll ss).getD k [] = nums (ss.getD k ByteArray.empty) := by
  unfold numsAll
  rw [List.getD_eq_getElem?_getD, List.getD_eq_getElem?_getD, List.getElem?_map, List.getElem?_eq_getElem h]
  rfl
theorem numsAll_len (ss : List ByteArray) : (numsAll ss).length = ss.length := by simp [numsAll]
theorem numsAll_lt (ss : List ByteArray) : ∀ t ∈ numsAll ss, ∀ x ∈ t, x < 256 := by
  intro t ht
  obtain ⟨s, _, rfl⟩ := List.mem_map.1 ht
  exact nums_lt s
/-- The first k texts are short. -/
def Brief (ss : List ByteArray) (k : Nat) : Prop := ∀ i, i < k → (ss.getD i ByteArray.empty).size ≤ 300
theorem brief_len (ss : List ByteArray) (k : Nat) (h : Brief ss k) (hk : k ≤ ss.length) : (Pk.texts ((numsAll ss).take k)).length ≤ 302 * k := by
  induction k with
  | zero => simp [Pk.texts]
  | succ k ih =>
    rw [Pk.texts_snoc _ _ (by rw [numsAll_len]; omega), List.length_append, numsAll_getD ss k (by omega)]
    have h1 := ih (fun i hi => h i (by omega)) (by omega)
    have h2 := h k (by omega)
    simp only [Pk.tx, List.length_append, Pk.be_len, nums_len]
    omega
theorem texts_take_lt (ss : List ByteArray) (k : Nat) : ∀ y ∈ Pk.texts ((numsAll ss).take k), y < 256 :=
  Pk.texts_lt _ (fun t ht => numsAll_lt ss t (List.mem_of_mem_take ht))
theorem app_lt {a b : List Nat} (ha : ∀ y ∈ a, y < 256) (hb : ∀ y ∈ b, y < 256) : ∀ y ∈ a ++ b, y < 256 := by
  intro y hy
  rcases List.mem_append.1 hy with h | h
  · exact ha y h
  · exact hb y h
theorem text_back (s : ByteArray) : textOf (nums s) = s := by
  unfold textOf nums
  rw [List.map_map]
  have : (UInt8.ofNat ∘ UInt8.toNat) = id := by funext x; simp
  rw [this, List.map_id]

/-- Two readers: one of all that is left, one that lacks the last byte. -/
def Two (wx : World) (lo1 g1 lo2 g2 : Nat) (nz : Prop) (rem : List Nat) : Prop := Rd wx lo1 g1 rem false ∧ ∃ ls f, Rd wx lo2 g2 ls f ∧ (nz → Pk.Short ls f rem)
theorem rem_step (l T : List Nat) (k : Nat) (h : k < l.length) : Pk.fives (l.drop k) ++ T = Pk.be 1 (l.getD k 0) ++ (Pk.be 2 (l.getD k 0) ++ (Pk.be 4 (l.getD k 0) ++ (Pk.be 8 (l.getD k 0) ++ (Pk.be 8 (l.getD k 0) ++ (Pk.fives (l.drop (k + 1)) ++ T))))) := by
  rw [Pk.fives_step l k h]
  simp only [Pk.five, List.append_assoc]
theorem tk8 (x : Nat) (r : List Nat) : Pk.num (Pk.taken false (Pk.be 1 x ++ r) 1) = x % 256 := Pk.taken_be 1 x r
theorem tk16 (x : Nat) (r : List Nat) : Pk.num (Pk.taken false (Pk.be 2 x ++ r) 2) = x % 65536 := Pk.taken_be 2 x r
theorem tk32 (x : Nat) (r : List Nat) : Pk.num (Pk.taken false (Pk.be 4 x ++ r) 4) = x % 4294967296 := Pk.taken_be 4 x r
theorem tk64 (x : Nat) (r : List Nat) (h : x < 18446744073709551616) : Pk.num (Pk.taken false (Pk.be 8 x ++ r) 8) = x := (Pk.taken_be 8 x r).trans (Nat.mod_eq_of_lt h)
theorem max_run (n : Nat) (W : World) : (Builtin.max_ #[3, 3] 3 #[.int .i64 0, .int .i64 ((n : Int) - 1)]).run Try.prog W = .ok (.int .i64 ((n - 1 : Nat) : Int)) W := by
  by_cases h : (0 : Int) < (n : Int) - 1
  · have e : ((n - 1 : Nat) : Int) = (n : Int) - 1 := by omega
    simp [Builtin.max_, Builtin.max2, e]
    omega
  · have e : ((n - 1 : Nat) : Int) = 0 := by omega
    simp [Builtin.max_, Builtin.max2, e]
    omega
set_option maxRecDepth 100000 in
set_option maxHeartbeats 4000000 in
theorem back_any (n c m cs : Nat) (A As : Option Addr) (l : List Nat) (ss : List ByteArray) (w : World) (hl : Nums w w.heap.size A n l) (hs : Strs w w.heap.size As m ss) (hn : n ≤ 9223372036854775807) (hm : m ≤ 9223372036854775807) :
    Calls Try.prog 5 #[.slice A n c, .slice As m cs] w fun e w' => e = .returned (.bool true) ∧ Below w.heap.size w w' := by
  by_cases h1 : 20 < n
  · go_enter Try.func5, Try.ntmps5
    go_wp2_with fail
    refine (works_any _).mono ?_
    rintro e w1 ⟨rfl, b1⟩
    go_wp2_with fail
    go_ret
    exact ⟨rfl, b1⟩
  by_cases h2 : 20 < m
  · go_enter Try.func5, Try.ntmps5
    go_wp2_with fail
    refine (works_any _).mono ?_
    rintro e w1 ⟨rfl, b1⟩
    go_wp2_with fail
    go_ret
    exact ⟨rfl, b1⟩
  have HL := Lib.hid hl
  have HS := Lib.hid hs
  have hn20 : n ≤ 20 := by omega
  have hm20 : m ≤ 20 := by omega
  clear hl hs hn hm
  go_enter Try.func5, Try.ntmps5
  go_wp2_with fail
  go_loopw [5, 6] (fun v i wr => ∃ k : Nat, k ≤ n ∧ i = .int .i64 k ∧ BBuf wr v (Pk.fives (l.take k)) ∧ Below w.heap.size w wr) (fun _ i _ => n - (intOf i).toNat)
  case atStart => exact ⟨0, by omega, rfl, BBuf.nil_ w, Below.refl _ _⟩
  case round =>
    obtain ⟨k, hk, rfl, ⟨A5, n5, c5, rfl, hy5, hc5⟩, dr⟩ := hrel
    by_cases hlt : k < n
    · obtain ⟨bl, off, rfl, hbl, hc⟩ := (HL.out.below dr (Nat.le_refl _)).2.2 (by omega)
      have hck := hc k hlt
      have hx := HL.out.lt k
      have HN := Lib.hid (Pk.fives_snoc l k (by rw [HL.out.1]; exact hlt))
      have hn5 : n5 ≤ 460 := by have h := hy5.1; rw [Pk.fives_len, List.length_take] at h; have := HL.out.1; omega
      have hnew : (Pk.fives (l.take k) ++ Pk.five (l.getD k 0)).length ≤ 1000 := by rw [List.length_append, Pk.five_len, hy5.1]; omega
      have HNEW := Lib.hid hnew
      have HLT := Lib.hid (Pk.fives_lt (l.take (k + 1)))
      rw [Lib.hid HN.out |>.out] at HLT
      generalize l.getD k 0 = x at *
      clear hc hnew
      have hw8 : IntKind.u8.wrap (x : Int) = ((x % 256 : Nat) : Int) := by rw [IntKind.wrap_u8']; omega
      have hw16 : IntKind.u16.wrap (x : Int) = ((x % 65536 : Nat) : Int) := by rw [IntKind.wrap_u16]; omega
      have hw32 : IntKind.u32.wrap (x : Int) = ((x % 4294967296 : Nat) : Int) := by rw [IntKind.wrap_u32']; omega
      have hwi : IntKind.i64.wrap (x : Int) = sg x := rfl
      have HC := Lib.hid (show ∀ W : World, Below wr.heap.size wr W → W.cell? ⟨bl, off + k, none⟩ = some (.int .u64 (x : Int)) from fun W hW => (hW.cell (p := ⟨bl, off + k, none⟩) (by show bl < wr.heap.size; have := dr.size; omega)).trans hck)
      have D0 : Below wr.heap.size wr wr.drew := (Below.refl _ _).drew
      have HY5 := Lib.hid hy5
      have hsg := sg_mod' x hx
      have HSG := Lib.hid hsg
      clear hy5 hsg
      go_wp2_with fail
      go_region_held3 (fun w' => w'.cell? ⟨bl, off + k, none⟩ = some (.int .u64 (x : Int))) (first | exact HC.out _ D0 | exact HC.out _ D1 | exact HC.out _ D2 | exact HC.out _ D3 | exact HC.out _ D4 | exact HC.out _ D5 | exact HC.out _ D6 | exact HC.out _ D7) (first
        | (go_at_call 8; (with_reducible refine (put8_any _ (x % 256) _ (by omega) (by omega)).mono ?_); rintro e w1 ⟨A1, c1, rfl, o1, b1⟩; rw [be_mod8] at o1; have D1 := D0.trans (b1.mono D0.size); clear D0)
        | (go_at_call 9; (with_reducible refine (put16_any _ (x % 65536) _ (by omega) (by omega)).mono ?_); rintro e w2 ⟨A2, c2, rfl, o2, b2⟩; rw [be_mod16] at o2; have D2 := below_next D1 b2; clear D1)
        | (go_at_call 10; (with_reducible refine (put32_any _ (x % 4294967296) _ (by omega) (by omega)).mono ?_); rintro e w3 ⟨A3, c3, rfl, o3, b3⟩; rw [be_mod32] at o3; have D3 := below_next D2 b3; clear D2)
        | (go_at_call 11; (with_reducible refine (put64_any _ x _ (by omega) (by omega)).mono ?_); rintro e w4 ⟨A4, c4, rfl, o4, b4⟩; have D4 := below_next D3 b4; clear D3)
        | (go_at_call 12; (with_reducible refine (putInt_any _ x _ (by first | exact HSG.out | (unfold wrap64; omega)) (by omega)).mono ?_); rintro e w5 ⟨A6, c6, rfl, o5, b5⟩; have D5 := below_next D4 b5; have D6 := D5.alloc D5.size (.cells #[.slice A5 n5 c5, .slice A1 1 c1, .slice A2 2 c2, .slice A3 4 c3, .slice A4 8 c4, .slice A6 8 c6] 25); clear D4)
        | (go_at_call 18; (with_reducible refine (join_any 6 6 (w5.heap.size + 1) _ [Pk.fives (l.take k), Pk.be 1 x, Pk.be 2 x, Pk.be 4 x, Pk.be 8 x, Pk.be 8 x] _ (rows_six ((HY5.out.below D5 (Nat.le_refl _)).more D5.size) ((((((Bytes.of_own o1 (Pk.be_lt 1 x)).below b2 (Nat.le_refl _)).below b3 b2.size).below b4 (Nat.le_trans b2.size b3.size)).below b5 (Nat.le_trans b2.size (Nat.le_trans b3.size b4.size))).more (Nat.le_trans b2.size (Nat.le_trans b3.size (Nat.le_trans b4.size b5.size)))) (((((Bytes.of_own o2 (Pk.be_lt 2 x)).below b3 (Nat.le_refl _)).below b4 b3.size).below b5 (Nat.le_trans b3.size b4.size)).more (Nat.le_trans b3.size (Nat.le_trans b4.size b5.size))) ((((Bytes.of_own o3 (Pk.be_lt 4 x)).below b4 (Nat.le_refl _)).below b5 b4.size).more (Nat.le_trans b4.size b5.size)) (((Bytes.of_own o4 (Pk.be_lt 8 x)).below b5 (Nat.le_refl _)).more b5.size) (Bytes.of_own o5 (Pk.be_lt 8 x)) (Nat.le_refl _) (by omega) (by omega) (by omega) (by omega) (by omega) (by omega)) (by simp) (by omega) (by rw [six_flat]; have := HNEW.out; omega)).mono ?_); rintro e w7 ⟨A7, c7, rfl, o7, b7⟩; have D7 := D6.trans (b7.mono D6.size); rw [six_flat] at o7 ⊢; obtain ⟨n7, hn7⟩ : ∃ n7, (Pk.fives (l.take k) ++ Pk.five x).length = n7 := ⟨_, rfl⟩; rw [hn7] at o7 ⊢; clear hn7; have F7 := Lib.hid (Bytes.of_own o7 HLT.out); have Z7 := own_cap o7; clear o7 b7))
      have E7 := dr.trans (D7.mono dr.size)
      clear D5 D6 D7 HC b1 b2 b3 b4 b5 o1 o2 o3 o4 o5
      go_wp2_with fail
      go_roundw
      case rel => exact ⟨k + 1, by omega, by go_num, ⟨A7, n7, c7, rfl, by rw [HN.out]; exact F7.out, Z7⟩, E7⟩
      case measure => simp [intOf]; omega
    · obtain rfl : n = k := by omega
      have hlen := HL.out.1
      rw [List.take_of_length_le (by omega)] at hy5
      have hn5 : n5 ≤ 460 := by have h := hy5.1; rw [Pk.fives_len, hlen] at h; omega
      have HY5 := Lib.hid hy5
      have HN5 := Lib.hid hy5.1
      clear hlen hy5
      go_wp2_with fail
      go_loopw [5, 7] (fun v i wx => ∃ j : Nat, j ≤ m ∧ i = .int .i64 j ∧ Brief ss j ∧ BBuf wx v (Pk.fives l ++ Pk.texts ((numsAll ss).take j)) ∧ Below w.heap.size w wx) (fun _ i _ => m - (intOf i).toNat)
      case atStart => exact ⟨0, by omega, rfl, fun i hi => absurd hi (by omega), ⟨A5, n5, c5, rfl, by rw [List.take_zero, show Pk.texts [] = [] from rfl, List.append_nil]; exact HY5.out, hc5⟩, dr⟩
      case round =>
        obtain ⟨j, hj, rfl, hbr, ⟨A6, n6, c6, rfl, hy6, hc6⟩, dx⟩ := hrel
        clear HY5 dr
        by_cases hlj : j < m
        · obtain ⟨bs, offs, rfl, hbs, hcs⟩ := (HS.out.below dx (Nat.le_refl _)).2.2 (by omega)
          have hcj := hcs j hlj
          have hsl := HS.out.le hlj
          have hj2 : j < ss.length := by rw [HS.out.1]; exact hlj
          have HN := Lib.hid (Pk.texts_snoc (numsAll ss) j (by rw [numsAll_len]; exact hj2))
          have HG := Lib.hid (numsAll_getD ss j hj2)
          have HB := Lib.hid hbr
          have HZ := Lib.hid (show (Pk.fives l ++ Pk.texts ((numsAll ss).take j)).length ≤ 6500 from by
            rw [List.length_append, Pk.fives_len]
            have h1 := brief_len ss j hbr (by omega)
            have h2 := HL.out.1
            omega)
          have HE := Lib.hid (show ∀ q, ss.getD j ByteArray.empty = q → q.size ≤ 300 → Brief ss (j + 1) from fun q hq h3 i hi => by
            by_cases e : i = j
            · subst e; rw [hq]; exact h3
            · exact HB.out i (by omega))
          generalize ss.getD j ByteArray.empty = s at *
          clear hcs hbr hj2
          by_cases h300 : 300 < s.size
          · go_wp2_with fail
            refine (works_any _).mono ?_
            rintro e w1 ⟨rfl, b1⟩
            have d1 := below_next dx b1
            go_wp2_with fail
            go_ret
            exact ⟨rfl, d1⟩
          · have HY6 := Lib.hid hy6
            have hn6 : n6 ≤ 6500 := by have h := hy6.1; have := HZ.out; omega
            clear hy6
            go_wp2_with fail
            refine (putText_any s _ (by omega)).mono ?_
            rintro e w1 ⟨A1, c1, rfl, o1, b1⟩
            have d1 := below_next dx b1
            have f1 := Bytes.of_own o1 (Pk.tx_lt _ (nums_lt s))
            have f6 := (HY6.out.below b1 (Nat.le_refl _)).more b1.size
            have d2 := d1.alloc d1.size (.cells #[.slice A6 n6 c6, .slice A1 (s.size + 2) c1] 25)
            have z1 := d1.size
            clear o1 b1 dx
            go_wp2_with fail
            refine (join_any 2 2 (w1.heap.size + 1) _ [Pk.fives l ++ Pk.texts ((numsAll ss).take j), Pk.tx (nums s)] _ (rows_two f6 f1 (Nat.le_refl _) (by omega) (by omega)) (by simp) (by omega) (by rw [two_flat, List.length_append, f1.1]; have := HZ.out; omega)).mono ?_
            rintro e w2 ⟨A2, c2, rfl, o2, b2⟩
            rw [two_flat] at o2 ⊢
            obtain ⟨n2, hn2⟩ : ∃ n2, (Pk.fives l ++ Pk.texts ((numsAll ss).take j) ++ Pk.tx (nums s)).length = n2 := ⟨_, rfl⟩
            rw [hn2] at o2 ⊢
            have F2 := Lib.hid (Bytes.of_own o2 (app_lt (app_lt (Pk.fives_lt l) (texts_take_lt ss j)) (Pk.tx_lt _ (nums_lt s))))
            have Z2 := own_cap o2
            have d3 : Below w.heap.size w w2 := d2.trans (b2.mono d2.size)
            clear hn2 o2 b2 d2 f1 f6 d1
            go_wp2_with fail
            go_roundw
            case rel => exact ⟨j + 1, by omega, by go_num, HE.out s rfl (by omega), ⟨A2, n2, c2, rfl, by rw [HN.out, HG.out, ← List.append_assoc]; exact F2.out, Z2⟩, d3⟩
            case measure => simp [intOf]; omega
        · obtain rfl : m = j := by omega
          have hml := HS.out.1
          have HBR := Lib.hid hbr
          have hz := brief_len ss m hbr (by omega)
          rw [List.take_of_length_le (by rw [numsAll_len]; omega)] at hy6 hz
          obtain ⟨T, hT⟩ : ∃ T, Pk.texts (numsAll ss) = T := ⟨_, rfl⟩
          rw [hT] at hy6 hz
          have HT := Lib.hid hT
          have hn6 : n6 ≤ 6500 := by have h := hy6.1; rw [List.length_append, Pk.fives_len] at h; have := HL.out.1; omega
          have HY6 := Lib.hid hy6
          have HN6 := Lib.hid hy6.1
          clear hbr hml hz hT hy6
          obtain ⟨i0, hi, hz0, hz1, hz2⟩ := info_parts Try.info5
          have hcut := run_cut_h (P := Try.prog) 25 5 i0 Try.underlying25 hi A6 n6 c6 (n6 - 1) (by omega)
          have hmax : ∀ W : World, (Builtin.max_ #[3, 3] 3 #[.int .i64 0, .int .i64 ((n6 : Int) - 1)]).run Try.prog W = .ok (.int .i64 ((n6 - 1 : Nat) : Int)) W := fun W => max_run n6 W
          clear hi hz0 hz1 hz2
          go_wp2_with fail
          refine (of_any n6 c6 _ A6 _ _ HY6.out (Nat.le_refl _) (by omega)).mono ?_
          rintro e w1 ⟨g1, rfl, r1, l1, b1⟩
          have d1 := below_next dx b1
          have f1 := (HY6.out.below b1 (Nat.le_refl _)).more b1.size
          have f2 := f1.head (j := n6 - 1) (by omega)
          have y1 := r1.here
          have R1 := Lib.hid r1
          have zx := dx.size
          clear r1 f1 dx HY6
          go_wp2_with fail
          refine (of_any (n6 - 1) c6 _ A6 _ _ f2 (Nat.le_refl _) (by omega)).mono ?_
          rintro e w2 ⟨g2, rfl, r2, l2, b2⟩
          have d2 := below_next d1 b2
          have R12 := R1.out.below b2 y1
          have hsh : n6 ≠ 0 → Pk.Short ((Pk.fives l ++ T).take (n6 - 1)) false (Pk.fives (l.drop 0) ++ T) := fun h0 => .inr ⟨rfl, by
            rw [List.drop_zero]
            intro e
            have := HN6.out
            rw [e] at this
            exact h0 this.symm, by rw [List.drop_zero, List.dropLast_eq_take, HN6.out]⟩
          have hst : Two w2 wr.heap.size g1 w1.heap.size g2 (n6 ≠ 0) (Pk.fives (l.drop 0) ++ T) := ⟨by rw [List.drop_zero]; exact R12, _, _, r2, hsh⟩
          generalize wr.heap.size = lo1 at *
          generalize w1.heap.size = lo2 at *
          clear b1 b2 R1 R12 r2 hsh f2 d1 hcut hmax
          go_wp2_with fail
          go_loopw [12] (fun i wx => ∃ k : Nat, k ≤ n ∧ i = .int .i64 k ∧ Two wx lo1 g1 lo2 g2 (n6 ≠ 0) (Pk.fives (l.drop k) ++ T) ∧ Below w.heap.size w wx) (fun i _ => n - (intOf i).toNat)
          case atStart => exact ⟨0, by omega, rfl, hst, d2⟩
          case round =>
            obtain ⟨k, hkn, rfl, ⟨q1, ls, f, q2, hsh⟩, dx⟩ := hrel
            clear hst d2
            by_cases hlk : k < n
            · obtain ⟨bl, off, rfl, hbl, hc⟩ := (HL.out.below dx (Nat.le_refl _)).2.2 (by omega)
              have hck := hc k hlk
              have hx := HL.out.lt k
              have hrem := rem_step l T k (by rw [HL.out.1]; exact hlk)
              have HPrev := Lib.hid (show 0 < k → (∀ W : World, Below w.heap.size w W → W.cell? ⟨bl, off + (k - 1), none⟩ = some (.int .u64 ((l.getD (k - 1) 0 : Nat) : Int))) ∧ l.getD (k - 1) 0 < 18446744073709551616 from fun h0 => ⟨fun W hW => (hW.cell (p := ⟨bl, off + (k - 1), none⟩) (show bl < w.heap.size from hbl)).trans ((dx.cell (p := ⟨bl, off + (k - 1), none⟩) (show bl < w.heap.size from hbl)).symm.trans (hc (k - 1) (by omega))), HL.out.lt (k - 1)⟩)
              rw [hrem] at q1 hsh
              generalize l.getD k 0 = x at *
              generalize hR : Pk.fives (l.drop (k + 1)) ++ T = R at *
              have HRR := Lib.hid hR
              clear hR
              have hw8 : IntKind.u8.wrap (x : Int) = ((x % 256 : Nat) : Int) := by rw [IntKind.wrap_u8']; omega
              have hw16 : IntKind.u16.wrap (x : Int) = ((x % 65536 : Nat) : Int) := by rw [IntKind.wrap_u16]; omega
              have hw32 : IntKind.u32.wrap (x : Int) = ((x % 4294967296 : Nat) : Int) := by rw [IntKind.wrap_u32']; omega
              have hwi : IntKind.i64.wrap (x : Int) = sg x := rfl
              have HC := Lib.hid (show ∀ W : World, Below w.heap.size w W → W.cell? ⟨bl, off + k, none⟩ = some (.int .u64 (x : Int)) from fun W hW => by
                have h1 := hW.cell (p := ⟨bl, off + k, none⟩) (show bl < w.heap.size from hbl)
                have h2 := dx.cell (p := ⟨bl, off + k, none⟩) (show bl < w.heap.size from hbl)
                exact h1.trans (h2.symm.trans hck))
              have Q0 := Lib.hid (show Rd wr.drew lo1 g1 _ false from q1)
              have P0 := Lib.hid (show Rd wr.drew lo2 g2 ls f from q2)
              have E0 := dx.drew
              have HSH := Lib.hid hsh
              have zg := q2.here
              clear hc hrem q1 q2 dx hsh
              go_wp2_with fail
              go_region_held3 (fun w' => w'.cell? ⟨bl, off + k, none⟩ = some (.int .u64 (x : Int))) (first | exact HC.out _ E0 | exact HC.out _ E1 | exact HC.out _ E2 | exact HC.out _ E3 | exact HC.out _ E4 | exact HC.out _ E5) (first
                | (go_at_call 24; have _ := Q0; (with_reducible refine (u8_any _ g1 _ _ _ Q0.out).mono ?_); rintro e v0 ⟨rfl, r0, j0⟩; rw [tk8]; rw [Pk.left_be, Pk.fails_be] at r0; have E1 := below_rd E0 j0 (by omega); have P1 := Lib.hid (P0.out.kept j0 (.inr (by omega)) (by omega)); have Q1 := Lib.hid r0; clear Q0 P0 j0 r0)
                | (go_at_call 25; have _ := Q1; (with_reducible refine (u16_any _ g1 _ _ _ Q1.out).mono ?_); rintro e v1 ⟨rfl, r1, j1⟩; rw [tk16]; rw [Pk.left_be, Pk.fails_be] at r1; have E2 := below_rd E1 j1 (by omega); have P2 := Lib.hid (P1.out.kept j1 (.inr (by omega)) (by omega)); have Q2 := Lib.hid r1; clear Q1 P1 j1 r1)
                | (go_at_call 26; have _ := Q2; (with_reducible refine (u32_any _ g1 _ _ _ Q2.out).mono ?_); rintro e v2 ⟨rfl, r2, j2⟩; rw [tk32]; rw [Pk.left_be, Pk.fails_be] at r2; have E3 := below_rd E2 j2 (by omega); have P3 := Lib.hid (P2.out.kept j2 (.inr (by omega)) (by omega)); have Q3 := Lib.hid r2; clear Q2 P2 j2 r2)
                | (go_at_call 27; have _ := Q3; (with_reducible refine (u64_any _ g1 _ _ _ Q3.out).mono ?_); rintro e v3 ⟨rfl, r3, j3⟩; rw [tk64 x _ hx]; rw [Pk.left_be, Pk.fails_be] at r3; have E4 := below_rd E3 j3 (by omega); have P4 := Lib.hid (P3.out.kept j3 (.inr (by omega)) (by omega)); have Q4 := Lib.hid r3; clear Q3 P3 j3 r3)
                | (go_at_call 28; have _ := Q4; (with_reducible refine (int_any _ g1 _ _ _ Q4.out).mono ?_); rintro e v4 ⟨rfl, r4, j4⟩; rw [tk64 x _ hx]; rw [Pk.left_be, Pk.fails_be] at r4; have E5 := below_rd E4 j4 (by omega); have P5 := Lib.hid (P4.out.kept j4 (.inr (by omega)) (by omega)); have Q5 := Lib.hid r4; clear Q4 P4 j4 r4))
              clear E0 E1 E2 E3 E4 hw8 hw16 hw32 hwi
              have SP0 := P5
              have SQ0 := Q5
              clear P5 Q5
              go_wp2_with fail
              refine (u8_any _ g2 _ _ _ SP0.out).mono ?_
              rintro e x0 ⟨rfl, s0, m0⟩
              have SQ1 := Lib.hid (SQ0.out.kept m0 (.inl (by omega)) (by omega))
              have E6 := below_rd E5 m0 (by omega)
              have SP1 := Lib.hid s0
              clear SP0 SQ0 m0 s0 E5
              go_wp2_with fail
              refine (u16_any _ g2 _ _ _ SP1.out).mono ?_
              rintro e x1 ⟨rfl, s1, m1⟩
              have SQ2 := Lib.hid (SQ1.out.kept m1 (.inl (by omega)) (by omega))
              have E7 := below_rd E6 m1 (by omega)
              have SP2 := Lib.hid s1
              clear SP1 SQ1 m1 s1 E6
              go_wp2_with fail
              refine (u32_any _ g2 _ _ _ SP2.out).mono ?_
              rintro e x2 ⟨rfl, s2, m2⟩
              have SQ3 := Lib.hid (SQ2.out.kept m2 (.inl (by omega)) (by omega))
              have E8 := below_rd E7 m2 (by omega)
              have SP3 := Lib.hid s2
              clear SP2 SQ2 m2 s2 E7
              go_wp2_with fail
              refine (u64_any _ g2 _ _ _ SP3.out).mono ?_
              rintro e x3 ⟨rfl, s3, m3⟩
              have SQ4 := Lib.hid (SQ3.out.kept m3 (.inl (by omega)) (by omega))
              have E9 := below_rd E8 m3 (by omega)
              have SP4 := Lib.hid s3
              clear SP3 SQ3 m3 s3 E8
              go_wp2_with fail
              refine (int_any _ g2 _ _ _ SP4.out).mono ?_
              rintro e x4 ⟨rfl, s4, m4⟩
              have SQ5 := Lib.hid (SQ4.out.kept m4 (.inl (by omega)) (by omega))
              have E10 := below_rd E9 m4 (by omega)
              have SP5 := Lib.hid s4
              clear SP4 SQ4 m4 s4 E9
              go_wp2_with fail
              have hsh5 : n6 ≠ 0 → Pk.Short _ _ R := fun h0 => (((((HSH.out h0).be).be).be).be).be
              have HS5 := Lib.hid hsh5
              clear hsh5 HSH
              by_cases hk0 : k = 0
              · subst hk0
                go_quiet (fail)
                go_wp2_with fail
                go_roundw
                case rel => exact ⟨0 + 1, by omega, by go_num, by rw [HRR.out]; exact ⟨SQ5.out, _, _, SP5.out, HS5.out⟩, below_drewN E10 _⟩
                case measure => simp [intOf]; omega
              · obtain ⟨hprev, hy⟩ := HPrev.out (by omega)
                obtain ⟨p, hp⟩ : ∃ p : Nat, k - 1 = p := ⟨_, rfl⟩
                rw [hp] at hprev hy
                generalize l.getD p 0 = y at hprev hy
                have HCP := Lib.hid hprev
                have hsub : IntKind.i64.wrap ((k : Int) - 1) = (p : Int) := by rw [IntKind.wrap_i64]; omega
                have hp0 : (0 : Int) ≤ p := by omega
                have hp1 : (p : Int) < n := by omega
                have hk1 : (0 : Int) < k := by omega
                have hkn : 0 < k := by omega
                have hkd : decide ((0 : Int) < (k : Int)) = true := decide_eq_true hk1
                have hk2 : (k : Int) < n := by omega
                have HP := Lib.hid hp
                have F0 := E10.drew
                have X0 : Below x4.heap.size x4 x4.drew := (Below.refl _ _).drew
                have hless : Op.bytesLess (textOf (Pk.be 8 y)).toList (textOf (Pk.be 8 x)).toList = decide ((y : Int) < (x : Int)) := by
                  rw [less_text y x hy hx]
                  simp
                generalize hT1 : textOf (Pk.be 8 y) = T1 at hless
                generalize hT2 : textOf (Pk.be 8 x) = T2 at hless
                have HT1 := Lib.hid hT1
                have HT2 := Lib.hid hT2
                clear hprev hp hT1 hT2
                go_region_held3 (fun W => W.cell? ⟨bl, off + k, none⟩ = some (.int .u64 (x : Int)) ∧ W.cell? ⟨bl, off + p, none⟩ = some (.int .u64 (y : Int))) (first
                  | exact ⟨HC.out _ F0, HCP.out _ F0⟩
                  | exact ⟨HC.out _ F1, HCP.out _ F1, HV1.out _ (Below.refl _ _)⟩
                  | exact ⟨HC.out _ F2, HCP.out _ F2, HV1.out _ G2, HV2.out _ (Below.refl _ _)⟩) (first
                  | (go_at_call 11; have _ := F1; (with_reducible refine (put64_any _ x _ (by omega) (by omega)).mono ?_); rintro e y2 ⟨A8, c8, rfl, o8, b8⟩; have HV2 := Lib.hid (fun (W : World) (hW : Below y2.heap.size y2 W) => HT2.out ▸ (conv_bytes (c := c8) ((Bytes.of_own o8 (Pk.be_lt 8 x)).below hW (Nat.le_refl _))).2.2); have F2 := below_next F1 b8; have X2 := below_next X1 b8; have G2 := b8; simp only [grow (S := fun W => W.cell? ⟨bl, off + k, none⟩ = some (.int .u64 (x : Int)) ∧ W.cell? ⟨bl, off + p, none⟩ = some (.int .u64 (y : Int)) ∧ (convert 25 9 (.slice A7 8 c7)).run Try.prog W = .ok (.string T1) W) (S' := fun W => W.cell? ⟨bl, off + k, none⟩ = some (.int .u64 (x : Int)) ∧ W.cell? ⟨bl, off + p, none⟩ = some (.int .u64 (y : Int)) ∧ (convert 25 9 (.slice A7 8 c7)).run Try.prog W = .ok (.string T1) W ∧ (convert 25 9 (.slice A8 8 c8)).run Try.prog W = .ok (.string T2) W) (fun _ h => ⟨h.1, h.2.1, h.2.2.1⟩) ‹Shut _›] at *; clear F1 X1 b8 o8)
                  | (go_at_call 11; (with_reducible refine (put64_any _ y _ (by omega) (by omega)).mono ?_); rintro e y1 ⟨A7, c7, rfl, o7, b7⟩; have HV1 := Lib.hid (fun (W : World) (hW : Below y1.heap.size y1 W) => HT1.out ▸ (conv_bytes (c := c7) ((Bytes.of_own o7 (Pk.be_lt 8 y)).below hW (Nat.le_refl _))).2.2); have F1 := below_next F0 b7; have X1 := below_next X0 b7; simp only [grow (S := fun W => W.cell? ⟨bl, off + k, none⟩ = some (.int .u64 (x : Int)) ∧ W.cell? ⟨bl, off + p, none⟩ = some (.int .u64 (y : Int))) (S' := fun W => W.cell? ⟨bl, off + k, none⟩ = some (.int .u64 (x : Int)) ∧ W.cell? ⟨bl, off + p, none⟩ = some (.int .u64 (y : Int)) ∧ (convert 25 9 (.slice A7 8 c7)).run Try.prog W = .ok (.string T1) W) (fun _ h => ⟨h.1, h.2.1⟩) ‹Shut _›] at *; clear F0 X0 b7 o7))
                go_wp2_with fail
                go_roundw
                case rel => exact ⟨k + 1, by omega, by go_num, by rw [HRR.out]; exact ⟨SQ5.out.below X2 SQ5.out.here, _, _, SP5.out.below X2 SP5.out.here, HS5.out⟩, F2⟩
                case measure => simp [intOf]; omega
            · obtain rfl : n = k := by omega
              rw [List.drop_eq_nil_of_le (by rw [HL.out.1]; exact Nat.le_refl _), show Pk.fives [] = [] from rfl, List.nil_append, ← HT.out] at q1 hsh
              have hst : Two wr lo1 g1 lo2 g2 (n6 ≠ 0) (Pk.texts ((numsAll ss).drop 0)) := by rw [List.drop_zero]; exact ⟨q1, ls, f, q2, hsh⟩
              clear q1 q2 hsh
              go_wp2_with fail
              go_loopw [13] (fun i wx => ∃ j : Nat, j ≤ m ∧ i = .int .i64 j ∧ Two wx lo1 g1 lo2 g2 (n6 ≠ 0) (Pk.texts ((numsAll ss).drop j)) ∧ Below w.heap.size w wx) (fun i _ => m - (intOf i).toNat)
              case atStart => exact ⟨0, by omega, rfl, hst, dx⟩
              case round =>
                obtain ⟨j, hjm, rfl, ⟨q1, ls, f, q2, hsh⟩, dy⟩ := hrel
                clear hst dx
                by_cases hlj2 : j < m
                · obtain ⟨bs, offs, rfl, hbs, hcs⟩ := (HS.out.below dy (Nat.le_refl _)).2.2 (by omega)
                  have hcj := hcs j hlj2
                  have hj2 : j < ss.length := by rw [HS.out.1]; exact hlj2
                  have hrem := Pk.texts_step (numsAll ss) j (by rw [numsAll_len]; exact hj2)
                  rw [numsAll_getD ss j hj2] at hrem
                  have h300 := HBR.out j hlj2
                  rw [hrem] at q1 hsh
                  generalize ss.getD j ByteArray.empty = s at *
                  generalize hR : Pk.texts ((numsAll ss).drop (j + 1)) = R at *
                  have HRR := Lib.hid hR
                  clear hR
                  have hsl : (nums s).length < 65536 := by rw [nums_len]; omega
                  have HC := Lib.hid (show ∀ W : World, Below w.heap.size w W → W.cell? ⟨bs, offs + j, none⟩ = some (.string s) from fun W hW => by
                    have h1 := hW.cell (p := ⟨bs, offs + j, none⟩) (show bs < w.heap.size from hbs)
                    have h2 := dy.cell (p := ⟨bs, offs + j, none⟩) (show bs < w.heap.size from hbs)
                    exact h1.trans (h2.symm.trans hcj))
                  have Q0 := Lib.hid (show Rd wr.drew lo1 g1 _ false from q1)
                  have P0 := Lib.hid (show Rd wr.drew lo2 g2 ls f from q2)
                  have E0 := dy.drew
                  have HSH := Lib.hid hsh
                  clear hcs hrem q1 q2 dy hsh hj2
                  go_wp2_with fail
                  go_region_held3 (fun w' => w'.cell? ⟨bs, offs + j, none⟩ = some (.string s)) (first | exact HC.out _ E0 | exact HC.out _ E1) (first
                    | (go_at_call 29; (with_reducible refine (text_any _ g1 _ _ _ Q0.out).mono ?_); rintro e v1 ⟨rfl, r1, j1⟩; rw [Pk.ttaken_at _ _ hsl, text_back]; rw [Pk.tleft_at _ _ hsl, Pk.tfails_at _ _ hsl] at r1; have E1 := below_rd E0 j1 (by omega); have P1 := Lib.hid (P0.out.kept j1 (.inr (by omega)) (by omega)); have Q1 := Lib.hid r1; clear Q0 P0 j1 r1))
                  clear E0 HC
                  go_wp2_with fail
                  refine (text_any _ g2 _ _ _ P1.out).mono ?_
                  rintro e v2 ⟨rfl, s2, m2⟩
                  have Q2 := Q1.out.kept m2 (.inl (by omega)) (by omega)
                  have E2 := below_rd E1 m2 (by omega)
                  have hsh2 : n6 ≠ 0 → Pk.Short (Pk.tleft f ls) (Pk.tfails f ls) R := fun h0 => (HSH.out h0).text hsl
                  clear Q1 P1 E1 m2 HSH
                  go_wp2_with fail
                  go_roundw
                  case rel => exact ⟨j + 1, by omega, by go_num, by rw [HRR.out]; exact ⟨Q2, _, _, s2, hsh2⟩, E2⟩
                  case measure => simp [intOf]; omega
                · obtain rfl : m = j := by omega
                  rw [List.drop_eq_nil_of_le (by rw [numsAll_len, HS.out.1]; exact Nat.le_refl _), show Pk.texts [] = [] from rfl] at q1 hsh
                  by_cases h0 : n6 = 0
                  · subst h0
                    clear hsh
                    go_wp2_with fail
                    refine (err_any _ _ _ _ _ q1).mono ?_
                    rintro e w' ⟨rfl, rfl⟩
                    rw [show errOf false = 0 from rfl]
                    go_wp2_with fail
                    refine (done_any _ _ _ _ _ q1).mono ?_
                    rintro e w' ⟨rfl, rfl⟩
                    rw [show doneOf false ([] : List Nat).length = 0 from rfl]
                    go_wp2_with fail
                    refine (works_any _).mono ?_
                    rintro e w9 ⟨rfl, b9⟩
                    have d9 := below_next dy b9
                    go_wp2_with fail
                    go_ret
                    exact ⟨rfl, d9⟩
                  · obtain rfl : f = true := (hsh h0).end_
                    clear hsh
                    go_wp2_with fail
                    refine (err_any _ _ _ _ _ q1).mono ?_
                    rintro e w' ⟨rfl, rfl⟩
                    rw [show errOf false = 0 from rfl]
                    go_wp2_with fail
                    refine (done_any _ _ _ _ _ q1).mono ?_
                    rintro e w' ⟨rfl, rfl⟩
                    rw [show doneOf false ([] : List Nat).length = 0 from rfl]
                    go_wp2_with fail
                    refine (err_any _ _ _ _ _ q2).mono ?_
                    rintro e w' ⟨rfl, rfl⟩
                    rw [show errOf true = 20 from rfl]
                    go_wp2_with fail
                    refine (works_any _).mono ?_
                    rintro e w9 ⟨rfl, b9⟩
                    have d9 := below_next dy b9
                    go_wp2_with fail
                    go_ret
                    exact ⟨rfl, d9⟩
end Go.Proofs.Ytadcjllfabihbaa
