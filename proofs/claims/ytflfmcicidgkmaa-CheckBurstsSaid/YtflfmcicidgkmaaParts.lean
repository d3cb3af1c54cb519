/- CheckParts, walked: bytes parted anywhere have the same check. -/
import Derived.Test.YtflfmcicidgkmaaWalkI
import Derived.Deep.RegionHeld3
namespace Go.Proofs.Ytflfmcicidgkmaa
open Go.ChangeShapes Go.WideShapes Go.ChangeAt Go.RowKit

theorem Bytes.head {w : World} {B n : Nat} {A : Option Addr} {l : List Nat} (h : Bytes w B A n l) {j : Nat} (hj : j ≤ n) : Bytes w B A j (l.take j) := by
  refine ⟨by rw [List.length_take, h.1]; omega, h.take_lt j, fun h0 => ?_⟩
  obtain ⟨b, off, e, hb, hc⟩ := h.2.2 (by omega)
  refine ⟨b, off, e, hb, fun i hi => ?_⟩
  rw [hc i (by omega), List.getD_eq_getElem?_getD, List.getD_eq_getElem?_getD, List.getElem?_take_of_lt hi]
theorem Bytes.cut {w : World} {B n c : Nat} {A : Option Addr} {l : List Nat} (h : Bytes w B A n l) {i : Nat} (hi : i ≤ n) (hc : n ≤ c) : Bytes w B (if c = i then A else A.map (·.add i)) (n - i) (l.drop i) := by
  refine ⟨by rw [List.length_drop, h.1], fun x hx => h.2.1 x (List.mem_of_mem_drop hx), fun h0 => ?_⟩
  obtain ⟨b, off, rfl, hb, hc'⟩ := h.2.2 (by omega)
  rw [if_neg (by omega)]
  refine ⟨b, off + i, by simp [add_at], hb, fun j hj => ?_⟩
  rw [Nat.add_assoc, hc' (i + j) (by omega), List.getD_eq_getElem?_getD, List.getD_eq_getElem?_getD, List.getElem?_drop]

theorem own_le {w : World} {base n c size : Nat} {e : TypeId} {A : Option Addr} {xs : List Value} (h : w.ownsRow base e size (.slice A n c) n xs) : base ≤ w.heap.size ∨ A = none := by
  rcases h.2 with ⟨hv, _⟩ | ⟨g, cap, cur, _, hb, hh, _⟩
  · injection hv with h1; exact .inr h1
  · refine .inl ?_
    rcases Nat.lt_or_ge g w.heap.size with hl | hl
    · omega
    · rw [Array.getElem?_eq_none hl] at hh; cases hh
theorem grow_below {w w1 w2 : World} {o : Obj} {row : Option Nat} (h : Below w.heap.size w w1) (hg : (w1.alloc o).grownBy w2 row) (hr : ∀ g, row = some g → w.heap.size ≤ g) : Below w.heap.size w w2 :=
  (h.alloc h.size o).trans ⟨hg.os, hg.tape, hg.output, hg.size, fun k hk => hg.block k (by have := h.size; simp; omega) (fun e => by have := hr k e.symm; omega)⟩
theorem own_far {w : World} {base B n c size : Nat} {e : TypeId} {A : Option Addr} {xs : List Value} (h : w.ownsRow base e size (.slice A n c) n xs) (hB : B ≤ base) : ∀ g, (Value.slice A n c).ownBlock = some g → B ≤ g := by
  intro g hg
  have := (h.lt g hg).1
  omega
theorem parts_lt {l : List Nat} {s : Nat} (h : ∀ x ∈ l, x < 256) (hs : s < 4294967296) : ∀ x ∈ l ++ [s % 256, s / 256 % 256, s / 65536 % 256, s / 16777216], x < 256 := by
  intro x hx
  rw [List.mem_append] at hx
  rcases hx with hx | hx
  · exact h x hx
  · simp at hx; omega
theorem parts_cat (l : List Nat) (p q : Nat) : l.take p ++ ((l.drop p).take q ++ l.drop (p + q)) = l := by
  rw [← List.drop_drop, List.take_append_drop, List.take_append_drop]
theorem parts_sum (l : List Nat) (p q s : Nat) (h : Crc.sum [l] = s) : Crc.sum [l.take p, (l.drop p).take q, [], l.drop (p + q)] = s := by
  rw [Crc.sum_flatten, ← h, ← Crc.upd_zero]
  simp only [List.flatten_cons, List.flatten_nil, List.nil_append, List.append_nil, parts_cat]
theorem parts_upd (l : List Nat) (p q s : Nat) (hl : ∀ x ∈ l, x < 256) (h : Crc.sum [l] = s) : Crc.upd (Crc.upd (Crc.sum [l.take p]) ((l.drop p).take q)) (l.drop (p + q)) = s := by
  have h1 : ∀ x ∈ l.take p, x < 256 := fun x hx => hl x (List.mem_of_mem_take hx)
  have h2 : ∀ x ∈ (l.drop p).take q, x < 256 := fun x hx => hl x (List.mem_of_mem_drop (List.mem_of_mem_take hx))
  rw [← Crc.upd_zero, Crc.upd_upd _ _ _ (by omega) h1, Crc.upd_upd _ _ _ (by omega), List.append_assoc, parts_cat, Crc.upd_zero, h]
  intro x hx
  rcases List.mem_append.1 hx with hx | hx
  · exact h1 x hx
  · exact h2 x hx
theorem parts_res (l : List Nat) (s : Nat) (hl : ∀ x ∈ l, x < 256) (h : Crc.sum [l] = s) : Crc.sum [l ++ [s % 256, s / 256 % 256, s / 65536 % 256, s / 16777216]] = 558161692 := by
  rw [← h]
  exact Crc.residue l hl
section
variable {P : Program} (t e : TypeId) (i : TypeInfo) (ht : P.underlying t = some (.slice e)) (hi : P.info? e = some i) (hz : i.size = 1) (a : Option Addr) (len cap : Nat)
include ht hi hz
omit hz in
theorem run_cut_h (h : Nat) (h2 : h ≤ cap) (W : World) : (Instr.sliceAt t (.slice a len cap) none (some (.int .i64 (h : Int))) none).run P W = .ok (.slice a h cap) W := by
  have hb := run_sliceBound (P := P) (w := W) .i64 (h : Int) cap .sliceAcap (by omega) (by omega)
  have ha : a.map (·.add 0) = a := by cases a <;> simp [Addr.add]
  simp [Instr.sliceAt, Instr.slice, run_underlying ht, Instr.sliceBounds, hb, sizeOf, typeInfo, hi, ha]
theorem run_cut_lh (l h : Nat) (v : Int) (hv : v = h) (h1 : l ≤ h) (h2 : h ≤ cap) (W : World) : (Instr.sliceAt t (.slice a len cap) (some (.int .i64 (l : Int))) (some (.int .i64 v)) none).run P W = .ok (.slice (if cap = l then a else a.map (·.add l)) (h - l) (cap - l)) W := by
  subst hv
  have hb := run_sliceBound (P := P) (w := W) .i64 (h : Int) cap .sliceAcap (by omega) (by omega)
  have hl := run_sliceBound (P := P) (w := W) .i64 (l : Int) h .sliceB (by omega) (by omega)
  simp [Instr.sliceAt, Instr.slice, run_underlying ht, Instr.sliceBounds, hb, hl, sizeOf, typeInfo, hi, hz]
theorem run_cut_l (l : Nat) (v : Int) (hv : v = l) (h1 : l ≤ len) (W : World) : (Instr.sliceAt t (.slice a len cap) (some (.int .i64 v)) none none).run P W = .ok (.slice (if cap = l then a else a.map (·.add l)) (len - l) (cap - l)) W := by
  subst hv
  have hl := run_sliceBound (P := P) (w := W) .i64 (l : Int) len .sliceB (by omega) (by omega)
  simp [Instr.sliceAt, Instr.slice, run_underlying ht, Instr.sliceBounds, hl, sizeOf, typeInfo, hi, hz]
end
theorem below_next {w w1 w2 : World} (h : Below w.heap.size w w1) (h2 : Below w1.heap.size w1 w2) : Below w.heap.size w w2 := h.trans (h2.mono h.size)
theorem rows_four {w : World} {B n1 n2 n3 c1 c2 c3 : Nat} {a1 a2 a3 : Option Addr} {l1 l2 l3 : List Nat} {t : TypeId} (h1 : Bytes w B a1 n1 l1) (h2 : Bytes w B a2 n2 l2) (h3 : Bytes w B a3 n3 l3) (hB : B ≤ w.heap.size)
    (m1 : n1 ≤ 9223372036854775807) (m2 : n2 ≤ 9223372036854775807) (m3 : n3 ≤ 9223372036854775807) :
    RowsOf (w.alloc (.cells #[.slice a1 n1 c1, .slice a2 n2 c2, .slice none 0 0, .slice a3 n3 c3] t)).drew (w.heap.size + 1) (some ⟨w.heap.size, 0, none⟩) 4 [l1, l2, [], l3] := by
  have hk := Blk.new w t #[.slice a1 n1 c1, .slice a2 n2 c2, .slice none 0 0, .slice a3 n3 c3]
  refine ⟨rfl, fun _ => ⟨w.heap.size, 0, rfl, by omega, fun i hi => ?_⟩⟩
  match i, hi with
  | 0, _ => exact ⟨a1, n1, c1, hk.cell 0, m1, (h1.alloc hB _).more (by omega)⟩
  | 1, _ => exact ⟨a2, n2, c2, hk.cell 1, m2, (h2.alloc hB _).more (by omega)⟩
  | 2, _ => exact ⟨none, 0, 0, hk.cell 2, by omega, Bytes.nil⟩
  | 3, _ => exact ⟨a3, n3, c3, hk.cell 3, m3, (h3.alloc hB _).more (by omega)⟩
theorem below_one {w w1 w2 : World} {o : Obj} (h : Below w.heap.size w w1) (h2 : Below (w1.alloc o).heap.size (w1.alloc o) w2) : Below w.heap.size w w2 :=
  (h.alloc h.size o).trans (h2.mono (by have := h.size; simp; omega))

set_option maxRecDepth 100000 in
set_option maxHeartbeats 2000000 in
theorem parts_any (n c : Nat) (A : Option Addr) (l : List Nat) (i k : Int) (w : World) (hb : Bytes w w.heap.size A n l) (hc : n ≤ c) :
    Calls Try.prog 4 #[.slice A n c, .int .i64 i, .int .i64 k] w fun e w' => e = .returned (.bool true) ∧ Below w.heap.size w w' := by
  by_cases hbig : 600 < n
  · have hd : decide (600 < (n : Int)) = true := by simp; omega
    go_enter Try.func4, Try.ntmps4
    go_wp2_with fail
    refine (works_any _).mono ?_
    rintro e w1 ⟨rfl, b1⟩
    go_wp2_with fail
    go_ret
    exact ⟨rfl, b1⟩
  · have hd : decide (600 < (n : Int)) = false := by simp; omega
    go_enter Try.func4, Try.ntmps4
    go_wp2_with fail
    refine (pick_any _ _ _ (by omega) (by omega)).mono ?_
    rintro e w1 ⟨rfl, rfl⟩
    obtain ⟨p, hp⟩ := Int.eq_ofNat_of_zero_le (Int.emod_nonneg i (show (n : Int) + 1 ≠ 0 by omega))
    have hp1 : p ≤ n := by have := Int.emod_lt_of_pos i (show (0 : Int) < n + 1 by omega); omega
    rw [hp]
    clear hp
    go_wp2_with fail
    refine (pick_any _ _ _ (by omega) (by omega)).mono ?_
    rintro e w1 ⟨rfl, rfl⟩
    obtain ⟨q, hq⟩ := Int.eq_ofNat_of_zero_le (Int.emod_nonneg k (show (n : Int) - p + 1 ≠ 0 by omega))
    have hq1 : p + q ≤ n := by have := Int.emod_lt_of_pos k (show (0 : Int) < n - p + 1 by omega); omega
    rw [hq]
    clear hq
    go_wp2_with fail
    refine (sum_any 1 1 (w.heap.size + 1) _ [l] _ (RowsOf.made hb (Nat.le_refl _) (by omega)) (by simp) (by omega)).mono ?_
    rintro e w1 ⟨rfl, b1⟩
    have c1 : Below w.heap.size w w1 := below_one (Below.refl _ _) b1
    clear b1
    go_wp2_with fail
    refine (sum_any 1 1 (w1.heap.size + 1) _ [l] _ (RowsOf.made (hb.below c1 (Nat.le_refl _)) c1.size (by omega)) (by simp) (by omega)).mono ?_
    rintro e w2 ⟨rfl, b2⟩
    have c2 : Below w.heap.size w w2 := below_one c1 b2
    clear b2 c1
    go_wp2_with fail
    refine (own_any n c w.heap.size A l w2 (hb.below c2 (Nat.le_refl _)) (by omega)).mono ?_
    rintro e w3 ⟨A', c', rfl, hown, b3⟩
    have c3 : Below w.heap.size w w3 := c2.trans (b3.mono c2.size)
    have hlt := Crc.sum_lt [l]
    generalize hs : Crc.sum [l] = s at *
    have HS := Lib.hid hs
    clear hs
    have b3' := b3
    clear b3
    obtain ⟨i0, hi, hz0, hz1, hz2⟩ := info_parts Try.info5
    have hnews := (own_new4 w3 5 w3.heap.size w3.heap.size (s % 256) (s / 256 % 256) (s / 65536 % 256) (s / 16777216) rfl (Nat.le_refl _) ((s : Int) % 256) ((s : Int) / 256 % 256) ((s : Int) / 65536 % 256) ((s : Int) / 16777216) (by omega) (by omega) (by omega) (by omega)).cells (g := w3.heap.size) rfl
    have HN := Lib.hid hnews
    clear hnews
    go_wp2_with (at_builtin; refine wpList_append_own _ rfl (.tmp 38) (.tmp 50) 24 rfl w2.heap.size 5 i0 (.int .u8 0) 1 1 Try.underlying24 hi hz0 hz1 hz2 rfl (by decide) _ n (u8s l) rfl (hown.alloc _) ⟨w3.heap.size, 0, none⟩ 4 4 (u8s [s % 256, s / 256 % 256, s / 65536 % 256, s / 16777216]) rfl rfl HN.out (u8s_one _) (by unfold maxLen; omega) (by omega) (by have := b3'.size; simp; omega) ?_; intro v' w4 hown4 hgrow _)
    rw [u8s_append] at hown4
    obtain ⟨A4, c4, rfl⟩ := own_slice hown4
    have d4 : Below w.heap.size w w4 := grow_below c3 hgrow (own_far hown c2.size)
    have hb4 := hb.below d4 (Nat.le_refl _)
    have hw4 := Bytes.of_own hown4 (parts_lt hb.2.1 hlt)
    have e1 := parts_sum l p q s HS.out
    have e2 := parts_upd l p q s hb.2.1 HS.out
    have e3 := parts_res l s hb.2.1 HS.out
    have z4 := d4.size
    have E1 := Lib.hid e1
    have E2 := Lib.hid e2
    have E3 := Lib.hid e3
    have r1 := run_cut_h (P := Try.prog) 24 5 i0 Try.underlying24 hi A n c p (by omega)
    have r2 := run_cut_lh (P := Try.prog) 24 5 i0 Try.underlying24 hi hz1 A n c p (p + q) ((p : Int) + q) (by omega) (by omega) (by omega)
    have r3 := run_cut_l (P := Try.prog) 24 5 i0 Try.underlying24 hi hz1 A n c (p + q) ((p : Int) + q) (by omega) (by omega)
    have f1 := hb4.head hp1
    have f2 := Bytes.head (j := q) (hb4.cut (c := c) hp1 hc) (by omega)
    have f3 := hb4.cut (c := c) hq1 hc
    rw [show p + q - p = q from by omega] at r2
    generalize (if c = p then A else A.map (·.add p)) = A2 at *
    generalize (if c = p + q then A else A.map (·.add (p + q))) = A3 at *
    have hn6 : n ≤ 600 := by omega
    clear e1 e2 e3 hgrow hown4 HN hown c3 c2 b3' hi hz0 hz1 hz2 HS hb hd hbig
    go_region_held3 (fun _ => True) (exact trivial) (first
      | (go_at_call 8; have _ := d9; (with_reducible refine (works_any _).mono ?_); rintro e w10 ⟨rfl, b10⟩; have d10 := below_next d9 b10; clear d9 b10)
      | (go_at_call 10; have _ := d8; (with_reducible refine (sum_any 1 1 (w8.heap.size + 1) _ _ _ (RowsOf.made (hw4.below b48 (Nat.le_refl _)) b48.size (by omega)) (by simp) (by omega)).mono ?_); rintro e w9 ⟨rfl, b9⟩; have d9 := below_one d8 b9; rw [E3.out]; clear d8 b9)
      | (go_at_call 12; have _ := d7; (with_reducible refine (update_any _ _ _ _ _ _ _ (Crc.upd_lt _ _) (f3.below b47 z4) d7.size (by omega)).mono ?_); rintro e w8 ⟨rfl, b8⟩; have d8 := below_next d7 b8; have b48 := b47.trans (b8.mono b47.size); rw [E2.out]; clear d7 b8 b47)
      | (go_at_call 12; have _ := d6; (with_reducible refine (update_any _ _ _ _ _ _ _ (Crc.sum_lt _) (f2.below b46 z4) d6.size (by omega)).mono ?_); rintro e w7 ⟨rfl, b7⟩; have d7 := below_next d6 b7; have b47 := b46.trans (b7.mono b46.size); clear d6 b7 b46)
      | (go_at_call 10; have _ := d5; (with_reducible refine (sum_any 1 1 (w5.heap.size + 1) _ _ _ (RowsOf.made (f1.below b45 z4) d5.size (by omega)) (by simp) (by omega)).mono ?_); rintro e w6 ⟨rfl, b6⟩; have d6 := below_one d5 b6; have b46 := b45.trans ((((Below.refl _ _).alloc (Nat.le_refl _) _).trans (b6.mono (by simp))).mono b45.size); clear d5 b6 b45)
      | (go_at_call 10; (with_reducible refine (sum_any 4 4 (w4.heap.size + 1) _ _ _ (rows_four f1 f2 f3 z4 (by omega) (by omega) (by omega)) (by simp) (by omega)).mono ?_); rintro e w5 ⟨rfl, b5⟩; have b45 : Below w4.heap.size w4 w5 := (((Below.refl _ _).alloc (Nat.le_refl _) _).drew).trans (b5.mono (by simp)); have d5 := below_next d4 b45; rw [E1.out]; clear b5))
    go_wp2_with fail
    go_ret
    exact ⟨rfl, d10⟩
end Go.Proofs.Ytflfmcicidgkmaa
