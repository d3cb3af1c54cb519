/- CheckKnown, walked: the other statements of layer 1 at the chapter's examples and edges. -/
import Derived.Test.YtflfmcicidgkmaaSums
import Derived.Test.YtflfmcicidgkmaaFlips
namespace Go.Proofs.Ytflfmcicidgkmaa
open Go.ChangeShapes Go.WideShapes Go.ChangeAt Go.RowKit

theorem sums_int (n c m cb : Nat) (v x : Int) (A Ab : Option Addr) (ls : List (List Nat)) (l : List Nat) (w : World) (hr : RowsOf w w.heap.size A n ls) (hb : Bytes w w.heap.size Ab m l) (h0 : 0 ≤ v) (h1 : v < 4294967296) (h2 : 0 ≤ x) (h3 : x < 256) :
    Calls Try.prog 3 #[.slice A n c, .int .u32 v, .slice Ab m cb, .int .u8 x] w fun e w' => e = .returned (.bool true) ∧ Below w.heap.size w w' := by
  obtain ⟨s, rfl⟩ := Int.eq_ofNat_of_zero_le h0
  obtain ⟨y, rfl⟩ := Int.eq_ofNat_of_zero_le h2
  exact sums_any n c s m cb y A Ab ls l w hr hb (by omega) (by omega)
theorem bursts_int (n c : Nat) (v : Int) (A : Option Addr) (l : List Nat) (p : Int) (w : World) (hb : Bytes w w.heap.size A n l) (h0 : 0 ≤ v) (h1 : v < 4294967296) :
    Calls Try.prog 6 #[.slice A n c, .int .i64 p, .int .u32 v] w fun e w' => e = .returned (.bool true) ∧ Below w.heap.size w w' := by
  obtain ⟨s, rfl⟩ := Int.eq_ofNat_of_zero_le h0
  exact bursts_any n c s A l p w hb (by omega)

theorem wrap32_ex (x : Int) : ∃ v : Int, IntKind.u32.wrap x = v ∧ 0 ≤ v ∧ v < 4294967296 := ⟨_, rfl, by rw [IntKind.wrap_u32']; omega, by rw [IntKind.wrap_u32']; omega⟩
theorem tmod_ex (k d : Nat) (hd : 0 < d) : ∃ q : Nat, (k : Int).tmod d = q ∧ q < d := ⟨k % d, by rw [Int.tmod_eq_emod_of_nonneg (by omega)]; rfl, Nat.mod_lt _ hd⟩
theorem cut_ex {P : Program} (t e : TypeId) (i : TypeInfo) (ht : P.underlying t = some (.slice e)) (hi : P.info? e = some i) (a : Option Addr) (len cap h : Nat) (h2 : h ≤ cap) : ∀ W : World, (Instr.sliceAt t (.slice a len cap) none (some (.int .i64 (h : Int))) none).run P W = .ok (.slice a h cap) W :=
  fun W => run_cut_h t e i ht hi a len cap h h2 W

theorem rows_three {w : World} {B n1 n2 c1 c2 : Nat} {a1 a2 : Option Addr} {l1 l2 : List Nat} {t : TypeId} (h1 : Bytes w B a1 n1 l1) (h2 : Bytes w B a2 n2 l2) (hB : B ≤ w.heap.size) (m1 : n1 ≤ 9223372036854775807) (m2 : n2 ≤ 9223372036854775807) :
    RowsOf (w.alloc (.cells #[.slice a1 n1 c1, .slice none 0 0, .slice a2 n2 c2] t)) (w.heap.size + 1) (some ⟨w.heap.size, 0, none⟩) 3 [l1, [], l2] := by
  have hk := Blk.new w t #[.slice a1 n1 c1, .slice none 0 0, .slice a2 n2 c2]
  refine ⟨rfl, fun _ => ⟨w.heap.size, 0, rfl, by omega, fun i hi => ?_⟩⟩
  match i, hi with
  | 0, _ => exact ⟨a1, n1, c1, hk.cell 0, m1, (h1.alloc hB _).more (by omega)⟩
  | 1, _ => exact ⟨none, 0, 0, hk.cell 1, by omega, Bytes.nil⟩
  | 2, _ => exact ⟨a2, n2, c2, hk.cell 2, m2, (h2.alloc hB _).more (by omega)⟩
theorem step_append_here {P : Program} {w : World} {ops : Array Oper} {o : Oper} {a : Act} {K : Act → World → Prop} {Q : Exit → Act → World → Prop} {E : Prop} (hw : Region.wanted o (yielded ops a.tmps) = true) (s x : Operand) (t : TypeId)
    (ho : o.op = .call { callee := .builtin .append, args := #[s, x], argTypes := #[t, t] })
    (base : Nat) (e : TypeId) (i : TypeInfo) (z : Value) (size bytes : Nat) (ht : P.underlying t = some (.slice e)) (hi : P.info? e = some i) (hz : i.zero = some z)
    (hsize : i.size = size) (hby : i.bytes = bytes) (hzs : z.cells.size = size) (hsz : 0 < size)
    (v : Value) (n : Nat) (xs : List Value) (hs : a.eval s = v) (hown : w.ownsRow base e size v n xs)
    (ad : Addr) (m c : Nat) (news : List Value) (hx : a.eval x = .slice (some ad) m c) (hl : news.length = m * size) (hnews : ∀ j u, news[j]? = some u → w.cell? (ad.add j) = some u) (h1 : ∀ u ∈ news, u.oneCell' = true)
    (hm : 0 < m) (h63 : n + m ≤ maxLen) (hbytes : (n + m) * bytes ≤ 140737488355328) (hbase : base ≤ w.heap.size) (H : Nat) (hH : w.heap.size = H)
    (h : ∀ g cap w', w'.ownsRow base e size (.slice (some ⟨g, 0, none⟩) (n + m) cap) (n + m) (xs ++ news) → w.grownBy w' v.ownBlock → (v.ownBlock = some g ∨ g = H) → g < w'.heap.size → K (a.put o.dst (.slice (some ⟨g, 0, none⟩) (n + m) cap)) w') :
    if Region.wanted o (yielded ops a.tmps) = true then Oper.wp P o a w K Q else E := by
  rw [if_pos hw]
  exact wp_append_lies w s x t ho base e i z size bytes ht hi hz hsize hby hzs hsz v n xs hs hown ad m c news hx hl hnews h1 hm h63 hbytes hbase H hH h
theorem below_append {w wr w1 w4 w5 : World} (h : Below w.heap.size w wr) (hz : w1.heap.size = wr.heap.size + 1) (hb1 : Below w.heap.size w w1) (h4 : Below w1.heap.size w1 w4) (hg : w4.grownBy w5 (some wr.heap.size)) : Below w.heap.size w w5 :=
  (hb1.trans (h4.mono hb1.size)).trans ⟨hg.os, hg.tape, hg.output, hg.size, fun k hk => hg.block k (by have := h4.size; have := h.size; omega) (fun e => by injection e with e; have := h.size; omega)⟩
theorem twice_lt {k : Nat} (h : k < 256) : ∀ x ∈ [k, k * 7 % 256, 120, 255 - k] ++ [k, k * 7 % 256, 120, 255 - k], x < 256 := by
  intro x hx
  simp at hx
  omega
theorem RowsOf.drew {w : World} {B n : Nat} {A : Option Addr} {ls : List (List Nat)} (h : RowsOf w B A n ls) : RowsOf w.drew B A n ls := h

set_option maxRecDepth 100000 in
set_option maxHeartbeats 4000000 in
theorem known_any (w : World) : Calls Try.prog 7 #[] w fun e w' => e = .returned (.bool true) ∧ Below w.heap.size w w' := by
  obtain ⟨i0, hi, hz0, hz1, hz2⟩ := info_parts Try.info5
  have HI := Lib.hid hi
  have HZ0 := Lib.hid hz0
  have HZ1 := Lib.hid hz1
  have HZ2 := Lib.hid hz2
  clear hi hz0 hz1 hz2
  go_enter Try.func7, Try.ntmps7
  go_wp2_with fail
  go_loopw [1] (fun i wr => ∃ k : Nat, k ≤ 256 ∧ i = .int .i64 k ∧ Below w.heap.size w wr) (fun i _ => 256 - (intOf i).toNat)
  case atStart => exact ⟨0, by omega, rfl, Below.refl _ _⟩
  case round =>
    obtain ⟨k, hk, rfl, hbl⟩ := hrel
    by_cases hlt : k < 256
    · have hlt' : (k : Int) < 256 := by omega
      have hk0 : (0 : Int) ≤ k := by omega
      go_wp2_with fail
      have ho := own_new4 wr 5 wr.heap.size wr.heap.size k (k * 7 % 256) 120 (255 - k) rfl (Nat.le_refl _) (k : Int) ((k : Int) * 7 % 256) 120 (255 - (k : Int)) (by omega) (by omega) (by omega) (by omega)
      have hbt := Bytes.of_own ho (by intro x hx; simp at hx; omega)
      have hb1 : Below w.heap.size w (wr.alloc (.cells #[.int .u8 (k : Int), .int .u8 ((k : Int) * 7 % 256), .int .u8 120, .int .u8 (255 - (k : Int))] 5)) := hbl.alloc hbl.size _
      have hzz : (wr.alloc (.cells #[.int .u8 (k : Int), .int .u8 ((k : Int) * 7 % 256), .int .u8 120, .int .u8 (255 - (k : Int))] 5)).heap.size = wr.heap.size + 1 := by simp
      obtain ⟨q32, h32, h32l⟩ : ∃ q : Nat, (k : Int).tmod 32 = q ∧ q < 32 := tmod_ex k 32 (by omega)
      obtain ⟨q5, h5, h5l⟩ : ∃ q : Nat, (k : Int).tmod 5 = q ∧ q < 5 := tmod_ex k 5 (by omega)
      obtain ⟨vs, hvs, hv0, hv1⟩ := wrap32_ex (2 ^ q32)
      have hwk32 : IntKind.u32.wrap (k : Int) = k := by rw [IntKind.wrap_u32']; omega
      have hws : IntKind.u32.wrap ((k : Int) * 16777216) = (k : Int) * 16777216 := by rw [IntKind.wrap_u32']; omega
      have hwt : IntKind.u32.wrap ((k : Int) * 16777216 + 1) = (k : Int) * 16777216 + 1 := by rw [IntKind.wrap_u32']; omega
      have hq0 : (0 : Int) ≤ (k : Int) * 16777216 + 1 := by omega
      have hq1 : (k : Int) * 16777216 + 1 < 4294967296 := by omega
      have hwk : IntKind.u8.wrap (k : Int) = k := by rw [IntKind.wrap_u8']; omega
      have r1 := cut_ex (P := Try.prog) 24 5 i0 Try.underlying24 HI.out (some ⟨wr.heap.size, 0, none⟩) 4 4 q5 (by omega)
      generalize wr.alloc (.cells #[.int .u8 (k : Int), .int .u8 ((k : Int) * 7 % 256), .int .u8 120, .int .u8 (255 - (k : Int))] 5) = w1 at *
      have HZ := Lib.hid hzz
      clear hzz
      have hrows := (rows_three (t := 24) (c1 := 4) (c2 := 4) (hbt.head (j := 1) (by omega)) hbt (Nat.le_refl _) (by omega) (by omega))
      have hcut := (hbt.head (j := q5) (by omega)).alloc (Nat.le_refl _) (.cells #[.slice (some ⟨wr.heap.size, 0, none⟩) 1 4, .slice none 0 0, .slice (some ⟨wr.heap.size, 0, none⟩) 4 4] 24)
      have hcutD := (hcut.more (B' := (w1.alloc (.cells #[.slice (some ⟨wr.heap.size, 0, none⟩) 1 4, .slice none 0 0, .slice (some ⟨wr.heap.size, 0, none⟩) 4 4] 24)).drew.heap.size) (by simp)).drew
      have hrowsD := (hrows.more (B' := (w1.alloc (.cells #[.slice (some ⟨wr.heap.size, 0, none⟩) 1 4, .slice none 0 0, .slice (some ⟨wr.heap.size, 0, none⟩) 4 4] 24)).drew.heap.size) (by simp)).drew
      go_region_held3 (fun _ => True) (exact trivial) (first
        | (have _ := d4; refine step_append_here rfl (.tmp 48) (.tmp 49) 24 rfl wr.heap.size 5 i0 (.int .u8 0) 1 1 Try.underlying24 HI.out HZ0.out HZ1.out HZ2.out rfl (by decide) _ 4 _ rfl (own_below ho d4) ⟨wr.heap.size, 0, none⟩ 4 4 _ rfl rfl ((own_below ho d4).cells (g := wr.heap.size) rfl) (u8s_one _) (by decide) (by decide) (by decide) hz4 _ rfl ?_; intro g5 cap5 w5 ho5 hg5 _ _; have d5 := below_append hbl HZ.out hb1 d4 hg5; rw [u8s_append] at ho5; have hb5 := Bytes.of_own ho5 (twice_lt hlt); clear d4 hg5 ho5 hz4)
        | (go_at_call 6; have _ := d5; (with_reducible refine (bursts_int 8 cap5 _ _ _ _ _ hb5 hq0 hq1).mono ?_); rintro e w6 ⟨rfl, b6⟩; have d6 := below_next d5 b6; clear d5 b6 hb5)
        | (go_at_call 5; have _ := d3; (with_reducible refine (flips_any 4 4 _ _ _ _ _ _ ((hbt.below d3 (Nat.le_refl _)).more d3.size)).mono ?_); rintro e w4 ⟨rfl, b4⟩; have d4 := below_next d3 b4; have hz4 : wr.heap.size ≤ w4.heap.size := (by have := d4.size; have := HZ.out; omega); clear d3 b4)
        | (go_at_call 4; have _ := d2; (with_reducible refine (parts_any 4 4 _ _ _ _ _ ((hbt.below d2 (Nat.le_refl _)).more d2.size) (by omega)).mono ?_); rintro e w3 ⟨rfl, b3⟩; have d3 := below_next d2 b3; clear d2 b3)
        | (go_at_call 3; (with_reducible refine (sums_int 3 3 q5 4 _ _ _ _ _ _ _ hrowsD hcutD hv0 hv1 hk0 hlt').mono ?_); rintro e w2 ⟨rfl, b2⟩; have d2 : Below w1.heap.size w1 w2 := (((Below.refl _ _).alloc (Nat.le_refl _) _).drew).trans (b2.mono (by simp)); clear b2))
      clear hrows hcut hcutD hrowsD hbt ho r1 hwk hwk32 hws hwt hvs h32 h5 hb1 hbl
      go_wp2_with fail
      go_roundw
      case rel => exact ⟨k + 1, by omega, by go_num, d6⟩
      case measure => simp [intOf]; omega
    · have hmk : ∀ W : World, (Instr.makeSlice 24 (.int .i64 4) (.int .i64 4)).run Try.prog W = .ok (.slice (some ⟨W.heap.size, 0, none⟩) 4 4) (W.alloc (.cells #[.int .u8 0, .int .u8 0, .int .u8 0, .int .u8 0] 5)) := fun _ => by kernel_rfl
      go_wp2_with fail
      refine (sums_int 0 0 0 0 0 0 none none [] [] _ ⟨rfl, fun h => absurd h (by omega)⟩ Bytes.nil (by omega) (by omega) (by omega) (by omega)).mono ?_
      rintro e w1 ⟨rfl, b1⟩
      have d1 := below_next hbl b1
      clear b1 hbl
      go_wp2_with fail
      refine (parts_any 0 0 none [] 0 0 _ Bytes.nil (by omega)).mono ?_
      rintro e w2 ⟨rfl, b2⟩
      have d2 := below_next d1 b2
      clear b2 d1
      go_wp2_with fail
      have f2 := bytes_four w2 5 0 (by omega) 0 0 0 0 rfl rfl rfl rfl
      have z2 : (w2.alloc (.cells #[.int .u8 0, .int .u8 0, .int .u8 0, .int .u8 0] 5)).heap.size = w2.heap.size + 1 := by simp
      have hk5 : Crc.sum [be4 0] = 558161692 := by decide +kernel
      refine (sum_any 1 1 _ _ [be4 0] _ (RowsOf.madeAt z2.symm f2 (by omega) (by omega)) (by simp) (by omega)).mono ?_
      rintro e w3 ⟨rfl, b3⟩
      rw [hk5]
      have d3 : Below w.heap.size w w3 := below_two w _ _ d2 (b3.mono (by simp))
      clear b3 d2 f2 z2 hk5
      go_wp2_with fail
      refine (works_any _).mono ?_
      rintro e w4 ⟨rfl, b4⟩
      have d4 := below_next d3 b4
      go_wp2_with fail
      go_ret
      exact ⟨rfl, d4⟩
end Go.Proofs.Ytflfmcicidgkmaa
