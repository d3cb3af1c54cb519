/- Layer 8: ReplyKnown's odd. Made by tools/gen/kr8b.py. -/
import Derived.Test.YtognlgklepgemaaGreatM8P
import Derived.Test.YtognlgklepgemaaGreatM8Z
import Derived.Laws.MakeOwn
import Derived.Deep.DeepCutAuto
import Derived.Test.YtognlgklepgemaaGreatM8B
namespace Go.Proofs.YtognlgklepgemaaGreat
open Go.ChangeShapes Go.WideShapes Go.ChangeAt Go.RowKit

def FineRow (q : Rw) : Prop := (i64ok q.p.s ∧ i64ok q.p.e) ∧ aggOk q.a
def FineRep (x : Rp.V) (rows : List Rw) (gone : List Pn) : Prop := x.ok ∧ (∀ q ∈ rows, FineRow q) ∧ (∀ q ∈ gone, i64ok q.s ∧ i64ok q.e) ∧ x.n ≤ 64 ∧ x.m ≤ 64
/-- A reply, in memory, in the program's ranges. -/
def FineP (w : World) (e : Ending) (w' : World) : Prop := ∃ x rows gone, e = .returned x.val ∧ x.In w' w'.heap.size rows gone ∧ FineRep x rows gone ∧ Below w.heap.size w w'
theorem tm8 (n m : Nat) (z : Int) (hz : z = m) (hm : 0 < m) : ∃ r : Nat, (n : Int).tmod z = r ∧ (n : Int) % z = r ∧ r < m := by
  subst hz
  exact ⟨n % m, by rw [Int.tmod_eq_emod_of_nonneg (by omega)]; rfl, rfl, Nat.mod_lt _ hm⟩
theorem td8 (n m : Nat) (z : Int) (hz : z = m) : ∃ r : Nat, (n : Int).tdiv z = r ∧ r ≤ n := by
  subst hz
  exact ⟨n / m, by rw [Int.tdiv_eq_ediv_of_nonneg (by omega)]; rfl, Nat.div_le_self _ _⟩
theorem key3 (i : Nat) (h : i < 3) : ∃ s : ByteArray, s.size = 1 ∧ (#[.string ⟨#[97]⟩, .string ⟨#[98]⟩, .string ⟨#[99]⟩] : Array Value)[i]? = some (.string s) := by
  rcases (by omega : i = 0 ∨ i = 1 ∨ i = 2) with rfl | rfl | rfl
  all_goals exact ⟨_, rfl, rfl⟩
theorem agg_ok4 {c s lo hi : Int} (h1 : i64ok c) (h2 : i64ok s) (h3 : i64ok lo) (h4 : i64ok hi) : aggOk ⟨c, s, lo, hi⟩ := ⟨h1, h2, h3, h4⟩
theorem below_7 {B g : Nat} {w W : World} (h : Below B w W) (hg : B ≤ g) (u0 u1 u2 u3 u4 u5 u6 : Value) : Below B w (((((((W.setCell ⟨g, 0, none⟩ u0).setCell ⟨g, 1, none⟩ u1).setCell ⟨g, 2, none⟩ u2).setCell ⟨g, 3, none⟩ u3).setCell ⟨g, 4, none⟩ u4).setCell ⟨g, 5, none⟩ u5).setCell ⟨g, 6, none⟩ u6) :=
  ((((((h.setCell (p := ⟨g, 0, none⟩) hg u0).setCell (p := ⟨g, 1, none⟩) hg u1).setCell (p := ⟨g, 2, none⟩) hg u2).setCell (p := ⟨g, 3, none⟩) hg u3).setCell (p := ⟨g, 4, none⟩) hg u4).setCell (p := ⟨g, 5, none⟩) hg u5).setCell (p := ⟨g, 6, none⟩) hg u6
/-- A row, in the program's ranges. -/
def RowQ (w : World) (e : Ending) (w' : World) : Prop := ∃ k s t c u lo hi, e = .returned (.agg #[.string k, .int .i64 s, .int .i64 t, .int .i64 c, .int .i64 u, .int .i64 lo, .int .i64 hi]) ∧ (i64ok s ∧ i64ok t) ∧ aggOk ⟨c, u, lo, hi⟩ ∧ Below w.heap.size w w'
set_option maxRecDepth 100000 in
set_option maxHeartbeats 4000000 in
theorem row8_any (n : Nat) (w : World) (hn : n < 64) : Calls Tryz.prog 12 #[.int .i64 (n : Int)] w (RowQ w) := by
  obtain ⟨r7, e7, e7', l7⟩ := tm8 n 7 7 rfl (by omega)
  obtain ⟨r3, e3, e3', l3⟩ := tm8 n 3 3 rfl (by omega)
  obtain ⟨d3, f3, h3⟩ := td8 n 3 3 rfl
  obtain ⟨r5, e5, e5', l5⟩ := tm8 d3 5 5 rfl (by omega)
  obtain ⟨r4, e4, e4', l4⟩ := tm8 n 4 4 rfl (by omega)
  obtain ⟨sk, zk, hsk⟩ := key3 r3 l3
  have j3 : (r3 : Int) < 3 := by omega
  have i0 : (0 : Int) ≤ (n : Int) := by omega
  have z7 : (r7 : Int) < 7 := by omega
  have z5 : (r5 : Int) < 5 := by omega
  have z5' : (0 : Int) ≤ r5 := by omega
  have S1 := ((Held.start w).new #[.string ⟨#[]⟩, .int .i64 0, .int .i64 0, .int .i64 0, .int .i64 0, .int .i64 0, .int .i64 0] 49).new #[.string ⟨#[97]⟩, .string ⟨#[98]⟩, .string ⟨#[99]⟩] 9
  obtain ⟨W1, hW1⟩ : ∃ W, (w.alloc (.cells #[.string ⟨#[]⟩, .int .i64 0, .int .i64 0, .int .i64 0, .int .i64 0, .int .i64 0, .int .i64 0] 49)).alloc (.cells #[.string ⟨#[97]⟩, .string ⟨#[98]⟩, .string ⟨#[99]⟩] 9) = W := ⟨_, rfl⟩
  rw [hW1, show (w.alloc (.cells #[.string ⟨#[]⟩, .int .i64 0, .int .i64 0, .int .i64 0, .int .i64 0, .int .i64 0, .int .i64 0] 49)).heap.size = w.heap.size + 1 by simp] at S1
  have c0 : W1.cell? ⟨w.heap.size + 1, r3, none⟩ = some (.string sk) := (S1.top.cell r3).trans hsk
  have HS := Lib.hid S1
  go_enter Tryz.func12, Tryz.ntmps12
  go_upto_region 3 with (fail)
  clear hW1 S1 hsk
  go_upto_region 4 with (fail)
  have S2 := HS.out.new #[.string sk, .int .i64 (r5 : Int), .int .i64 ((r5 : Int) + 4)] 45
  have K0 := S2.2 _ (List.mem_cons_of_mem _ (List.mem_cons_of_mem _ (List.mem_cons_self ..)))
  have KB := S2.top
  have HH := Lib.hid S2.1
  have hlt : w.heap.size < W1.heap.size := (HS.out.2 _ (List.mem_cons_of_mem _ (List.mem_cons_self ..))).lt
  obtain ⟨W2, hW2⟩ : ∃ W, W1.alloc (.cells #[.string sk, .int .i64 (r5 : Int), .int .i64 ((r5 : Int) + 4)] 45) = W := ⟨_, rfl⟩
  rw [hW2] at K0 KB HH ⊢
  have p0 := K0.cell 0
  have q0 := K0.frozen 0
  have p1 := K0.cell 1
  have q1 := K0.frozen 1
  have p2 := K0.cell 2
  have q2 := K0.frozen 2
  have p3 := K0.cell 3
  have q3 := K0.frozen 3
  have p4 := K0.cell 4
  have q4 := K0.frozen 4
  have p5 := K0.cell 5
  have q5 := K0.frozen 5
  have p6 := K0.cell 6
  have q6 := K0.frozen 6
  have b0 := KB.cell 0
  have b1 := KB.cell 1
  have b2 := KB.cell 2
  clear S2 K0 KB hW2 c0
  by_cases h4 : r4 = 0
  · subst h4
    have e4 : (n : Int).tmod 4 = 0 := e4
    go_wp2_with fail
    refine bodyPost_ret (v := .agg #[.string sk, .int .i64 (r5 : Int), .int .i64 ((r5 : Int) + 4), .int .i64 (2), .int .i64 (2 * ((r7 : Int) - 2) + 3), .int .i64 ((r7 : Int) - 2), .int .i64 ((r7 : Int) - 2 + 3)]) ?_ rfl ⟨_, _, _, _, _, _, _, rfl, ⟨⟨by omega, by omega⟩, ⟨by omega, by omega⟩⟩, agg_ok4 ⟨by omega, by omega⟩ ⟨by omega, by omega⟩ ⟨by omega, by omega⟩ ⟨by omega, by omega⟩, ?_⟩
    · simp [results, Tryz.results12, go_sem, p0, p1, p2, p3, p4, p5, p6]
    · exact below_7 HH.out (Nat.le_refl _) _ _ _ _ _ _ _
  · have h4' : ((r4 : Int) == 0) = false := by rw [beq_eq_false_iff_ne]; omega
    go_wp2_with fail
    refine bodyPost_ret (v := .agg #[.string sk, .int .i64 (r5 : Int), .int .i64 ((r5 : Int) + 4), .int .i64 (1), .int .i64 ((r7 : Int) - 2), .int .i64 ((r7 : Int) - 2), .int .i64 ((r7 : Int) - 2)]) ?_ rfl ⟨_, _, _, _, _, _, _, rfl, ⟨⟨by omega, by omega⟩, ⟨by omega, by omega⟩⟩, agg_ok4 ⟨by omega, by omega⟩ ⟨by omega, by omega⟩ ⟨by omega, by omega⟩ ⟨by omega, by omega⟩, ?_⟩
    · simp [results, Tryz.results12, go_sem, p0, p1, p2, p3, p4, p5, p6]
    · exact below_7 HH.out (Nat.le_refl _) _ _ _ _ _ _ _
end Go.Proofs.YtognlgklepgemaaGreat

namespace Go.Proofs.YtognlgklepgemaaGreat
open Go.ChangeShapes Go.WideShapes Go.ChangeAt Go.RowKit

theorem rows_blk8 {W : World} {g n : Nat} {T : TypeId} {l : List Rw} {cs : Array Value} (h : Blk W g T cs) (hcs : cs = (rcells l).toArray) (hn : l.length = n) : RowsIn W W.heap.size (some ⟨g, 0, none⟩) n l :=
  ⟨hn, fun h0 => ⟨g, 0, rfl, h.lt, fun i hi j hj => by
    subst hcs
    rw [Nat.zero_add, h.cell]
    have := rcells_at l i j (by omega) hj
    simpa using this⟩⟩
theorem pans_blk8 {W : World} {g n : Nat} {T : TypeId} {l : List Pn} {cs : Array Value} (h : Blk W g T cs) (hcs : cs = (pncells l).toArray) (hn : l.length = n) : PansIn W W.heap.size (some ⟨g, 0, none⟩) n l :=
  ⟨hn, fun h0 => ⟨g, 0, rfl, h.lt, fun i hi j hj => by
    subst hcs
    rw [Nat.zero_add, h.cell]
    have := pncells_at l i j (by omega) hj
    simpa using this⟩⟩
theorem row8_lit4 (w : World) : Calls Tryz.prog 12 #[.int .i64 4] w (RowQ w) := row8_any 4 w (by omega)
theorem row8_lit5 (w : World) : Calls Tryz.prog 12 #[.int .i64 5] w (RowQ w) := row8_any 5 w (by omega)
set_option maxRecDepth 100000 in
set_option maxHeartbeats 4000000 in
theorem example8_1 (w : World) : Calls Tryz.prog 4 #[.int .u8 1] w (FineP w) := by
  go_enter Tryz.func4, Tryz.ntmps4
  go_upto_region 2 with (fail)
  have S0 := ((Held.start w).new #[.int .u8 0, .int .u32 0, .int .u16 0, .bool false, .int .u64 0, .int .u64 0, .int .u64 0, .int .u64 0, .int .u64 0, .int .u64 0, .slice none 0 0, .slice none 0 0] 28).new #[.int .u8 1, .int .u32 2147483648, .int .u16 0, .bool false, .int .u64 0, .int .u64 0, .int .u64 0, .int .u64 0, .int .u64 0, .int .u64 0, .slice none 0 0, .slice none 0 0] 28
  rw [show (w.alloc (.cells #[.int .u8 0, .int .u32 0, .int .u16 0, .bool false, .int .u64 0, .int .u64 0, .int .u64 0, .int .u64 0, .int .u64 0, .int .u64 0, .slice none 0 0, .slice none 0 0] 28)).heap.size = w.heap.size + 1 by simp] at S0
  obtain ⟨W0, hW⟩ : ∃ W, (w.alloc (.cells #[.int .u8 0, .int .u32 0, .int .u16 0, .bool false, .int .u64 0, .int .u64 0, .int .u64 0, .int .u64 0, .int .u64 0, .int .u64 0, .slice none 0 0, .slice none 0 0] 28)).alloc (.cells #[.int .u8 1, .int .u32 2147483648, .int .u16 0, .bool false, .int .u64 0, .int .u64 0, .int .u64 0, .int .u64 0, .int .u64 0, .int .u64 0, .slice none 0 0, .slice none 0 0] 28) = W := ⟨_, rfl⟩
  rw [hW] at S0 ⊢
  clear hW
  have H0 : Hid (Held w W0 [((w.heap.size + 1), 28, (#[.int .u8 1, .int .u32 2147483648, .int .u16 0, .bool false, .int .u64 0, .int .u64 0, .int .u64 0, .int .u64 0, .int .u64 0, .int .u64 0, .slice none 0 0, .slice none 0 0] : Array Value)), (w.heap.size, 28, (#[.int .u8 0, .int .u32 0, .int .u16 0, .bool false, .int .u64 0, .int .u64 0, .int .u64 0, .int .u64 0, .int .u64 0, .int .u64 0, .slice none 0 0, .slice none 0 0] : Array Value))]) := Lib.hid (S0.sub8 (by intro x hx; simp only [List.mem_cons, List.not_mem_nil, or_false] at hx ⊢; (repeat' rcases hx with h | hx) <;> simp_all))
  clear S0
  go_upto_region 5 with (fail)
  have kk := H0.out.at_ (List.mem_cons_self ..)
  have p4 := kk.cell 4
  have pf4 := kk.frozen 4
  clear kk
  go_upto_region 6 with (fail)
  clear p4 pf4
  have s0 := H0.out.put8 (by omega) (by intro x hx; simp only [List.mem_cons, List.not_mem_nil, or_false] at hx; (repeat' rcases hx with rfl | hx) <;> (try subst hx) <;> (dsimp only; omega)) 4 (.int .u64 300)
  simp only [List.setIfInBounds_toArray, List.set_cons_zero, List.set_cons_succ] at s0
  obtain ⟨W1, hW⟩ : ∃ W, W0.setCell ⟨w.heap.size + 1, 4, none⟩ (.int .u64 300) = W := ⟨_, rfl⟩
  rw [hW] at s0 ⊢
  clear hW
  have H1 : Hid (Held w W1 [((w.heap.size + 1), 28, (#[.int .u8 1, .int .u32 2147483648, .int .u16 0, .bool false, .int .u64 300, .int .u64 0, .int .u64 0, .int .u64 0, .int .u64 0, .int .u64 0, .slice none 0 0, .slice none 0 0] : Array Value)), (w.heap.size, 28, (#[.int .u8 0, .int .u32 0, .int .u16 0, .bool false, .int .u64 0, .int .u64 0, .int .u64 0, .int .u64 0, .int .u64 0, .int .u64 0, .slice none 0 0, .slice none 0 0] : Array Value))]) := Lib.hid s0
  clear s0
  have kk := H1.out.at_ (List.mem_cons_self ..)
  have p3 := kk.cell 3
  have pf3 := kk.frozen 3
  clear kk
  go_upto_region 7 with (fail)
  clear p3 pf3
  have s1 := H1.out.put8 (by omega) (by intro x hx; simp only [List.mem_cons, List.not_mem_nil, or_false] at hx; (repeat' rcases hx with rfl | hx) <;> (try subst hx) <;> (dsimp only; omega)) 3 (.bool true)
  simp only [List.setIfInBounds_toArray, List.set_cons_zero, List.set_cons_succ] at s1
  obtain ⟨W2, hW⟩ : ∃ W, W1.setCell ⟨w.heap.size + 1, 3, none⟩ (.bool true) = W := ⟨_, rfl⟩
  rw [hW] at s1 ⊢
  clear hW
  have H2 : Hid (Held w W2 [((w.heap.size + 1), 28, (#[.int .u8 1, .int .u32 2147483648, .int .u16 0, .bool true, .int .u64 300, .int .u64 0, .int .u64 0, .int .u64 0, .int .u64 0, .int .u64 0, .slice none 0 0, .slice none 0 0] : Array Value)), (w.heap.size, 28, (#[.int .u8 0, .int .u32 0, .int .u16 0, .bool false, .int .u64 0, .int .u64 0, .int .u64 0, .int .u64 0, .int .u64 0, .int .u64 0, .slice none 0 0, .slice none 0 0] : Array Value))]) := Lib.hid s1
  clear s1
  go_wp2_with fail
  refine (row8_lit4 _).mono ?_
  rintro e v4 ⟨rk4, rs4, rt4, rc4, ru4, rl4, rh4, rfl, ro4, ra4, b4⟩
  have H3 := Lib.hid (H2.out.step b4)
  clear b4
  go_wp2_with fail
  refine (row8_lit5 _).mono ?_
  rintro e v5 ⟨rk5, rs5, rt5, rc5, ru5, rl5, rh5, rfl, ro5, ra5, b5⟩
  have H4 := Lib.hid (H3.out.step b5)
  clear b5
  have s4 := H4.out.new #[.string rk4, .int .i64 rs4, .int .i64 rt4, .int .i64 rc4, .int .i64 ru4, .int .i64 rl4, .int .i64 rh4, .string rk5, .int .i64 rs5, .int .i64 rt5, .int .i64 rc5, .int .i64 ru5, .int .i64 rl5, .int .i64 rh5] 49
  obtain ⟨gr, hg⟩ : ∃ g, v5.heap.size = g := ⟨_, rfl⟩
  rw [hg] at s4
  obtain ⟨W5, hW⟩ : ∃ W, v5.alloc (.cells #[.string rk4, .int .i64 rs4, .int .i64 rt4, .int .i64 rc4, .int .i64 ru4, .int .i64 rl4, .int .i64 rh4, .string rk5, .int .i64 rs5, .int .i64 rt5, .int .i64 rc5, .int .i64 ru5, .int .i64 rl5, .int .i64 rh5] 49) = W := ⟨_, rfl⟩
  rw [hW] at s4
  have H5 : Hid (Held w W5 [((w.heap.size + 1), 28, (#[.int .u8 1, .int .u32 2147483648, .int .u16 0, .bool true, .int .u64 300, .int .u64 0, .int .u64 0, .int .u64 0, .int .u64 0, .int .u64 0, .slice none 0 0, .slice none 0 0] : Array Value)), (w.heap.size, 28, (#[.int .u8 0, .int .u32 0, .int .u16 0, .bool false, .int .u64 0, .int .u64 0, .int .u64 0, .int .u64 0, .int .u64 0, .int .u64 0, .slice none 0 0, .slice none 0 0] : Array Value)), (gr, 49, (#[.string rk4, .int .i64 rs4, .int .i64 rt4, .int .i64 rc4, .int .i64 ru4, .int .i64 rl4, .int .i64 rh4, .string rk5, .int .i64 rs5, .int .i64 rt5, .int .i64 rc5, .int .i64 ru5, .int .i64 rl5, .int .i64 rh5] : Array Value))]) := Lib.hid (s4.sub8 (by intro x hx; simp only [List.mem_cons, List.not_mem_nil, or_false] at hx ⊢; (repeat' rcases hx with h | hx) <;> simp_all))
  clear s4
  have hgr : w.heap.size + 1 < gr := by have h1 := H4.out.2 _ (List.mem_cons_self ..); exact (by rw [← hg]; exact h1.lt)
  have kk := H5.out.at_ (List.mem_cons_self ..)
  have p10 := kk.cell 10
  have pf10 := kk.frozen 10
  clear kk
  go_upto_region 23 with (fail)
  clear p10 pf10
  have s5 := H5.out.put8 (by omega) (by intro x hx; simp only [List.mem_cons, List.not_mem_nil, or_false] at hx; (repeat' rcases hx with rfl | hx) <;> (try subst hx) <;> (dsimp only; omega)) 10 (.slice (some ⟨gr, 0, none⟩) 2 2)
  simp only [List.setIfInBounds_toArray, List.set_cons_zero, List.set_cons_succ] at s5
  obtain ⟨W6, hW⟩ : ∃ W, W5.setCell ⟨w.heap.size + 1, 10, none⟩ (.slice (some ⟨gr, 0, none⟩) 2 2) = W := ⟨_, rfl⟩
  rw [hW] at s5 ⊢
  clear hW
  have H6 : Hid (Held w W6 [((w.heap.size + 1), 28, (#[.int .u8 1, .int .u32 2147483648, .int .u16 0, .bool true, .int .u64 300, .int .u64 0, .int .u64 0, .int .u64 0, .int .u64 0, .int .u64 0, .slice (some ⟨gr, 0, none⟩) 2 2, .slice none 0 0] : Array Value)), (w.heap.size, 28, (#[.int .u8 0, .int .u32 0, .int .u16 0, .bool false, .int .u64 0, .int .u64 0, .int .u64 0, .int .u64 0, .int .u64 0, .int .u64 0, .slice none 0 0, .slice none 0 0] : Array Value)), (gr, 49, (#[.string rk4, .int .i64 rs4, .int .i64 rt4, .int .i64 rc4, .int .i64 ru4, .int .i64 rl4, .int .i64 rh4, .string rk5, .int .i64 rs5, .int .i64 rt5, .int .i64 rc5, .int .i64 ru5, .int .i64 rl5, .int .i64 rh5] : Array Value))]) := Lib.hid s5
  clear s5
  have kk := H6.out.at_ (List.mem_cons_self ..)
  have p0 := kk.cell 0
  have pf0 := kk.frozen 0
  have p1 := kk.cell 1
  have pf1 := kk.frozen 1
  have p2 := kk.cell 2
  have pf2 := kk.frozen 2
  have p3 := kk.cell 3
  have pf3 := kk.frozen 3
  have p4 := kk.cell 4
  have pf4 := kk.frozen 4
  have p5 := kk.cell 5
  have pf5 := kk.frozen 5
  have p6 := kk.cell 6
  have pf6 := kk.frozen 6
  have p7 := kk.cell 7
  have pf7 := kk.frozen 7
  have p8 := kk.cell 8
  have pf8 := kk.frozen 8
  have p9 := kk.cell 9
  have pf9 := kk.frozen 9
  have p10 := kk.cell 10
  have pf10 := kk.frozen 10
  have p11 := kk.cell 11
  have pf11 := kk.frozen 11
  clear kk
  have kk := H6.out.at_ (List.mem_cons_of_mem _ (List.mem_cons_self ..))
  have z0 := kk.cell 0
  have zf0 := kk.frozen 0
  have z1 := kk.cell 1
  have zf1 := kk.frozen 1
  have z2 := kk.cell 2
  have zf2 := kk.frozen 2
  have z3 := kk.cell 3
  have zf3 := kk.frozen 3
  have z4 := kk.cell 4
  have zf4 := kk.frozen 4
  have z5 := kk.cell 5
  have zf5 := kk.frozen 5
  have z6 := kk.cell 6
  have zf6 := kk.frozen 6
  have z7 := kk.cell 7
  have zf7 := kk.frozen 7
  have z8 := kk.cell 8
  have zf8 := kk.frozen 8
  have z9 := kk.cell 9
  have zf9 := kk.frozen 9
  have z10 := kk.cell 10
  have zf10 := kk.frozen 10
  have z11 := kk.cell 11
  have zf11 := kk.frozen 11
  clear kk
  go_wp2_with fail
  clear p0 pf0 p1 pf1 p2 pf2 p3 pf3 p4 pf4 p5 pf5 p6 pf6 p7 pf7 p8 pf8 p9 pf9 p10 pf10 p11 pf11
  have HE := (H6.out.sub8 (l' := [(w.heap.size, 28, (#[.int .u8 0, .int .u32 0, .int .u16 0, .bool false, .int .u64 0, .int .u64 0, .int .u64 0, .int .u64 0, .int .u64 0, .int .u64 0, .slice none 0 0, .slice none 0 0] : Array Value)), ((w.heap.size + 1), 28, (#[.int .u8 1, .int .u32 2147483648, .int .u16 0, .bool true, .int .u64 300, .int .u64 0, .int .u64 0, .int .u64 0, .int .u64 0, .int .u64 0, .slice (some ⟨gr, 0, none⟩) 2 2, .slice none 0 0] : Array Value)), (gr, 49, (#[.string rk4, .int .i64 rs4, .int .i64 rt4, .int .i64 rc4, .int .i64 ru4, .int .i64 rl4, .int .i64 rh4, .string rk5, .int .i64 rs5, .int .i64 rt5, .int .i64 rc5, .int .i64 ru5, .int .i64 rl5, .int .i64 rh5] : Array Value))]) (by intro x hx; simp only [List.mem_cons, List.not_mem_nil, or_false] at hx ⊢; (repeat' rcases hx with h | hx) <;> simp_all)).twelve8 (by omega) (by intro x hx; simp only [List.mem_cons, List.not_mem_nil, or_false] at hx; (repeat' rcases hx with rfl | hx) <;> (try subst hx) <;> (dsimp only; omega)) (.int .u8 1) (.int .u32 2147483648) (.int .u16 0) (.bool true) (.int .u64 300) (.int .u64 0) (.int .u64 0) (.int .u64 0) (.int .u64 0) (.int .u64 0) (.slice (some ⟨gr, 0, none⟩) 2 2) (.slice none 0 0)
  have hR := rows_blk8 (n := 2) (l := [(⟨⟨rk4, rs4, rt4⟩, ⟨rc4, ru4, rl4, rh4⟩⟩ : Rw), ⟨⟨rk5, rs5, rt5⟩, ⟨rc5, ru5, rl5, rh5⟩⟩]) (HE.at_ (g := gr) (t := 49) (cs := #[.string rk4, .int .i64 rs4, .int .i64 rt4, .int .i64 rc4, .int .i64 ru4, .int .i64 rl4, .int .i64 rh4, .string rk5, .int .i64 rs5, .int .i64 rt5, .int .i64 rc5, .int .i64 ru5, .int .i64 rl5, .int .i64 rh5]) (List.mem_cons_of_mem _ (List.mem_cons_of_mem _ (List.mem_cons_self ..)))) (by simp [rcells, rowL]) rfl
  refine bodyPost_ret (v := .agg #[.int .u8 1, .int .u32 2147483648, .int .u16 0, .bool true, .int .u64 300, .int .u64 0, .int .u64 0, .int .u64 0, .int .u64 0, .int .u64 0, .slice (some ⟨gr, 0, none⟩) 2 2, .slice none 0 0]) ?_ rfl ⟨⟨1, 2147483648, 0, true, 300, 0, 0, 0, 0, 0, some ⟨gr, 0, none⟩, 2, 2, none, 0, 0⟩, [(⟨⟨rk4, rs4, rt4⟩, ⟨rc4, ru4, rl4, rh4⟩⟩ : Rw), ⟨⟨rk5, rs5, rt5⟩, ⟨rc5, ru5, rl5, rh5⟩⟩], [], rfl, ⟨hR, PansIn.nil⟩, ⟨⟨(by decide : 1 < 256), (by decide : 2147483648 < 4294967296), (by decide : 0 < 65536), (by decide : 300 < 18446744073709551616), (by decide : 0 < 18446744073709551616), (by decide : 0 < 18446744073709551616), (by decide : 0 < 18446744073709551616), (by decide : 0 < 18446744073709551616), (by decide : 0 < 18446744073709551616)⟩, by intro q hq; simp only [List.mem_cons, List.not_mem_nil, or_false] at hq; rcases hq with rfl | rfl <;> first | exact ⟨ro4, ra4⟩ | exact ⟨ro5, ra5⟩, by simp, by show 2 ≤ 64; omega, by show 0 ≤ 64; omega⟩, HE.1⟩
  simp [results, Tryz.results4, go_sem, z0, z1, z2, z3, z4, z5, z6, z7, z8, z9, z10, z11]
set_option maxRecDepth 100000 in
set_option maxHeartbeats 4000000 in
theorem example8_2 (w : World) : Calls Tryz.prog 4 #[.int .u8 2] w (FineP w) := by
  go_enter Tryz.func4, Tryz.ntmps4
  go_upto_region 2 with (fail)
  have S0 := ((Held.start w).new #[.int .u8 0, .int .u32 0, .int .u16 0, .bool false, .int .u64 0, .int .u64 0, .int .u64 0, .int .u64 0, .int .u64 0, .int .u64 0, .slice none 0 0, .slice none 0 0] 28).new #[.int .u8 2, .int .u32 2147483648, .int .u16 0, .bool false, .int .u64 0, .int .u64 0, .int .u64 0, .int .u64 0, .int .u64 0, .int .u64 0, .slice none 0 0, .slice none 0 0] 28
  rw [show (w.alloc (.cells #[.int .u8 0, .int .u32 0, .int .u16 0, .bool false, .int .u64 0, .int .u64 0, .int .u64 0, .int .u64 0, .int .u64 0, .int .u64 0, .slice none 0 0, .slice none 0 0] 28)).heap.size = w.heap.size + 1 by simp] at S0
  obtain ⟨W0, hW⟩ : ∃ W, (w.alloc (.cells #[.int .u8 0, .int .u32 0, .int .u16 0, .bool false, .int .u64 0, .int .u64 0, .int .u64 0, .int .u64 0, .int .u64 0, .int .u64 0, .slice none 0 0, .slice none 0 0] 28)).alloc (.cells #[.int .u8 2, .int .u32 2147483648, .int .u16 0, .bool false, .int .u64 0, .int .u64 0, .int .u64 0, .int .u64 0, .int .u64 0, .int .u64 0, .slice none 0 0, .slice none 0 0] 28) = W := ⟨_, rfl⟩
  rw [hW] at S0 ⊢
  clear hW
  have H0 : Hid (Held w W0 [((w.heap.size + 1), 28, (#[.int .u8 2, .int .u32 2147483648, .int .u16 0, .bool false, .int .u64 0, .int .u64 0, .int .u64 0, .int .u64 0, .int .u64 0, .int .u64 0, .slice none 0 0, .slice none 0 0] : Array Value)), (w.heap.size, 28, (#[.int .u8 0, .int .u32 0, .int .u16 0, .bool false, .int .u64 0, .int .u64 0, .int .u64 0, .int .u64 0, .int .u64 0, .int .u64 0, .slice none 0 0, .slice none 0 0] : Array Value))]) := Lib.hid (S0.sub8 (by intro x hx; simp only [List.mem_cons, List.not_mem_nil, or_false] at hx ⊢; (repeat' rcases hx with h | hx) <;> simp_all))
  clear S0
  go_upto_region 10 with (fail)
  have kk := H0.out.at_ (List.mem_cons_self ..)
  have p7 := kk.cell 7
  have pf7 := kk.frozen 7
  clear kk
  go_upto_region 11 with (fail)
  clear p7 pf7
  have s0 := H0.out.put8 (by omega) (by intro x hx; simp only [List.mem_cons, List.not_mem_nil, or_false] at hx; (repeat' rcases hx with rfl | hx) <;> (try subst hx) <;> (dsimp only; omega)) 7 (.int .u64 7)
  simp only [List.setIfInBounds_toArray, List.set_cons_zero, List.set_cons_succ] at s0
  obtain ⟨W1, hW⟩ : ∃ W, W0.setCell ⟨w.heap.size + 1, 7, none⟩ (.int .u64 7) = W := ⟨_, rfl⟩
  rw [hW] at s0 ⊢
  clear hW
  have H1 : Hid (Held w W1 [((w.heap.size + 1), 28, (#[.int .u8 2, .int .u32 2147483648, .int .u16 0, .bool false, .int .u64 0, .int .u64 0, .int .u64 0, .int .u64 7, .int .u64 0, .int .u64 0, .slice none 0 0, .slice none 0 0] : Array Value)), (w.heap.size, 28, (#[.int .u8 0, .int .u32 0, .int .u16 0, .bool false, .int .u64 0, .int .u64 0, .int .u64 0, .int .u64 0, .int .u64 0, .int .u64 0, .slice none 0 0, .slice none 0 0] : Array Value))]) := Lib.hid s0
  clear s0
  have kk := H1.out.at_ (List.mem_cons_self ..)
  have p4 := kk.cell 4
  have pf4 := kk.frozen 4
  clear kk
  go_upto_region 12 with (fail)
  clear p4 pf4
  have s1 := H1.out.put8 (by omega) (by intro x hx; simp only [List.mem_cons, List.not_mem_nil, or_false] at hx; (repeat' rcases hx with rfl | hx) <;> (try subst hx) <;> (dsimp only; omega)) 4 (.int .u64 1)
  simp only [List.setIfInBounds_toArray, List.set_cons_zero, List.set_cons_succ] at s1
  obtain ⟨W2, hW⟩ : ∃ W, W1.setCell ⟨w.heap.size + 1, 4, none⟩ (.int .u64 1) = W := ⟨_, rfl⟩
  rw [hW] at s1 ⊢
  clear hW
  have H2 : Hid (Held w W2 [((w.heap.size + 1), 28, (#[.int .u8 2, .int .u32 2147483648, .int .u16 0, .bool false, .int .u64 1, .int .u64 0, .int .u64 0, .int .u64 7, .int .u64 0, .int .u64 0, .slice none 0 0, .slice none 0 0] : Array Value)), (w.heap.size, 28, (#[.int .u8 0, .int .u32 0, .int .u16 0, .bool false, .int .u64 0, .int .u64 0, .int .u64 0, .int .u64 0, .int .u64 0, .int .u64 0, .slice none 0 0, .slice none 0 0] : Array Value))]) := Lib.hid s1
  clear s1
  have kk := H2.out.at_ (List.mem_cons_self ..)
  have p6 := kk.cell 6
  have pf6 := kk.frozen 6
  clear kk
  go_upto_region 23 with (fail)
  clear p6 pf6
  have s2 := H2.out.put8 (by omega) (by intro x hx; simp only [List.mem_cons, List.not_mem_nil, or_false] at hx; (repeat' rcases hx with rfl | hx) <;> (try subst hx) <;> (dsimp only; omega)) 6 (.int .u64 18446744073709551615)
  simp only [List.setIfInBounds_toArray, List.set_cons_zero, List.set_cons_succ] at s2
  obtain ⟨W3, hW⟩ : ∃ W, W2.setCell ⟨w.heap.size + 1, 6, none⟩ (.int .u64 18446744073709551615) = W := ⟨_, rfl⟩
  rw [hW] at s2 ⊢
  clear hW
  have H3 : Hid (Held w W3 [((w.heap.size + 1), 28, (#[.int .u8 2, .int .u32 2147483648, .int .u16 0, .bool false, .int .u64 1, .int .u64 0, .int .u64 18446744073709551615, .int .u64 7, .int .u64 0, .int .u64 0, .slice none 0 0, .slice none 0 0] : Array Value)), (w.heap.size, 28, (#[.int .u8 0, .int .u32 0, .int .u16 0, .bool false, .int .u64 0, .int .u64 0, .int .u64 0, .int .u64 0, .int .u64 0, .int .u64 0, .slice none 0 0, .slice none 0 0] : Array Value))]) := Lib.hid s2
  clear s2
  have kk := H3.out.at_ (List.mem_cons_self ..)
  have p0 := kk.cell 0
  have pf0 := kk.frozen 0
  have p1 := kk.cell 1
  have pf1 := kk.frozen 1
  have p2 := kk.cell 2
  have pf2 := kk.frozen 2
  have p3 := kk.cell 3
  have pf3 := kk.frozen 3
  have p4 := kk.cell 4
  have pf4 := kk.frozen 4
  have p5 := kk.cell 5
  have pf5 := kk.frozen 5
  have p6 := kk.cell 6
  have pf6 := kk.frozen 6
  have p7 := kk.cell 7
  have pf7 := kk.frozen 7
  have p8 := kk.cell 8
  have pf8 := kk.frozen 8
  have p9 := kk.cell 9
  have pf9 := kk.frozen 9
  have p10 := kk.cell 10
  have pf10 := kk.frozen 10
  have p11 := kk.cell 11
  have pf11 := kk.frozen 11
  clear kk
  have kk := H3.out.at_ (List.mem_cons_of_mem _ (List.mem_cons_self ..))
  have z0 := kk.cell 0
  have zf0 := kk.frozen 0
  have z1 := kk.cell 1
  have zf1 := kk.frozen 1
  have z2 := kk.cell 2
  have zf2 := kk.frozen 2
  have z3 := kk.cell 3
  have zf3 := kk.frozen 3
  have z4 := kk.cell 4
  have zf4 := kk.frozen 4
  have z5 := kk.cell 5
  have zf5 := kk.frozen 5
  have z6 := kk.cell 6
  have zf6 := kk.frozen 6
  have z7 := kk.cell 7
  have zf7 := kk.frozen 7
  have z8 := kk.cell 8
  have zf8 := kk.frozen 8
  have z9 := kk.cell 9
  have zf9 := kk.frozen 9
  have z10 := kk.cell 10
  have zf10 := kk.frozen 10
  have z11 := kk.cell 11
  have zf11 := kk.frozen 11
  clear kk
  go_wp2_with fail
  clear p0 pf0 p1 pf1 p2 pf2 p3 pf3 p4 pf4 p5 pf5 p6 pf6 p7 pf7 p8 pf8 p9 pf9 p10 pf10 p11 pf11
  have HE := (H3.out.sub8 (l' := [(w.heap.size, 28, (#[.int .u8 0, .int .u32 0, .int .u16 0, .bool false, .int .u64 0, .int .u64 0, .int .u64 0, .int .u64 0, .int .u64 0, .int .u64 0, .slice none 0 0, .slice none 0 0] : Array Value)), ((w.heap.size + 1), 28, (#[.int .u8 2, .int .u32 2147483648, .int .u16 0, .bool false, .int .u64 1, .int .u64 0, .int .u64 18446744073709551615, .int .u64 7, .int .u64 0, .int .u64 0, .slice none 0 0, .slice none 0 0] : Array Value))]) (by intro x hx; simp only [List.mem_cons, List.not_mem_nil, or_false] at hx ⊢; (repeat' rcases hx with h | hx) <;> simp_all)).twelve8 (by omega) (by intro x hx; simp only [List.mem_cons, List.not_mem_nil, or_false] at hx; (repeat' rcases hx with rfl | hx) <;> (try subst hx) <;> (dsimp only; omega)) (.int .u8 2) (.int .u32 2147483648) (.int .u16 0) (.bool false) (.int .u64 1) (.int .u64 0) (.int .u64 18446744073709551615) (.int .u64 7) (.int .u64 0) (.int .u64 0) (.slice none 0 0) (.slice none 0 0)
  refine bodyPost_ret (v := .agg #[.int .u8 2, .int .u32 2147483648, .int .u16 0, .bool false, .int .u64 1, .int .u64 0, .int .u64 18446744073709551615, .int .u64 7, .int .u64 0, .int .u64 0, .slice none 0 0, .slice none 0 0]) ?_ rfl ⟨⟨2, 2147483648, 0, false, 1, 0, 18446744073709551615, 7, 0, 0, none, 0, 0, none, 0, 0⟩, [], [], rfl, ⟨RowsIn.nil, PansIn.nil⟩, ⟨⟨(by decide : 2 < 256), (by decide : 2147483648 < 4294967296), (by decide : 0 < 65536), (by decide : 1 < 18446744073709551616), (by decide : 0 < 18446744073709551616), (by decide : 18446744073709551615 < 18446744073709551616), (by decide : 7 < 18446744073709551616), (by decide : 0 < 18446744073709551616), (by decide : 0 < 18446744073709551616)⟩, by simp, by simp, by show 0 ≤ 64; omega, by show 0 ≤ 64; omega⟩, HE.1⟩
  simp [results, Tryz.results4, go_sem, z0, z1, z2, z3, z4, z5, z6, z7, z8, z9, z10, z11]
set_option maxRecDepth 100000 in
set_option maxHeartbeats 4000000 in
theorem example8_3 (w : World) : Calls Tryz.prog 4 #[.int .u8 3] w (FineP w) := by
  go_enter Tryz.func4, Tryz.ntmps4
  go_upto_region 2 with (fail)
  have S0 := ((Held.start w).new #[.int .u8 0, .int .u32 0, .int .u16 0, .bool false, .int .u64 0, .int .u64 0, .int .u64 0, .int .u64 0, .int .u64 0, .int .u64 0, .slice none 0 0, .slice none 0 0] 28).new #[.int .u8 3, .int .u32 2147483648, .int .u16 0, .bool false, .int .u64 0, .int .u64 0, .int .u64 0, .int .u64 0, .int .u64 0, .int .u64 0, .slice none 0 0, .slice none 0 0] 28
  rw [show (w.alloc (.cells #[.int .u8 0, .int .u32 0, .int .u16 0, .bool false, .int .u64 0, .int .u64 0, .int .u64 0, .int .u64 0, .int .u64 0, .int .u64 0, .slice none 0 0, .slice none 0 0] 28)).heap.size = w.heap.size + 1 by simp] at S0
  obtain ⟨W0, hW⟩ : ∃ W, (w.alloc (.cells #[.int .u8 0, .int .u32 0, .int .u16 0, .bool false, .int .u64 0, .int .u64 0, .int .u64 0, .int .u64 0, .int .u64 0, .int .u64 0, .slice none 0 0, .slice none 0 0] 28)).alloc (.cells #[.int .u8 3, .int .u32 2147483648, .int .u16 0, .bool false, .int .u64 0, .int .u64 0, .int .u64 0, .int .u64 0, .int .u64 0, .int .u64 0, .slice none 0 0, .slice none 0 0] 28) = W := ⟨_, rfl⟩
  rw [hW] at S0 ⊢
  clear hW
  have H0 : Hid (Held w W0 [((w.heap.size + 1), 28, (#[.int .u8 3, .int .u32 2147483648, .int .u16 0, .bool false, .int .u64 0, .int .u64 0, .int .u64 0, .int .u64 0, .int .u64 0, .int .u64 0, .slice none 0 0, .slice none 0 0] : Array Value)), (w.heap.size, 28, (#[.int .u8 0, .int .u32 0, .int .u16 0, .bool false, .int .u64 0, .int .u64 0, .int .u64 0, .int .u64 0, .int .u64 0, .int .u64 0, .slice none 0 0, .slice none 0 0] : Array Value))]) := Lib.hid (S0.sub8 (by intro x hx; simp only [List.mem_cons, List.not_mem_nil, or_false] at hx ⊢; (repeat' rcases hx with h | hx) <;> simp_all))
  clear S0
  go_upto_region 10 with (fail)
  have kk := H0.out.at_ (List.mem_cons_self ..)
  have p7 := kk.cell 7
  have pf7 := kk.frozen 7
  clear kk
  go_upto_region 11 with (fail)
  clear p7 pf7
  have s0 := H0.out.put8 (by omega) (by intro x hx; simp only [List.mem_cons, List.not_mem_nil, or_false] at hx; (repeat' rcases hx with rfl | hx) <;> (try subst hx) <;> (dsimp only; omega)) 7 (.int .u64 7)
  simp only [List.setIfInBounds_toArray, List.set_cons_zero, List.set_cons_succ] at s0
  obtain ⟨W1, hW⟩ : ∃ W, W0.setCell ⟨w.heap.size + 1, 7, none⟩ (.int .u64 7) = W := ⟨_, rfl⟩
  rw [hW] at s0 ⊢
  clear hW
  have H1 : Hid (Held w W1 [((w.heap.size + 1), 28, (#[.int .u8 3, .int .u32 2147483648, .int .u16 0, .bool false, .int .u64 0, .int .u64 0, .int .u64 0, .int .u64 7, .int .u64 0, .int .u64 0, .slice none 0 0, .slice none 0 0] : Array Value)), (w.heap.size, 28, (#[.int .u8 0, .int .u32 0, .int .u16 0, .bool false, .int .u64 0, .int .u64 0, .int .u64 0, .int .u64 0, .int .u64 0, .int .u64 0, .slice none 0 0, .slice none 0 0] : Array Value))]) := Lib.hid s0
  clear s0
  have kk := H1.out.at_ (List.mem_cons_self ..)
  have p4 := kk.cell 4
  have pf4 := kk.frozen 4
  clear kk
  go_upto_region 12 with (fail)
  clear p4 pf4
  have s1 := H1.out.put8 (by omega) (by intro x hx; simp only [List.mem_cons, List.not_mem_nil, or_false] at hx; (repeat' rcases hx with rfl | hx) <;> (try subst hx) <;> (dsimp only; omega)) 4 (.int .u64 1)
  simp only [List.setIfInBounds_toArray, List.set_cons_zero, List.set_cons_succ] at s1
  obtain ⟨W2, hW⟩ : ∃ W, W1.setCell ⟨w.heap.size + 1, 4, none⟩ (.int .u64 1) = W := ⟨_, rfl⟩
  rw [hW] at s1 ⊢
  clear hW
  have H2 : Hid (Held w W2 [((w.heap.size + 1), 28, (#[.int .u8 3, .int .u32 2147483648, .int .u16 0, .bool false, .int .u64 1, .int .u64 0, .int .u64 0, .int .u64 7, .int .u64 0, .int .u64 0, .slice none 0 0, .slice none 0 0] : Array Value)), (w.heap.size, 28, (#[.int .u8 0, .int .u32 0, .int .u16 0, .bool false, .int .u64 0, .int .u64 0, .int .u64 0, .int .u64 0, .int .u64 0, .int .u64 0, .slice none 0 0, .slice none 0 0] : Array Value))]) := Lib.hid s1
  clear s1
  have kk := H2.out.at_ (List.mem_cons_self ..)
  have p6 := kk.cell 6
  have pf6 := kk.frozen 6
  clear kk
  go_upto_region 23 with (fail)
  clear p6 pf6
  have s2 := H2.out.put8 (by omega) (by intro x hx; simp only [List.mem_cons, List.not_mem_nil, or_false] at hx; (repeat' rcases hx with rfl | hx) <;> (try subst hx) <;> (dsimp only; omega)) 6 (.int .u64 18446744073709551615)
  simp only [List.setIfInBounds_toArray, List.set_cons_zero, List.set_cons_succ] at s2
  obtain ⟨W3, hW⟩ : ∃ W, W2.setCell ⟨w.heap.size + 1, 6, none⟩ (.int .u64 18446744073709551615) = W := ⟨_, rfl⟩
  rw [hW] at s2 ⊢
  clear hW
  have H3 : Hid (Held w W3 [((w.heap.size + 1), 28, (#[.int .u8 3, .int .u32 2147483648, .int .u16 0, .bool false, .int .u64 1, .int .u64 0, .int .u64 18446744073709551615, .int .u64 7, .int .u64 0, .int .u64 0, .slice none 0 0, .slice none 0 0] : Array Value)), (w.heap.size, 28, (#[.int .u8 0, .int .u32 0, .int .u16 0, .bool false, .int .u64 0, .int .u64 0, .int .u64 0, .int .u64 0, .int .u64 0, .int .u64 0, .slice none 0 0, .slice none 0 0] : Array Value))]) := Lib.hid s2
  clear s2
  have kk := H3.out.at_ (List.mem_cons_self ..)
  have p0 := kk.cell 0
  have pf0 := kk.frozen 0
  have p1 := kk.cell 1
  have pf1 := kk.frozen 1
  have p2 := kk.cell 2
  have pf2 := kk.frozen 2
  have p3 := kk.cell 3
  have pf3 := kk.frozen 3
  have p4 := kk.cell 4
  have pf4 := kk.frozen 4
  have p5 := kk.cell 5
  have pf5 := kk.frozen 5
  have p6 := kk.cell 6
  have pf6 := kk.frozen 6
  have p7 := kk.cell 7
  have pf7 := kk.frozen 7
  have p8 := kk.cell 8
  have pf8 := kk.frozen 8
  have p9 := kk.cell 9
  have pf9 := kk.frozen 9
  have p10 := kk.cell 10
  have pf10 := kk.frozen 10
  have p11 := kk.cell 11
  have pf11 := kk.frozen 11
  clear kk
  have kk := H3.out.at_ (List.mem_cons_of_mem _ (List.mem_cons_self ..))
  have z0 := kk.cell 0
  have zf0 := kk.frozen 0
  have z1 := kk.cell 1
  have zf1 := kk.frozen 1
  have z2 := kk.cell 2
  have zf2 := kk.frozen 2
  have z3 := kk.cell 3
  have zf3 := kk.frozen 3
  have z4 := kk.cell 4
  have zf4 := kk.frozen 4
  have z5 := kk.cell 5
  have zf5 := kk.frozen 5
  have z6 := kk.cell 6
  have zf6 := kk.frozen 6
  have z7 := kk.cell 7
  have zf7 := kk.frozen 7
  have z8 := kk.cell 8
  have zf8 := kk.frozen 8
  have z9 := kk.cell 9
  have zf9 := kk.frozen 9
  have z10 := kk.cell 10
  have zf10 := kk.frozen 10
  have z11 := kk.cell 11
  have zf11 := kk.frozen 11
  clear kk
  go_wp2_with fail
  clear p0 pf0 p1 pf1 p2 pf2 p3 pf3 p4 pf4 p5 pf5 p6 pf6 p7 pf7 p8 pf8 p9 pf9 p10 pf10 p11 pf11
  have HE := (H3.out.sub8 (l' := [(w.heap.size, 28, (#[.int .u8 0, .int .u32 0, .int .u16 0, .bool false, .int .u64 0, .int .u64 0, .int .u64 0, .int .u64 0, .int .u64 0, .int .u64 0, .slice none 0 0, .slice none 0 0] : Array Value)), ((w.heap.size + 1), 28, (#[.int .u8 3, .int .u32 2147483648, .int .u16 0, .bool false, .int .u64 1, .int .u64 0, .int .u64 18446744073709551615, .int .u64 7, .int .u64 0, .int .u64 0, .slice none 0 0, .slice none 0 0] : Array Value))]) (by intro x hx; simp only [List.mem_cons, List.not_mem_nil, or_false] at hx ⊢; (repeat' rcases hx with h | hx) <;> simp_all)).twelve8 (by omega) (by intro x hx; simp only [List.mem_cons, List.not_mem_nil, or_false] at hx; (repeat' rcases hx with rfl | hx) <;> (try subst hx) <;> (dsimp only; omega)) (.int .u8 3) (.int .u32 2147483648) (.int .u16 0) (.bool false) (.int .u64 1) (.int .u64 0) (.int .u64 18446744073709551615) (.int .u64 7) (.int .u64 0) (.int .u64 0) (.slice none 0 0) (.slice none 0 0)
  refine bodyPost_ret (v := .agg #[.int .u8 3, .int .u32 2147483648, .int .u16 0, .bool false, .int .u64 1, .int .u64 0, .int .u64 18446744073709551615, .int .u64 7, .int .u64 0, .int .u64 0, .slice none 0 0, .slice none 0 0]) ?_ rfl ⟨⟨3, 2147483648, 0, false, 1, 0, 18446744073709551615, 7, 0, 0, none, 0, 0, none, 0, 0⟩, [], [], rfl, ⟨RowsIn.nil, PansIn.nil⟩, ⟨⟨(by decide : 3 < 256), (by decide : 2147483648 < 4294967296), (by decide : 0 < 65536), (by decide : 1 < 18446744073709551616), (by decide : 0 < 18446744073709551616), (by decide : 18446744073709551615 < 18446744073709551616), (by decide : 7 < 18446744073709551616), (by decide : 0 < 18446744073709551616), (by decide : 0 < 18446744073709551616)⟩, by simp, by simp, by show 0 ≤ 64; omega, by show 0 ≤ 64; omega⟩, HE.1⟩
  simp [results, Tryz.results4, go_sem, z0, z1, z2, z3, z4, z5, z6, z7, z8, z9, z10, z11]
set_option maxRecDepth 100000 in
set_option maxHeartbeats 4000000 in
theorem example8_4 (w : World) : Calls Tryz.prog 4 #[.int .u8 4] w (FineP w) := by
  go_enter Tryz.func4, Tryz.ntmps4
  go_upto_region 2 with (fail)
  have S0 := ((Held.start w).new #[.int .u8 0, .int .u32 0, .int .u16 0, .bool false, .int .u64 0, .int .u64 0, .int .u64 0, .int .u64 0, .int .u64 0, .int .u64 0, .slice none 0 0, .slice none 0 0] 28).new #[.int .u8 4, .int .u32 2147483648, .int .u16 0, .bool false, .int .u64 0, .int .u64 0, .int .u64 0, .int .u64 0, .int .u64 0, .int .u64 0, .slice none 0 0, .slice none 0 0] 28
  rw [show (w.alloc (.cells #[.int .u8 0, .int .u32 0, .int .u16 0, .bool false, .int .u64 0, .int .u64 0, .int .u64 0, .int .u64 0, .int .u64 0, .int .u64 0, .slice none 0 0, .slice none 0 0] 28)).heap.size = w.heap.size + 1 by simp] at S0
  obtain ⟨W0, hW⟩ : ∃ W, (w.alloc (.cells #[.int .u8 0, .int .u32 0, .int .u16 0, .bool false, .int .u64 0, .int .u64 0, .int .u64 0, .int .u64 0, .int .u64 0, .int .u64 0, .slice none 0 0, .slice none 0 0] 28)).alloc (.cells #[.int .u8 4, .int .u32 2147483648, .int .u16 0, .bool false, .int .u64 0, .int .u64 0, .int .u64 0, .int .u64 0, .int .u64 0, .int .u64 0, .slice none 0 0, .slice none 0 0] 28) = W := ⟨_, rfl⟩
  rw [hW] at S0 ⊢
  clear hW
  have H0 : Hid (Held w W0 [((w.heap.size + 1), 28, (#[.int .u8 4, .int .u32 2147483648, .int .u16 0, .bool false, .int .u64 0, .int .u64 0, .int .u64 0, .int .u64 0, .int .u64 0, .int .u64 0, .slice none 0 0, .slice none 0 0] : Array Value)), (w.heap.size, 28, (#[.int .u8 0, .int .u32 0, .int .u16 0, .bool false, .int .u64 0, .int .u64 0, .int .u64 0, .int .u64 0, .int .u64 0, .int .u64 0, .slice none 0 0, .slice none 0 0] : Array Value))]) := Lib.hid (S0.sub8 (by intro x hx; simp only [List.mem_cons, List.not_mem_nil, or_false] at hx ⊢; (repeat' rcases hx with h | hx) <;> simp_all))
  clear S0
  go_upto_region 5 with (fail)
  have kk := H0.out.at_ (List.mem_cons_self ..)
  have p4 := kk.cell 4
  have pf4 := kk.frozen 4
  clear kk
  go_upto_region 6 with (fail)
  clear p4 pf4
  have s0 := H0.out.put8 (by omega) (by intro x hx; simp only [List.mem_cons, List.not_mem_nil, or_false] at hx; (repeat' rcases hx with rfl | hx) <;> (try subst hx) <;> (dsimp only; omega)) 4 (.int .u64 300)
  simp only [List.setIfInBounds_toArray, List.set_cons_zero, List.set_cons_succ] at s0
  obtain ⟨W1, hW⟩ : ∃ W, W0.setCell ⟨w.heap.size + 1, 4, none⟩ (.int .u64 300) = W := ⟨_, rfl⟩
  rw [hW] at s0 ⊢
  clear hW
  have H1 : Hid (Held w W1 [((w.heap.size + 1), 28, (#[.int .u8 4, .int .u32 2147483648, .int .u16 0, .bool false, .int .u64 300, .int .u64 0, .int .u64 0, .int .u64 0, .int .u64 0, .int .u64 0, .slice none 0 0, .slice none 0 0] : Array Value)), (w.heap.size, 28, (#[.int .u8 0, .int .u32 0, .int .u16 0, .bool false, .int .u64 0, .int .u64 0, .int .u64 0, .int .u64 0, .int .u64 0, .int .u64 0, .slice none 0 0, .slice none 0 0] : Array Value))]) := Lib.hid s0
  clear s0
  have kk := H1.out.at_ (List.mem_cons_self ..)
  have p3 := kk.cell 3
  have pf3 := kk.frozen 3
  clear kk
  go_upto_region 7 with (fail)
  clear p3 pf3
  have s1 := H1.out.put8 (by omega) (by intro x hx; simp only [List.mem_cons, List.not_mem_nil, or_false] at hx; (repeat' rcases hx with rfl | hx) <;> (try subst hx) <;> (dsimp only; omega)) 3 (.bool true)
  simp only [List.setIfInBounds_toArray, List.set_cons_zero, List.set_cons_succ] at s1
  obtain ⟨W2, hW⟩ : ∃ W, W1.setCell ⟨w.heap.size + 1, 3, none⟩ (.bool true) = W := ⟨_, rfl⟩
  rw [hW] at s1 ⊢
  clear hW
  have H2 : Hid (Held w W2 [((w.heap.size + 1), 28, (#[.int .u8 4, .int .u32 2147483648, .int .u16 0, .bool true, .int .u64 300, .int .u64 0, .int .u64 0, .int .u64 0, .int .u64 0, .int .u64 0, .slice none 0 0, .slice none 0 0] : Array Value)), (w.heap.size, 28, (#[.int .u8 0, .int .u32 0, .int .u16 0, .bool false, .int .u64 0, .int .u64 0, .int .u64 0, .int .u64 0, .int .u64 0, .int .u64 0, .slice none 0 0, .slice none 0 0] : Array Value))]) := Lib.hid s1
  clear s1
  go_wp2_with fail
  refine (row8_lit4 _).mono ?_
  rintro e v4 ⟨rk4, rs4, rt4, rc4, ru4, rl4, rh4, rfl, ro4, ra4, b4⟩
  have H3 := Lib.hid (H2.out.step b4)
  clear b4
  go_wp2_with fail
  refine (row8_lit5 _).mono ?_
  rintro e v5 ⟨rk5, rs5, rt5, rc5, ru5, rl5, rh5, rfl, ro5, ra5, b5⟩
  have H4 := Lib.hid (H3.out.step b5)
  clear b5
  have s4 := H4.out.new #[.string rk4, .int .i64 rs4, .int .i64 rt4, .int .i64 rc4, .int .i64 ru4, .int .i64 rl4, .int .i64 rh4, .string rk5, .int .i64 rs5, .int .i64 rt5, .int .i64 rc5, .int .i64 ru5, .int .i64 rl5, .int .i64 rh5] 49
  obtain ⟨gr, hg⟩ : ∃ g, v5.heap.size = g := ⟨_, rfl⟩
  rw [hg] at s4
  obtain ⟨W5, hW⟩ : ∃ W, v5.alloc (.cells #[.string rk4, .int .i64 rs4, .int .i64 rt4, .int .i64 rc4, .int .i64 ru4, .int .i64 rl4, .int .i64 rh4, .string rk5, .int .i64 rs5, .int .i64 rt5, .int .i64 rc5, .int .i64 ru5, .int .i64 rl5, .int .i64 rh5] 49) = W := ⟨_, rfl⟩
  rw [hW] at s4
  have H5 : Hid (Held w W5 [((w.heap.size + 1), 28, (#[.int .u8 4, .int .u32 2147483648, .int .u16 0, .bool true, .int .u64 300, .int .u64 0, .int .u64 0, .int .u64 0, .int .u64 0, .int .u64 0, .slice none 0 0, .slice none 0 0] : Array Value)), (w.heap.size, 28, (#[.int .u8 0, .int .u32 0, .int .u16 0, .bool false, .int .u64 0, .int .u64 0, .int .u64 0, .int .u64 0, .int .u64 0, .int .u64 0, .slice none 0 0, .slice none 0 0] : Array Value)), (gr, 49, (#[.string rk4, .int .i64 rs4, .int .i64 rt4, .int .i64 rc4, .int .i64 ru4, .int .i64 rl4, .int .i64 rh4, .string rk5, .int .i64 rs5, .int .i64 rt5, .int .i64 rc5, .int .i64 ru5, .int .i64 rl5, .int .i64 rh5] : Array Value))]) := Lib.hid (s4.sub8 (by intro x hx; simp only [List.mem_cons, List.not_mem_nil, or_false] at hx ⊢; (repeat' rcases hx with h | hx) <;> simp_all))
  clear s4
  have hgr : w.heap.size + 1 < gr := by have h1 := H4.out.2 _ (List.mem_cons_self ..); exact (by rw [← hg]; exact h1.lt)
  have kk := H5.out.at_ (List.mem_cons_self ..)
  have p10 := kk.cell 10
  have pf10 := kk.frozen 10
  clear kk
  go_upto_region 22 with (fail)
  clear p10 pf10
  have s5 := H5.out.put8 (by omega) (by intro x hx; simp only [List.mem_cons, List.not_mem_nil, or_false] at hx; (repeat' rcases hx with rfl | hx) <;> (try subst hx) <;> (dsimp only; omega)) 10 (.slice (some ⟨gr, 0, none⟩) 2 2)
  simp only [List.setIfInBounds_toArray, List.set_cons_zero, List.set_cons_succ] at s5
  obtain ⟨W6, hW⟩ : ∃ W, W5.setCell ⟨w.heap.size + 1, 10, none⟩ (.slice (some ⟨gr, 0, none⟩) 2 2) = W := ⟨_, rfl⟩
  rw [hW] at s5 ⊢
  clear hW
  have H6 : Hid (Held w W6 [((w.heap.size + 1), 28, (#[.int .u8 4, .int .u32 2147483648, .int .u16 0, .bool true, .int .u64 300, .int .u64 0, .int .u64 0, .int .u64 0, .int .u64 0, .int .u64 0, .slice (some ⟨gr, 0, none⟩) 2 2, .slice none 0 0] : Array Value)), (w.heap.size, 28, (#[.int .u8 0, .int .u32 0, .int .u16 0, .bool false, .int .u64 0, .int .u64 0, .int .u64 0, .int .u64 0, .int .u64 0, .int .u64 0, .slice none 0 0, .slice none 0 0] : Array Value)), (gr, 49, (#[.string rk4, .int .i64 rs4, .int .i64 rt4, .int .i64 rc4, .int .i64 ru4, .int .i64 rl4, .int .i64 rh4, .string rk5, .int .i64 rs5, .int .i64 rt5, .int .i64 rc5, .int .i64 ru5, .int .i64 rl5, .int .i64 rh5] : Array Value))]) := Lib.hid s5
  clear s5
  have s6 := H6.out.new #[.string ⟨#[97]⟩, .int .i64 (-1), .int .i64 5] 45
  obtain ⟨gp, hg⟩ : ∃ g, W6.heap.size = g := ⟨_, rfl⟩
  rw [hg] at s6
  obtain ⟨W7, hW⟩ : ∃ W, W6.alloc (.cells #[.string ⟨#[97]⟩, .int .i64 (-1), .int .i64 5] 45) = W := ⟨_, rfl⟩
  rw [hW] at s6
  have H7 : Hid (Held w W7 [((w.heap.size + 1), 28, (#[.int .u8 4, .int .u32 2147483648, .int .u16 0, .bool true, .int .u64 300, .int .u64 0, .int .u64 0, .int .u64 0, .int .u64 0, .int .u64 0, .slice (some ⟨gr, 0, none⟩) 2 2, .slice none 0 0] : Array Value)), (w.heap.size, 28, (#[.int .u8 0, .int .u32 0, .int .u16 0, .bool false, .int .u64 0, .int .u64 0, .int .u64 0, .int .u64 0, .int .u64 0, .int .u64 0, .slice none 0 0, .slice none 0 0] : Array Value)), (gr, 49, (#[.string rk4, .int .i64 rs4, .int .i64 rt4, .int .i64 rc4, .int .i64 ru4, .int .i64 rl4, .int .i64 rh4, .string rk5, .int .i64 rs5, .int .i64 rt5, .int .i64 rc5, .int .i64 ru5, .int .i64 rl5, .int .i64 rh5] : Array Value)), (gp, 45, (#[.string ⟨#[97]⟩, .int .i64 (-1), .int .i64 5] : Array Value))]) := Lib.hid (s6.sub8 (by intro x hx; simp only [List.mem_cons, List.not_mem_nil, or_false] at hx ⊢; (repeat' rcases hx with h | hx) <;> simp_all))
  clear s6
  have hgp : w.heap.size + 1 < gp := by have h1 := H6.out.2 _ (List.mem_cons_self ..); exact (by rw [← hg]; exact h1.lt)
  have kk := H7.out.at_ (List.mem_cons_self ..)
  have p11 := kk.cell 11
  have pf11 := kk.frozen 11
  clear kk
  go_upto_region 23 with (fail)
  clear p11 pf11
  have s7 := H7.out.put8 (by omega) (by intro x hx; simp only [List.mem_cons, List.not_mem_nil, or_false] at hx; (repeat' rcases hx with rfl | hx) <;> (try subst hx) <;> (dsimp only; omega)) 11 (.slice (some ⟨gp, 0, none⟩) 1 1)
  simp only [List.setIfInBounds_toArray, List.set_cons_zero, List.set_cons_succ] at s7
  obtain ⟨W8, hW⟩ : ∃ W, W7.setCell ⟨w.heap.size + 1, 11, none⟩ (.slice (some ⟨gp, 0, none⟩) 1 1) = W := ⟨_, rfl⟩
  rw [hW] at s7 ⊢
  clear hW
  have H8 : Hid (Held w W8 [((w.heap.size + 1), 28, (#[.int .u8 4, .int .u32 2147483648, .int .u16 0, .bool true, .int .u64 300, .int .u64 0, .int .u64 0, .int .u64 0, .int .u64 0, .int .u64 0, .slice (some ⟨gr, 0, none⟩) 2 2, .slice (some ⟨gp, 0, none⟩) 1 1] : Array Value)), (w.heap.size, 28, (#[.int .u8 0, .int .u32 0, .int .u16 0, .bool false, .int .u64 0, .int .u64 0, .int .u64 0, .int .u64 0, .int .u64 0, .int .u64 0, .slice none 0 0, .slice none 0 0] : Array Value)), (gr, 49, (#[.string rk4, .int .i64 rs4, .int .i64 rt4, .int .i64 rc4, .int .i64 ru4, .int .i64 rl4, .int .i64 rh4, .string rk5, .int .i64 rs5, .int .i64 rt5, .int .i64 rc5, .int .i64 ru5, .int .i64 rl5, .int .i64 rh5] : Array Value)), (gp, 45, (#[.string ⟨#[97]⟩, .int .i64 (-1), .int .i64 5] : Array Value))]) := Lib.hid s7
  clear s7
  have kk := H8.out.at_ (List.mem_cons_self ..)
  have p0 := kk.cell 0
  have pf0 := kk.frozen 0
  have p1 := kk.cell 1
  have pf1 := kk.frozen 1
  have p2 := kk.cell 2
  have pf2 := kk.frozen 2
  have p3 := kk.cell 3
  have pf3 := kk.frozen 3
  have p4 := kk.cell 4
  have pf4 := kk.frozen 4
  have p5 := kk.cell 5
  have pf5 := kk.frozen 5
  have p6 := kk.cell 6
  have pf6 := kk.frozen 6
  have p7 := kk.cell 7
  have pf7 := kk.frozen 7
  have p8 := kk.cell 8
  have pf8 := kk.frozen 8
  have p9 := kk.cell 9
  have pf9 := kk.frozen 9
  have p10 := kk.cell 10
  have pf10 := kk.frozen 10
  have p11 := kk.cell 11
  have pf11 := kk.frozen 11
  clear kk
  have kk := H8.out.at_ (List.mem_cons_of_mem _ (List.mem_cons_self ..))
  have z0 := kk.cell 0
  have zf0 := kk.frozen 0
  have z1 := kk.cell 1
  have zf1 := kk.frozen 1
  have z2 := kk.cell 2
  have zf2 := kk.frozen 2
  have z3 := kk.cell 3
  have zf3 := kk.frozen 3
  have z4 := kk.cell 4
  have zf4 := kk.frozen 4
  have z5 := kk.cell 5
  have zf5 := kk.frozen 5
  have z6 := kk.cell 6
  have zf6 := kk.frozen 6
  have z7 := kk.cell 7
  have zf7 := kk.frozen 7
  have z8 := kk.cell 8
  have zf8 := kk.frozen 8
  have z9 := kk.cell 9
  have zf9 := kk.frozen 9
  have z10 := kk.cell 10
  have zf10 := kk.frozen 10
  have z11 := kk.cell 11
  have zf11 := kk.frozen 11
  clear kk
  go_wp2_with fail
  clear p0 pf0 p1 pf1 p2 pf2 p3 pf3 p4 pf4 p5 pf5 p6 pf6 p7 pf7 p8 pf8 p9 pf9 p10 pf10 p11 pf11
  have HE := (H8.out.sub8 (l' := [(w.heap.size, 28, (#[.int .u8 0, .int .u32 0, .int .u16 0, .bool false, .int .u64 0, .int .u64 0, .int .u64 0, .int .u64 0, .int .u64 0, .int .u64 0, .slice none 0 0, .slice none 0 0] : Array Value)), ((w.heap.size + 1), 28, (#[.int .u8 4, .int .u32 2147483648, .int .u16 0, .bool true, .int .u64 300, .int .u64 0, .int .u64 0, .int .u64 0, .int .u64 0, .int .u64 0, .slice (some ⟨gr, 0, none⟩) 2 2, .slice (some ⟨gp, 0, none⟩) 1 1] : Array Value)), (gr, 49, (#[.string rk4, .int .i64 rs4, .int .i64 rt4, .int .i64 rc4, .int .i64 ru4, .int .i64 rl4, .int .i64 rh4, .string rk5, .int .i64 rs5, .int .i64 rt5, .int .i64 rc5, .int .i64 ru5, .int .i64 rl5, .int .i64 rh5] : Array Value)), (gp, 45, (#[.string ⟨#[97]⟩, .int .i64 (-1), .int .i64 5] : Array Value))]) (by intro x hx; simp only [List.mem_cons, List.not_mem_nil, or_false] at hx ⊢; (repeat' rcases hx with h | hx) <;> simp_all)).twelve8 (by omega) (by intro x hx; simp only [List.mem_cons, List.not_mem_nil, or_false] at hx; (repeat' rcases hx with rfl | hx) <;> (try subst hx) <;> (dsimp only; omega)) (.int .u8 4) (.int .u32 2147483648) (.int .u16 0) (.bool true) (.int .u64 300) (.int .u64 0) (.int .u64 0) (.int .u64 0) (.int .u64 0) (.int .u64 0) (.slice (some ⟨gr, 0, none⟩) 2 2) (.slice (some ⟨gp, 0, none⟩) 1 1)
  have hR := rows_blk8 (n := 2) (l := [(⟨⟨rk4, rs4, rt4⟩, ⟨rc4, ru4, rl4, rh4⟩⟩ : Rw), ⟨⟨rk5, rs5, rt5⟩, ⟨rc5, ru5, rl5, rh5⟩⟩]) (HE.at_ (g := gr) (t := 49) (cs := #[.string rk4, .int .i64 rs4, .int .i64 rt4, .int .i64 rc4, .int .i64 ru4, .int .i64 rl4, .int .i64 rh4, .string rk5, .int .i64 rs5, .int .i64 rt5, .int .i64 rc5, .int .i64 ru5, .int .i64 rl5, .int .i64 rh5]) (List.mem_cons_of_mem _ (List.mem_cons_of_mem _ (List.mem_cons_self ..)))) (by simp [rcells, rowL]) rfl
  have hP := pans_blk8 (n := 1) (l := [(⟨⟨#[97]⟩, -1, 5⟩ : Pn)]) (HE.at_ (g := gp) (t := 45) (cs := #[.string ⟨#[97]⟩, .int .i64 (-1), .int .i64 5]) (List.mem_cons_of_mem _ (List.mem_cons_of_mem _ (List.mem_cons_of_mem _ (List.mem_cons_self ..))))) (by simp [pncells, panL]) rfl
  refine bodyPost_ret (v := .agg #[.int .u8 4, .int .u32 2147483648, .int .u16 0, .bool true, .int .u64 300, .int .u64 0, .int .u64 0, .int .u64 0, .int .u64 0, .int .u64 0, .slice (some ⟨gr, 0, none⟩) 2 2, .slice (some ⟨gp, 0, none⟩) 1 1]) ?_ rfl ⟨⟨4, 2147483648, 0, true, 300, 0, 0, 0, 0, 0, some ⟨gr, 0, none⟩, 2, 2, some ⟨gp, 0, none⟩, 1, 1⟩, [(⟨⟨rk4, rs4, rt4⟩, ⟨rc4, ru4, rl4, rh4⟩⟩ : Rw), ⟨⟨rk5, rs5, rt5⟩, ⟨rc5, ru5, rl5, rh5⟩⟩], [(⟨⟨#[97]⟩, -1, 5⟩ : Pn)], rfl, ⟨hR, hP⟩, ⟨⟨(by decide : 4 < 256), (by decide : 2147483648 < 4294967296), (by decide : 0 < 65536), (by decide : 300 < 18446744073709551616), (by decide : 0 < 18446744073709551616), (by decide : 0 < 18446744073709551616), (by decide : 0 < 18446744073709551616), (by decide : 0 < 18446744073709551616), (by decide : 0 < 18446744073709551616)⟩, by intro q hq; simp only [List.mem_cons, List.not_mem_nil, or_false] at hq; rcases hq with rfl | rfl <;> first | exact ⟨ro4, ra4⟩ | exact ⟨ro5, ra5⟩, by intro q hq; simp only [List.mem_cons, List.not_mem_nil, or_false] at hq; subst hq; exact ⟨by unfold i64ok; decide, by unfold i64ok; decide⟩, by show 2 ≤ 64; omega, by show 1 ≤ 64; omega⟩, HE.1⟩
  simp [results, Tryz.results4, go_sem, z0, z1, z2, z3, z4, z5, z6, z7, z8, z9, z10, z11]
set_option maxRecDepth 100000 in
set_option maxHeartbeats 4000000 in
theorem example8_5 (w : World) : Calls Tryz.prog 4 #[.int .u8 5] w (FineP w) := by
  go_enter Tryz.func4, Tryz.ntmps4
  go_upto_region 2 with (fail)
  have S0 := ((Held.start w).new #[.int .u8 0, .int .u32 0, .int .u16 0, .bool false, .int .u64 0, .int .u64 0, .int .u64 0, .int .u64 0, .int .u64 0, .int .u64 0, .slice none 0 0, .slice none 0 0] 28).new #[.int .u8 5, .int .u32 2147483648, .int .u16 0, .bool false, .int .u64 0, .int .u64 0, .int .u64 0, .int .u64 0, .int .u64 0, .int .u64 0, .slice none 0 0, .slice none 0 0] 28
  rw [show (w.alloc (.cells #[.int .u8 0, .int .u32 0, .int .u16 0, .bool false, .int .u64 0, .int .u64 0, .int .u64 0, .int .u64 0, .int .u64 0, .int .u64 0, .slice none 0 0, .slice none 0 0] 28)).heap.size = w.heap.size + 1 by simp] at S0
  obtain ⟨W0, hW⟩ : ∃ W, (w.alloc (.cells #[.int .u8 0, .int .u32 0, .int .u16 0, .bool false, .int .u64 0, .int .u64 0, .int .u64 0, .int .u64 0, .int .u64 0, .int .u64 0, .slice none 0 0, .slice none 0 0] 28)).alloc (.cells #[.int .u8 5, .int .u32 2147483648, .int .u16 0, .bool false, .int .u64 0, .int .u64 0, .int .u64 0, .int .u64 0, .int .u64 0, .int .u64 0, .slice none 0 0, .slice none 0 0] 28) = W := ⟨_, rfl⟩
  rw [hW] at S0 ⊢
  clear hW
  have H0 : Hid (Held w W0 [((w.heap.size + 1), 28, (#[.int .u8 5, .int .u32 2147483648, .int .u16 0, .bool false, .int .u64 0, .int .u64 0, .int .u64 0, .int .u64 0, .int .u64 0, .int .u64 0, .slice none 0 0, .slice none 0 0] : Array Value)), (w.heap.size, 28, (#[.int .u8 0, .int .u32 0, .int .u16 0, .bool false, .int .u64 0, .int .u64 0, .int .u64 0, .int .u64 0, .int .u64 0, .int .u64 0, .slice none 0 0, .slice none 0 0] : Array Value))]) := Lib.hid (S0.sub8 (by intro x hx; simp only [List.mem_cons, List.not_mem_nil, or_false] at hx ⊢; (repeat' rcases hx with h | hx) <;> simp_all))
  clear S0
  go_upto_region 14 with (fail)
  have kk := H0.out.at_ (List.mem_cons_self ..)
  have p4 := kk.cell 4
  have pf4 := kk.frozen 4
  clear kk
  go_upto_region 15 with (fail)
  clear p4 pf4
  have s0 := H0.out.put8 (by omega) (by intro x hx; simp only [List.mem_cons, List.not_mem_nil, or_false] at hx; (repeat' rcases hx with rfl | hx) <;> (try subst hx) <;> (dsimp only; omega)) 4 (.int .u64 9)
  simp only [List.setIfInBounds_toArray, List.set_cons_zero, List.set_cons_succ] at s0
  obtain ⟨W1, hW⟩ : ∃ W, W0.setCell ⟨w.heap.size + 1, 4, none⟩ (.int .u64 9) = W := ⟨_, rfl⟩
  rw [hW] at s0 ⊢
  clear hW
  have H1 : Hid (Held w W1 [((w.heap.size + 1), 28, (#[.int .u8 5, .int .u32 2147483648, .int .u16 0, .bool false, .int .u64 9, .int .u64 0, .int .u64 0, .int .u64 0, .int .u64 0, .int .u64 0, .slice none 0 0, .slice none 0 0] : Array Value)), (w.heap.size, 28, (#[.int .u8 0, .int .u32 0, .int .u16 0, .bool false, .int .u64 0, .int .u64 0, .int .u64 0, .int .u64 0, .int .u64 0, .int .u64 0, .slice none 0 0, .slice none 0 0] : Array Value))]) := Lib.hid s0
  clear s0
  have kk := H1.out.at_ (List.mem_cons_self ..)
  have p5 := kk.cell 5
  have pf5 := kk.frozen 5
  clear kk
  go_upto_region 16 with (fail)
  clear p5 pf5
  have s1 := H1.out.put8 (by omega) (by intro x hx; simp only [List.mem_cons, List.not_mem_nil, or_false] at hx; (repeat' rcases hx with rfl | hx) <;> (try subst hx) <;> (dsimp only; omega)) 5 (.int .u64 3)
  simp only [List.setIfInBounds_toArray, List.set_cons_zero, List.set_cons_succ] at s1
  obtain ⟨W2, hW⟩ : ∃ W, W1.setCell ⟨w.heap.size + 1, 5, none⟩ (.int .u64 3) = W := ⟨_, rfl⟩
  rw [hW] at s1 ⊢
  clear hW
  have H2 : Hid (Held w W2 [((w.heap.size + 1), 28, (#[.int .u8 5, .int .u32 2147483648, .int .u16 0, .bool false, .int .u64 9, .int .u64 3, .int .u64 0, .int .u64 0, .int .u64 0, .int .u64 0, .slice none 0 0, .slice none 0 0] : Array Value)), (w.heap.size, 28, (#[.int .u8 0, .int .u32 0, .int .u16 0, .bool false, .int .u64 0, .int .u64 0, .int .u64 0, .int .u64 0, .int .u64 0, .int .u64 0, .slice none 0 0, .slice none 0 0] : Array Value))]) := Lib.hid s1
  clear s1
  have kk := H2.out.at_ (List.mem_cons_self ..)
  have p8 := kk.cell 8
  have pf8 := kk.frozen 8
  clear kk
  go_upto_region 17 with (fail)
  clear p8 pf8
  have s2 := H2.out.put8 (by omega) (by intro x hx; simp only [List.mem_cons, List.not_mem_nil, or_false] at hx; (repeat' rcases hx with rfl | hx) <;> (try subst hx) <;> (dsimp only; omega)) 8 (.int .u64 77)
  simp only [List.setIfInBounds_toArray, List.set_cons_zero, List.set_cons_succ] at s2
  obtain ⟨W3, hW⟩ : ∃ W, W2.setCell ⟨w.heap.size + 1, 8, none⟩ (.int .u64 77) = W := ⟨_, rfl⟩
  rw [hW] at s2 ⊢
  clear hW
  have H3 : Hid (Held w W3 [((w.heap.size + 1), 28, (#[.int .u8 5, .int .u32 2147483648, .int .u16 0, .bool false, .int .u64 9, .int .u64 3, .int .u64 0, .int .u64 0, .int .u64 77, .int .u64 0, .slice none 0 0, .slice none 0 0] : Array Value)), (w.heap.size, 28, (#[.int .u8 0, .int .u32 0, .int .u16 0, .bool false, .int .u64 0, .int .u64 0, .int .u64 0, .int .u64 0, .int .u64 0, .int .u64 0, .slice none 0 0, .slice none 0 0] : Array Value))]) := Lib.hid s2
  clear s2
  have kk := H3.out.at_ (List.mem_cons_self ..)
  have p9 := kk.cell 9
  have pf9 := kk.frozen 9
  clear kk
  go_upto_region 23 with (fail)
  clear p9 pf9
  have s3 := H3.out.put8 (by omega) (by intro x hx; simp only [List.mem_cons, List.not_mem_nil, or_false] at hx; (repeat' rcases hx with rfl | hx) <;> (try subst hx) <;> (dsimp only; omega)) 9 (.int .u64 1099511627776)
  simp only [List.setIfInBounds_toArray, List.set_cons_zero, List.set_cons_succ] at s3
  obtain ⟨W4, hW⟩ : ∃ W, W3.setCell ⟨w.heap.size + 1, 9, none⟩ (.int .u64 1099511627776) = W := ⟨_, rfl⟩
  rw [hW] at s3 ⊢
  clear hW
  have H4 : Hid (Held w W4 [((w.heap.size + 1), 28, (#[.int .u8 5, .int .u32 2147483648, .int .u16 0, .bool false, .int .u64 9, .int .u64 3, .int .u64 0, .int .u64 0, .int .u64 77, .int .u64 1099511627776, .slice none 0 0, .slice none 0 0] : Array Value)), (w.heap.size, 28, (#[.int .u8 0, .int .u32 0, .int .u16 0, .bool false, .int .u64 0, .int .u64 0, .int .u64 0, .int .u64 0, .int .u64 0, .int .u64 0, .slice none 0 0, .slice none 0 0] : Array Value))]) := Lib.hid s3
  clear s3
  have kk := H4.out.at_ (List.mem_cons_self ..)
  have p0 := kk.cell 0
  have pf0 := kk.frozen 0
  have p1 := kk.cell 1
  have pf1 := kk.frozen 1
  have p2 := kk.cell 2
  have pf2 := kk.frozen 2
  have p3 := kk.cell 3
  have pf3 := kk.frozen 3
  have p4 := kk.cell 4
  have pf4 := kk.frozen 4
  have p5 := kk.cell 5
  have pf5 := kk.frozen 5
  have p6 := kk.cell 6
  have pf6 := kk.frozen 6
  have p7 := kk.cell 7
  have pf7 := kk.frozen 7
  have p8 := kk.cell 8
  have pf8 := kk.frozen 8
  have p9 := kk.cell 9
  have pf9 := kk.frozen 9
  have p10 := kk.cell 10
  have pf10 := kk.frozen 10
  have p11 := kk.cell 11
  have pf11 := kk.frozen 11
  clear kk
  have kk := H4.out.at_ (List.mem_cons_of_mem _ (List.mem_cons_self ..))
  have z0 := kk.cell 0
  have zf0 := kk.frozen 0
  have z1 := kk.cell 1
  have zf1 := kk.frozen 1
  have z2 := kk.cell 2
  have zf2 := kk.frozen 2
  have z3 := kk.cell 3
  have zf3 := kk.frozen 3
  have z4 := kk.cell 4
  have zf4 := kk.frozen 4
  have z5 := kk.cell 5
  have zf5 := kk.frozen 5
  have z6 := kk.cell 6
  have zf6 := kk.frozen 6
  have z7 := kk.cell 7
  have zf7 := kk.frozen 7
  have z8 := kk.cell 8
  have zf8 := kk.frozen 8
  have z9 := kk.cell 9
  have zf9 := kk.frozen 9
  have z10 := kk.cell 10
  have zf10 := kk.frozen 10
  have z11 := kk.cell 11
  have zf11 := kk.frozen 11
  clear kk
  go_wp2_with fail
  clear p0 pf0 p1 pf1 p2 pf2 p3 pf3 p4 pf4 p5 pf5 p6 pf6 p7 pf7 p8 pf8 p9 pf9 p10 pf10 p11 pf11
  have HE := (H4.out.sub8 (l' := [(w.heap.size, 28, (#[.int .u8 0, .int .u32 0, .int .u16 0, .bool false, .int .u64 0, .int .u64 0, .int .u64 0, .int .u64 0, .int .u64 0, .int .u64 0, .slice none 0 0, .slice none 0 0] : Array Value)), ((w.heap.size + 1), 28, (#[.int .u8 5, .int .u32 2147483648, .int .u16 0, .bool false, .int .u64 9, .int .u64 3, .int .u64 0, .int .u64 0, .int .u64 77, .int .u64 1099511627776, .slice none 0 0, .slice none 0 0] : Array Value))]) (by intro x hx; simp only [List.mem_cons, List.not_mem_nil, or_false] at hx ⊢; (repeat' rcases hx with h | hx) <;> simp_all)).twelve8 (by omega) (by intro x hx; simp only [List.mem_cons, List.not_mem_nil, or_false] at hx; (repeat' rcases hx with rfl | hx) <;> (try subst hx) <;> (dsimp only; omega)) (.int .u8 5) (.int .u32 2147483648) (.int .u16 0) (.bool false) (.int .u64 9) (.int .u64 3) (.int .u64 0) (.int .u64 0) (.int .u64 77) (.int .u64 1099511627776) (.slice none 0 0) (.slice none 0 0)
  refine bodyPost_ret (v := .agg #[.int .u8 5, .int .u32 2147483648, .int .u16 0, .bool false, .int .u64 9, .int .u64 3, .int .u64 0, .int .u64 0, .int .u64 77, .int .u64 1099511627776, .slice none 0 0, .slice none 0 0]) ?_ rfl ⟨⟨5, 2147483648, 0, false, 9, 3, 0, 0, 77, 1099511627776, none, 0, 0, none, 0, 0⟩, [], [], rfl, ⟨RowsIn.nil, PansIn.nil⟩, ⟨⟨(by decide : 5 < 256), (by decide : 2147483648 < 4294967296), (by decide : 0 < 65536), (by decide : 9 < 18446744073709551616), (by decide : 3 < 18446744073709551616), (by decide : 0 < 18446744073709551616), (by decide : 0 < 18446744073709551616), (by decide : 77 < 18446744073709551616), (by decide : 1099511627776 < 18446744073709551616)⟩, by simp, by simp, by show 0 ≤ 64; omega, by show 0 ≤ 64; omega⟩, HE.1⟩
  simp [results, Tryz.results4, go_sem, z0, z1, z2, z3, z4, z5, z6, z7, z8, z9, z10, z11]
set_option maxRecDepth 100000 in
set_option maxHeartbeats 4000000 in
theorem example8_7 (w : World) : Calls Tryz.prog 4 #[.int .u8 7] w (FineP w) := by
  go_enter Tryz.func4, Tryz.ntmps4
  go_upto_region 2 with (fail)
  have S0 := ((Held.start w).new #[.int .u8 0, .int .u32 0, .int .u16 0, .bool false, .int .u64 0, .int .u64 0, .int .u64 0, .int .u64 0, .int .u64 0, .int .u64 0, .slice none 0 0, .slice none 0 0] 28).new #[.int .u8 7, .int .u32 2147483648, .int .u16 0, .bool false, .int .u64 0, .int .u64 0, .int .u64 0, .int .u64 0, .int .u64 0, .int .u64 0, .slice none 0 0, .slice none 0 0] 28
  rw [show (w.alloc (.cells #[.int .u8 0, .int .u32 0, .int .u16 0, .bool false, .int .u64 0, .int .u64 0, .int .u64 0, .int .u64 0, .int .u64 0, .int .u64 0, .slice none 0 0, .slice none 0 0] 28)).heap.size = w.heap.size + 1 by simp] at S0
  obtain ⟨W0, hW⟩ : ∃ W, (w.alloc (.cells #[.int .u8 0, .int .u32 0, .int .u16 0, .bool false, .int .u64 0, .int .u64 0, .int .u64 0, .int .u64 0, .int .u64 0, .int .u64 0, .slice none 0 0, .slice none 0 0] 28)).alloc (.cells #[.int .u8 7, .int .u32 2147483648, .int .u16 0, .bool false, .int .u64 0, .int .u64 0, .int .u64 0, .int .u64 0, .int .u64 0, .int .u64 0, .slice none 0 0, .slice none 0 0] 28) = W := ⟨_, rfl⟩
  rw [hW] at S0 ⊢
  clear hW
  have H0 : Hid (Held w W0 [((w.heap.size + 1), 28, (#[.int .u8 7, .int .u32 2147483648, .int .u16 0, .bool false, .int .u64 0, .int .u64 0, .int .u64 0, .int .u64 0, .int .u64 0, .int .u64 0, .slice none 0 0, .slice none 0 0] : Array Value)), (w.heap.size, 28, (#[.int .u8 0, .int .u32 0, .int .u16 0, .bool false, .int .u64 0, .int .u64 0, .int .u64 0, .int .u64 0, .int .u64 0, .int .u64 0, .slice none 0 0, .slice none 0 0] : Array Value))]) := Lib.hid (S0.sub8 (by intro x hx; simp only [List.mem_cons, List.not_mem_nil, or_false] at hx ⊢; (repeat' rcases hx with h | hx) <;> simp_all))
  clear S0
  go_upto_region 19 with (fail)
  have kk := H0.out.at_ (List.mem_cons_self ..)
  have p2 := kk.cell 2
  have pf2 := kk.frozen 2
  clear kk
  go_upto_region 20 with (fail)
  clear p2 pf2
  have s0 := H0.out.put8 (by omega) (by intro x hx; simp only [List.mem_cons, List.not_mem_nil, or_false] at hx; (repeat' rcases hx with rfl | hx) <;> (try subst hx) <;> (dsimp only; omega)) 2 (.int .u16 260)
  simp only [List.setIfInBounds_toArray, List.set_cons_zero, List.set_cons_succ] at s0
  obtain ⟨W1, hW⟩ : ∃ W, W0.setCell ⟨w.heap.size + 1, 2, none⟩ (.int .u16 260) = W := ⟨_, rfl⟩
  rw [hW] at s0 ⊢
  clear hW
  have H1 : Hid (Held w W1 [((w.heap.size + 1), 28, (#[.int .u8 7, .int .u32 2147483648, .int .u16 260, .bool false, .int .u64 0, .int .u64 0, .int .u64 0, .int .u64 0, .int .u64 0, .int .u64 0, .slice none 0 0, .slice none 0 0] : Array Value)), (w.heap.size, 28, (#[.int .u8 0, .int .u32 0, .int .u16 0, .bool false, .int .u64 0, .int .u64 0, .int .u64 0, .int .u64 0, .int .u64 0, .int .u64 0, .slice none 0 0, .slice none 0 0] : Array Value))]) := Lib.hid s0
  clear s0
  have kk := H1.out.at_ (List.mem_cons_self ..)
  have p5 := kk.cell 5
  have pf5 := kk.frozen 5
  clear kk
  go_upto_region 23 with (fail)
  clear p5 pf5
  have s1 := H1.out.put8 (by omega) (by intro x hx; simp only [List.mem_cons, List.not_mem_nil, or_false] at hx; (repeat' rcases hx with rfl | hx) <;> (try subst hx) <;> (dsimp only; omega)) 5 (.int .u64 2)
  simp only [List.setIfInBounds_toArray, List.set_cons_zero, List.set_cons_succ] at s1
  obtain ⟨W2, hW⟩ : ∃ W, W1.setCell ⟨w.heap.size + 1, 5, none⟩ (.int .u64 2) = W := ⟨_, rfl⟩
  rw [hW] at s1 ⊢
  clear hW
  have H2 : Hid (Held w W2 [((w.heap.size + 1), 28, (#[.int .u8 7, .int .u32 2147483648, .int .u16 260, .bool false, .int .u64 0, .int .u64 2, .int .u64 0, .int .u64 0, .int .u64 0, .int .u64 0, .slice none 0 0, .slice none 0 0] : Array Value)), (w.heap.size, 28, (#[.int .u8 0, .int .u32 0, .int .u16 0, .bool false, .int .u64 0, .int .u64 0, .int .u64 0, .int .u64 0, .int .u64 0, .int .u64 0, .slice none 0 0, .slice none 0 0] : Array Value))]) := Lib.hid s1
  clear s1
  have kk := H2.out.at_ (List.mem_cons_self ..)
  have p0 := kk.cell 0
  have pf0 := kk.frozen 0
  have p1 := kk.cell 1
  have pf1 := kk.frozen 1
  have p2 := kk.cell 2
  have pf2 := kk.frozen 2
  have p3 := kk.cell 3
  have pf3 := kk.frozen 3
  have p4 := kk.cell 4
  have pf4 := kk.frozen 4
  have p5 := kk.cell 5
  have pf5 := kk.frozen 5
  have p6 := kk.cell 6
  have pf6 := kk.frozen 6
  have p7 := kk.cell 7
  have pf7 := kk.frozen 7
  have p8 := kk.cell 8
  have pf8 := kk.frozen 8
  have p9 := kk.cell 9
  have pf9 := kk.frozen 9
  have p10 := kk.cell 10
  have pf10 := kk.frozen 10
  have p11 := kk.cell 11
  have pf11 := kk.frozen 11
  clear kk
  have kk := H2.out.at_ (List.mem_cons_of_mem _ (List.mem_cons_self ..))
  have z0 := kk.cell 0
  have zf0 := kk.frozen 0
  have z1 := kk.cell 1
  have zf1 := kk.frozen 1
  have z2 := kk.cell 2
  have zf2 := kk.frozen 2
  have z3 := kk.cell 3
  have zf3 := kk.frozen 3
  have z4 := kk.cell 4
  have zf4 := kk.frozen 4
  have z5 := kk.cell 5
  have zf5 := kk.frozen 5
  have z6 := kk.cell 6
  have zf6 := kk.frozen 6
  have z7 := kk.cell 7
  have zf7 := kk.frozen 7
  have z8 := kk.cell 8
  have zf8 := kk.frozen 8
  have z9 := kk.cell 9
  have zf9 := kk.frozen 9
  have z10 := kk.cell 10
  have zf10 := kk.frozen 10
  have z11 := kk.cell 11
  have zf11 := kk.frozen 11
  clear kk
  go_wp2_with fail
  clear p0 pf0 p1 pf1 p2 pf2 p3 pf3 p4 pf4 p5 pf5 p6 pf6 p7 pf7 p8 pf8 p9 pf9 p10 pf10 p11 pf11
  have HE := (H2.out.sub8 (l' := [(w.heap.size, 28, (#[.int .u8 0, .int .u32 0, .int .u16 0, .bool false, .int .u64 0, .int .u64 0, .int .u64 0, .int .u64 0, .int .u64 0, .int .u64 0, .slice none 0 0, .slice none 0 0] : Array Value)), ((w.heap.size + 1), 28, (#[.int .u8 7, .int .u32 2147483648, .int .u16 260, .bool false, .int .u64 0, .int .u64 2, .int .u64 0, .int .u64 0, .int .u64 0, .int .u64 0, .slice none 0 0, .slice none 0 0] : Array Value))]) (by intro x hx; simp only [List.mem_cons, List.not_mem_nil, or_false] at hx ⊢; (repeat' rcases hx with h | hx) <;> simp_all)).twelve8 (by omega) (by intro x hx; simp only [List.mem_cons, List.not_mem_nil, or_false] at hx; (repeat' rcases hx with rfl | hx) <;> (try subst hx) <;> (dsimp only; omega)) (.int .u8 7) (.int .u32 2147483648) (.int .u16 260) (.bool false) (.int .u64 0) (.int .u64 2) (.int .u64 0) (.int .u64 0) (.int .u64 0) (.int .u64 0) (.slice none 0 0) (.slice none 0 0)
  refine bodyPost_ret (v := .agg #[.int .u8 7, .int .u32 2147483648, .int .u16 260, .bool false, .int .u64 0, .int .u64 2, .int .u64 0, .int .u64 0, .int .u64 0, .int .u64 0, .slice none 0 0, .slice none 0 0]) ?_ rfl ⟨⟨7, 2147483648, 260, false, 0, 2, 0, 0, 0, 0, none, 0, 0, none, 0, 0⟩, [], [], rfl, ⟨RowsIn.nil, PansIn.nil⟩, ⟨⟨(by decide : 7 < 256), (by decide : 2147483648 < 4294967296), (by decide : 260 < 65536), (by decide : 0 < 18446744073709551616), (by decide : 2 < 18446744073709551616), (by decide : 0 < 18446744073709551616), (by decide : 0 < 18446744073709551616), (by decide : 0 < 18446744073709551616), (by decide : 0 < 18446744073709551616)⟩, by simp, by simp, by show 0 ≤ 64; omega, by show 0 ≤ 64; omega⟩, HE.1⟩
  simp [results, Tryz.results4, go_sem, z0, z1, z2, z3, z4, z5, z6, z7, z8, z9, z10, z11]
set_option maxRecDepth 100000 in
set_option maxHeartbeats 4000000 in
theorem example8_n (k : Nat) (w : World) (hk : k < 256) (h1 : k ≠ 1 ∧ k ≠ 2 ∧ k ≠ 3 ∧ k ≠ 4 ∧ k ≠ 5 ∧ k ≠ 7) : Calls Tryz.prog 4 #[.int .u8 (k : Int)] w (FineP w) := by
  have n1 : ((k : Int) == 1) = false := by rw [beq_eq_false_iff_ne]; omega
  have n2 : ((k : Int) == 2) = false := by rw [beq_eq_false_iff_ne]; omega
  have n3 : ((k : Int) == 3) = false := by rw [beq_eq_false_iff_ne]; omega
  have n4 : ((k : Int) == 4) = false := by rw [beq_eq_false_iff_ne]; omega
  have n5 : ((k : Int) == 5) = false := by rw [beq_eq_false_iff_ne]; omega
  have n7 : ((k : Int) == 7) = false := by rw [beq_eq_false_iff_ne]; omega
  go_enter Tryz.func4, Tryz.ntmps4
  go_upto_region 2 with (fail)
  have S0 := ((Held.start w).new #[.int .u8 0, .int .u32 0, .int .u16 0, .bool false, .int .u64 0, .int .u64 0, .int .u64 0, .int .u64 0, .int .u64 0, .int .u64 0, .slice none 0 0, .slice none 0 0] 28).new #[.int .u8 (k : Int), .int .u32 2147483648, .int .u16 0, .bool false, .int .u64 0, .int .u64 0, .int .u64 0, .int .u64 0, .int .u64 0, .int .u64 0, .slice none 0 0, .slice none 0 0] 28
  rw [show (w.alloc (.cells #[.int .u8 0, .int .u32 0, .int .u16 0, .bool false, .int .u64 0, .int .u64 0, .int .u64 0, .int .u64 0, .int .u64 0, .int .u64 0, .slice none 0 0, .slice none 0 0] 28)).heap.size = w.heap.size + 1 by simp] at S0
  obtain ⟨W0, hW⟩ : ∃ W, (w.alloc (.cells #[.int .u8 0, .int .u32 0, .int .u16 0, .bool false, .int .u64 0, .int .u64 0, .int .u64 0, .int .u64 0, .int .u64 0, .int .u64 0, .slice none 0 0, .slice none 0 0] 28)).alloc (.cells #[.int .u8 (k : Int), .int .u32 2147483648, .int .u16 0, .bool false, .int .u64 0, .int .u64 0, .int .u64 0, .int .u64 0, .int .u64 0, .int .u64 0, .slice none 0 0, .slice none 0 0] 28) = W := ⟨_, rfl⟩
  rw [hW] at S0 ⊢
  clear hW
  have H0 : Hid (Held w W0 [((w.heap.size + 1), 28, (#[.int .u8 (k : Int), .int .u32 2147483648, .int .u16 0, .bool false, .int .u64 0, .int .u64 0, .int .u64 0, .int .u64 0, .int .u64 0, .int .u64 0, .slice none 0 0, .slice none 0 0] : Array Value)), (w.heap.size, 28, (#[.int .u8 0, .int .u32 0, .int .u16 0, .bool false, .int .u64 0, .int .u64 0, .int .u64 0, .int .u64 0, .int .u64 0, .int .u64 0, .slice none 0 0, .slice none 0 0] : Array Value))]) := Lib.hid (S0.sub8 (by intro x hx; simp only [List.mem_cons, List.not_mem_nil, or_false] at hx ⊢; (repeat' rcases hx with h | hx) <;> simp_all))
  clear S0
  go_upto_region 23 with (fail)
  have kk := H0.out.at_ (List.mem_cons_self ..)
  have p0 := kk.cell 0
  have pf0 := kk.frozen 0
  have p1 := kk.cell 1
  have pf1 := kk.frozen 1
  have p2 := kk.cell 2
  have pf2 := kk.frozen 2
  have p3 := kk.cell 3
  have pf3 := kk.frozen 3
  have p4 := kk.cell 4
  have pf4 := kk.frozen 4
  have p5 := kk.cell 5
  have pf5 := kk.frozen 5
  have p6 := kk.cell 6
  have pf6 := kk.frozen 6
  have p7 := kk.cell 7
  have pf7 := kk.frozen 7
  have p8 := kk.cell 8
  have pf8 := kk.frozen 8
  have p9 := kk.cell 9
  have pf9 := kk.frozen 9
  have p10 := kk.cell 10
  have pf10 := kk.frozen 10
  have p11 := kk.cell 11
  have pf11 := kk.frozen 11
  clear kk
  have kk := H0.out.at_ (List.mem_cons_of_mem _ (List.mem_cons_self ..))
  have z0 := kk.cell 0
  have zf0 := kk.frozen 0
  have z1 := kk.cell 1
  have zf1 := kk.frozen 1
  have z2 := kk.cell 2
  have zf2 := kk.frozen 2
  have z3 := kk.cell 3
  have zf3 := kk.frozen 3
  have z4 := kk.cell 4
  have zf4 := kk.frozen 4
  have z5 := kk.cell 5
  have zf5 := kk.frozen 5
  have z6 := kk.cell 6
  have zf6 := kk.frozen 6
  have z7 := kk.cell 7
  have zf7 := kk.frozen 7
  have z8 := kk.cell 8
  have zf8 := kk.frozen 8
  have z9 := kk.cell 9
  have zf9 := kk.frozen 9
  have z10 := kk.cell 10
  have zf10 := kk.frozen 10
  have z11 := kk.cell 11
  have zf11 := kk.frozen 11
  clear kk
  go_wp2_with fail
  clear p0 pf0 p1 pf1 p2 pf2 p3 pf3 p4 pf4 p5 pf5 p6 pf6 p7 pf7 p8 pf8 p9 pf9 p10 pf10 p11 pf11
  have HE := (H0.out.sub8 (l' := [(w.heap.size, 28, (#[.int .u8 0, .int .u32 0, .int .u16 0, .bool false, .int .u64 0, .int .u64 0, .int .u64 0, .int .u64 0, .int .u64 0, .int .u64 0, .slice none 0 0, .slice none 0 0] : Array Value)), ((w.heap.size + 1), 28, (#[.int .u8 (k : Int), .int .u32 2147483648, .int .u16 0, .bool false, .int .u64 0, .int .u64 0, .int .u64 0, .int .u64 0, .int .u64 0, .int .u64 0, .slice none 0 0, .slice none 0 0] : Array Value))]) (by intro x hx; simp only [List.mem_cons, List.not_mem_nil, or_false] at hx ⊢; (repeat' rcases hx with h | hx) <;> simp_all)).twelve8 (by omega) (by intro x hx; simp only [List.mem_cons, List.not_mem_nil, or_false] at hx; (repeat' rcases hx with rfl | hx) <;> (try subst hx) <;> (dsimp only; omega)) (.int .u8 (k : Int)) (.int .u32 2147483648) (.int .u16 0) (.bool false) (.int .u64 0) (.int .u64 0) (.int .u64 0) (.int .u64 0) (.int .u64 0) (.int .u64 0) (.slice none 0 0) (.slice none 0 0)
  refine bodyPost_ret (v := .agg #[.int .u8 (k : Int), .int .u32 2147483648, .int .u16 0, .bool false, .int .u64 0, .int .u64 0, .int .u64 0, .int .u64 0, .int .u64 0, .int .u64 0, .slice none 0 0, .slice none 0 0]) ?_ rfl ⟨⟨k, 2147483648, 0, false, 0, 0, 0, 0, 0, 0, none, 0, 0, none, 0, 0⟩, [], [], rfl, ⟨RowsIn.nil, PansIn.nil⟩, ⟨⟨hk, (by decide : 2147483648 < 4294967296), (by decide : 0 < 65536), (by decide : 0 < 18446744073709551616), (by decide : 0 < 18446744073709551616), (by decide : 0 < 18446744073709551616), (by decide : 0 < 18446744073709551616), (by decide : 0 < 18446744073709551616), (by decide : 0 < 18446744073709551616)⟩, by simp, by simp, by show 0 ≤ 64; omega, by show 0 ≤ 64; omega⟩, HE.1⟩
  simp [results, Tryz.results4, go_sem, z0, z1, z2, z3, z4, z5, z6, z7, z8, z9, z10, z11]
theorem example8_any (k : Nat) (w : World) (hk : k < 256) : Calls Tryz.prog 4 #[.int .u8 (k : Int)] w (FineP w) := by
  by_cases h1 : k = 1
  · subst h1; exact example8_1 w
  by_cases h2 : k = 2
  · subst h2; exact example8_2 w
  by_cases h3 : k = 3
  · subst h3; exact example8_3 w
  by_cases h4 : k = 4
  · subst h4; exact example8_4 w
  by_cases h5 : k = 5
  · subst h5; exact example8_5 w
  by_cases h7 : k = 7
  · subst h7; exact example8_7 w
  exact example8_n k w hk ⟨h1, h2, h3, h4, h5, h7⟩
end Go.Proofs.YtognlgklepgemaaGreat

namespace Go.Proofs.YtognlgklepgemaaGreat
open Go.ChangeShapes Go.WideShapes Go.ChangeAt Go.RowKit

theorem make8_all (w : World) (N : Nat) (v : Int) (hv : v = N) (hN : N ≤ 65536) : ∃ w', (Instr.makeSlice 33 (.int .i64 v) (.int .i64 v)).run Tryz.prog w = .ok (.slice (some ⟨w.heap.size, 0, none⟩) N N) w' ∧ Below w.heap.size w w' ∧ ∀ W, Below w'.heap.size w' W → (convert 33 9 (.slice (some ⟨w.heap.size, 0, none⟩) N N)).run Tryz.prog W = .ok (.string (textOf (List.replicate N 0))) W := by
  subst hv
  obtain ⟨i0, hi, hz0, hz1, hz2⟩ := info_parts Tryz.info5
  obtain ⟨w', hr, ho, hg⟩ := run_make_full (P := Tryz.prog) (w := w) w.heap.size 33 5 i0 (.int .u8 0) 1 Tryz.underlying33 hi hz0 hz1 .i64 .i64 N (by rw [hz2]; omega) (by unfold maxLen; omega) (Nat.le_refl _)
  have e : (madeCells (Value.int .u8 0).cells (N * 1)).toList = u8s (List.replicate N 0) := by
    show (madeCells #[Value.int .u8 0] (N * 1)).toList = _
    rw [toList_madeCells_one, Nat.mul_one]
    simp [u8s]
  rw [e] at ho
  have hb := Bytes.of_own ho (by intro x hx; have := (List.mem_replicate.1 hx).2; omega)
  exact ⟨w', hr, below_none hg, fun W hW => (conv_bytes (c := N) (hb.below hW (Nat.le_refl _))).2.2⟩
theorem make8_pans (w : World) (N : Nat) (v : Int) (hv : v = N) (hN : N ≤ 65536) (cs : Array Value) (hcs : cs = madeCells #[.string ⟨#[]⟩, .int .i64 0, .int .i64 0] (N * 3)) : (Instr.makeSlice 26 (.int .i64 v) (.int .i64 v)).run Tryz.prog w = .ok (.slice (some ⟨w.heap.size, 0, none⟩) N N) (w.alloc (.cells cs 45)) := by
  subst hv hcs
  obtain ⟨i0, hi, hz0, hz1, hz2⟩ := info_parts Tryz.info45
  have h := run_make (P := Tryz.prog) w 26 45 i0 _ Tryz.underlying26 hi hz0 .i64 .i64 N N (by omega) (Int.le_refl _) (by rw [hz2]; omega) (by omega)
  rw [hz1] at h
  have e : (Int.toNat (N : Int)) = N := by simp
  rw [e] at h
  exact h
set_option maxRecDepth 100000 in
set_option maxHeartbeats 4000000 in
theorem odd8_0 (x : Rp.V) (rows : List Rw) (gone : List Pn) (w : World) (hx : x.In w w.heap.size rows gone) (hf : FineRep x rows gone) : Calls Tryz.prog 6 #[x.val, .int .i64 0] w (FineP w) := by
  obtain ⟨k, id, code, last, ep, fl, un, le, st, ti, A, n1, c1, G, m1, d1⟩ := x
  obtain ⟨hr, hg⟩ := hx
  obtain ⟨⟨o0, o1, o2, o4, o5, o6, o7, o8, o9⟩, fr, fg, fn, fm⟩ := hf
  have HI := Lib.hid (And.intro hr (And.intro hg (And.intro (And.intro o0 (And.intro o1 (And.intro o2 (And.intro o4 (And.intro o5 (And.intro o6 (And.intro o7 (And.intro o8 o9)))))))) (And.intro fr (And.intro fg (And.intro fn fm))))))
  clear hr hg o0 o1 o2 o4 o5 o6 o7 o8 o9 fr fg fn fm
  unfold Rp.V.val Rp.V.cells
  dsimp only
  go_enter Tryz.func6, Tryz.ntmps6
  go_upto_region 1 with (fail)
  have S0 := ((Held.start w).new #[.int .u8 (k : Int), .int .u32 (id : Int), .int .u16 (code : Int), .bool last, .int .u64 (ep : Int), .int .u64 (fl : Int), .int .u64 (un : Int), .int .u64 (le : Int), .int .u64 (st : Int), .int .u64 (ti : Int), .slice A n1 c1, .slice G m1 d1] 28).new #[.int .u8 0, .int .u32 0, .int .u16 0, .bool false, .int .u64 0, .int .u64 0, .int .u64 0, .int .u64 0, .int .u64 0, .int .u64 0, .slice none 0 0, .slice none 0 0] 28
  rw [show (w.alloc (.cells #[.int .u8 (k : Int), .int .u32 (id : Int), .int .u16 (code : Int), .bool last, .int .u64 (ep : Int), .int .u64 (fl : Int), .int .u64 (un : Int), .int .u64 (le : Int), .int .u64 (st : Int), .int .u64 (ti : Int), .slice A n1 c1, .slice G m1 d1] 28)).heap.size = w.heap.size + 1 by simp] at S0
  obtain ⟨W0, hW⟩ : ∃ W, (w.alloc (.cells #[.int .u8 (k : Int), .int .u32 (id : Int), .int .u16 (code : Int), .bool last, .int .u64 (ep : Int), .int .u64 (fl : Int), .int .u64 (un : Int), .int .u64 (le : Int), .int .u64 (st : Int), .int .u64 (ti : Int), .slice A n1 c1, .slice G m1 d1] 28)).alloc (.cells #[.int .u8 0, .int .u32 0, .int .u16 0, .bool false, .int .u64 0, .int .u64 0, .int .u64 0, .int .u64 0, .int .u64 0, .int .u64 0, .slice none 0 0, .slice none 0 0] 28) = W := ⟨_, rfl⟩
  rw [hW] at S0 ⊢
  clear hW
  have H0 : Hid (Held w W0 [(w.heap.size, 28, (#[.int .u8 (k : Int), .int .u32 (id : Int), .int .u16 (code : Int), .bool last, .int .u64 (ep : Int), .int .u64 (fl : Int), .int .u64 (un : Int), .int .u64 (le : Int), .int .u64 (st : Int), .int .u64 (ti : Int), .slice A n1 c1, .slice G m1 d1] : Array Value)), ((w.heap.size + 1), 28, (#[.int .u8 0, .int .u32 0, .int .u16 0, .bool false, .int .u64 0, .int .u64 0, .int .u64 0, .int .u64 0, .int .u64 0, .int .u64 0, .slice none 0 0, .slice none 0 0] : Array Value))]) := Lib.hid (S0.sub8 (by intro x hx; simp only [List.mem_cons, List.not_mem_nil, or_false] at hx ⊢; (repeat' rcases hx with h | hx) <;> simp_all))
  clear S0
  go_upto_region 4 with (fail)
  obtain ⟨y, hy1, hy2, hyl⟩ : ∃ y : Nat, ((code : Int) + 1) % 65536 = y ∧ IntKind.u16.wrap ((code : Int) + 1) = y ∧ y < 65536 := ⟨(code + 1) % 65536, by omega, by rw [IntKind.wrap_u16]; omega, Nat.mod_lt _ (by omega)⟩
  have kk := H0.out.at_ (List.mem_cons_self ..)
  have p2 := kk.cell 2
  have pf2 := kk.frozen 2
  clear kk
  go_upto_region 29 with (fail)
  clear p2 pf2
  have s0 := H0.out.put8 (by omega) (by intro x hx; simp only [List.mem_cons, List.not_mem_nil, or_false] at hx; (repeat' rcases hx with rfl | hx) <;> (try subst hx) <;> (dsimp only; omega)) 2 (.int .u16 (y : Int))
  simp only [List.setIfInBounds_toArray, List.set_cons_zero, List.set_cons_succ] at s0
  obtain ⟨W1, hW⟩ : ∃ W, W0.setCell ⟨w.heap.size, 2, none⟩ (.int .u16 (y : Int)) = W := ⟨_, rfl⟩
  rw [hW] at s0 ⊢
  clear hW
  have H1 : Hid (Held w W1 [(w.heap.size, 28, (#[.int .u8 (k : Int), .int .u32 (id : Int), .int .u16 (y : Int), .bool last, .int .u64 (ep : Int), .int .u64 (fl : Int), .int .u64 (un : Int), .int .u64 (le : Int), .int .u64 (st : Int), .int .u64 (ti : Int), .slice A n1 c1, .slice G m1 d1] : Array Value)), ((w.heap.size + 1), 28, (#[.int .u8 0, .int .u32 0, .int .u16 0, .bool false, .int .u64 0, .int .u64 0, .int .u64 0, .int .u64 0, .int .u64 0, .int .u64 0, .slice none 0 0, .slice none 0 0] : Array Value))]) := Lib.hid s0
  clear s0
  clear hy1 hy2
  have kk := H1.out.at_ (List.mem_cons_self ..)
  have p0 := kk.cell 0
  have pf0 := kk.frozen 0
  have p1 := kk.cell 1
  have pf1 := kk.frozen 1
  have p2 := kk.cell 2
  have pf2 := kk.frozen 2
  have p3 := kk.cell 3
  have pf3 := kk.frozen 3
  have p4 := kk.cell 4
  have pf4 := kk.frozen 4
  have p5 := kk.cell 5
  have pf5 := kk.frozen 5
  have p6 := kk.cell 6
  have pf6 := kk.frozen 6
  have p7 := kk.cell 7
  have pf7 := kk.frozen 7
  have p8 := kk.cell 8
  have pf8 := kk.frozen 8
  have p9 := kk.cell 9
  have pf9 := kk.frozen 9
  have p10 := kk.cell 10
  have pf10 := kk.frozen 10
  have p11 := kk.cell 11
  have pf11 := kk.frozen 11
  clear kk
  have kk := H1.out.at_ (List.mem_cons_of_mem _ (List.mem_cons_self ..))
  have z0 := kk.cell 0
  have zf0 := kk.frozen 0
  have z1 := kk.cell 1
  have zf1 := kk.frozen 1
  have z2 := kk.cell 2
  have zf2 := kk.frozen 2
  have z3 := kk.cell 3
  have zf3 := kk.frozen 3
  have z4 := kk.cell 4
  have zf4 := kk.frozen 4
  have z5 := kk.cell 5
  have zf5 := kk.frozen 5
  have z6 := kk.cell 6
  have zf6 := kk.frozen 6
  have z7 := kk.cell 7
  have zf7 := kk.frozen 7
  have z8 := kk.cell 8
  have zf8 := kk.frozen 8
  have z9 := kk.cell 9
  have zf9 := kk.frozen 9
  have z10 := kk.cell 10
  have zf10 := kk.frozen 10
  have z11 := kk.cell 11
  have zf11 := kk.frozen 11
  clear kk
  go_wp2_with fail
  clear p0 pf0 p1 pf1 p2 pf2 p3 pf3 p4 pf4 p5 pf5 p6 pf6 p7 pf7 p8 pf8 p9 pf9 p10 pf10 p11 pf11
  have HE := (H1.out.sub8 (l' := [((w.heap.size + 1), 28, (#[.int .u8 0, .int .u32 0, .int .u16 0, .bool false, .int .u64 0, .int .u64 0, .int .u64 0, .int .u64 0, .int .u64 0, .int .u64 0, .slice none 0 0, .slice none 0 0] : Array Value)), (w.heap.size, 28, (#[.int .u8 (k : Int), .int .u32 (id : Int), .int .u16 (y : Int), .bool last, .int .u64 (ep : Int), .int .u64 (fl : Int), .int .u64 (un : Int), .int .u64 (le : Int), .int .u64 (st : Int), .int .u64 (ti : Int), .slice A n1 c1, .slice G m1 d1] : Array Value))]) (by intro x hx; simp only [List.mem_cons, List.not_mem_nil, or_false] at hx ⊢; (repeat' rcases hx with h | hx) <;> simp_all)).twelve8 (by omega) (by intro x hx; simp only [List.mem_cons, List.not_mem_nil, or_false] at hx; (repeat' rcases hx with rfl | hx) <;> (try subst hx) <;> (dsimp only; omega)) (.int .u8 (k : Int)) (.int .u32 (id : Int)) (.int .u16 (y : Int)) (.bool last) (.int .u64 (ep : Int)) (.int .u64 (fl : Int)) (.int .u64 (un : Int)) (.int .u64 (le : Int)) (.int .u64 (st : Int)) (.int .u64 (ti : Int)) (.slice A n1 c1) (.slice G m1 d1)
  refine bodyPost_ret (v := .agg #[.int .u8 (k : Int), .int .u32 (id : Int), .int .u16 (y : Int), .bool last, .int .u64 (ep : Int), .int .u64 (fl : Int), .int .u64 (un : Int), .int .u64 (le : Int), .int .u64 (st : Int), .int .u64 (ti : Int), .slice A n1 c1, .slice G m1 d1]) ?_ rfl ⟨⟨k, id, y, last, ep, fl, un, le, st, ti, A, n1, c1, G, m1, d1⟩, rows, gone, rfl, ⟨((HI.out.1.below HE.1 (Nat.le_refl _)).more HE.1.size), ((HI.out.2.1.below HE.1 (Nat.le_refl _)).more HE.1.size)⟩, ⟨⟨HI.out.2.2.1.1, HI.out.2.2.1.2.1, hyl, HI.out.2.2.1.2.2.2.1, HI.out.2.2.1.2.2.2.2.1, HI.out.2.2.1.2.2.2.2.2.1, HI.out.2.2.1.2.2.2.2.2.2.1, HI.out.2.2.1.2.2.2.2.2.2.2.1, HI.out.2.2.1.2.2.2.2.2.2.2.2⟩, HI.out.2.2.2.1, HI.out.2.2.2.2.1, HI.out.2.2.2.2.2.1, HI.out.2.2.2.2.2.2⟩, HE.1⟩
  simp [results, Tryz.results6, go_sem, z0, z1, z2, z3, z4, z5, z6, z7, z8, z9, z10, z11]
set_option maxRecDepth 100000 in
set_option maxHeartbeats 4000000 in
theorem odd8_1 (x : Rp.V) (rows : List Rw) (gone : List Pn) (w : World) (hx : x.In w w.heap.size rows gone) (hf : FineRep x rows gone) : Calls Tryz.prog 6 #[x.val, .int .i64 1] w (FineP w) := by
  obtain ⟨k, id, code, last, ep, fl, un, le, st, ti, A, n1, c1, G, m1, d1⟩ := x
  obtain ⟨hr, hg⟩ := hx
  obtain ⟨⟨o0, o1, o2, o4, o5, o6, o7, o8, o9⟩, fr, fg, fn, fm⟩ := hf
  have HI := Lib.hid (And.intro hr (And.intro hg (And.intro (And.intro o0 (And.intro o1 (And.intro o2 (And.intro o4 (And.intro o5 (And.intro o6 (And.intro o7 (And.intro o8 o9)))))))) (And.intro fr (And.intro fg (And.intro fn fm))))))
  clear hr hg o0 o1 o2 o4 o5 o6 o7 o8 o9 fr fg fn fm
  unfold Rp.V.val Rp.V.cells
  dsimp only
  go_enter Tryz.func6, Tryz.ntmps6
  go_upto_region 1 with (fail)
  have S0 := ((Held.start w).new #[.int .u8 (k : Int), .int .u32 (id : Int), .int .u16 (code : Int), .bool last, .int .u64 (ep : Int), .int .u64 (fl : Int), .int .u64 (un : Int), .int .u64 (le : Int), .int .u64 (st : Int), .int .u64 (ti : Int), .slice A n1 c1, .slice G m1 d1] 28).new #[.int .u8 0, .int .u32 0, .int .u16 0, .bool false, .int .u64 0, .int .u64 0, .int .u64 0, .int .u64 0, .int .u64 0, .int .u64 0, .slice none 0 0, .slice none 0 0] 28
  rw [show (w.alloc (.cells #[.int .u8 (k : Int), .int .u32 (id : Int), .int .u16 (code : Int), .bool last, .int .u64 (ep : Int), .int .u64 (fl : Int), .int .u64 (un : Int), .int .u64 (le : Int), .int .u64 (st : Int), .int .u64 (ti : Int), .slice A n1 c1, .slice G m1 d1] 28)).heap.size = w.heap.size + 1 by simp] at S0
  obtain ⟨W0, hW⟩ : ∃ W, (w.alloc (.cells #[.int .u8 (k : Int), .int .u32 (id : Int), .int .u16 (code : Int), .bool last, .int .u64 (ep : Int), .int .u64 (fl : Int), .int .u64 (un : Int), .int .u64 (le : Int), .int .u64 (st : Int), .int .u64 (ti : Int), .slice A n1 c1, .slice G m1 d1] 28)).alloc (.cells #[.int .u8 0, .int .u32 0, .int .u16 0, .bool false, .int .u64 0, .int .u64 0, .int .u64 0, .int .u64 0, .int .u64 0, .int .u64 0, .slice none 0 0, .slice none 0 0] 28) = W := ⟨_, rfl⟩
  rw [hW] at S0 ⊢
  clear hW
  have H0 : Hid (Held w W0 [(w.heap.size, 28, (#[.int .u8 (k : Int), .int .u32 (id : Int), .int .u16 (code : Int), .bool last, .int .u64 (ep : Int), .int .u64 (fl : Int), .int .u64 (un : Int), .int .u64 (le : Int), .int .u64 (st : Int), .int .u64 (ti : Int), .slice A n1 c1, .slice G m1 d1] : Array Value)), ((w.heap.size + 1), 28, (#[.int .u8 0, .int .u32 0, .int .u16 0, .bool false, .int .u64 0, .int .u64 0, .int .u64 0, .int .u64 0, .int .u64 0, .int .u64 0, .slice none 0 0, .slice none 0 0] : Array Value))]) := Lib.hid (S0.sub8 (by intro x hx; simp only [List.mem_cons, List.not_mem_nil, or_false] at hx ⊢; (repeat' rcases hx with h | hx) <;> simp_all))
  clear S0
  go_upto_region 6 with (fail)
  have kk := H0.out.at_ (List.mem_cons_self ..)
  have p3 := kk.cell 3
  have pf3 := kk.frozen 3
  clear kk
  go_upto_region 29 with (fail)
  clear p3 pf3
  have s0 := H0.out.put8 (by omega) (by intro x hx; simp only [List.mem_cons, List.not_mem_nil, or_false] at hx; (repeat' rcases hx with rfl | hx) <;> (try subst hx) <;> (dsimp only; omega)) 3 (.bool (!last))
  simp only [List.setIfInBounds_toArray, List.set_cons_zero, List.set_cons_succ] at s0
  obtain ⟨W1, hW⟩ : ∃ W, W0.setCell ⟨w.heap.size, 3, none⟩ (.bool (!last)) = W := ⟨_, rfl⟩
  rw [hW] at s0 ⊢
  clear hW
  have H1 : Hid (Held w W1 [(w.heap.size, 28, (#[.int .u8 (k : Int), .int .u32 (id : Int), .int .u16 (code : Int), .bool (!last), .int .u64 (ep : Int), .int .u64 (fl : Int), .int .u64 (un : Int), .int .u64 (le : Int), .int .u64 (st : Int), .int .u64 (ti : Int), .slice A n1 c1, .slice G m1 d1] : Array Value)), ((w.heap.size + 1), 28, (#[.int .u8 0, .int .u32 0, .int .u16 0, .bool false, .int .u64 0, .int .u64 0, .int .u64 0, .int .u64 0, .int .u64 0, .int .u64 0, .slice none 0 0, .slice none 0 0] : Array Value))]) := Lib.hid s0
  clear s0
  have kk := H1.out.at_ (List.mem_cons_self ..)
  have p0 := kk.cell 0
  have pf0 := kk.frozen 0
  have p1 := kk.cell 1
  have pf1 := kk.frozen 1
  have p2 := kk.cell 2
  have pf2 := kk.frozen 2
  have p3 := kk.cell 3
  have pf3 := kk.frozen 3
  have p4 := kk.cell 4
  have pf4 := kk.frozen 4
  have p5 := kk.cell 5
  have pf5 := kk.frozen 5
  have p6 := kk.cell 6
  have pf6 := kk.frozen 6
  have p7 := kk.cell 7
  have pf7 := kk.frozen 7
  have p8 := kk.cell 8
  have pf8 := kk.frozen 8
  have p9 := kk.cell 9
  have pf9 := kk.frozen 9
  have p10 := kk.cell 10
  have pf10 := kk.frozen 10
  have p11 := kk.cell 11
  have pf11 := kk.frozen 11
  clear kk
  have kk := H1.out.at_ (List.mem_cons_of_mem _ (List.mem_cons_self ..))
  have z0 := kk.cell 0
  have zf0 := kk.frozen 0
  have z1 := kk.cell 1
  have zf1 := kk.frozen 1
  have z2 := kk.cell 2
  have zf2 := kk.frozen 2
  have z3 := kk.cell 3
  have zf3 := kk.frozen 3
  have z4 := kk.cell 4
  have zf4 := kk.frozen 4
  have z5 := kk.cell 5
  have zf5 := kk.frozen 5
  have z6 := kk.cell 6
  have zf6 := kk.frozen 6
  have z7 := kk.cell 7
  have zf7 := kk.frozen 7
  have z8 := kk.cell 8
  have zf8 := kk.frozen 8
  have z9 := kk.cell 9
  have zf9 := kk.frozen 9
  have z10 := kk.cell 10
  have zf10 := kk.frozen 10
  have z11 := kk.cell 11
  have zf11 := kk.frozen 11
  clear kk
  go_wp2_with fail
  clear p0 pf0 p1 pf1 p2 pf2 p3 pf3 p4 pf4 p5 pf5 p6 pf6 p7 pf7 p8 pf8 p9 pf9 p10 pf10 p11 pf11
  have HE := (H1.out.sub8 (l' := [((w.heap.size + 1), 28, (#[.int .u8 0, .int .u32 0, .int .u16 0, .bool false, .int .u64 0, .int .u64 0, .int .u64 0, .int .u64 0, .int .u64 0, .int .u64 0, .slice none 0 0, .slice none 0 0] : Array Value)), (w.heap.size, 28, (#[.int .u8 (k : Int), .int .u32 (id : Int), .int .u16 (code : Int), .bool (!last), .int .u64 (ep : Int), .int .u64 (fl : Int), .int .u64 (un : Int), .int .u64 (le : Int), .int .u64 (st : Int), .int .u64 (ti : Int), .slice A n1 c1, .slice G m1 d1] : Array Value))]) (by intro x hx; simp only [List.mem_cons, List.not_mem_nil, or_false] at hx ⊢; (repeat' rcases hx with h | hx) <;> simp_all)).twelve8 (by omega) (by intro x hx; simp only [List.mem_cons, List.not_mem_nil, or_false] at hx; (repeat' rcases hx with rfl | hx) <;> (try subst hx) <;> (dsimp only; omega)) (.int .u8 (k : Int)) (.int .u32 (id : Int)) (.int .u16 (code : Int)) (.bool (!last)) (.int .u64 (ep : Int)) (.int .u64 (fl : Int)) (.int .u64 (un : Int)) (.int .u64 (le : Int)) (.int .u64 (st : Int)) (.int .u64 (ti : Int)) (.slice A n1 c1) (.slice G m1 d1)
  refine bodyPost_ret (v := .agg #[.int .u8 (k : Int), .int .u32 (id : Int), .int .u16 (code : Int), .bool (!last), .int .u64 (ep : Int), .int .u64 (fl : Int), .int .u64 (un : Int), .int .u64 (le : Int), .int .u64 (st : Int), .int .u64 (ti : Int), .slice A n1 c1, .slice G m1 d1]) ?_ rfl ⟨⟨k, id, code, !last, ep, fl, un, le, st, ti, A, n1, c1, G, m1, d1⟩, rows, gone, rfl, ⟨((HI.out.1.below HE.1 (Nat.le_refl _)).more HE.1.size), ((HI.out.2.1.below HE.1 (Nat.le_refl _)).more HE.1.size)⟩, ⟨⟨HI.out.2.2.1.1, HI.out.2.2.1.2.1, HI.out.2.2.1.2.2.1, HI.out.2.2.1.2.2.2.1, HI.out.2.2.1.2.2.2.2.1, HI.out.2.2.1.2.2.2.2.2.1, HI.out.2.2.1.2.2.2.2.2.2.1, HI.out.2.2.1.2.2.2.2.2.2.2.1, HI.out.2.2.1.2.2.2.2.2.2.2.2⟩, HI.out.2.2.2.1, HI.out.2.2.2.2.1, HI.out.2.2.2.2.2.1, HI.out.2.2.2.2.2.2⟩, HE.1⟩
  simp [results, Tryz.results6, go_sem, z0, z1, z2, z3, z4, z5, z6, z7, z8, z9, z10, z11]
set_option maxRecDepth 100000 in
set_option maxHeartbeats 4000000 in
theorem odd8_2 (x : Rp.V) (rows : List Rw) (gone : List Pn) (w : World) (hx : x.In w w.heap.size rows gone) (hf : FineRep x rows gone) : Calls Tryz.prog 6 #[x.val, .int .i64 2] w (FineP w) := by
  obtain ⟨k, id, code, last, ep, fl, un, le, st, ti, A, n1, c1, G, m1, d1⟩ := x
  obtain ⟨hr, hg⟩ := hx
  obtain ⟨⟨o0, o1, o2, o4, o5, o6, o7, o8, o9⟩, fr, fg, fn, fm⟩ := hf
  have HI := Lib.hid (And.intro hr (And.intro hg (And.intro (And.intro o0 (And.intro o1 (And.intro o2 (And.intro o4 (And.intro o5 (And.intro o6 (And.intro o7 (And.intro o8 o9)))))))) (And.intro fr (And.intro fg (And.intro fn fm))))))
  clear hr hg o0 o1 o2 o4 o5 o6 o7 o8 o9 fr fg fn fm
  unfold Rp.V.val Rp.V.cells
  dsimp only
  go_enter Tryz.func6, Tryz.ntmps6
  go_upto_region 1 with (fail)
  have S0 := ((Held.start w).new #[.int .u8 (k : Int), .int .u32 (id : Int), .int .u16 (code : Int), .bool last, .int .u64 (ep : Int), .int .u64 (fl : Int), .int .u64 (un : Int), .int .u64 (le : Int), .int .u64 (st : Int), .int .u64 (ti : Int), .slice A n1 c1, .slice G m1 d1] 28).new #[.int .u8 0, .int .u32 0, .int .u16 0, .bool false, .int .u64 0, .int .u64 0, .int .u64 0, .int .u64 0, .int .u64 0, .int .u64 0, .slice none 0 0, .slice none 0 0] 28
  rw [show (w.alloc (.cells #[.int .u8 (k : Int), .int .u32 (id : Int), .int .u16 (code : Int), .bool last, .int .u64 (ep : Int), .int .u64 (fl : Int), .int .u64 (un : Int), .int .u64 (le : Int), .int .u64 (st : Int), .int .u64 (ti : Int), .slice A n1 c1, .slice G m1 d1] 28)).heap.size = w.heap.size + 1 by simp] at S0
  obtain ⟨W0, hW⟩ : ∃ W, (w.alloc (.cells #[.int .u8 (k : Int), .int .u32 (id : Int), .int .u16 (code : Int), .bool last, .int .u64 (ep : Int), .int .u64 (fl : Int), .int .u64 (un : Int), .int .u64 (le : Int), .int .u64 (st : Int), .int .u64 (ti : Int), .slice A n1 c1, .slice G m1 d1] 28)).alloc (.cells #[.int .u8 0, .int .u32 0, .int .u16 0, .bool false, .int .u64 0, .int .u64 0, .int .u64 0, .int .u64 0, .int .u64 0, .int .u64 0, .slice none 0 0, .slice none 0 0] 28) = W := ⟨_, rfl⟩
  rw [hW] at S0 ⊢
  clear hW
  have H0 : Hid (Held w W0 [(w.heap.size, 28, (#[.int .u8 (k : Int), .int .u32 (id : Int), .int .u16 (code : Int), .bool last, .int .u64 (ep : Int), .int .u64 (fl : Int), .int .u64 (un : Int), .int .u64 (le : Int), .int .u64 (st : Int), .int .u64 (ti : Int), .slice A n1 c1, .slice G m1 d1] : Array Value)), ((w.heap.size + 1), 28, (#[.int .u8 0, .int .u32 0, .int .u16 0, .bool false, .int .u64 0, .int .u64 0, .int .u64 0, .int .u64 0, .int .u64 0, .int .u64 0, .slice none 0 0, .slice none 0 0] : Array Value))]) := Lib.hid (S0.sub8 (by intro x hx; simp only [List.mem_cons, List.not_mem_nil, or_false] at hx ⊢; (repeat' rcases hx with h | hx) <;> simp_all))
  clear S0
  go_upto_region 8 with (fail)
  obtain ⟨y, hy1, hy2, hyl⟩ : ∃ y : Nat, ((ep : Int) + 1) % 18446744073709551616 = y ∧ IntKind.u64.wrap ((ep : Int) + 1) = y ∧ y < 18446744073709551616 := ⟨(ep + 1) % 18446744073709551616, by omega, by rw [IntKind.wrap_u64]; omega, Nat.mod_lt _ (by omega)⟩
  have kk := H0.out.at_ (List.mem_cons_self ..)
  have p4 := kk.cell 4
  have pf4 := kk.frozen 4
  clear kk
  go_upto_region 29 with (fail)
  clear p4 pf4
  have s0 := H0.out.put8 (by omega) (by intro x hx; simp only [List.mem_cons, List.not_mem_nil, or_false] at hx; (repeat' rcases hx with rfl | hx) <;> (try subst hx) <;> (dsimp only; omega)) 4 (.int .u64 (y : Int))
  simp only [List.setIfInBounds_toArray, List.set_cons_zero, List.set_cons_succ] at s0
  obtain ⟨W1, hW⟩ : ∃ W, W0.setCell ⟨w.heap.size, 4, none⟩ (.int .u64 (y : Int)) = W := ⟨_, rfl⟩
  rw [hW] at s0 ⊢
  clear hW
  have H1 : Hid (Held w W1 [(w.heap.size, 28, (#[.int .u8 (k : Int), .int .u32 (id : Int), .int .u16 (code : Int), .bool last, .int .u64 (y : Int), .int .u64 (fl : Int), .int .u64 (un : Int), .int .u64 (le : Int), .int .u64 (st : Int), .int .u64 (ti : Int), .slice A n1 c1, .slice G m1 d1] : Array Value)), ((w.heap.size + 1), 28, (#[.int .u8 0, .int .u32 0, .int .u16 0, .bool false, .int .u64 0, .int .u64 0, .int .u64 0, .int .u64 0, .int .u64 0, .int .u64 0, .slice none 0 0, .slice none 0 0] : Array Value))]) := Lib.hid s0
  clear s0
  clear hy1 hy2
  have kk := H1.out.at_ (List.mem_cons_self ..)
  have p0 := kk.cell 0
  have pf0 := kk.frozen 0
  have p1 := kk.cell 1
  have pf1 := kk.frozen 1
  have p2 := kk.cell 2
  have pf2 := kk.frozen 2
  have p3 := kk.cell 3
  have pf3 := kk.frozen 3
  have p4 := kk.cell 4
  have pf4 := kk.frozen 4
  have p5 := kk.cell 5
  have pf5 := kk.frozen 5
  have p6 := kk.cell 6
  have pf6 := kk.frozen 6
  have p7 := kk.cell 7
  have pf7 := kk.frozen 7
  have p8 := kk.cell 8
  have pf8 := kk.frozen 8
  have p9 := kk.cell 9
  have pf9 := kk.frozen 9
  have p10 := kk.cell 10
  have pf10 := kk.frozen 10
  have p11 := kk.cell 11
  have pf11 := kk.frozen 11
  clear kk
  have kk := H1.out.at_ (List.mem_cons_of_mem _ (List.mem_cons_self ..))
  have z0 := kk.cell 0
  have zf0 := kk.frozen 0
  have z1 := kk.cell 1
  have zf1 := kk.frozen 1
  have z2 := kk.cell 2
  have zf2 := kk.frozen 2
  have z3 := kk.cell 3
  have zf3 := kk.frozen 3
  have z4 := kk.cell 4
  have zf4 := kk.frozen 4
  have z5 := kk.cell 5
  have zf5 := kk.frozen 5
  have z6 := kk.cell 6
  have zf6 := kk.frozen 6
  have z7 := kk.cell 7
  have zf7 := kk.frozen 7
  have z8 := kk.cell 8
  have zf8 := kk.frozen 8
  have z9 := kk.cell 9
  have zf9 := kk.frozen 9
  have z10 := kk.cell 10
  have zf10 := kk.frozen 10
  have z11 := kk.cell 11
  have zf11 := kk.frozen 11
  clear kk
  go_wp2_with fail
  clear p0 pf0 p1 pf1 p2 pf2 p3 pf3 p4 pf4 p5 pf5 p6 pf6 p7 pf7 p8 pf8 p9 pf9 p10 pf10 p11 pf11
  have HE := (H1.out.sub8 (l' := [((w.heap.size + 1), 28, (#[.int .u8 0, .int .u32 0, .int .u16 0, .bool false, .int .u64 0, .int .u64 0, .int .u64 0, .int .u64 0, .int .u64 0, .int .u64 0, .slice none 0 0, .slice none 0 0] : Array Value)), (w.heap.size, 28, (#[.int .u8 (k : Int), .int .u32 (id : Int), .int .u16 (code : Int), .bool last, .int .u64 (y : Int), .int .u64 (fl : Int), .int .u64 (un : Int), .int .u64 (le : Int), .int .u64 (st : Int), .int .u64 (ti : Int), .slice A n1 c1, .slice G m1 d1] : Array Value))]) (by intro x hx; simp only [List.mem_cons, List.not_mem_nil, or_false] at hx ⊢; (repeat' rcases hx with h | hx) <;> simp_all)).twelve8 (by omega) (by intro x hx; simp only [List.mem_cons, List.not_mem_nil, or_false] at hx; (repeat' rcases hx with rfl | hx) <;> (try subst hx) <;> (dsimp only; omega)) (.int .u8 (k : Int)) (.int .u32 (id : Int)) (.int .u16 (code : Int)) (.bool last) (.int .u64 (y : Int)) (.int .u64 (fl : Int)) (.int .u64 (un : Int)) (.int .u64 (le : Int)) (.int .u64 (st : Int)) (.int .u64 (ti : Int)) (.slice A n1 c1) (.slice G m1 d1)
  refine bodyPost_ret (v := .agg #[.int .u8 (k : Int), .int .u32 (id : Int), .int .u16 (code : Int), .bool last, .int .u64 (y : Int), .int .u64 (fl : Int), .int .u64 (un : Int), .int .u64 (le : Int), .int .u64 (st : Int), .int .u64 (ti : Int), .slice A n1 c1, .slice G m1 d1]) ?_ rfl ⟨⟨k, id, code, last, y, fl, un, le, st, ti, A, n1, c1, G, m1, d1⟩, rows, gone, rfl, ⟨((HI.out.1.below HE.1 (Nat.le_refl _)).more HE.1.size), ((HI.out.2.1.below HE.1 (Nat.le_refl _)).more HE.1.size)⟩, ⟨⟨HI.out.2.2.1.1, HI.out.2.2.1.2.1, HI.out.2.2.1.2.2.1, hyl, HI.out.2.2.1.2.2.2.2.1, HI.out.2.2.1.2.2.2.2.2.1, HI.out.2.2.1.2.2.2.2.2.2.1, HI.out.2.2.1.2.2.2.2.2.2.2.1, HI.out.2.2.1.2.2.2.2.2.2.2.2⟩, HI.out.2.2.2.1, HI.out.2.2.2.2.1, HI.out.2.2.2.2.2.1, HI.out.2.2.2.2.2.2⟩, HE.1⟩
  simp [results, Tryz.results6, go_sem, z0, z1, z2, z3, z4, z5, z6, z7, z8, z9, z10, z11]
set_option maxRecDepth 100000 in
set_option maxHeartbeats 4000000 in
theorem odd8_3 (x : Rp.V) (rows : List Rw) (gone : List Pn) (w : World) (hx : x.In w w.heap.size rows gone) (hf : FineRep x rows gone) : Calls Tryz.prog 6 #[x.val, .int .i64 3] w (FineP w) := by
  obtain ⟨k, id, code, last, ep, fl, un, le, st, ti, A, n1, c1, G, m1, d1⟩ := x
  obtain ⟨hr, hg⟩ := hx
  obtain ⟨⟨o0, o1, o2, o4, o5, o6, o7, o8, o9⟩, fr, fg, fn, fm⟩ := hf
  have HI := Lib.hid (And.intro hr (And.intro hg (And.intro (And.intro o0 (And.intro o1 (And.intro o2 (And.intro o4 (And.intro o5 (And.intro o6 (And.intro o7 (And.intro o8 o9)))))))) (And.intro fr (And.intro fg (And.intro fn fm))))))
  clear hr hg o0 o1 o2 o4 o5 o6 o7 o8 o9 fr fg fn fm
  unfold Rp.V.val Rp.V.cells
  dsimp only
  go_enter Tryz.func6, Tryz.ntmps6
  go_upto_region 1 with (fail)
  have S0 := ((Held.start w).new #[.int .u8 (k : Int), .int .u32 (id : Int), .int .u16 (code : Int), .bool last, .int .u64 (ep : Int), .int .u64 (fl : Int), .int .u64 (un : Int), .int .u64 (le : Int), .int .u64 (st : Int), .int .u64 (ti : Int), .slice A n1 c1, .slice G m1 d1] 28).new #[.int .u8 0, .int .u32 0, .int .u16 0, .bool false, .int .u64 0, .int .u64 0, .int .u64 0, .int .u64 0, .int .u64 0, .int .u64 0, .slice none 0 0, .slice none 0 0] 28
  rw [show (w.alloc (.cells #[.int .u8 (k : Int), .int .u32 (id : Int), .int .u16 (code : Int), .bool last, .int .u64 (ep : Int), .int .u64 (fl : Int), .int .u64 (un : Int), .int .u64 (le : Int), .int .u64 (st : Int), .int .u64 (ti : Int), .slice A n1 c1, .slice G m1 d1] 28)).heap.size = w.heap.size + 1 by simp] at S0
  obtain ⟨W0, hW⟩ : ∃ W, (w.alloc (.cells #[.int .u8 (k : Int), .int .u32 (id : Int), .int .u16 (code : Int), .bool last, .int .u64 (ep : Int), .int .u64 (fl : Int), .int .u64 (un : Int), .int .u64 (le : Int), .int .u64 (st : Int), .int .u64 (ti : Int), .slice A n1 c1, .slice G m1 d1] 28)).alloc (.cells #[.int .u8 0, .int .u32 0, .int .u16 0, .bool false, .int .u64 0, .int .u64 0, .int .u64 0, .int .u64 0, .int .u64 0, .int .u64 0, .slice none 0 0, .slice none 0 0] 28) = W := ⟨_, rfl⟩
  rw [hW] at S0 ⊢
  clear hW
  have H0 : Hid (Held w W0 [(w.heap.size, 28, (#[.int .u8 (k : Int), .int .u32 (id : Int), .int .u16 (code : Int), .bool last, .int .u64 (ep : Int), .int .u64 (fl : Int), .int .u64 (un : Int), .int .u64 (le : Int), .int .u64 (st : Int), .int .u64 (ti : Int), .slice A n1 c1, .slice G m1 d1] : Array Value)), ((w.heap.size + 1), 28, (#[.int .u8 0, .int .u32 0, .int .u16 0, .bool false, .int .u64 0, .int .u64 0, .int .u64 0, .int .u64 0, .int .u64 0, .int .u64 0, .slice none 0 0, .slice none 0 0] : Array Value))]) := Lib.hid (S0.sub8 (by intro x hx; simp only [List.mem_cons, List.not_mem_nil, or_false] at hx ⊢; (repeat' rcases hx with h | hx) <;> simp_all))
  clear S0
  go_upto_region 10 with (fail)
  obtain ⟨y, hy1, hy2, hyl⟩ : ∃ y : Nat, ((fl : Int) + 1) % 18446744073709551616 = y ∧ IntKind.u64.wrap ((fl : Int) + 1) = y ∧ y < 18446744073709551616 := ⟨(fl + 1) % 18446744073709551616, by omega, by rw [IntKind.wrap_u64]; omega, Nat.mod_lt _ (by omega)⟩
  have kk := H0.out.at_ (List.mem_cons_self ..)
  have p5 := kk.cell 5
  have pf5 := kk.frozen 5
  clear kk
  go_upto_region 29 with (fail)
  clear p5 pf5
  have s0 := H0.out.put8 (by omega) (by intro x hx; simp only [List.mem_cons, List.not_mem_nil, or_false] at hx; (repeat' rcases hx with rfl | hx) <;> (try subst hx) <;> (dsimp only; omega)) 5 (.int .u64 (y : Int))
  simp only [List.setIfInBounds_toArray, List.set_cons_zero, List.set_cons_succ] at s0
  obtain ⟨W1, hW⟩ : ∃ W, W0.setCell ⟨w.heap.size, 5, none⟩ (.int .u64 (y : Int)) = W := ⟨_, rfl⟩
  rw [hW] at s0 ⊢
  clear hW
  have H1 : Hid (Held w W1 [(w.heap.size, 28, (#[.int .u8 (k : Int), .int .u32 (id : Int), .int .u16 (code : Int), .bool last, .int .u64 (ep : Int), .int .u64 (y : Int), .int .u64 (un : Int), .int .u64 (le : Int), .int .u64 (st : Int), .int .u64 (ti : Int), .slice A n1 c1, .slice G m1 d1] : Array Value)), ((w.heap.size + 1), 28, (#[.int .u8 0, .int .u32 0, .int .u16 0, .bool false, .int .u64 0, .int .u64 0, .int .u64 0, .int .u64 0, .int .u64 0, .int .u64 0, .slice none 0 0, .slice none 0 0] : Array Value))]) := Lib.hid s0
  clear s0
  clear hy1 hy2
  have kk := H1.out.at_ (List.mem_cons_self ..)
  have p0 := kk.cell 0
  have pf0 := kk.frozen 0
  have p1 := kk.cell 1
  have pf1 := kk.frozen 1
  have p2 := kk.cell 2
  have pf2 := kk.frozen 2
  have p3 := kk.cell 3
  have pf3 := kk.frozen 3
  have p4 := kk.cell 4
  have pf4 := kk.frozen 4
  have p5 := kk.cell 5
  have pf5 := kk.frozen 5
  have p6 := kk.cell 6
  have pf6 := kk.frozen 6
  have p7 := kk.cell 7
  have pf7 := kk.frozen 7
  have p8 := kk.cell 8
  have pf8 := kk.frozen 8
  have p9 := kk.cell 9
  have pf9 := kk.frozen 9
  have p10 := kk.cell 10
  have pf10 := kk.frozen 10
  have p11 := kk.cell 11
  have pf11 := kk.frozen 11
  clear kk
  have kk := H1.out.at_ (List.mem_cons_of_mem _ (List.mem_cons_self ..))
  have z0 := kk.cell 0
  have zf0 := kk.frozen 0
  have z1 := kk.cell 1
  have zf1 := kk.frozen 1
  have z2 := kk.cell 2
  have zf2 := kk.frozen 2
  have z3 := kk.cell 3
  have zf3 := kk.frozen 3
  have z4 := kk.cell 4
  have zf4 := kk.frozen 4
  have z5 := kk.cell 5
  have zf5 := kk.frozen 5
  have z6 := kk.cell 6
  have zf6 := kk.frozen 6
  have z7 := kk.cell 7
  have zf7 := kk.frozen 7
  have z8 := kk.cell 8
  have zf8 := kk.frozen 8
  have z9 := kk.cell 9
  have zf9 := kk.frozen 9
  have z10 := kk.cell 10
  have zf10 := kk.frozen 10
  have z11 := kk.cell 11
  have zf11 := kk.frozen 11
  clear kk
  go_wp2_with fail
  clear p0 pf0 p1 pf1 p2 pf2 p3 pf3 p4 pf4 p5 pf5 p6 pf6 p7 pf7 p8 pf8 p9 pf9 p10 pf10 p11 pf11
  have HE := (H1.out.sub8 (l' := [((w.heap.size + 1), 28, (#[.int .u8 0, .int .u32 0, .int .u16 0, .bool false, .int .u64 0, .int .u64 0, .int .u64 0, .int .u64 0, .int .u64 0, .int .u64 0, .slice none 0 0, .slice none 0 0] : Array Value)), (w.heap.size, 28, (#[.int .u8 (k : Int), .int .u32 (id : Int), .int .u16 (code : Int), .bool last, .int .u64 (ep : Int), .int .u64 (y : Int), .int .u64 (un : Int), .int .u64 (le : Int), .int .u64 (st : Int), .int .u64 (ti : Int), .slice A n1 c1, .slice G m1 d1] : Array Value))]) (by intro x hx; simp only [List.mem_cons, List.not_mem_nil, or_false] at hx ⊢; (repeat' rcases hx with h | hx) <;> simp_all)).twelve8 (by omega) (by intro x hx; simp only [List.mem_cons, List.not_mem_nil, or_false] at hx; (repeat' rcases hx with rfl | hx) <;> (try subst hx) <;> (dsimp only; omega)) (.int .u8 (k : Int)) (.int .u32 (id : Int)) (.int .u16 (code : Int)) (.bool last) (.int .u64 (ep : Int)) (.int .u64 (y : Int)) (.int .u64 (un : Int)) (.int .u64 (le : Int)) (.int .u64 (st : Int)) (.int .u64 (ti : Int)) (.slice A n1 c1) (.slice G m1 d1)
  refine bodyPost_ret (v := .agg #[.int .u8 (k : Int), .int .u32 (id : Int), .int .u16 (code : Int), .bool last, .int .u64 (ep : Int), .int .u64 (y : Int), .int .u64 (un : Int), .int .u64 (le : Int), .int .u64 (st : Int), .int .u64 (ti : Int), .slice A n1 c1, .slice G m1 d1]) ?_ rfl ⟨⟨k, id, code, last, ep, y, un, le, st, ti, A, n1, c1, G, m1, d1⟩, rows, gone, rfl, ⟨((HI.out.1.below HE.1 (Nat.le_refl _)).more HE.1.size), ((HI.out.2.1.below HE.1 (Nat.le_refl _)).more HE.1.size)⟩, ⟨⟨HI.out.2.2.1.1, HI.out.2.2.1.2.1, HI.out.2.2.1.2.2.1, HI.out.2.2.1.2.2.2.1, hyl, HI.out.2.2.1.2.2.2.2.2.1, HI.out.2.2.1.2.2.2.2.2.2.1, HI.out.2.2.1.2.2.2.2.2.2.2.1, HI.out.2.2.1.2.2.2.2.2.2.2.2⟩, HI.out.2.2.2.1, HI.out.2.2.2.2.1, HI.out.2.2.2.2.2.1, HI.out.2.2.2.2.2.2⟩, HE.1⟩
  simp [results, Tryz.results6, go_sem, z0, z1, z2, z3, z4, z5, z6, z7, z8, z9, z10, z11]
set_option maxRecDepth 100000 in
set_option maxHeartbeats 4000000 in
theorem odd8_4 (x : Rp.V) (rows : List Rw) (gone : List Pn) (w : World) (hx : x.In w w.heap.size rows gone) (hf : FineRep x rows gone) : Calls Tryz.prog 6 #[x.val, .int .i64 4] w (FineP w) := by
  obtain ⟨k, id, code, last, ep, fl, un, le, st, ti, A, n1, c1, G, m1, d1⟩ := x
  obtain ⟨hr, hg⟩ := hx
  obtain ⟨⟨o0, o1, o2, o4, o5, o6, o7, o8, o9⟩, fr, fg, fn, fm⟩ := hf
  have HI := Lib.hid (And.intro hr (And.intro hg (And.intro (And.intro o0 (And.intro o1 (And.intro o2 (And.intro o4 (And.intro o5 (And.intro o6 (And.intro o7 (And.intro o8 o9)))))))) (And.intro fr (And.intro fg (And.intro fn fm))))))
  clear hr hg o0 o1 o2 o4 o5 o6 o7 o8 o9 fr fg fn fm
  unfold Rp.V.val Rp.V.cells
  dsimp only
  go_enter Tryz.func6, Tryz.ntmps6
  go_upto_region 1 with (fail)
  have S0 := ((Held.start w).new #[.int .u8 (k : Int), .int .u32 (id : Int), .int .u16 (code : Int), .bool last, .int .u64 (ep : Int), .int .u64 (fl : Int), .int .u64 (un : Int), .int .u64 (le : Int), .int .u64 (st : Int), .int .u64 (ti : Int), .slice A n1 c1, .slice G m1 d1] 28).new #[.int .u8 0, .int .u32 0, .int .u16 0, .bool false, .int .u64 0, .int .u64 0, .int .u64 0, .int .u64 0, .int .u64 0, .int .u64 0, .slice none 0 0, .slice none 0 0] 28
  rw [show (w.alloc (.cells #[.int .u8 (k : Int), .int .u32 (id : Int), .int .u16 (code : Int), .bool last, .int .u64 (ep : Int), .int .u64 (fl : Int), .int .u64 (un : Int), .int .u64 (le : Int), .int .u64 (st : Int), .int .u64 (ti : Int), .slice A n1 c1, .slice G m1 d1] 28)).heap.size = w.heap.size + 1 by simp] at S0
  obtain ⟨W0, hW⟩ : ∃ W, (w.alloc (.cells #[.int .u8 (k : Int), .int .u32 (id : Int), .int .u16 (code : Int), .bool last, .int .u64 (ep : Int), .int .u64 (fl : Int), .int .u64 (un : Int), .int .u64 (le : Int), .int .u64 (st : Int), .int .u64 (ti : Int), .slice A n1 c1, .slice G m1 d1] 28)).alloc (.cells #[.int .u8 0, .int .u32 0, .int .u16 0, .bool false, .int .u64 0, .int .u64 0, .int .u64 0, .int .u64 0, .int .u64 0, .int .u64 0, .slice none 0 0, .slice none 0 0] 28) = W := ⟨_, rfl⟩
  rw [hW] at S0 ⊢
  clear hW
  have H0 : Hid (Held w W0 [(w.heap.size, 28, (#[.int .u8 (k : Int), .int .u32 (id : Int), .int .u16 (code : Int), .bool last, .int .u64 (ep : Int), .int .u64 (fl : Int), .int .u64 (un : Int), .int .u64 (le : Int), .int .u64 (st : Int), .int .u64 (ti : Int), .slice A n1 c1, .slice G m1 d1] : Array Value)), ((w.heap.size + 1), 28, (#[.int .u8 0, .int .u32 0, .int .u16 0, .bool false, .int .u64 0, .int .u64 0, .int .u64 0, .int .u64 0, .int .u64 0, .int .u64 0, .slice none 0 0, .slice none 0 0] : Array Value))]) := Lib.hid (S0.sub8 (by intro x hx; simp only [List.mem_cons, List.not_mem_nil, or_false] at hx ⊢; (repeat' rcases hx with h | hx) <;> simp_all))
  clear S0
  go_upto_region 12 with (fail)
  obtain ⟨y, hy1, hy2, hyl⟩ : ∃ y : Nat, ((un : Int) + 1) % 18446744073709551616 = y ∧ IntKind.u64.wrap ((un : Int) + 1) = y ∧ y < 18446744073709551616 := ⟨(un + 1) % 18446744073709551616, by omega, by rw [IntKind.wrap_u64]; omega, Nat.mod_lt _ (by omega)⟩
  have kk := H0.out.at_ (List.mem_cons_self ..)
  have p6 := kk.cell 6
  have pf6 := kk.frozen 6
  clear kk
  go_upto_region 29 with (fail)
  clear p6 pf6
  have s0 := H0.out.put8 (by omega) (by intro x hx; simp only [List.mem_cons, List.not_mem_nil, or_false] at hx; (repeat' rcases hx with rfl | hx) <;> (try subst hx) <;> (dsimp only; omega)) 6 (.int .u64 (y : Int))
  simp only [List.setIfInBounds_toArray, List.set_cons_zero, List.set_cons_succ] at s0
  obtain ⟨W1, hW⟩ : ∃ W, W0.setCell ⟨w.heap.size, 6, none⟩ (.int .u64 (y : Int)) = W := ⟨_, rfl⟩
  rw [hW] at s0 ⊢
  clear hW
  have H1 : Hid (Held w W1 [(w.heap.size, 28, (#[.int .u8 (k : Int), .int .u32 (id : Int), .int .u16 (code : Int), .bool last, .int .u64 (ep : Int), .int .u64 (fl : Int), .int .u64 (y : Int), .int .u64 (le : Int), .int .u64 (st : Int), .int .u64 (ti : Int), .slice A n1 c1, .slice G m1 d1] : Array Value)), ((w.heap.size + 1), 28, (#[.int .u8 0, .int .u32 0, .int .u16 0, .bool false, .int .u64 0, .int .u64 0, .int .u64 0, .int .u64 0, .int .u64 0, .int .u64 0, .slice none 0 0, .slice none 0 0] : Array Value))]) := Lib.hid s0
  clear s0
  clear hy1 hy2
  have kk := H1.out.at_ (List.mem_cons_self ..)
  have p0 := kk.cell 0
  have pf0 := kk.frozen 0
  have p1 := kk.cell 1
  have pf1 := kk.frozen 1
  have p2 := kk.cell 2
  have pf2 := kk.frozen 2
  have p3 := kk.cell 3
  have pf3 := kk.frozen 3
  have p4 := kk.cell 4
  have pf4 := kk.frozen 4
  have p5 := kk.cell 5
  have pf5 := kk.frozen 5
  have p6 := kk.cell 6
  have pf6 := kk.frozen 6
  have p7 := kk.cell 7
  have pf7 := kk.frozen 7
  have p8 := kk.cell 8
  have pf8 := kk.frozen 8
  have p9 := kk.cell 9
  have pf9 := kk.frozen 9
  have p10 := kk.cell 10
  have pf10 := kk.frozen 10
  have p11 := kk.cell 11
  have pf11 := kk.frozen 11
  clear kk
  have kk := H1.out.at_ (List.mem_cons_of_mem _ (List.mem_cons_self ..))
  have z0 := kk.cell 0
  have zf0 := kk.frozen 0
  have z1 := kk.cell 1
  have zf1 := kk.frozen 1
  have z2 := kk.cell 2
  have zf2 := kk.frozen 2
  have z3 := kk.cell 3
  have zf3 := kk.frozen 3
  have z4 := kk.cell 4
  have zf4 := kk.frozen 4
  have z5 := kk.cell 5
  have zf5 := kk.frozen 5
  have z6 := kk.cell 6
  have zf6 := kk.frozen 6
  have z7 := kk.cell 7
  have zf7 := kk.frozen 7
  have z8 := kk.cell 8
  have zf8 := kk.frozen 8
  have z9 := kk.cell 9
  have zf9 := kk.frozen 9
  have z10 := kk.cell 10
  have zf10 := kk.frozen 10
  have z11 := kk.cell 11
  have zf11 := kk.frozen 11
  clear kk
  go_wp2_with fail
  clear p0 pf0 p1 pf1 p2 pf2 p3 pf3 p4 pf4 p5 pf5 p6 pf6 p7 pf7 p8 pf8 p9 pf9 p10 pf10 p11 pf11
  have HE := (H1.out.sub8 (l' := [((w.heap.size + 1), 28, (#[.int .u8 0, .int .u32 0, .int .u16 0, .bool false, .int .u64 0, .int .u64 0, .int .u64 0, .int .u64 0, .int .u64 0, .int .u64 0, .slice none 0 0, .slice none 0 0] : Array Value)), (w.heap.size, 28, (#[.int .u8 (k : Int), .int .u32 (id : Int), .int .u16 (code : Int), .bool last, .int .u64 (ep : Int), .int .u64 (fl : Int), .int .u64 (y : Int), .int .u64 (le : Int), .int .u64 (st : Int), .int .u64 (ti : Int), .slice A n1 c1, .slice G m1 d1] : Array Value))]) (by intro x hx; simp only [List.mem_cons, List.not_mem_nil, or_false] at hx ⊢; (repeat' rcases hx with h | hx) <;> simp_all)).twelve8 (by omega) (by intro x hx; simp only [List.mem_cons, List.not_mem_nil, or_false] at hx; (repeat' rcases hx with rfl | hx) <;> (try subst hx) <;> (dsimp only; omega)) (.int .u8 (k : Int)) (.int .u32 (id : Int)) (.int .u16 (code : Int)) (.bool last) (.int .u64 (ep : Int)) (.int .u64 (fl : Int)) (.int .u64 (y : Int)) (.int .u64 (le : Int)) (.int .u64 (st : Int)) (.int .u64 (ti : Int)) (.slice A n1 c1) (.slice G m1 d1)
  refine bodyPost_ret (v := .agg #[.int .u8 (k : Int), .int .u32 (id : Int), .int .u16 (code : Int), .bool last, .int .u64 (ep : Int), .int .u64 (fl : Int), .int .u64 (y : Int), .int .u64 (le : Int), .int .u64 (st : Int), .int .u64 (ti : Int), .slice A n1 c1, .slice G m1 d1]) ?_ rfl ⟨⟨k, id, code, last, ep, fl, y, le, st, ti, A, n1, c1, G, m1, d1⟩, rows, gone, rfl, ⟨((HI.out.1.below HE.1 (Nat.le_refl _)).more HE.1.size), ((HI.out.2.1.below HE.1 (Nat.le_refl _)).more HE.1.size)⟩, ⟨⟨HI.out.2.2.1.1, HI.out.2.2.1.2.1, HI.out.2.2.1.2.2.1, HI.out.2.2.1.2.2.2.1, HI.out.2.2.1.2.2.2.2.1, hyl, HI.out.2.2.1.2.2.2.2.2.2.1, HI.out.2.2.1.2.2.2.2.2.2.2.1, HI.out.2.2.1.2.2.2.2.2.2.2.2⟩, HI.out.2.2.2.1, HI.out.2.2.2.2.1, HI.out.2.2.2.2.2.1, HI.out.2.2.2.2.2.2⟩, HE.1⟩
  simp [results, Tryz.results6, go_sem, z0, z1, z2, z3, z4, z5, z6, z7, z8, z9, z10, z11]
set_option maxRecDepth 100000 in
set_option maxHeartbeats 4000000 in
theorem odd8_5 (x : Rp.V) (rows : List Rw) (gone : List Pn) (w : World) (hx : x.In w w.heap.size rows gone) (hf : FineRep x rows gone) : Calls Tryz.prog 6 #[x.val, .int .i64 5] w (FineP w) := by
  obtain ⟨k, id, code, last, ep, fl, un, le, st, ti, A, n1, c1, G, m1, d1⟩ := x
  obtain ⟨hr, hg⟩ := hx
  obtain ⟨⟨o0, o1, o2, o4, o5, o6, o7, o8, o9⟩, fr, fg, fn, fm⟩ := hf
  have HI := Lib.hid (And.intro hr (And.intro hg (And.intro (And.intro o0 (And.intro o1 (And.intro o2 (And.intro o4 (And.intro o5 (And.intro o6 (And.intro o7 (And.intro o8 o9)))))))) (And.intro fr (And.intro fg (And.intro fn fm))))))
  clear hr hg o0 o1 o2 o4 o5 o6 o7 o8 o9 fr fg fn fm
  unfold Rp.V.val Rp.V.cells
  dsimp only
  go_enter Tryz.func6, Tryz.ntmps6
  go_upto_region 1 with (fail)
  have S0 := ((Held.start w).new #[.int .u8 (k : Int), .int .u32 (id : Int), .int .u16 (code : Int), .bool last, .int .u64 (ep : Int), .int .u64 (fl : Int), .int .u64 (un : Int), .int .u64 (le : Int), .int .u64 (st : Int), .int .u64 (ti : Int), .slice A n1 c1, .slice G m1 d1] 28).new #[.int .u8 0, .int .u32 0, .int .u16 0, .bool false, .int .u64 0, .int .u64 0, .int .u64 0, .int .u64 0, .int .u64 0, .int .u64 0, .slice none 0 0, .slice none 0 0] 28
  rw [show (w.alloc (.cells #[.int .u8 (k : Int), .int .u32 (id : Int), .int .u16 (code : Int), .bool last, .int .u64 (ep : Int), .int .u64 (fl : Int), .int .u64 (un : Int), .int .u64 (le : Int), .int .u64 (st : Int), .int .u64 (ti : Int), .slice A n1 c1, .slice G m1 d1] 28)).heap.size = w.heap.size + 1 by simp] at S0
  obtain ⟨W0, hW⟩ : ∃ W, (w.alloc (.cells #[.int .u8 (k : Int), .int .u32 (id : Int), .int .u16 (code : Int), .bool last, .int .u64 (ep : Int), .int .u64 (fl : Int), .int .u64 (un : Int), .int .u64 (le : Int), .int .u64 (st : Int), .int .u64 (ti : Int), .slice A n1 c1, .slice G m1 d1] 28)).alloc (.cells #[.int .u8 0, .int .u32 0, .int .u16 0, .bool false, .int .u64 0, .int .u64 0, .int .u64 0, .int .u64 0, .int .u64 0, .int .u64 0, .slice none 0 0, .slice none 0 0] 28) = W := ⟨_, rfl⟩
  rw [hW] at S0 ⊢
  clear hW
  have H0 : Hid (Held w W0 [(w.heap.size, 28, (#[.int .u8 (k : Int), .int .u32 (id : Int), .int .u16 (code : Int), .bool last, .int .u64 (ep : Int), .int .u64 (fl : Int), .int .u64 (un : Int), .int .u64 (le : Int), .int .u64 (st : Int), .int .u64 (ti : Int), .slice A n1 c1, .slice G m1 d1] : Array Value)), ((w.heap.size + 1), 28, (#[.int .u8 0, .int .u32 0, .int .u16 0, .bool false, .int .u64 0, .int .u64 0, .int .u64 0, .int .u64 0, .int .u64 0, .int .u64 0, .slice none 0 0, .slice none 0 0] : Array Value))]) := Lib.hid (S0.sub8 (by intro x hx; simp only [List.mem_cons, List.not_mem_nil, or_false] at hx ⊢; (repeat' rcases hx with h | hx) <;> simp_all))
  clear S0
  go_upto_region 14 with (fail)
  obtain ⟨y, hy1, hy2, hyl⟩ : ∃ y : Nat, ((le : Int) + 1) % 18446744073709551616 = y ∧ IntKind.u64.wrap ((le : Int) + 1) = y ∧ y < 18446744073709551616 := ⟨(le + 1) % 18446744073709551616, by omega, by rw [IntKind.wrap_u64]; omega, Nat.mod_lt _ (by omega)⟩
  have kk := H0.out.at_ (List.mem_cons_self ..)
  have p7 := kk.cell 7
  have pf7 := kk.frozen 7
  clear kk
  go_upto_region 29 with (fail)
  clear p7 pf7
  have s0 := H0.out.put8 (by omega) (by intro x hx; simp only [List.mem_cons, List.not_mem_nil, or_false] at hx; (repeat' rcases hx with rfl | hx) <;> (try subst hx) <;> (dsimp only; omega)) 7 (.int .u64 (y : Int))
  simp only [List.setIfInBounds_toArray, List.set_cons_zero, List.set_cons_succ] at s0
  obtain ⟨W1, hW⟩ : ∃ W, W0.setCell ⟨w.heap.size, 7, none⟩ (.int .u64 (y : Int)) = W := ⟨_, rfl⟩
  rw [hW] at s0 ⊢
  clear hW
  have H1 : Hid (Held w W1 [(w.heap.size, 28, (#[.int .u8 (k : Int), .int .u32 (id : Int), .int .u16 (code : Int), .bool last, .int .u64 (ep : Int), .int .u64 (fl : Int), .int .u64 (un : Int), .int .u64 (y : Int), .int .u64 (st : Int), .int .u64 (ti : Int), .slice A n1 c1, .slice G m1 d1] : Array Value)), ((w.heap.size + 1), 28, (#[.int .u8 0, .int .u32 0, .int .u16 0, .bool false, .int .u64 0, .int .u64 0, .int .u64 0, .int .u64 0, .int .u64 0, .int .u64 0, .slice none 0 0, .slice none 0 0] : Array Value))]) := Lib.hid s0
  clear s0
  clear hy1 hy2
  have kk := H1.out.at_ (List.mem_cons_self ..)
  have p0 := kk.cell 0
  have pf0 := kk.frozen 0
  have p1 := kk.cell 1
  have pf1 := kk.frozen 1
  have p2 := kk.cell 2
  have pf2 := kk.frozen 2
  have p3 := kk.cell 3
  have pf3 := kk.frozen 3
  have p4 := kk.cell 4
  have pf4 := kk.frozen 4
  have p5 := kk.cell 5
  have pf5 := kk.frozen 5
  have p6 := kk.cell 6
  have pf6 := kk.frozen 6
  have p7 := kk.cell 7
  have pf7 := kk.frozen 7
  have p8 := kk.cell 8
  have pf8 := kk.frozen 8
  have p9 := kk.cell 9
  have pf9 := kk.frozen 9
  have p10 := kk.cell 10
  have pf10 := kk.frozen 10
  have p11 := kk.cell 11
  have pf11 := kk.frozen 11
  clear kk
  have kk := H1.out.at_ (List.mem_cons_of_mem _ (List.mem_cons_self ..))
  have z0 := kk.cell 0
  have zf0 := kk.frozen 0
  have z1 := kk.cell 1
  have zf1 := kk.frozen 1
  have z2 := kk.cell 2
  have zf2 := kk.frozen 2
  have z3 := kk.cell 3
  have zf3 := kk.frozen 3
  have z4 := kk.cell 4
  have zf4 := kk.frozen 4
  have z5 := kk.cell 5
  have zf5 := kk.frozen 5
  have z6 := kk.cell 6
  have zf6 := kk.frozen 6
  have z7 := kk.cell 7
  have zf7 := kk.frozen 7
  have z8 := kk.cell 8
  have zf8 := kk.frozen 8
  have z9 := kk.cell 9
  have zf9 := kk.frozen 9
  have z10 := kk.cell 10
  have zf10 := kk.frozen 10
  have z11 := kk.cell 11
  have zf11 := kk.frozen 11
  clear kk
  go_wp2_with fail
  clear p0 pf0 p1 pf1 p2 pf2 p3 pf3 p4 pf4 p5 pf5 p6 pf6 p7 pf7 p8 pf8 p9 pf9 p10 pf10 p11 pf11
  have HE := (H1.out.sub8 (l' := [((w.heap.size + 1), 28, (#[.int .u8 0, .int .u32 0, .int .u16 0, .bool false, .int .u64 0, .int .u64 0, .int .u64 0, .int .u64 0, .int .u64 0, .int .u64 0, .slice none 0 0, .slice none 0 0] : Array Value)), (w.heap.size, 28, (#[.int .u8 (k : Int), .int .u32 (id : Int), .int .u16 (code : Int), .bool last, .int .u64 (ep : Int), .int .u64 (fl : Int), .int .u64 (un : Int), .int .u64 (y : Int), .int .u64 (st : Int), .int .u64 (ti : Int), .slice A n1 c1, .slice G m1 d1] : Array Value))]) (by intro x hx; simp only [List.mem_cons, List.not_mem_nil, or_false] at hx ⊢; (repeat' rcases hx with h | hx) <;> simp_all)).twelve8 (by omega) (by intro x hx; simp only [List.mem_cons, List.not_mem_nil, or_false] at hx; (repeat' rcases hx with rfl | hx) <;> (try subst hx) <;> (dsimp only; omega)) (.int .u8 (k : Int)) (.int .u32 (id : Int)) (.int .u16 (code : Int)) (.bool last) (.int .u64 (ep : Int)) (.int .u64 (fl : Int)) (.int .u64 (un : Int)) (.int .u64 (y : Int)) (.int .u64 (st : Int)) (.int .u64 (ti : Int)) (.slice A n1 c1) (.slice G m1 d1)
  refine bodyPost_ret (v := .agg #[.int .u8 (k : Int), .int .u32 (id : Int), .int .u16 (code : Int), .bool last, .int .u64 (ep : Int), .int .u64 (fl : Int), .int .u64 (un : Int), .int .u64 (y : Int), .int .u64 (st : Int), .int .u64 (ti : Int), .slice A n1 c1, .slice G m1 d1]) ?_ rfl ⟨⟨k, id, code, last, ep, fl, un, y, st, ti, A, n1, c1, G, m1, d1⟩, rows, gone, rfl, ⟨((HI.out.1.below HE.1 (Nat.le_refl _)).more HE.1.size), ((HI.out.2.1.below HE.1 (Nat.le_refl _)).more HE.1.size)⟩, ⟨⟨HI.out.2.2.1.1, HI.out.2.2.1.2.1, HI.out.2.2.1.2.2.1, HI.out.2.2.1.2.2.2.1, HI.out.2.2.1.2.2.2.2.1, HI.out.2.2.1.2.2.2.2.2.1, hyl, HI.out.2.2.1.2.2.2.2.2.2.2.1, HI.out.2.2.1.2.2.2.2.2.2.2.2⟩, HI.out.2.2.2.1, HI.out.2.2.2.2.1, HI.out.2.2.2.2.2.1, HI.out.2.2.2.2.2.2⟩, HE.1⟩
  simp [results, Tryz.results6, go_sem, z0, z1, z2, z3, z4, z5, z6, z7, z8, z9, z10, z11]
set_option maxRecDepth 100000 in
set_option maxHeartbeats 4000000 in
theorem odd8_6 (x : Rp.V) (rows : List Rw) (gone : List Pn) (w : World) (hx : x.In w w.heap.size rows gone) (hf : FineRep x rows gone) : Calls Tryz.prog 6 #[x.val, .int .i64 6] w (FineP w) := by
  obtain ⟨k, id, code, last, ep, fl, un, le, st, ti, A, n1, c1, G, m1, d1⟩ := x
  obtain ⟨hr, hg⟩ := hx
  obtain ⟨⟨o0, o1, o2, o4, o5, o6, o7, o8, o9⟩, fr, fg, fn, fm⟩ := hf
  have HI := Lib.hid (And.intro hr (And.intro hg (And.intro (And.intro o0 (And.intro o1 (And.intro o2 (And.intro o4 (And.intro o5 (And.intro o6 (And.intro o7 (And.intro o8 o9)))))))) (And.intro fr (And.intro fg (And.intro fn fm))))))
  clear hr hg o0 o1 o2 o4 o5 o6 o7 o8 o9 fr fg fn fm
  unfold Rp.V.val Rp.V.cells
  dsimp only
  go_enter Tryz.func6, Tryz.ntmps6
  go_upto_region 1 with (fail)
  have S0 := ((Held.start w).new #[.int .u8 (k : Int), .int .u32 (id : Int), .int .u16 (code : Int), .bool last, .int .u64 (ep : Int), .int .u64 (fl : Int), .int .u64 (un : Int), .int .u64 (le : Int), .int .u64 (st : Int), .int .u64 (ti : Int), .slice A n1 c1, .slice G m1 d1] 28).new #[.int .u8 0, .int .u32 0, .int .u16 0, .bool false, .int .u64 0, .int .u64 0, .int .u64 0, .int .u64 0, .int .u64 0, .int .u64 0, .slice none 0 0, .slice none 0 0] 28
  rw [show (w.alloc (.cells #[.int .u8 (k : Int), .int .u32 (id : Int), .int .u16 (code : Int), .bool last, .int .u64 (ep : Int), .int .u64 (fl : Int), .int .u64 (un : Int), .int .u64 (le : Int), .int .u64 (st : Int), .int .u64 (ti : Int), .slice A n1 c1, .slice G m1 d1] 28)).heap.size = w.heap.size + 1 by simp] at S0
  obtain ⟨W0, hW⟩ : ∃ W, (w.alloc (.cells #[.int .u8 (k : Int), .int .u32 (id : Int), .int .u16 (code : Int), .bool last, .int .u64 (ep : Int), .int .u64 (fl : Int), .int .u64 (un : Int), .int .u64 (le : Int), .int .u64 (st : Int), .int .u64 (ti : Int), .slice A n1 c1, .slice G m1 d1] 28)).alloc (.cells #[.int .u8 0, .int .u32 0, .int .u16 0, .bool false, .int .u64 0, .int .u64 0, .int .u64 0, .int .u64 0, .int .u64 0, .int .u64 0, .slice none 0 0, .slice none 0 0] 28) = W := ⟨_, rfl⟩
  rw [hW] at S0 ⊢
  clear hW
  have H0 : Hid (Held w W0 [(w.heap.size, 28, (#[.int .u8 (k : Int), .int .u32 (id : Int), .int .u16 (code : Int), .bool last, .int .u64 (ep : Int), .int .u64 (fl : Int), .int .u64 (un : Int), .int .u64 (le : Int), .int .u64 (st : Int), .int .u64 (ti : Int), .slice A n1 c1, .slice G m1 d1] : Array Value)), ((w.heap.size + 1), 28, (#[.int .u8 0, .int .u32 0, .int .u16 0, .bool false, .int .u64 0, .int .u64 0, .int .u64 0, .int .u64 0, .int .u64 0, .int .u64 0, .slice none 0 0, .slice none 0 0] : Array Value))]) := Lib.hid (S0.sub8 (by intro x hx; simp only [List.mem_cons, List.not_mem_nil, or_false] at hx ⊢; (repeat' rcases hx with h | hx) <;> simp_all))
  clear S0
  go_upto_region 16 with (fail)
  obtain ⟨y, hy1, hy2, hyl⟩ : ∃ y : Nat, ((st : Int) + 1) % 18446744073709551616 = y ∧ IntKind.u64.wrap ((st : Int) + 1) = y ∧ y < 18446744073709551616 := ⟨(st + 1) % 18446744073709551616, by omega, by rw [IntKind.wrap_u64]; omega, Nat.mod_lt _ (by omega)⟩
  have kk := H0.out.at_ (List.mem_cons_self ..)
  have p8 := kk.cell 8
  have pf8 := kk.frozen 8
  clear kk
  go_upto_region 29 with (fail)
  clear p8 pf8
  have s0 := H0.out.put8 (by omega) (by intro x hx; simp only [List.mem_cons, List.not_mem_nil, or_false] at hx; (repeat' rcases hx with rfl | hx) <;> (try subst hx) <;> (dsimp only; omega)) 8 (.int .u64 (y : Int))
  simp only [List.setIfInBounds_toArray, List.set_cons_zero, List.set_cons_succ] at s0
  obtain ⟨W1, hW⟩ : ∃ W, W0.setCell ⟨w.heap.size, 8, none⟩ (.int .u64 (y : Int)) = W := ⟨_, rfl⟩
  rw [hW] at s0 ⊢
  clear hW
  have H1 : Hid (Held w W1 [(w.heap.size, 28, (#[.int .u8 (k : Int), .int .u32 (id : Int), .int .u16 (code : Int), .bool last, .int .u64 (ep : Int), .int .u64 (fl : Int), .int .u64 (un : Int), .int .u64 (le : Int), .int .u64 (y : Int), .int .u64 (ti : Int), .slice A n1 c1, .slice G m1 d1] : Array Value)), ((w.heap.size + 1), 28, (#[.int .u8 0, .int .u32 0, .int .u16 0, .bool false, .int .u64 0, .int .u64 0, .int .u64 0, .int .u64 0, .int .u64 0, .int .u64 0, .slice none 0 0, .slice none 0 0] : Array Value))]) := Lib.hid s0
  clear s0
  clear hy1 hy2
  have kk := H1.out.at_ (List.mem_cons_self ..)
  have p0 := kk.cell 0
  have pf0 := kk.frozen 0
  have p1 := kk.cell 1
  have pf1 := kk.frozen 1
  have p2 := kk.cell 2
  have pf2 := kk.frozen 2
  have p3 := kk.cell 3
  have pf3 := kk.frozen 3
  have p4 := kk.cell 4
  have pf4 := kk.frozen 4
  have p5 := kk.cell 5
  have pf5 := kk.frozen 5
  have p6 := kk.cell 6
  have pf6 := kk.frozen 6
  have p7 := kk.cell 7
  have pf7 := kk.frozen 7
  have p8 := kk.cell 8
  have pf8 := kk.frozen 8
  have p9 := kk.cell 9
  have pf9 := kk.frozen 9
  have p10 := kk.cell 10
  have pf10 := kk.frozen 10
  have p11 := kk.cell 11
  have pf11 := kk.frozen 11
  clear kk
  have kk := H1.out.at_ (List.mem_cons_of_mem _ (List.mem_cons_self ..))
  have z0 := kk.cell 0
  have zf0 := kk.frozen 0
  have z1 := kk.cell 1
  have zf1 := kk.frozen 1
  have z2 := kk.cell 2
  have zf2 := kk.frozen 2
  have z3 := kk.cell 3
  have zf3 := kk.frozen 3
  have z4 := kk.cell 4
  have zf4 := kk.frozen 4
  have z5 := kk.cell 5
  have zf5 := kk.frozen 5
  have z6 := kk.cell 6
  have zf6 := kk.frozen 6
  have z7 := kk.cell 7
  have zf7 := kk.frozen 7
  have z8 := kk.cell 8
  have zf8 := kk.frozen 8
  have z9 := kk.cell 9
  have zf9 := kk.frozen 9
  have z10 := kk.cell 10
  have zf10 := kk.frozen 10
  have z11 := kk.cell 11
  have zf11 := kk.frozen 11
  clear kk
  go_wp2_with fail
  clear p0 pf0 p1 pf1 p2 pf2 p3 pf3 p4 pf4 p5 pf5 p6 pf6 p7 pf7 p8 pf8 p9 pf9 p10 pf10 p11 pf11
  have HE := (H1.out.sub8 (l' := [((w.heap.size + 1), 28, (#[.int .u8 0, .int .u32 0, .int .u16 0, .bool false, .int .u64 0, .int .u64 0, .int .u64 0, .int .u64 0, .int .u64 0, .int .u64 0, .slice none 0 0, .slice none 0 0] : Array Value)), (w.heap.size, 28, (#[.int .u8 (k : Int), .int .u32 (id : Int), .int .u16 (code : Int), .bool last, .int .u64 (ep : Int), .int .u64 (fl : Int), .int .u64 (un : Int), .int .u64 (le : Int), .int .u64 (y : Int), .int .u64 (ti : Int), .slice A n1 c1, .slice G m1 d1] : Array Value))]) (by intro x hx; simp only [List.mem_cons, List.not_mem_nil, or_false] at hx ⊢; (repeat' rcases hx with h | hx) <;> simp_all)).twelve8 (by omega) (by intro x hx; simp only [List.mem_cons, List.not_mem_nil, or_false] at hx; (repeat' rcases hx with rfl | hx) <;> (try subst hx) <;> (dsimp only; omega)) (.int .u8 (k : Int)) (.int .u32 (id : Int)) (.int .u16 (code : Int)) (.bool last) (.int .u64 (ep : Int)) (.int .u64 (fl : Int)) (.int .u64 (un : Int)) (.int .u64 (le : Int)) (.int .u64 (y : Int)) (.int .u64 (ti : Int)) (.slice A n1 c1) (.slice G m1 d1)
  refine bodyPost_ret (v := .agg #[.int .u8 (k : Int), .int .u32 (id : Int), .int .u16 (code : Int), .bool last, .int .u64 (ep : Int), .int .u64 (fl : Int), .int .u64 (un : Int), .int .u64 (le : Int), .int .u64 (y : Int), .int .u64 (ti : Int), .slice A n1 c1, .slice G m1 d1]) ?_ rfl ⟨⟨k, id, code, last, ep, fl, un, le, y, ti, A, n1, c1, G, m1, d1⟩, rows, gone, rfl, ⟨((HI.out.1.below HE.1 (Nat.le_refl _)).more HE.1.size), ((HI.out.2.1.below HE.1 (Nat.le_refl _)).more HE.1.size)⟩, ⟨⟨HI.out.2.2.1.1, HI.out.2.2.1.2.1, HI.out.2.2.1.2.2.1, HI.out.2.2.1.2.2.2.1, HI.out.2.2.1.2.2.2.2.1, HI.out.2.2.1.2.2.2.2.2.1, HI.out.2.2.1.2.2.2.2.2.2.1, hyl, HI.out.2.2.1.2.2.2.2.2.2.2.2⟩, HI.out.2.2.2.1, HI.out.2.2.2.2.1, HI.out.2.2.2.2.2.1, HI.out.2.2.2.2.2.2⟩, HE.1⟩
  simp [results, Tryz.results6, go_sem, z0, z1, z2, z3, z4, z5, z6, z7, z8, z9, z10, z11]
set_option maxRecDepth 100000 in
set_option maxHeartbeats 4000000 in
theorem odd8_7 (x : Rp.V) (rows : List Rw) (gone : List Pn) (w : World) (hx : x.In w w.heap.size rows gone) (hf : FineRep x rows gone) : Calls Tryz.prog 6 #[x.val, .int .i64 7] w (FineP w) := by
  obtain ⟨k, id, code, last, ep, fl, un, le, st, ti, A, n1, c1, G, m1, d1⟩ := x
  obtain ⟨hr, hg⟩ := hx
  obtain ⟨⟨o0, o1, o2, o4, o5, o6, o7, o8, o9⟩, fr, fg, fn, fm⟩ := hf
  have HI := Lib.hid (And.intro hr (And.intro hg (And.intro (And.intro o0 (And.intro o1 (And.intro o2 (And.intro o4 (And.intro o5 (And.intro o6 (And.intro o7 (And.intro o8 o9)))))))) (And.intro fr (And.intro fg (And.intro fn fm))))))
  clear hr hg o0 o1 o2 o4 o5 o6 o7 o8 o9 fr fg fn fm
  unfold Rp.V.val Rp.V.cells
  dsimp only
  go_enter Tryz.func6, Tryz.ntmps6
  go_upto_region 1 with (fail)
  have S0 := ((Held.start w).new #[.int .u8 (k : Int), .int .u32 (id : Int), .int .u16 (code : Int), .bool last, .int .u64 (ep : Int), .int .u64 (fl : Int), .int .u64 (un : Int), .int .u64 (le : Int), .int .u64 (st : Int), .int .u64 (ti : Int), .slice A n1 c1, .slice G m1 d1] 28).new #[.int .u8 0, .int .u32 0, .int .u16 0, .bool false, .int .u64 0, .int .u64 0, .int .u64 0, .int .u64 0, .int .u64 0, .int .u64 0, .slice none 0 0, .slice none 0 0] 28
  rw [show (w.alloc (.cells #[.int .u8 (k : Int), .int .u32 (id : Int), .int .u16 (code : Int), .bool last, .int .u64 (ep : Int), .int .u64 (fl : Int), .int .u64 (un : Int), .int .u64 (le : Int), .int .u64 (st : Int), .int .u64 (ti : Int), .slice A n1 c1, .slice G m1 d1] 28)).heap.size = w.heap.size + 1 by simp] at S0
  obtain ⟨W0, hW⟩ : ∃ W, (w.alloc (.cells #[.int .u8 (k : Int), .int .u32 (id : Int), .int .u16 (code : Int), .bool last, .int .u64 (ep : Int), .int .u64 (fl : Int), .int .u64 (un : Int), .int .u64 (le : Int), .int .u64 (st : Int), .int .u64 (ti : Int), .slice A n1 c1, .slice G m1 d1] 28)).alloc (.cells #[.int .u8 0, .int .u32 0, .int .u16 0, .bool false, .int .u64 0, .int .u64 0, .int .u64 0, .int .u64 0, .int .u64 0, .int .u64 0, .slice none 0 0, .slice none 0 0] 28) = W := ⟨_, rfl⟩
  rw [hW] at S0 ⊢
  clear hW
  have H0 : Hid (Held w W0 [(w.heap.size, 28, (#[.int .u8 (k : Int), .int .u32 (id : Int), .int .u16 (code : Int), .bool last, .int .u64 (ep : Int), .int .u64 (fl : Int), .int .u64 (un : Int), .int .u64 (le : Int), .int .u64 (st : Int), .int .u64 (ti : Int), .slice A n1 c1, .slice G m1 d1] : Array Value)), ((w.heap.size + 1), 28, (#[.int .u8 0, .int .u32 0, .int .u16 0, .bool false, .int .u64 0, .int .u64 0, .int .u64 0, .int .u64 0, .int .u64 0, .int .u64 0, .slice none 0 0, .slice none 0 0] : Array Value))]) := Lib.hid (S0.sub8 (by intro x hx; simp only [List.mem_cons, List.not_mem_nil, or_false] at hx ⊢; (repeat' rcases hx with h | hx) <;> simp_all))
  clear S0
  go_upto_region 18 with (fail)
  obtain ⟨y, hy1, hy2, hyl⟩ : ∃ y : Nat, ((ti : Int) + 1) % 18446744073709551616 = y ∧ IntKind.u64.wrap ((ti : Int) + 1) = y ∧ y < 18446744073709551616 := ⟨(ti + 1) % 18446744073709551616, by omega, by rw [IntKind.wrap_u64]; omega, Nat.mod_lt _ (by omega)⟩
  have kk := H0.out.at_ (List.mem_cons_self ..)
  have p9 := kk.cell 9
  have pf9 := kk.frozen 9
  clear kk
  go_upto_region 29 with (fail)
  clear p9 pf9
  have s0 := H0.out.put8 (by omega) (by intro x hx; simp only [List.mem_cons, List.not_mem_nil, or_false] at hx; (repeat' rcases hx with rfl | hx) <;> (try subst hx) <;> (dsimp only; omega)) 9 (.int .u64 (y : Int))
  simp only [List.setIfInBounds_toArray, List.set_cons_zero, List.set_cons_succ] at s0
  obtain ⟨W1, hW⟩ : ∃ W, W0.setCell ⟨w.heap.size, 9, none⟩ (.int .u64 (y : Int)) = W := ⟨_, rfl⟩
  rw [hW] at s0 ⊢
  clear hW
  have H1 : Hid (Held w W1 [(w.heap.size, 28, (#[.int .u8 (k : Int), .int .u32 (id : Int), .int .u16 (code : Int), .bool last, .int .u64 (ep : Int), .int .u64 (fl : Int), .int .u64 (un : Int), .int .u64 (le : Int), .int .u64 (st : Int), .int .u64 (y : Int), .slice A n1 c1, .slice G m1 d1] : Array Value)), ((w.heap.size + 1), 28, (#[.int .u8 0, .int .u32 0, .int .u16 0, .bool false, .int .u64 0, .int .u64 0, .int .u64 0, .int .u64 0, .int .u64 0, .int .u64 0, .slice none 0 0, .slice none 0 0] : Array Value))]) := Lib.hid s0
  clear s0
  clear hy1 hy2
  have kk := H1.out.at_ (List.mem_cons_self ..)
  have p0 := kk.cell 0
  have pf0 := kk.frozen 0
  have p1 := kk.cell 1
  have pf1 := kk.frozen 1
  have p2 := kk.cell 2
  have pf2 := kk.frozen 2
  have p3 := kk.cell 3
  have pf3 := kk.frozen 3
  have p4 := kk.cell 4
  have pf4 := kk.frozen 4
  have p5 := kk.cell 5
  have pf5 := kk.frozen 5
  have p6 := kk.cell 6
  have pf6 := kk.frozen 6
  have p7 := kk.cell 7
  have pf7 := kk.frozen 7
  have p8 := kk.cell 8
  have pf8 := kk.frozen 8
  have p9 := kk.cell 9
  have pf9 := kk.frozen 9
  have p10 := kk.cell 10
  have pf10 := kk.frozen 10
  have p11 := kk.cell 11
  have pf11 := kk.frozen 11
  clear kk
  have kk := H1.out.at_ (List.mem_cons_of_mem _ (List.mem_cons_self ..))
  have z0 := kk.cell 0
  have zf0 := kk.frozen 0
  have z1 := kk.cell 1
  have zf1 := kk.frozen 1
  have z2 := kk.cell 2
  have zf2 := kk.frozen 2
  have z3 := kk.cell 3
  have zf3 := kk.frozen 3
  have z4 := kk.cell 4
  have zf4 := kk.frozen 4
  have z5 := kk.cell 5
  have zf5 := kk.frozen 5
  have z6 := kk.cell 6
  have zf6 := kk.frozen 6
  have z7 := kk.cell 7
  have zf7 := kk.frozen 7
  have z8 := kk.cell 8
  have zf8 := kk.frozen 8
  have z9 := kk.cell 9
  have zf9 := kk.frozen 9
  have z10 := kk.cell 10
  have zf10 := kk.frozen 10
  have z11 := kk.cell 11
  have zf11 := kk.frozen 11
  clear kk
  go_wp2_with fail
  clear p0 pf0 p1 pf1 p2 pf2 p3 pf3 p4 pf4 p5 pf5 p6 pf6 p7 pf7 p8 pf8 p9 pf9 p10 pf10 p11 pf11
  have HE := (H1.out.sub8 (l' := [((w.heap.size + 1), 28, (#[.int .u8 0, .int .u32 0, .int .u16 0, .bool false, .int .u64 0, .int .u64 0, .int .u64 0, .int .u64 0, .int .u64 0, .int .u64 0, .slice none 0 0, .slice none 0 0] : Array Value)), (w.heap.size, 28, (#[.int .u8 (k : Int), .int .u32 (id : Int), .int .u16 (code : Int), .bool last, .int .u64 (ep : Int), .int .u64 (fl : Int), .int .u64 (un : Int), .int .u64 (le : Int), .int .u64 (st : Int), .int .u64 (y : Int), .slice A n1 c1, .slice G m1 d1] : Array Value))]) (by intro x hx; simp only [List.mem_cons, List.not_mem_nil, or_false] at hx ⊢; (repeat' rcases hx with h | hx) <;> simp_all)).twelve8 (by omega) (by intro x hx; simp only [List.mem_cons, List.not_mem_nil, or_false] at hx; (repeat' rcases hx with rfl | hx) <;> (try subst hx) <;> (dsimp only; omega)) (.int .u8 (k : Int)) (.int .u32 (id : Int)) (.int .u16 (code : Int)) (.bool last) (.int .u64 (ep : Int)) (.int .u64 (fl : Int)) (.int .u64 (un : Int)) (.int .u64 (le : Int)) (.int .u64 (st : Int)) (.int .u64 (y : Int)) (.slice A n1 c1) (.slice G m1 d1)
  refine bodyPost_ret (v := .agg #[.int .u8 (k : Int), .int .u32 (id : Int), .int .u16 (code : Int), .bool last, .int .u64 (ep : Int), .int .u64 (fl : Int), .int .u64 (un : Int), .int .u64 (le : Int), .int .u64 (st : Int), .int .u64 (y : Int), .slice A n1 c1, .slice G m1 d1]) ?_ rfl ⟨⟨k, id, code, last, ep, fl, un, le, st, y, A, n1, c1, G, m1, d1⟩, rows, gone, rfl, ⟨((HI.out.1.below HE.1 (Nat.le_refl _)).more HE.1.size), ((HI.out.2.1.below HE.1 (Nat.le_refl _)).more HE.1.size)⟩, ⟨⟨HI.out.2.2.1.1, HI.out.2.2.1.2.1, HI.out.2.2.1.2.2.1, HI.out.2.2.1.2.2.2.1, HI.out.2.2.1.2.2.2.2.1, HI.out.2.2.1.2.2.2.2.2.1, HI.out.2.2.1.2.2.2.2.2.2.1, HI.out.2.2.1.2.2.2.2.2.2.2.1, hyl⟩, HI.out.2.2.2.1, HI.out.2.2.2.2.1, HI.out.2.2.2.2.2.1, HI.out.2.2.2.2.2.2⟩, HE.1⟩
  simp [results, Tryz.results6, go_sem, z0, z1, z2, z3, z4, z5, z6, z7, z8, z9, z10, z11]
set_option maxRecDepth 100000 in
set_option maxHeartbeats 4000000 in
theorem odd8_8 (x : Rp.V) (rows : List Rw) (gone : List Pn) (w : World) (hx : x.In w w.heap.size rows gone) (hf : FineRep x rows gone) : Calls Tryz.prog 6 #[x.val, .int .i64 8] w (FineP w) := by
  obtain ⟨k, id, code, last, ep, fl, un, le, st, ti, A, n1, c1, G, m1, d1⟩ := x
  obtain ⟨hr, hg⟩ := hx
  obtain ⟨⟨o0, o1, o2, o4, o5, o6, o7, o8, o9⟩, fr, fg, fn, fm⟩ := hf
  have HI := Lib.hid (And.intro hr (And.intro hg (And.intro (And.intro o0 (And.intro o1 (And.intro o2 (And.intro o4 (And.intro o5 (And.intro o6 (And.intro o7 (And.intro o8 o9)))))))) (And.intro fr (And.intro fg (And.intro fn fm))))))
  clear hr hg o0 o1 o2 o4 o5 o6 o7 o8 o9 fr fg fn fm
  unfold Rp.V.val Rp.V.cells
  dsimp only
  go_enter Tryz.func6, Tryz.ntmps6
  go_upto_region 1 with (fail)
  have S0 := ((Held.start w).new #[.int .u8 (k : Int), .int .u32 (id : Int), .int .u16 (code : Int), .bool last, .int .u64 (ep : Int), .int .u64 (fl : Int), .int .u64 (un : Int), .int .u64 (le : Int), .int .u64 (st : Int), .int .u64 (ti : Int), .slice A n1 c1, .slice G m1 d1] 28).new #[.int .u8 0, .int .u32 0, .int .u16 0, .bool false, .int .u64 0, .int .u64 0, .int .u64 0, .int .u64 0, .int .u64 0, .int .u64 0, .slice none 0 0, .slice none 0 0] 28
  rw [show (w.alloc (.cells #[.int .u8 (k : Int), .int .u32 (id : Int), .int .u16 (code : Int), .bool last, .int .u64 (ep : Int), .int .u64 (fl : Int), .int .u64 (un : Int), .int .u64 (le : Int), .int .u64 (st : Int), .int .u64 (ti : Int), .slice A n1 c1, .slice G m1 d1] 28)).heap.size = w.heap.size + 1 by simp] at S0
  obtain ⟨W0, hW⟩ : ∃ W, (w.alloc (.cells #[.int .u8 (k : Int), .int .u32 (id : Int), .int .u16 (code : Int), .bool last, .int .u64 (ep : Int), .int .u64 (fl : Int), .int .u64 (un : Int), .int .u64 (le : Int), .int .u64 (st : Int), .int .u64 (ti : Int), .slice A n1 c1, .slice G m1 d1] 28)).alloc (.cells #[.int .u8 0, .int .u32 0, .int .u16 0, .bool false, .int .u64 0, .int .u64 0, .int .u64 0, .int .u64 0, .int .u64 0, .int .u64 0, .slice none 0 0, .slice none 0 0] 28) = W := ⟨_, rfl⟩
  rw [hW] at S0 ⊢
  clear hW
  have H0 : Hid (Held w W0 [(w.heap.size, 28, (#[.int .u8 (k : Int), .int .u32 (id : Int), .int .u16 (code : Int), .bool last, .int .u64 (ep : Int), .int .u64 (fl : Int), .int .u64 (un : Int), .int .u64 (le : Int), .int .u64 (st : Int), .int .u64 (ti : Int), .slice A n1 c1, .slice G m1 d1] : Array Value)), ((w.heap.size + 1), 28, (#[.int .u8 0, .int .u32 0, .int .u16 0, .bool false, .int .u64 0, .int .u64 0, .int .u64 0, .int .u64 0, .int .u64 0, .int .u64 0, .slice none 0 0, .slice none 0 0] : Array Value))]) := Lib.hid (S0.sub8 (by intro x hx; simp only [List.mem_cons, List.not_mem_nil, or_false] at hx ⊢; (repeat' rcases hx with h | hx) <;> simp_all))
  clear S0
  go_upto_region 20 with (fail)
  have s0 := H0.out.new #[.string ⟨#[97]⟩, .int .i64 0, .int .i64 0, .int .i64 1, .int .i64 0, .int .i64 0, .int .i64 0] 49
  obtain ⟨gr, hg⟩ : ∃ g, W0.heap.size = g := ⟨_, rfl⟩
  rw [hg] at s0
  obtain ⟨W1, hW⟩ : ∃ W, W0.alloc (.cells #[.string ⟨#[97]⟩, .int .i64 0, .int .i64 0, .int .i64 1, .int .i64 0, .int .i64 0, .int .i64 0] 49) = W := ⟨_, rfl⟩
  rw [hW] at s0
  have H1 : Hid (Held w W1 [(w.heap.size, 28, (#[.int .u8 (k : Int), .int .u32 (id : Int), .int .u16 (code : Int), .bool last, .int .u64 (ep : Int), .int .u64 (fl : Int), .int .u64 (un : Int), .int .u64 (le : Int), .int .u64 (st : Int), .int .u64 (ti : Int), .slice A n1 c1, .slice G m1 d1] : Array Value)), ((w.heap.size + 1), 28, (#[.int .u8 0, .int .u32 0, .int .u16 0, .bool false, .int .u64 0, .int .u64 0, .int .u64 0, .int .u64 0, .int .u64 0, .int .u64 0, .slice none 0 0, .slice none 0 0] : Array Value)), (gr, 49, (#[.string ⟨#[97]⟩, .int .i64 0, .int .i64 0, .int .i64 1, .int .i64 0, .int .i64 0, .int .i64 0] : Array Value))]) := Lib.hid (s0.sub8 (by intro x hx; simp only [List.mem_cons, List.not_mem_nil, or_false] at hx ⊢; (repeat' rcases hx with h | hx) <;> simp_all))
  clear s0
  have hgr : w.heap.size + 1 < gr := by have h1 := H0.out.2 _ (List.mem_cons_of_mem _ (List.mem_cons_self ..)); exact (by rw [← hg]; exact h1.lt)
  have kk := H1.out.at_ (List.mem_cons_self ..)
  have p10 := kk.cell 10
  have pf10 := kk.frozen 10
  clear kk
  go_upto_region 29 with (fail)
  clear p10 pf10
  have s1 := H1.out.put8 (by omega) (by intro x hx; simp only [List.mem_cons, List.not_mem_nil, or_false] at hx; (repeat' rcases hx with rfl | hx) <;> (try subst hx) <;> (dsimp only; omega)) 10 (.slice (some ⟨gr, 0, none⟩) 1 1)
  simp only [List.setIfInBounds_toArray, List.set_cons_zero, List.set_cons_succ] at s1
  obtain ⟨W2, hW⟩ : ∃ W, W1.setCell ⟨w.heap.size, 10, none⟩ (.slice (some ⟨gr, 0, none⟩) 1 1) = W := ⟨_, rfl⟩
  rw [hW] at s1 ⊢
  clear hW
  have H2 : Hid (Held w W2 [(w.heap.size, 28, (#[.int .u8 (k : Int), .int .u32 (id : Int), .int .u16 (code : Int), .bool last, .int .u64 (ep : Int), .int .u64 (fl : Int), .int .u64 (un : Int), .int .u64 (le : Int), .int .u64 (st : Int), .int .u64 (ti : Int), .slice (some ⟨gr, 0, none⟩) 1 1, .slice G m1 d1] : Array Value)), ((w.heap.size + 1), 28, (#[.int .u8 0, .int .u32 0, .int .u16 0, .bool false, .int .u64 0, .int .u64 0, .int .u64 0, .int .u64 0, .int .u64 0, .int .u64 0, .slice none 0 0, .slice none 0 0] : Array Value)), (gr, 49, (#[.string ⟨#[97]⟩, .int .i64 0, .int .i64 0, .int .i64 1, .int .i64 0, .int .i64 0, .int .i64 0] : Array Value))]) := Lib.hid s1
  clear s1
  have kk := H2.out.at_ (List.mem_cons_self ..)
  have p0 := kk.cell 0
  have pf0 := kk.frozen 0
  have p1 := kk.cell 1
  have pf1 := kk.frozen 1
  have p2 := kk.cell 2
  have pf2 := kk.frozen 2
  have p3 := kk.cell 3
  have pf3 := kk.frozen 3
  have p4 := kk.cell 4
  have pf4 := kk.frozen 4
  have p5 := kk.cell 5
  have pf5 := kk.frozen 5
  have p6 := kk.cell 6
  have pf6 := kk.frozen 6
  have p7 := kk.cell 7
  have pf7 := kk.frozen 7
  have p8 := kk.cell 8
  have pf8 := kk.frozen 8
  have p9 := kk.cell 9
  have pf9 := kk.frozen 9
  have p10 := kk.cell 10
  have pf10 := kk.frozen 10
  have p11 := kk.cell 11
  have pf11 := kk.frozen 11
  clear kk
  have kk := H2.out.at_ (List.mem_cons_of_mem _ (List.mem_cons_self ..))
  have z0 := kk.cell 0
  have zf0 := kk.frozen 0
  have z1 := kk.cell 1
  have zf1 := kk.frozen 1
  have z2 := kk.cell 2
  have zf2 := kk.frozen 2
  have z3 := kk.cell 3
  have zf3 := kk.frozen 3
  have z4 := kk.cell 4
  have zf4 := kk.frozen 4
  have z5 := kk.cell 5
  have zf5 := kk.frozen 5
  have z6 := kk.cell 6
  have zf6 := kk.frozen 6
  have z7 := kk.cell 7
  have zf7 := kk.frozen 7
  have z8 := kk.cell 8
  have zf8 := kk.frozen 8
  have z9 := kk.cell 9
  have zf9 := kk.frozen 9
  have z10 := kk.cell 10
  have zf10 := kk.frozen 10
  have z11 := kk.cell 11
  have zf11 := kk.frozen 11
  clear kk
  go_wp2_with fail
  clear p0 pf0 p1 pf1 p2 pf2 p3 pf3 p4 pf4 p5 pf5 p6 pf6 p7 pf7 p8 pf8 p9 pf9 p10 pf10 p11 pf11
  have HE := (H2.out.sub8 (l' := [((w.heap.size + 1), 28, (#[.int .u8 0, .int .u32 0, .int .u16 0, .bool false, .int .u64 0, .int .u64 0, .int .u64 0, .int .u64 0, .int .u64 0, .int .u64 0, .slice none 0 0, .slice none 0 0] : Array Value)), (w.heap.size, 28, (#[.int .u8 (k : Int), .int .u32 (id : Int), .int .u16 (code : Int), .bool last, .int .u64 (ep : Int), .int .u64 (fl : Int), .int .u64 (un : Int), .int .u64 (le : Int), .int .u64 (st : Int), .int .u64 (ti : Int), .slice (some ⟨gr, 0, none⟩) 1 1, .slice G m1 d1] : Array Value)), (gr, 49, (#[.string ⟨#[97]⟩, .int .i64 0, .int .i64 0, .int .i64 1, .int .i64 0, .int .i64 0, .int .i64 0] : Array Value))]) (by intro x hx; simp only [List.mem_cons, List.not_mem_nil, or_false] at hx ⊢; (repeat' rcases hx with h | hx) <;> simp_all)).twelve8 (by omega) (by intro x hx; simp only [List.mem_cons, List.not_mem_nil, or_false] at hx; (repeat' rcases hx with rfl | hx) <;> (try subst hx) <;> (dsimp only; omega)) (.int .u8 (k : Int)) (.int .u32 (id : Int)) (.int .u16 (code : Int)) (.bool last) (.int .u64 (ep : Int)) (.int .u64 (fl : Int)) (.int .u64 (un : Int)) (.int .u64 (le : Int)) (.int .u64 (st : Int)) (.int .u64 (ti : Int)) (.slice (some ⟨gr, 0, none⟩) 1 1) (.slice G m1 d1)
  have hR := rows_blk8 (n := 1) (l := [(⟨⟨⟨#[97]⟩, 0, 0⟩, ⟨1, 0, 0, 0⟩⟩ : Rw)]) (HE.at_ (g := gr) (t := 49) (cs := #[.string ⟨#[97]⟩, .int .i64 0, .int .i64 0, .int .i64 1, .int .i64 0, .int .i64 0, .int .i64 0]) (List.mem_cons_of_mem _ (List.mem_cons_of_mem _ (List.mem_cons_self ..)))) (by simp [rcells, rowL]) rfl
  refine bodyPost_ret (v := .agg #[.int .u8 (k : Int), .int .u32 (id : Int), .int .u16 (code : Int), .bool last, .int .u64 (ep : Int), .int .u64 (fl : Int), .int .u64 (un : Int), .int .u64 (le : Int), .int .u64 (st : Int), .int .u64 (ti : Int), .slice (some ⟨gr, 0, none⟩) 1 1, .slice G m1 d1]) ?_ rfl ⟨⟨k, id, code, last, ep, fl, un, le, st, ti, some ⟨gr, 0, none⟩, 1, 1, G, m1, d1⟩, [(⟨⟨⟨#[97]⟩, 0, 0⟩, ⟨1, 0, 0, 0⟩⟩ : Rw)], gone, rfl, ⟨hR, ((HI.out.2.1.below HE.1 (Nat.le_refl _)).more HE.1.size)⟩, ⟨⟨HI.out.2.2.1.1, HI.out.2.2.1.2.1, HI.out.2.2.1.2.2.1, HI.out.2.2.1.2.2.2.1, HI.out.2.2.1.2.2.2.2.1, HI.out.2.2.1.2.2.2.2.2.1, HI.out.2.2.1.2.2.2.2.2.2.1, HI.out.2.2.1.2.2.2.2.2.2.2.1, HI.out.2.2.1.2.2.2.2.2.2.2.2⟩, (by intro q hq; simp only [List.mem_cons, List.not_mem_nil, or_false] at hq; subst hq; exact ⟨⟨by unfold i64ok; decide, by unfold i64ok; decide⟩, agg_ok4 (by unfold i64ok; decide) (by unfold i64ok; decide) (by unfold i64ok; decide) (by unfold i64ok; decide)⟩), HI.out.2.2.2.2.1, (by show 1 ≤ 64; omega), HI.out.2.2.2.2.2.2⟩, HE.1⟩
  simp [results, Tryz.results6, go_sem, z0, z1, z2, z3, z4, z5, z6, z7, z8, z9, z10, z11]
set_option maxRecDepth 100000 in
set_option maxHeartbeats 4000000 in
theorem odd8_9 (x : Rp.V) (rows : List Rw) (gone : List Pn) (w : World) (hx : x.In w w.heap.size rows gone) (hf : FineRep x rows gone) : Calls Tryz.prog 6 #[x.val, .int .i64 9] w (FineP w) := by
  obtain ⟨k, id, code, last, ep, fl, un, le, st, ti, A, n1, c1, G, m1, d1⟩ := x
  obtain ⟨hr, hg⟩ := hx
  obtain ⟨⟨o0, o1, o2, o4, o5, o6, o7, o8, o9⟩, fr, fg, fn, fm⟩ := hf
  have HI := Lib.hid (And.intro hr (And.intro hg (And.intro (And.intro o0 (And.intro o1 (And.intro o2 (And.intro o4 (And.intro o5 (And.intro o6 (And.intro o7 (And.intro o8 o9)))))))) (And.intro fr (And.intro fg (And.intro fn fm))))))
  clear hr hg o0 o1 o2 o4 o5 o6 o7 o8 o9 fr fg fn fm
  unfold Rp.V.val Rp.V.cells
  dsimp only
  go_enter Tryz.func6, Tryz.ntmps6
  go_upto_region 1 with (fail)
  have S0 := ((Held.start w).new #[.int .u8 (k : Int), .int .u32 (id : Int), .int .u16 (code : Int), .bool last, .int .u64 (ep : Int), .int .u64 (fl : Int), .int .u64 (un : Int), .int .u64 (le : Int), .int .u64 (st : Int), .int .u64 (ti : Int), .slice A n1 c1, .slice G m1 d1] 28).new #[.int .u8 0, .int .u32 0, .int .u16 0, .bool false, .int .u64 0, .int .u64 0, .int .u64 0, .int .u64 0, .int .u64 0, .int .u64 0, .slice none 0 0, .slice none 0 0] 28
  rw [show (w.alloc (.cells #[.int .u8 (k : Int), .int .u32 (id : Int), .int .u16 (code : Int), .bool last, .int .u64 (ep : Int), .int .u64 (fl : Int), .int .u64 (un : Int), .int .u64 (le : Int), .int .u64 (st : Int), .int .u64 (ti : Int), .slice A n1 c1, .slice G m1 d1] 28)).heap.size = w.heap.size + 1 by simp] at S0
  obtain ⟨W0, hW⟩ : ∃ W, (w.alloc (.cells #[.int .u8 (k : Int), .int .u32 (id : Int), .int .u16 (code : Int), .bool last, .int .u64 (ep : Int), .int .u64 (fl : Int), .int .u64 (un : Int), .int .u64 (le : Int), .int .u64 (st : Int), .int .u64 (ti : Int), .slice A n1 c1, .slice G m1 d1] 28)).alloc (.cells #[.int .u8 0, .int .u32 0, .int .u16 0, .bool false, .int .u64 0, .int .u64 0, .int .u64 0, .int .u64 0, .int .u64 0, .int .u64 0, .slice none 0 0, .slice none 0 0] 28) = W := ⟨_, rfl⟩
  rw [hW] at S0 ⊢
  clear hW
  have H0 : Hid (Held w W0 [(w.heap.size, 28, (#[.int .u8 (k : Int), .int .u32 (id : Int), .int .u16 (code : Int), .bool last, .int .u64 (ep : Int), .int .u64 (fl : Int), .int .u64 (un : Int), .int .u64 (le : Int), .int .u64 (st : Int), .int .u64 (ti : Int), .slice A n1 c1, .slice G m1 d1] : Array Value)), ((w.heap.size + 1), 28, (#[.int .u8 0, .int .u32 0, .int .u16 0, .bool false, .int .u64 0, .int .u64 0, .int .u64 0, .int .u64 0, .int .u64 0, .int .u64 0, .slice none 0 0, .slice none 0 0] : Array Value))]) := Lib.hid (S0.sub8 (by intro x hx; simp only [List.mem_cons, List.not_mem_nil, or_false] at hx ⊢; (repeat' rcases hx with h | hx) <;> simp_all))
  clear S0
  go_upto_region 22 with (fail)
  have s0 := H0.out.new #[.string ⟨#[97]⟩, .int .i64 0, .int .i64 0, .int .i64 0, .int .i64 0, .int .i64 0, .int .i64 0] 49
  obtain ⟨gr, hg⟩ : ∃ g, W0.heap.size = g := ⟨_, rfl⟩
  rw [hg] at s0
  obtain ⟨W1, hW⟩ : ∃ W, W0.alloc (.cells #[.string ⟨#[97]⟩, .int .i64 0, .int .i64 0, .int .i64 0, .int .i64 0, .int .i64 0, .int .i64 0] 49) = W := ⟨_, rfl⟩
  rw [hW] at s0
  have H1 : Hid (Held w W1 [(w.heap.size, 28, (#[.int .u8 (k : Int), .int .u32 (id : Int), .int .u16 (code : Int), .bool last, .int .u64 (ep : Int), .int .u64 (fl : Int), .int .u64 (un : Int), .int .u64 (le : Int), .int .u64 (st : Int), .int .u64 (ti : Int), .slice A n1 c1, .slice G m1 d1] : Array Value)), ((w.heap.size + 1), 28, (#[.int .u8 0, .int .u32 0, .int .u16 0, .bool false, .int .u64 0, .int .u64 0, .int .u64 0, .int .u64 0, .int .u64 0, .int .u64 0, .slice none 0 0, .slice none 0 0] : Array Value)), (gr, 49, (#[.string ⟨#[97]⟩, .int .i64 0, .int .i64 0, .int .i64 0, .int .i64 0, .int .i64 0, .int .i64 0] : Array Value))]) := Lib.hid (s0.sub8 (by intro x hx; simp only [List.mem_cons, List.not_mem_nil, or_false] at hx ⊢; (repeat' rcases hx with h | hx) <;> simp_all))
  clear s0
  have hgr : w.heap.size + 1 < gr := by have h1 := H0.out.2 _ (List.mem_cons_of_mem _ (List.mem_cons_self ..)); exact (by rw [← hg]; exact h1.lt)
  have kk := H1.out.at_ (List.mem_cons_self ..)
  have p10 := kk.cell 10
  have pf10 := kk.frozen 10
  clear kk
  go_upto_region 29 with (fail)
  clear p10 pf10
  have s1 := H1.out.put8 (by omega) (by intro x hx; simp only [List.mem_cons, List.not_mem_nil, or_false] at hx; (repeat' rcases hx with rfl | hx) <;> (try subst hx) <;> (dsimp only; omega)) 10 (.slice (some ⟨gr, 0, none⟩) 1 1)
  simp only [List.setIfInBounds_toArray, List.set_cons_zero, List.set_cons_succ] at s1
  obtain ⟨W2, hW⟩ : ∃ W, W1.setCell ⟨w.heap.size, 10, none⟩ (.slice (some ⟨gr, 0, none⟩) 1 1) = W := ⟨_, rfl⟩
  rw [hW] at s1 ⊢
  clear hW
  have H2 : Hid (Held w W2 [(w.heap.size, 28, (#[.int .u8 (k : Int), .int .u32 (id : Int), .int .u16 (code : Int), .bool last, .int .u64 (ep : Int), .int .u64 (fl : Int), .int .u64 (un : Int), .int .u64 (le : Int), .int .u64 (st : Int), .int .u64 (ti : Int), .slice (some ⟨gr, 0, none⟩) 1 1, .slice G m1 d1] : Array Value)), ((w.heap.size + 1), 28, (#[.int .u8 0, .int .u32 0, .int .u16 0, .bool false, .int .u64 0, .int .u64 0, .int .u64 0, .int .u64 0, .int .u64 0, .int .u64 0, .slice none 0 0, .slice none 0 0] : Array Value)), (gr, 49, (#[.string ⟨#[97]⟩, .int .i64 0, .int .i64 0, .int .i64 0, .int .i64 0, .int .i64 0, .int .i64 0] : Array Value))]) := Lib.hid s1
  clear s1
  have kk := H2.out.at_ (List.mem_cons_self ..)
  have p0 := kk.cell 0
  have pf0 := kk.frozen 0
  have p1 := kk.cell 1
  have pf1 := kk.frozen 1
  have p2 := kk.cell 2
  have pf2 := kk.frozen 2
  have p3 := kk.cell 3
  have pf3 := kk.frozen 3
  have p4 := kk.cell 4
  have pf4 := kk.frozen 4
  have p5 := kk.cell 5
  have pf5 := kk.frozen 5
  have p6 := kk.cell 6
  have pf6 := kk.frozen 6
  have p7 := kk.cell 7
  have pf7 := kk.frozen 7
  have p8 := kk.cell 8
  have pf8 := kk.frozen 8
  have p9 := kk.cell 9
  have pf9 := kk.frozen 9
  have p10 := kk.cell 10
  have pf10 := kk.frozen 10
  have p11 := kk.cell 11
  have pf11 := kk.frozen 11
  clear kk
  have kk := H2.out.at_ (List.mem_cons_of_mem _ (List.mem_cons_self ..))
  have z0 := kk.cell 0
  have zf0 := kk.frozen 0
  have z1 := kk.cell 1
  have zf1 := kk.frozen 1
  have z2 := kk.cell 2
  have zf2 := kk.frozen 2
  have z3 := kk.cell 3
  have zf3 := kk.frozen 3
  have z4 := kk.cell 4
  have zf4 := kk.frozen 4
  have z5 := kk.cell 5
  have zf5 := kk.frozen 5
  have z6 := kk.cell 6
  have zf6 := kk.frozen 6
  have z7 := kk.cell 7
  have zf7 := kk.frozen 7
  have z8 := kk.cell 8
  have zf8 := kk.frozen 8
  have z9 := kk.cell 9
  have zf9 := kk.frozen 9
  have z10 := kk.cell 10
  have zf10 := kk.frozen 10
  have z11 := kk.cell 11
  have zf11 := kk.frozen 11
  clear kk
  go_wp2_with fail
  clear p0 pf0 p1 pf1 p2 pf2 p3 pf3 p4 pf4 p5 pf5 p6 pf6 p7 pf7 p8 pf8 p9 pf9 p10 pf10 p11 pf11
  have HE := (H2.out.sub8 (l' := [((w.heap.size + 1), 28, (#[.int .u8 0, .int .u32 0, .int .u16 0, .bool false, .int .u64 0, .int .u64 0, .int .u64 0, .int .u64 0, .int .u64 0, .int .u64 0, .slice none 0 0, .slice none 0 0] : Array Value)), (w.heap.size, 28, (#[.int .u8 (k : Int), .int .u32 (id : Int), .int .u16 (code : Int), .bool last, .int .u64 (ep : Int), .int .u64 (fl : Int), .int .u64 (un : Int), .int .u64 (le : Int), .int .u64 (st : Int), .int .u64 (ti : Int), .slice (some ⟨gr, 0, none⟩) 1 1, .slice G m1 d1] : Array Value)), (gr, 49, (#[.string ⟨#[97]⟩, .int .i64 0, .int .i64 0, .int .i64 0, .int .i64 0, .int .i64 0, .int .i64 0] : Array Value))]) (by intro x hx; simp only [List.mem_cons, List.not_mem_nil, or_false] at hx ⊢; (repeat' rcases hx with h | hx) <;> simp_all)).twelve8 (by omega) (by intro x hx; simp only [List.mem_cons, List.not_mem_nil, or_false] at hx; (repeat' rcases hx with rfl | hx) <;> (try subst hx) <;> (dsimp only; omega)) (.int .u8 (k : Int)) (.int .u32 (id : Int)) (.int .u16 (code : Int)) (.bool last) (.int .u64 (ep : Int)) (.int .u64 (fl : Int)) (.int .u64 (un : Int)) (.int .u64 (le : Int)) (.int .u64 (st : Int)) (.int .u64 (ti : Int)) (.slice (some ⟨gr, 0, none⟩) 1 1) (.slice G m1 d1)
  have hR := rows_blk8 (n := 1) (l := [(⟨⟨⟨#[97]⟩, 0, 0⟩, ⟨0, 0, 0, 0⟩⟩ : Rw)]) (HE.at_ (g := gr) (t := 49) (cs := #[.string ⟨#[97]⟩, .int .i64 0, .int .i64 0, .int .i64 0, .int .i64 0, .int .i64 0, .int .i64 0]) (List.mem_cons_of_mem _ (List.mem_cons_of_mem _ (List.mem_cons_self ..)))) (by simp [rcells, rowL]) rfl
  refine bodyPost_ret (v := .agg #[.int .u8 (k : Int), .int .u32 (id : Int), .int .u16 (code : Int), .bool last, .int .u64 (ep : Int), .int .u64 (fl : Int), .int .u64 (un : Int), .int .u64 (le : Int), .int .u64 (st : Int), .int .u64 (ti : Int), .slice (some ⟨gr, 0, none⟩) 1 1, .slice G m1 d1]) ?_ rfl ⟨⟨k, id, code, last, ep, fl, un, le, st, ti, some ⟨gr, 0, none⟩, 1, 1, G, m1, d1⟩, [(⟨⟨⟨#[97]⟩, 0, 0⟩, ⟨0, 0, 0, 0⟩⟩ : Rw)], gone, rfl, ⟨hR, ((HI.out.2.1.below HE.1 (Nat.le_refl _)).more HE.1.size)⟩, ⟨⟨HI.out.2.2.1.1, HI.out.2.2.1.2.1, HI.out.2.2.1.2.2.1, HI.out.2.2.1.2.2.2.1, HI.out.2.2.1.2.2.2.2.1, HI.out.2.2.1.2.2.2.2.2.1, HI.out.2.2.1.2.2.2.2.2.2.1, HI.out.2.2.1.2.2.2.2.2.2.2.1, HI.out.2.2.1.2.2.2.2.2.2.2.2⟩, (by intro q hq; simp only [List.mem_cons, List.not_mem_nil, or_false] at hq; subst hq; exact ⟨⟨by unfold i64ok; decide, by unfold i64ok; decide⟩, agg_ok4 (by unfold i64ok; decide) (by unfold i64ok; decide) (by unfold i64ok; decide) (by unfold i64ok; decide)⟩), HI.out.2.2.2.2.1, (by show 1 ≤ 64; omega), HI.out.2.2.2.2.2.2⟩, HE.1⟩
  simp [results, Tryz.results6, go_sem, z0, z1, z2, z3, z4, z5, z6, z7, z8, z9, z10, z11]
set_option maxRecDepth 100000 in
set_option maxHeartbeats 4000000 in
theorem odd8_10 (x : Rp.V) (rows : List Rw) (gone : List Pn) (w : World) (hx : x.In w w.heap.size rows gone) (hf : FineRep x rows gone) : Calls Tryz.prog 6 #[x.val, .int .i64 10] w (FineP w) := by
  obtain ⟨k, id, code, last, ep, fl, un, le, st, ti, A, n1, c1, G, m1, d1⟩ := x
  obtain ⟨hr, hg⟩ := hx
  obtain ⟨⟨o0, o1, o2, o4, o5, o6, o7, o8, o9⟩, fr, fg, fn, fm⟩ := hf
  have HI := Lib.hid (And.intro hr (And.intro hg (And.intro (And.intro o0 (And.intro o1 (And.intro o2 (And.intro o4 (And.intro o5 (And.intro o6 (And.intro o7 (And.intro o8 o9)))))))) (And.intro fr (And.intro fg (And.intro fn fm))))))
  clear hr hg o0 o1 o2 o4 o5 o6 o7 o8 o9 fr fg fn fm
  unfold Rp.V.val Rp.V.cells
  dsimp only
  go_enter Tryz.func6, Tryz.ntmps6
  go_upto_region 1 with (fail)
  have S0 := ((Held.start w).new #[.int .u8 (k : Int), .int .u32 (id : Int), .int .u16 (code : Int), .bool last, .int .u64 (ep : Int), .int .u64 (fl : Int), .int .u64 (un : Int), .int .u64 (le : Int), .int .u64 (st : Int), .int .u64 (ti : Int), .slice A n1 c1, .slice G m1 d1] 28).new #[.int .u8 0, .int .u32 0, .int .u16 0, .bool false, .int .u64 0, .int .u64 0, .int .u64 0, .int .u64 0, .int .u64 0, .int .u64 0, .slice none 0 0, .slice none 0 0] 28
  rw [show (w.alloc (.cells #[.int .u8 (k : Int), .int .u32 (id : Int), .int .u16 (code : Int), .bool last, .int .u64 (ep : Int), .int .u64 (fl : Int), .int .u64 (un : Int), .int .u64 (le : Int), .int .u64 (st : Int), .int .u64 (ti : Int), .slice A n1 c1, .slice G m1 d1] 28)).heap.size = w.heap.size + 1 by simp] at S0
  obtain ⟨W0, hW⟩ : ∃ W, (w.alloc (.cells #[.int .u8 (k : Int), .int .u32 (id : Int), .int .u16 (code : Int), .bool last, .int .u64 (ep : Int), .int .u64 (fl : Int), .int .u64 (un : Int), .int .u64 (le : Int), .int .u64 (st : Int), .int .u64 (ti : Int), .slice A n1 c1, .slice G m1 d1] 28)).alloc (.cells #[.int .u8 0, .int .u32 0, .int .u16 0, .bool false, .int .u64 0, .int .u64 0, .int .u64 0, .int .u64 0, .int .u64 0, .int .u64 0, .slice none 0 0, .slice none 0 0] 28) = W := ⟨_, rfl⟩
  rw [hW] at S0 ⊢
  clear hW
  have H0 : Hid (Held w W0 [(w.heap.size, 28, (#[.int .u8 (k : Int), .int .u32 (id : Int), .int .u16 (code : Int), .bool last, .int .u64 (ep : Int), .int .u64 (fl : Int), .int .u64 (un : Int), .int .u64 (le : Int), .int .u64 (st : Int), .int .u64 (ti : Int), .slice A n1 c1, .slice G m1 d1] : Array Value)), ((w.heap.size + 1), 28, (#[.int .u8 0, .int .u32 0, .int .u16 0, .bool false, .int .u64 0, .int .u64 0, .int .u64 0, .int .u64 0, .int .u64 0, .int .u64 0, .slice none 0 0, .slice none 0 0] : Array Value))]) := Lib.hid (S0.sub8 (by intro x hx; simp only [List.mem_cons, List.not_mem_nil, or_false] at hx ⊢; (repeat' rcases hx with h | hx) <;> simp_all))
  clear S0
  go_upto_region 24 with (fail)
  have s0 := H0.out.new #[.string ⟨#[]⟩, .int .i64 0, .int .i64 0, .int .i64 1, .int .i64 0, .int .i64 0, .int .i64 0] 49
  obtain ⟨gr, hg⟩ : ∃ g, W0.heap.size = g := ⟨_, rfl⟩
  rw [hg] at s0
  obtain ⟨W1, hW⟩ : ∃ W, W0.alloc (.cells #[.string ⟨#[]⟩, .int .i64 0, .int .i64 0, .int .i64 1, .int .i64 0, .int .i64 0, .int .i64 0] 49) = W := ⟨_, rfl⟩
  rw [hW] at s0
  have H1 : Hid (Held w W1 [(w.heap.size, 28, (#[.int .u8 (k : Int), .int .u32 (id : Int), .int .u16 (code : Int), .bool last, .int .u64 (ep : Int), .int .u64 (fl : Int), .int .u64 (un : Int), .int .u64 (le : Int), .int .u64 (st : Int), .int .u64 (ti : Int), .slice A n1 c1, .slice G m1 d1] : Array Value)), ((w.heap.size + 1), 28, (#[.int .u8 0, .int .u32 0, .int .u16 0, .bool false, .int .u64 0, .int .u64 0, .int .u64 0, .int .u64 0, .int .u64 0, .int .u64 0, .slice none 0 0, .slice none 0 0] : Array Value)), (gr, 49, (#[.string ⟨#[]⟩, .int .i64 0, .int .i64 0, .int .i64 1, .int .i64 0, .int .i64 0, .int .i64 0] : Array Value))]) := Lib.hid (s0.sub8 (by intro x hx; simp only [List.mem_cons, List.not_mem_nil, or_false] at hx ⊢; (repeat' rcases hx with h | hx) <;> simp_all))
  clear s0
  have hgr : w.heap.size + 1 < gr := by have h1 := H0.out.2 _ (List.mem_cons_of_mem _ (List.mem_cons_self ..)); exact (by rw [← hg]; exact h1.lt)
  have kk := H1.out.at_ (List.mem_cons_self ..)
  have p10 := kk.cell 10
  have pf10 := kk.frozen 10
  clear kk
  go_upto_region 29 with (fail)
  clear p10 pf10
  have s1 := H1.out.put8 (by omega) (by intro x hx; simp only [List.mem_cons, List.not_mem_nil, or_false] at hx; (repeat' rcases hx with rfl | hx) <;> (try subst hx) <;> (dsimp only; omega)) 10 (.slice (some ⟨gr, 0, none⟩) 1 1)
  simp only [List.setIfInBounds_toArray, List.set_cons_zero, List.set_cons_succ] at s1
  obtain ⟨W2, hW⟩ : ∃ W, W1.setCell ⟨w.heap.size, 10, none⟩ (.slice (some ⟨gr, 0, none⟩) 1 1) = W := ⟨_, rfl⟩
  rw [hW] at s1 ⊢
  clear hW
  have H2 : Hid (Held w W2 [(w.heap.size, 28, (#[.int .u8 (k : Int), .int .u32 (id : Int), .int .u16 (code : Int), .bool last, .int .u64 (ep : Int), .int .u64 (fl : Int), .int .u64 (un : Int), .int .u64 (le : Int), .int .u64 (st : Int), .int .u64 (ti : Int), .slice (some ⟨gr, 0, none⟩) 1 1, .slice G m1 d1] : Array Value)), ((w.heap.size + 1), 28, (#[.int .u8 0, .int .u32 0, .int .u16 0, .bool false, .int .u64 0, .int .u64 0, .int .u64 0, .int .u64 0, .int .u64 0, .int .u64 0, .slice none 0 0, .slice none 0 0] : Array Value)), (gr, 49, (#[.string ⟨#[]⟩, .int .i64 0, .int .i64 0, .int .i64 1, .int .i64 0, .int .i64 0, .int .i64 0] : Array Value))]) := Lib.hid s1
  clear s1
  have kk := H2.out.at_ (List.mem_cons_self ..)
  have p0 := kk.cell 0
  have pf0 := kk.frozen 0
  have p1 := kk.cell 1
  have pf1 := kk.frozen 1
  have p2 := kk.cell 2
  have pf2 := kk.frozen 2
  have p3 := kk.cell 3
  have pf3 := kk.frozen 3
  have p4 := kk.cell 4
  have pf4 := kk.frozen 4
  have p5 := kk.cell 5
  have pf5 := kk.frozen 5
  have p6 := kk.cell 6
  have pf6 := kk.frozen 6
  have p7 := kk.cell 7
  have pf7 := kk.frozen 7
  have p8 := kk.cell 8
  have pf8 := kk.frozen 8
  have p9 := kk.cell 9
  have pf9 := kk.frozen 9
  have p10 := kk.cell 10
  have pf10 := kk.frozen 10
  have p11 := kk.cell 11
  have pf11 := kk.frozen 11
  clear kk
  have kk := H2.out.at_ (List.mem_cons_of_mem _ (List.mem_cons_self ..))
  have z0 := kk.cell 0
  have zf0 := kk.frozen 0
  have z1 := kk.cell 1
  have zf1 := kk.frozen 1
  have z2 := kk.cell 2
  have zf2 := kk.frozen 2
  have z3 := kk.cell 3
  have zf3 := kk.frozen 3
  have z4 := kk.cell 4
  have zf4 := kk.frozen 4
  have z5 := kk.cell 5
  have zf5 := kk.frozen 5
  have z6 := kk.cell 6
  have zf6 := kk.frozen 6
  have z7 := kk.cell 7
  have zf7 := kk.frozen 7
  have z8 := kk.cell 8
  have zf8 := kk.frozen 8
  have z9 := kk.cell 9
  have zf9 := kk.frozen 9
  have z10 := kk.cell 10
  have zf10 := kk.frozen 10
  have z11 := kk.cell 11
  have zf11 := kk.frozen 11
  clear kk
  go_wp2_with fail
  clear p0 pf0 p1 pf1 p2 pf2 p3 pf3 p4 pf4 p5 pf5 p6 pf6 p7 pf7 p8 pf8 p9 pf9 p10 pf10 p11 pf11
  have HE := (H2.out.sub8 (l' := [((w.heap.size + 1), 28, (#[.int .u8 0, .int .u32 0, .int .u16 0, .bool false, .int .u64 0, .int .u64 0, .int .u64 0, .int .u64 0, .int .u64 0, .int .u64 0, .slice none 0 0, .slice none 0 0] : Array Value)), (w.heap.size, 28, (#[.int .u8 (k : Int), .int .u32 (id : Int), .int .u16 (code : Int), .bool last, .int .u64 (ep : Int), .int .u64 (fl : Int), .int .u64 (un : Int), .int .u64 (le : Int), .int .u64 (st : Int), .int .u64 (ti : Int), .slice (some ⟨gr, 0, none⟩) 1 1, .slice G m1 d1] : Array Value)), (gr, 49, (#[.string ⟨#[]⟩, .int .i64 0, .int .i64 0, .int .i64 1, .int .i64 0, .int .i64 0, .int .i64 0] : Array Value))]) (by intro x hx; simp only [List.mem_cons, List.not_mem_nil, or_false] at hx ⊢; (repeat' rcases hx with h | hx) <;> simp_all)).twelve8 (by omega) (by intro x hx; simp only [List.mem_cons, List.not_mem_nil, or_false] at hx; (repeat' rcases hx with rfl | hx) <;> (try subst hx) <;> (dsimp only; omega)) (.int .u8 (k : Int)) (.int .u32 (id : Int)) (.int .u16 (code : Int)) (.bool last) (.int .u64 (ep : Int)) (.int .u64 (fl : Int)) (.int .u64 (un : Int)) (.int .u64 (le : Int)) (.int .u64 (st : Int)) (.int .u64 (ti : Int)) (.slice (some ⟨gr, 0, none⟩) 1 1) (.slice G m1 d1)
  have hR := rows_blk8 (n := 1) (l := [(⟨⟨⟨#[]⟩, 0, 0⟩, ⟨1, 0, 0, 0⟩⟩ : Rw)]) (HE.at_ (g := gr) (t := 49) (cs := #[.string ⟨#[]⟩, .int .i64 0, .int .i64 0, .int .i64 1, .int .i64 0, .int .i64 0, .int .i64 0]) (List.mem_cons_of_mem _ (List.mem_cons_of_mem _ (List.mem_cons_self ..)))) (by simp [rcells, rowL]) rfl
  refine bodyPost_ret (v := .agg #[.int .u8 (k : Int), .int .u32 (id : Int), .int .u16 (code : Int), .bool last, .int .u64 (ep : Int), .int .u64 (fl : Int), .int .u64 (un : Int), .int .u64 (le : Int), .int .u64 (st : Int), .int .u64 (ti : Int), .slice (some ⟨gr, 0, none⟩) 1 1, .slice G m1 d1]) ?_ rfl ⟨⟨k, id, code, last, ep, fl, un, le, st, ti, some ⟨gr, 0, none⟩, 1, 1, G, m1, d1⟩, [(⟨⟨⟨#[]⟩, 0, 0⟩, ⟨1, 0, 0, 0⟩⟩ : Rw)], gone, rfl, ⟨hR, ((HI.out.2.1.below HE.1 (Nat.le_refl _)).more HE.1.size)⟩, ⟨⟨HI.out.2.2.1.1, HI.out.2.2.1.2.1, HI.out.2.2.1.2.2.1, HI.out.2.2.1.2.2.2.1, HI.out.2.2.1.2.2.2.2.1, HI.out.2.2.1.2.2.2.2.2.1, HI.out.2.2.1.2.2.2.2.2.2.1, HI.out.2.2.1.2.2.2.2.2.2.2.1, HI.out.2.2.1.2.2.2.2.2.2.2.2⟩, (by intro q hq; simp only [List.mem_cons, List.not_mem_nil, or_false] at hq; subst hq; exact ⟨⟨by unfold i64ok; decide, by unfold i64ok; decide⟩, agg_ok4 (by unfold i64ok; decide) (by unfold i64ok; decide) (by unfold i64ok; decide) (by unfold i64ok; decide)⟩), HI.out.2.2.2.2.1, (by show 1 ≤ 64; omega), HI.out.2.2.2.2.2.2⟩, HE.1⟩
  simp [results, Tryz.results6, go_sem, z0, z1, z2, z3, z4, z5, z6, z7, z8, z9, z10, z11]
set_option maxRecDepth 100000 in
set_option maxHeartbeats 4000000 in
theorem odd8_11 (x : Rp.V) (rows : List Rw) (gone : List Pn) (w : World) (hx : x.In w w.heap.size rows gone) (hf : FineRep x rows gone) : Calls Tryz.prog 6 #[x.val, .int .i64 11] w (FineP w) := by
  obtain ⟨k, id, code, last, ep, fl, un, le, st, ti, A, n1, c1, G, m1, d1⟩ := x
  obtain ⟨hr, hg⟩ := hx
  obtain ⟨⟨o0, o1, o2, o4, o5, o6, o7, o8, o9⟩, fr, fg, fn, fm⟩ := hf
  have HI := Lib.hid (And.intro hr (And.intro hg (And.intro (And.intro o0 (And.intro o1 (And.intro o2 (And.intro o4 (And.intro o5 (And.intro o6 (And.intro o7 (And.intro o8 o9)))))))) (And.intro fr (And.intro fg (And.intro fn fm))))))
  clear hr hg o0 o1 o2 o4 o5 o6 o7 o8 o9 fr fg fn fm
  unfold Rp.V.val Rp.V.cells
  dsimp only
  go_enter Tryz.func6, Tryz.ntmps6
  go_upto_region 1 with (fail)
  have S0 := ((Held.start w).new #[.int .u8 (k : Int), .int .u32 (id : Int), .int .u16 (code : Int), .bool last, .int .u64 (ep : Int), .int .u64 (fl : Int), .int .u64 (un : Int), .int .u64 (le : Int), .int .u64 (st : Int), .int .u64 (ti : Int), .slice A n1 c1, .slice G m1 d1] 28).new #[.int .u8 0, .int .u32 0, .int .u16 0, .bool false, .int .u64 0, .int .u64 0, .int .u64 0, .int .u64 0, .int .u64 0, .int .u64 0, .slice none 0 0, .slice none 0 0] 28
  rw [show (w.alloc (.cells #[.int .u8 (k : Int), .int .u32 (id : Int), .int .u16 (code : Int), .bool last, .int .u64 (ep : Int), .int .u64 (fl : Int), .int .u64 (un : Int), .int .u64 (le : Int), .int .u64 (st : Int), .int .u64 (ti : Int), .slice A n1 c1, .slice G m1 d1] 28)).heap.size = w.heap.size + 1 by simp] at S0
  obtain ⟨W0, hW⟩ : ∃ W, (w.alloc (.cells #[.int .u8 (k : Int), .int .u32 (id : Int), .int .u16 (code : Int), .bool last, .int .u64 (ep : Int), .int .u64 (fl : Int), .int .u64 (un : Int), .int .u64 (le : Int), .int .u64 (st : Int), .int .u64 (ti : Int), .slice A n1 c1, .slice G m1 d1] 28)).alloc (.cells #[.int .u8 0, .int .u32 0, .int .u16 0, .bool false, .int .u64 0, .int .u64 0, .int .u64 0, .int .u64 0, .int .u64 0, .int .u64 0, .slice none 0 0, .slice none 0 0] 28) = W := ⟨_, rfl⟩
  rw [hW] at S0 ⊢
  clear hW
  have H0 : Hid (Held w W0 [(w.heap.size, 28, (#[.int .u8 (k : Int), .int .u32 (id : Int), .int .u16 (code : Int), .bool last, .int .u64 (ep : Int), .int .u64 (fl : Int), .int .u64 (un : Int), .int .u64 (le : Int), .int .u64 (st : Int), .int .u64 (ti : Int), .slice A n1 c1, .slice G m1 d1] : Array Value)), ((w.heap.size + 1), 28, (#[.int .u8 0, .int .u32 0, .int .u16 0, .bool false, .int .u64 0, .int .u64 0, .int .u64 0, .int .u64 0, .int .u64 0, .int .u64 0, .slice none 0 0, .slice none 0 0] : Array Value))]) := Lib.hid (S0.sub8 (by intro x hx; simp only [List.mem_cons, List.not_mem_nil, or_false] at hx ⊢; (repeat' rcases hx with h | hx) <;> simp_all))
  clear S0
  go_upto_region 26 with (fail)
  obtain ⟨wA, a1, a2, a4⟩ := make8_all W0 33 33 rfl (by omega)
  have a5 := a4 wA (Below.refl _ _)
  obtain ⟨T, hT⟩ : ∃ z, textOf (List.replicate 33 0) = z := ⟨_, rfl⟩
  rw [hT] at a5
  clear hT a4
  have H1 := Lib.hid (H0.out.step a2)
  clear a2
  have s1 := H1.out.new #[.string T, .int .i64 0, .int .i64 0] 45
  obtain ⟨gp, hg⟩ : ∃ g, wA.heap.size = g := ⟨_, rfl⟩
  rw [hg] at s1
  obtain ⟨W2, hW⟩ : ∃ W, wA.alloc (.cells #[.string T, .int .i64 0, .int .i64 0] 45) = W := ⟨_, rfl⟩
  rw [hW] at s1
  have H2 : Hid (Held w W2 [(w.heap.size, 28, (#[.int .u8 (k : Int), .int .u32 (id : Int), .int .u16 (code : Int), .bool last, .int .u64 (ep : Int), .int .u64 (fl : Int), .int .u64 (un : Int), .int .u64 (le : Int), .int .u64 (st : Int), .int .u64 (ti : Int), .slice A n1 c1, .slice G m1 d1] : Array Value)), ((w.heap.size + 1), 28, (#[.int .u8 0, .int .u32 0, .int .u16 0, .bool false, .int .u64 0, .int .u64 0, .int .u64 0, .int .u64 0, .int .u64 0, .int .u64 0, .slice none 0 0, .slice none 0 0] : Array Value)), (gp, 45, (#[.string T, .int .i64 0, .int .i64 0] : Array Value))]) := Lib.hid (s1.sub8 (by intro x hx; simp only [List.mem_cons, List.not_mem_nil, or_false] at hx ⊢; (repeat' rcases hx with h | hx) <;> simp_all))
  clear s1
  have hgp : w.heap.size + 1 < gp := by have h1 := H1.out.2 _ (List.mem_cons_of_mem _ (List.mem_cons_self ..)); exact (by rw [← hg]; exact h1.lt)
  have kk := H2.out.at_ (List.mem_cons_self ..)
  have p11 := kk.cell 11
  have pf11 := kk.frozen 11
  clear kk
  go_upto_region 29 with (fail)
  clear p11 pf11
  have s2 := H2.out.put8 (by omega) (by intro x hx; simp only [List.mem_cons, List.not_mem_nil, or_false] at hx; (repeat' rcases hx with rfl | hx) <;> (try subst hx) <;> (dsimp only; omega)) 11 (.slice (some ⟨gp, 0, none⟩) 1 1)
  simp only [List.setIfInBounds_toArray, List.set_cons_zero, List.set_cons_succ] at s2
  obtain ⟨W3, hW⟩ : ∃ W, W2.setCell ⟨w.heap.size, 11, none⟩ (.slice (some ⟨gp, 0, none⟩) 1 1) = W := ⟨_, rfl⟩
  rw [hW] at s2 ⊢
  clear hW
  have H3 : Hid (Held w W3 [(w.heap.size, 28, (#[.int .u8 (k : Int), .int .u32 (id : Int), .int .u16 (code : Int), .bool last, .int .u64 (ep : Int), .int .u64 (fl : Int), .int .u64 (un : Int), .int .u64 (le : Int), .int .u64 (st : Int), .int .u64 (ti : Int), .slice A n1 c1, .slice (some ⟨gp, 0, none⟩) 1 1] : Array Value)), ((w.heap.size + 1), 28, (#[.int .u8 0, .int .u32 0, .int .u16 0, .bool false, .int .u64 0, .int .u64 0, .int .u64 0, .int .u64 0, .int .u64 0, .int .u64 0, .slice none 0 0, .slice none 0 0] : Array Value)), (gp, 45, (#[.string T, .int .i64 0, .int .i64 0] : Array Value))]) := Lib.hid s2
  clear s2
  have kk := H3.out.at_ (List.mem_cons_self ..)
  have p0 := kk.cell 0
  have pf0 := kk.frozen 0
  have p1 := kk.cell 1
  have pf1 := kk.frozen 1
  have p2 := kk.cell 2
  have pf2 := kk.frozen 2
  have p3 := kk.cell 3
  have pf3 := kk.frozen 3
  have p4 := kk.cell 4
  have pf4 := kk.frozen 4
  have p5 := kk.cell 5
  have pf5 := kk.frozen 5
  have p6 := kk.cell 6
  have pf6 := kk.frozen 6
  have p7 := kk.cell 7
  have pf7 := kk.frozen 7
  have p8 := kk.cell 8
  have pf8 := kk.frozen 8
  have p9 := kk.cell 9
  have pf9 := kk.frozen 9
  have p10 := kk.cell 10
  have pf10 := kk.frozen 10
  have p11 := kk.cell 11
  have pf11 := kk.frozen 11
  clear kk
  have kk := H3.out.at_ (List.mem_cons_of_mem _ (List.mem_cons_self ..))
  have z0 := kk.cell 0
  have zf0 := kk.frozen 0
  have z1 := kk.cell 1
  have zf1 := kk.frozen 1
  have z2 := kk.cell 2
  have zf2 := kk.frozen 2
  have z3 := kk.cell 3
  have zf3 := kk.frozen 3
  have z4 := kk.cell 4
  have zf4 := kk.frozen 4
  have z5 := kk.cell 5
  have zf5 := kk.frozen 5
  have z6 := kk.cell 6
  have zf6 := kk.frozen 6
  have z7 := kk.cell 7
  have zf7 := kk.frozen 7
  have z8 := kk.cell 8
  have zf8 := kk.frozen 8
  have z9 := kk.cell 9
  have zf9 := kk.frozen 9
  have z10 := kk.cell 10
  have zf10 := kk.frozen 10
  have z11 := kk.cell 11
  have zf11 := kk.frozen 11
  clear kk
  go_wp2_with fail
  clear p0 pf0 p1 pf1 p2 pf2 p3 pf3 p4 pf4 p5 pf5 p6 pf6 p7 pf7 p8 pf8 p9 pf9 p10 pf10 p11 pf11
  have HE := (H3.out.sub8 (l' := [((w.heap.size + 1), 28, (#[.int .u8 0, .int .u32 0, .int .u16 0, .bool false, .int .u64 0, .int .u64 0, .int .u64 0, .int .u64 0, .int .u64 0, .int .u64 0, .slice none 0 0, .slice none 0 0] : Array Value)), (w.heap.size, 28, (#[.int .u8 (k : Int), .int .u32 (id : Int), .int .u16 (code : Int), .bool last, .int .u64 (ep : Int), .int .u64 (fl : Int), .int .u64 (un : Int), .int .u64 (le : Int), .int .u64 (st : Int), .int .u64 (ti : Int), .slice A n1 c1, .slice (some ⟨gp, 0, none⟩) 1 1] : Array Value)), (gp, 45, (#[.string T, .int .i64 0, .int .i64 0] : Array Value))]) (by intro x hx; simp only [List.mem_cons, List.not_mem_nil, or_false] at hx ⊢; (repeat' rcases hx with h | hx) <;> simp_all)).twelve8 (by omega) (by intro x hx; simp only [List.mem_cons, List.not_mem_nil, or_false] at hx; (repeat' rcases hx with rfl | hx) <;> (try subst hx) <;> (dsimp only; omega)) (.int .u8 (k : Int)) (.int .u32 (id : Int)) (.int .u16 (code : Int)) (.bool last) (.int .u64 (ep : Int)) (.int .u64 (fl : Int)) (.int .u64 (un : Int)) (.int .u64 (le : Int)) (.int .u64 (st : Int)) (.int .u64 (ti : Int)) (.slice A n1 c1) (.slice (some ⟨gp, 0, none⟩) 1 1)
  have hP := pans_blk8 (n := 1) (l := [(⟨T, 0, 0⟩ : Pn)]) (HE.at_ (g := gp) (t := 45) (cs := #[.string T, .int .i64 0, .int .i64 0]) (List.mem_cons_of_mem _ (List.mem_cons_of_mem _ (List.mem_cons_self ..)))) (by simp [pncells, panL]) rfl
  refine bodyPost_ret (v := .agg #[.int .u8 (k : Int), .int .u32 (id : Int), .int .u16 (code : Int), .bool last, .int .u64 (ep : Int), .int .u64 (fl : Int), .int .u64 (un : Int), .int .u64 (le : Int), .int .u64 (st : Int), .int .u64 (ti : Int), .slice A n1 c1, .slice (some ⟨gp, 0, none⟩) 1 1]) ?_ rfl ⟨⟨k, id, code, last, ep, fl, un, le, st, ti, A, n1, c1, some ⟨gp, 0, none⟩, 1, 1⟩, rows, [(⟨T, 0, 0⟩ : Pn)], rfl, ⟨((HI.out.1.below HE.1 (Nat.le_refl _)).more HE.1.size), hP⟩, ⟨⟨HI.out.2.2.1.1, HI.out.2.2.1.2.1, HI.out.2.2.1.2.2.1, HI.out.2.2.1.2.2.2.1, HI.out.2.2.1.2.2.2.2.1, HI.out.2.2.1.2.2.2.2.2.1, HI.out.2.2.1.2.2.2.2.2.2.1, HI.out.2.2.1.2.2.2.2.2.2.2.1, HI.out.2.2.1.2.2.2.2.2.2.2.2⟩, HI.out.2.2.2.1, (by intro q hq; simp only [List.mem_cons, List.not_mem_nil, or_false] at hq; subst hq; exact ⟨(by unfold i64ok; decide : i64ok 0), (by unfold i64ok; decide : i64ok 0)⟩), HI.out.2.2.2.2.2.1, (by show 1 ≤ 64; omega)⟩, HE.1⟩
  simp [results, Tryz.results6, go_sem, z0, z1, z2, z3, z4, z5, z6, z7, z8, z9, z10, z11]
set_option maxRecDepth 100000 in
set_option maxHeartbeats 4000000 in
theorem odd8_12 (x : Rp.V) (rows : List Rw) (gone : List Pn) (w : World) (hx : x.In w w.heap.size rows gone) (hf : FineRep x rows gone) : Calls Tryz.prog 6 #[x.val, .int .i64 12] w (FineP w) := by
  obtain ⟨k, id, code, last, ep, fl, un, le, st, ti, A, n1, c1, G, m1, d1⟩ := x
  obtain ⟨hr, hg⟩ := hx
  obtain ⟨⟨o0, o1, o2, o4, o5, o6, o7, o8, o9⟩, fr, fg, fn, fm⟩ := hf
  have HI := Lib.hid (And.intro hr (And.intro hg (And.intro (And.intro o0 (And.intro o1 (And.intro o2 (And.intro o4 (And.intro o5 (And.intro o6 (And.intro o7 (And.intro o8 o9)))))))) (And.intro fr (And.intro fg (And.intro fn fm))))))
  clear hr hg o0 o1 o2 o4 o5 o6 o7 o8 o9 fr fg fn fm
  unfold Rp.V.val Rp.V.cells
  dsimp only
  go_enter Tryz.func6, Tryz.ntmps6
  go_upto_region 1 with (fail)
  have S0 := ((Held.start w).new #[.int .u8 (k : Int), .int .u32 (id : Int), .int .u16 (code : Int), .bool last, .int .u64 (ep : Int), .int .u64 (fl : Int), .int .u64 (un : Int), .int .u64 (le : Int), .int .u64 (st : Int), .int .u64 (ti : Int), .slice A n1 c1, .slice G m1 d1] 28).new #[.int .u8 0, .int .u32 0, .int .u16 0, .bool false, .int .u64 0, .int .u64 0, .int .u64 0, .int .u64 0, .int .u64 0, .int .u64 0, .slice none 0 0, .slice none 0 0] 28
  rw [show (w.alloc (.cells #[.int .u8 (k : Int), .int .u32 (id : Int), .int .u16 (code : Int), .bool last, .int .u64 (ep : Int), .int .u64 (fl : Int), .int .u64 (un : Int), .int .u64 (le : Int), .int .u64 (st : Int), .int .u64 (ti : Int), .slice A n1 c1, .slice G m1 d1] 28)).heap.size = w.heap.size + 1 by simp] at S0
  obtain ⟨W0, hW⟩ : ∃ W, (w.alloc (.cells #[.int .u8 (k : Int), .int .u32 (id : Int), .int .u16 (code : Int), .bool last, .int .u64 (ep : Int), .int .u64 (fl : Int), .int .u64 (un : Int), .int .u64 (le : Int), .int .u64 (st : Int), .int .u64 (ti : Int), .slice A n1 c1, .slice G m1 d1] 28)).alloc (.cells #[.int .u8 0, .int .u32 0, .int .u16 0, .bool false, .int .u64 0, .int .u64 0, .int .u64 0, .int .u64 0, .int .u64 0, .int .u64 0, .slice none 0 0, .slice none 0 0] 28) = W := ⟨_, rfl⟩
  rw [hW] at S0 ⊢
  clear hW
  have H0 : Hid (Held w W0 [(w.heap.size, 28, (#[.int .u8 (k : Int), .int .u32 (id : Int), .int .u16 (code : Int), .bool last, .int .u64 (ep : Int), .int .u64 (fl : Int), .int .u64 (un : Int), .int .u64 (le : Int), .int .u64 (st : Int), .int .u64 (ti : Int), .slice A n1 c1, .slice G m1 d1] : Array Value)), ((w.heap.size + 1), 28, (#[.int .u8 0, .int .u32 0, .int .u16 0, .bool false, .int .u64 0, .int .u64 0, .int .u64 0, .int .u64 0, .int .u64 0, .int .u64 0, .slice none 0 0, .slice none 0 0] : Array Value))]) := Lib.hid (S0.sub8 (by intro x hx; simp only [List.mem_cons, List.not_mem_nil, or_false] at hx ⊢; (repeat' rcases hx with h | hx) <;> simp_all))
  clear S0
  go_upto_region 28 with (fail)
  have a1 := make8_pans W0 1 1 rfl (by omega) #[.string ⟨#[]⟩, .int .i64 0, .int .i64 0] (by kernel_rfl)
  have s0 := H0.out.new #[.string ⟨#[]⟩, .int .i64 0, .int .i64 0] 45
  obtain ⟨gp, hg⟩ : ∃ g, W0.heap.size = g := ⟨_, rfl⟩
  rw [hg] at s0
  obtain ⟨W1, hW⟩ : ∃ W, W0.alloc (.cells #[.string ⟨#[]⟩, .int .i64 0, .int .i64 0] 45) = W := ⟨_, rfl⟩
  rw [hW] at s0
  have H1 : Hid (Held w W1 [(w.heap.size, 28, (#[.int .u8 (k : Int), .int .u32 (id : Int), .int .u16 (code : Int), .bool last, .int .u64 (ep : Int), .int .u64 (fl : Int), .int .u64 (un : Int), .int .u64 (le : Int), .int .u64 (st : Int), .int .u64 (ti : Int), .slice A n1 c1, .slice G m1 d1] : Array Value)), ((w.heap.size + 1), 28, (#[.int .u8 0, .int .u32 0, .int .u16 0, .bool false, .int .u64 0, .int .u64 0, .int .u64 0, .int .u64 0, .int .u64 0, .int .u64 0, .slice none 0 0, .slice none 0 0] : Array Value)), (gp, 45, (#[.string ⟨#[]⟩, .int .i64 0, .int .i64 0] : Array Value))]) := Lib.hid (s0.sub8 (by intro x hx; simp only [List.mem_cons, List.not_mem_nil, or_false] at hx ⊢; (repeat' rcases hx with h | hx) <;> simp_all))
  clear s0
  have hgp : w.heap.size + 1 < gp := by have h1 := H0.out.2 _ (List.mem_cons_of_mem _ (List.mem_cons_self ..)); exact (by rw [← hg]; exact h1.lt)
  have kk := H1.out.at_ (List.mem_cons_self ..)
  have p11 := kk.cell 11
  have pf11 := kk.frozen 11
  clear kk
  go_upto_region 29 with (fail)
  clear p11 pf11
  have s1 := H1.out.put8 (by omega) (by intro x hx; simp only [List.mem_cons, List.not_mem_nil, or_false] at hx; (repeat' rcases hx with rfl | hx) <;> (try subst hx) <;> (dsimp only; omega)) 11 (.slice (some ⟨gp, 0, none⟩) 1 1)
  simp only [List.setIfInBounds_toArray, List.set_cons_zero, List.set_cons_succ] at s1
  obtain ⟨W2, hW⟩ : ∃ W, W1.setCell ⟨w.heap.size, 11, none⟩ (.slice (some ⟨gp, 0, none⟩) 1 1) = W := ⟨_, rfl⟩
  rw [hW] at s1 ⊢
  clear hW
  have H2 : Hid (Held w W2 [(w.heap.size, 28, (#[.int .u8 (k : Int), .int .u32 (id : Int), .int .u16 (code : Int), .bool last, .int .u64 (ep : Int), .int .u64 (fl : Int), .int .u64 (un : Int), .int .u64 (le : Int), .int .u64 (st : Int), .int .u64 (ti : Int), .slice A n1 c1, .slice (some ⟨gp, 0, none⟩) 1 1] : Array Value)), ((w.heap.size + 1), 28, (#[.int .u8 0, .int .u32 0, .int .u16 0, .bool false, .int .u64 0, .int .u64 0, .int .u64 0, .int .u64 0, .int .u64 0, .int .u64 0, .slice none 0 0, .slice none 0 0] : Array Value)), (gp, 45, (#[.string ⟨#[]⟩, .int .i64 0, .int .i64 0] : Array Value))]) := Lib.hid s1
  clear s1
  have kk := H2.out.at_ (List.mem_cons_self ..)
  have p0 := kk.cell 0
  have pf0 := kk.frozen 0
  have p1 := kk.cell 1
  have pf1 := kk.frozen 1
  have p2 := kk.cell 2
  have pf2 := kk.frozen 2
  have p3 := kk.cell 3
  have pf3 := kk.frozen 3
  have p4 := kk.cell 4
  have pf4 := kk.frozen 4
  have p5 := kk.cell 5
  have pf5 := kk.frozen 5
  have p6 := kk.cell 6
  have pf6 := kk.frozen 6
  have p7 := kk.cell 7
  have pf7 := kk.frozen 7
  have p8 := kk.cell 8
  have pf8 := kk.frozen 8
  have p9 := kk.cell 9
  have pf9 := kk.frozen 9
  have p10 := kk.cell 10
  have pf10 := kk.frozen 10
  have p11 := kk.cell 11
  have pf11 := kk.frozen 11
  clear kk
  have kk := H2.out.at_ (List.mem_cons_of_mem _ (List.mem_cons_self ..))
  have z0 := kk.cell 0
  have zf0 := kk.frozen 0
  have z1 := kk.cell 1
  have zf1 := kk.frozen 1
  have z2 := kk.cell 2
  have zf2 := kk.frozen 2
  have z3 := kk.cell 3
  have zf3 := kk.frozen 3
  have z4 := kk.cell 4
  have zf4 := kk.frozen 4
  have z5 := kk.cell 5
  have zf5 := kk.frozen 5
  have z6 := kk.cell 6
  have zf6 := kk.frozen 6
  have z7 := kk.cell 7
  have zf7 := kk.frozen 7
  have z8 := kk.cell 8
  have zf8 := kk.frozen 8
  have z9 := kk.cell 9
  have zf9 := kk.frozen 9
  have z10 := kk.cell 10
  have zf10 := kk.frozen 10
  have z11 := kk.cell 11
  have zf11 := kk.frozen 11
  clear kk
  go_wp2_with fail
  clear p0 pf0 p1 pf1 p2 pf2 p3 pf3 p4 pf4 p5 pf5 p6 pf6 p7 pf7 p8 pf8 p9 pf9 p10 pf10 p11 pf11
  have HE := (H2.out.sub8 (l' := [((w.heap.size + 1), 28, (#[.int .u8 0, .int .u32 0, .int .u16 0, .bool false, .int .u64 0, .int .u64 0, .int .u64 0, .int .u64 0, .int .u64 0, .int .u64 0, .slice none 0 0, .slice none 0 0] : Array Value)), (w.heap.size, 28, (#[.int .u8 (k : Int), .int .u32 (id : Int), .int .u16 (code : Int), .bool last, .int .u64 (ep : Int), .int .u64 (fl : Int), .int .u64 (un : Int), .int .u64 (le : Int), .int .u64 (st : Int), .int .u64 (ti : Int), .slice A n1 c1, .slice (some ⟨gp, 0, none⟩) 1 1] : Array Value)), (gp, 45, (#[.string ⟨#[]⟩, .int .i64 0, .int .i64 0] : Array Value))]) (by intro x hx; simp only [List.mem_cons, List.not_mem_nil, or_false] at hx ⊢; (repeat' rcases hx with h | hx) <;> simp_all)).twelve8 (by omega) (by intro x hx; simp only [List.mem_cons, List.not_mem_nil, or_false] at hx; (repeat' rcases hx with rfl | hx) <;> (try subst hx) <;> (dsimp only; omega)) (.int .u8 (k : Int)) (.int .u32 (id : Int)) (.int .u16 (code : Int)) (.bool last) (.int .u64 (ep : Int)) (.int .u64 (fl : Int)) (.int .u64 (un : Int)) (.int .u64 (le : Int)) (.int .u64 (st : Int)) (.int .u64 (ti : Int)) (.slice A n1 c1) (.slice (some ⟨gp, 0, none⟩) 1 1)
  have hP := pans_blk8 (n := 1) (l := [(⟨⟨#[]⟩, 0, 0⟩ : Pn)]) (HE.at_ (g := gp) (t := 45) (cs := #[.string ⟨#[]⟩, .int .i64 0, .int .i64 0]) (List.mem_cons_of_mem _ (List.mem_cons_of_mem _ (List.mem_cons_self ..)))) (by simp [pncells, panL]) rfl
  refine bodyPost_ret (v := .agg #[.int .u8 (k : Int), .int .u32 (id : Int), .int .u16 (code : Int), .bool last, .int .u64 (ep : Int), .int .u64 (fl : Int), .int .u64 (un : Int), .int .u64 (le : Int), .int .u64 (st : Int), .int .u64 (ti : Int), .slice A n1 c1, .slice (some ⟨gp, 0, none⟩) 1 1]) ?_ rfl ⟨⟨k, id, code, last, ep, fl, un, le, st, ti, A, n1, c1, some ⟨gp, 0, none⟩, 1, 1⟩, rows, [(⟨⟨#[]⟩, 0, 0⟩ : Pn)], rfl, ⟨((HI.out.1.below HE.1 (Nat.le_refl _)).more HE.1.size), hP⟩, ⟨⟨HI.out.2.2.1.1, HI.out.2.2.1.2.1, HI.out.2.2.1.2.2.1, HI.out.2.2.1.2.2.2.1, HI.out.2.2.1.2.2.2.2.1, HI.out.2.2.1.2.2.2.2.2.1, HI.out.2.2.1.2.2.2.2.2.2.1, HI.out.2.2.1.2.2.2.2.2.2.2.1, HI.out.2.2.1.2.2.2.2.2.2.2.2⟩, HI.out.2.2.2.1, (by intro q hq; simp only [List.mem_cons, List.not_mem_nil, or_false] at hq; subst hq; exact ⟨(by unfold i64ok; decide : i64ok 0), (by unfold i64ok; decide : i64ok 0)⟩), HI.out.2.2.2.2.2.1, (by show 1 ≤ 64; omega)⟩, HE.1⟩
  simp [results, Tryz.results6, go_sem, z0, z1, z2, z3, z4, z5, z6, z7, z8, z9, z10, z11]
set_option maxRecDepth 100000 in
set_option maxHeartbeats 4000000 in
theorem odd8_13 (x : Rp.V) (rows : List Rw) (gone : List Pn) (w : World) (hx : x.In w w.heap.size rows gone) (hf : FineRep x rows gone) : Calls Tryz.prog 6 #[x.val, .int .i64 13] w (FineP w) := by
  obtain ⟨k, id, code, last, ep, fl, un, le, st, ti, A, n1, c1, G, m1, d1⟩ := x
  obtain ⟨hr, hg⟩ := hx
  obtain ⟨⟨o0, o1, o2, o4, o5, o6, o7, o8, o9⟩, fr, fg, fn, fm⟩ := hf
  have HI := Lib.hid (And.intro hr (And.intro hg (And.intro (And.intro o0 (And.intro o1 (And.intro o2 (And.intro o4 (And.intro o5 (And.intro o6 (And.intro o7 (And.intro o8 o9)))))))) (And.intro fr (And.intro fg (And.intro fn fm))))))
  clear hr hg o0 o1 o2 o4 o5 o6 o7 o8 o9 fr fg fn fm
  unfold Rp.V.val Rp.V.cells
  dsimp only
  go_enter Tryz.func6, Tryz.ntmps6
  go_upto_region 1 with (fail)
  have S0 := ((Held.start w).new #[.int .u8 (k : Int), .int .u32 (id : Int), .int .u16 (code : Int), .bool last, .int .u64 (ep : Int), .int .u64 (fl : Int), .int .u64 (un : Int), .int .u64 (le : Int), .int .u64 (st : Int), .int .u64 (ti : Int), .slice A n1 c1, .slice G m1 d1] 28).new #[.int .u8 0, .int .u32 0, .int .u16 0, .bool false, .int .u64 0, .int .u64 0, .int .u64 0, .int .u64 0, .int .u64 0, .int .u64 0, .slice none 0 0, .slice none 0 0] 28
  rw [show (w.alloc (.cells #[.int .u8 (k : Int), .int .u32 (id : Int), .int .u16 (code : Int), .bool last, .int .u64 (ep : Int), .int .u64 (fl : Int), .int .u64 (un : Int), .int .u64 (le : Int), .int .u64 (st : Int), .int .u64 (ti : Int), .slice A n1 c1, .slice G m1 d1] 28)).heap.size = w.heap.size + 1 by simp] at S0
  obtain ⟨W0, hW⟩ : ∃ W, (w.alloc (.cells #[.int .u8 (k : Int), .int .u32 (id : Int), .int .u16 (code : Int), .bool last, .int .u64 (ep : Int), .int .u64 (fl : Int), .int .u64 (un : Int), .int .u64 (le : Int), .int .u64 (st : Int), .int .u64 (ti : Int), .slice A n1 c1, .slice G m1 d1] 28)).alloc (.cells #[.int .u8 0, .int .u32 0, .int .u16 0, .bool false, .int .u64 0, .int .u64 0, .int .u64 0, .int .u64 0, .int .u64 0, .int .u64 0, .slice none 0 0, .slice none 0 0] 28) = W := ⟨_, rfl⟩
  rw [hW] at S0 ⊢
  clear hW
  have H0 : Hid (Held w W0 [(w.heap.size, 28, (#[.int .u8 (k : Int), .int .u32 (id : Int), .int .u16 (code : Int), .bool last, .int .u64 (ep : Int), .int .u64 (fl : Int), .int .u64 (un : Int), .int .u64 (le : Int), .int .u64 (st : Int), .int .u64 (ti : Int), .slice A n1 c1, .slice G m1 d1] : Array Value)), ((w.heap.size + 1), 28, (#[.int .u8 0, .int .u32 0, .int .u16 0, .bool false, .int .u64 0, .int .u64 0, .int .u64 0, .int .u64 0, .int .u64 0, .int .u64 0, .slice none 0 0, .slice none 0 0] : Array Value))]) := Lib.hid (S0.sub8 (by intro x hx; simp only [List.mem_cons, List.not_mem_nil, or_false] at hx ⊢; (repeat' rcases hx with h | hx) <;> simp_all))
  clear S0
  go_upto_region 2 with (fail)
  obtain ⟨y, hy1, hy2, hyl⟩ : ∃ y : Nat, ((k : Int) + 1) % 256 = y ∧ IntKind.u8.wrap ((k : Int) + 1) = y ∧ y < 256 := ⟨(k + 1) % 256, by omega, by rw [IntKind.wrap_u8]; omega, Nat.mod_lt _ (by omega)⟩
  have kk := H0.out.at_ (List.mem_cons_self ..)
  have p0 := kk.cell 0
  have pf0 := kk.frozen 0
  clear kk
  go_upto_region 29 with (fail)
  clear p0 pf0
  have s0 := H0.out.put8 (by omega) (by intro x hx; simp only [List.mem_cons, List.not_mem_nil, or_false] at hx; (repeat' rcases hx with rfl | hx) <;> (try subst hx) <;> (dsimp only; omega)) 0 (.int .u8 (y : Int))
  simp only [List.setIfInBounds_toArray, List.set_cons_zero] at s0
  obtain ⟨W1, hW⟩ : ∃ W, W0.setCell ⟨w.heap.size, 0, none⟩ (.int .u8 (y : Int)) = W := ⟨_, rfl⟩
  rw [hW] at s0 ⊢
  clear hW
  have H1 : Hid (Held w W1 [(w.heap.size, 28, (#[.int .u8 (y : Int), .int .u32 (id : Int), .int .u16 (code : Int), .bool last, .int .u64 (ep : Int), .int .u64 (fl : Int), .int .u64 (un : Int), .int .u64 (le : Int), .int .u64 (st : Int), .int .u64 (ti : Int), .slice A n1 c1, .slice G m1 d1] : Array Value)), ((w.heap.size + 1), 28, (#[.int .u8 0, .int .u32 0, .int .u16 0, .bool false, .int .u64 0, .int .u64 0, .int .u64 0, .int .u64 0, .int .u64 0, .int .u64 0, .slice none 0 0, .slice none 0 0] : Array Value))]) := Lib.hid s0
  clear s0
  clear hy1 hy2
  have kk := H1.out.at_ (List.mem_cons_self ..)
  have p0 := kk.cell 0
  have pf0 := kk.frozen 0
  have p1 := kk.cell 1
  have pf1 := kk.frozen 1
  have p2 := kk.cell 2
  have pf2 := kk.frozen 2
  have p3 := kk.cell 3
  have pf3 := kk.frozen 3
  have p4 := kk.cell 4
  have pf4 := kk.frozen 4
  have p5 := kk.cell 5
  have pf5 := kk.frozen 5
  have p6 := kk.cell 6
  have pf6 := kk.frozen 6
  have p7 := kk.cell 7
  have pf7 := kk.frozen 7
  have p8 := kk.cell 8
  have pf8 := kk.frozen 8
  have p9 := kk.cell 9
  have pf9 := kk.frozen 9
  have p10 := kk.cell 10
  have pf10 := kk.frozen 10
  have p11 := kk.cell 11
  have pf11 := kk.frozen 11
  clear kk
  have kk := H1.out.at_ (List.mem_cons_of_mem _ (List.mem_cons_self ..))
  have z0 := kk.cell 0
  have zf0 := kk.frozen 0
  have z1 := kk.cell 1
  have zf1 := kk.frozen 1
  have z2 := kk.cell 2
  have zf2 := kk.frozen 2
  have z3 := kk.cell 3
  have zf3 := kk.frozen 3
  have z4 := kk.cell 4
  have zf4 := kk.frozen 4
  have z5 := kk.cell 5
  have zf5 := kk.frozen 5
  have z6 := kk.cell 6
  have zf6 := kk.frozen 6
  have z7 := kk.cell 7
  have zf7 := kk.frozen 7
  have z8 := kk.cell 8
  have zf8 := kk.frozen 8
  have z9 := kk.cell 9
  have zf9 := kk.frozen 9
  have z10 := kk.cell 10
  have zf10 := kk.frozen 10
  have z11 := kk.cell 11
  have zf11 := kk.frozen 11
  clear kk
  go_wp2_with fail
  clear p0 pf0 p1 pf1 p2 pf2 p3 pf3 p4 pf4 p5 pf5 p6 pf6 p7 pf7 p8 pf8 p9 pf9 p10 pf10 p11 pf11
  have HE := (H1.out.sub8 (l' := [((w.heap.size + 1), 28, (#[.int .u8 0, .int .u32 0, .int .u16 0, .bool false, .int .u64 0, .int .u64 0, .int .u64 0, .int .u64 0, .int .u64 0, .int .u64 0, .slice none 0 0, .slice none 0 0] : Array Value)), (w.heap.size, 28, (#[.int .u8 (y : Int), .int .u32 (id : Int), .int .u16 (code : Int), .bool last, .int .u64 (ep : Int), .int .u64 (fl : Int), .int .u64 (un : Int), .int .u64 (le : Int), .int .u64 (st : Int), .int .u64 (ti : Int), .slice A n1 c1, .slice G m1 d1] : Array Value))]) (by intro x hx; simp only [List.mem_cons, List.not_mem_nil, or_false] at hx ⊢; (repeat' rcases hx with h | hx) <;> simp_all)).twelve8 (by omega) (by intro x hx; simp only [List.mem_cons, List.not_mem_nil, or_false] at hx; (repeat' rcases hx with rfl | hx) <;> (try subst hx) <;> (dsimp only; omega)) (.int .u8 (y : Int)) (.int .u32 (id : Int)) (.int .u16 (code : Int)) (.bool last) (.int .u64 (ep : Int)) (.int .u64 (fl : Int)) (.int .u64 (un : Int)) (.int .u64 (le : Int)) (.int .u64 (st : Int)) (.int .u64 (ti : Int)) (.slice A n1 c1) (.slice G m1 d1)
  refine bodyPost_ret (v := .agg #[.int .u8 (y : Int), .int .u32 (id : Int), .int .u16 (code : Int), .bool last, .int .u64 (ep : Int), .int .u64 (fl : Int), .int .u64 (un : Int), .int .u64 (le : Int), .int .u64 (st : Int), .int .u64 (ti : Int), .slice A n1 c1, .slice G m1 d1]) ?_ rfl ⟨⟨y, id, code, last, ep, fl, un, le, st, ti, A, n1, c1, G, m1, d1⟩, rows, gone, rfl, ⟨((HI.out.1.below HE.1 (Nat.le_refl _)).more HE.1.size), ((HI.out.2.1.below HE.1 (Nat.le_refl _)).more HE.1.size)⟩, ⟨⟨hyl, HI.out.2.2.1.2.1, HI.out.2.2.1.2.2.1, HI.out.2.2.1.2.2.2.1, HI.out.2.2.1.2.2.2.2.1, HI.out.2.2.1.2.2.2.2.2.1, HI.out.2.2.1.2.2.2.2.2.2.1, HI.out.2.2.1.2.2.2.2.2.2.2.1, HI.out.2.2.1.2.2.2.2.2.2.2.2⟩, HI.out.2.2.2.1, HI.out.2.2.2.2.1, HI.out.2.2.2.2.2.1, HI.out.2.2.2.2.2.2⟩, HE.1⟩
  simp [results, Tryz.results6, go_sem, z0, z1, z2, z3, z4, z5, z6, z7, z8, z9, z10, z11]
theorem odd8_any (i : Nat) (hi : i < 14) (x : Rp.V) (rows : List Rw) (gone : List Pn) (w : World) (hx : x.In w w.heap.size rows gone) (hf : FineRep x rows gone) : Calls Tryz.prog 6 #[x.val, .int .i64 (i : Int)] w (FineP w) := by
  rcases (by omega : i = 0 ∨ i = 1 ∨ i = 2 ∨ i = 3 ∨ i = 4 ∨ i = 5 ∨ i = 6 ∨ i = 7 ∨ i = 8 ∨ i = 9 ∨ i = 10 ∨ i = 11 ∨ i = 12 ∨ i = 13) with rfl | rfl | rfl | rfl | rfl | rfl | rfl | rfl | rfl | rfl | rfl | rfl | rfl | rfl
  · exact odd8_0 x rows gone w hx hf
  · exact odd8_1 x rows gone w hx hf
  · exact odd8_2 x rows gone w hx hf
  · exact odd8_3 x rows gone w hx hf
  · exact odd8_4 x rows gone w hx hf
  · exact odd8_5 x rows gone w hx hf
  · exact odd8_6 x rows gone w hx hf
  · exact odd8_7 x rows gone w hx hf
  · exact odd8_8 x rows gone w hx hf
  · exact odd8_9 x rows gone w hx hf
  · exact odd8_10 x rows gone w hx hf
  · exact odd8_11 x rows gone w hx hf
  · exact odd8_12 x rows gone w hx hf
  · exact odd8_13 x rows gone w hx hf
end Go.Proofs.YtognlgklepgemaaGreat
