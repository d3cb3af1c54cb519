/- What a kind takes, by layer 2's reader and by the document's. -/
import Derived.Test.YtadcjllfabihbaaTakesC
namespace Go.Proofs.Ytadcjllfabihbaa
open Go.ChangeShapes Go.WideShapes Go.ChangeAt Go.RowKit

def Both (w : World) (lo g n c : Nat) (A : Option Addr) (b : List Nat) (e : Ending) (w' : World) : Prop :=
  ∃ a' f', e = .returned (.tuple #[rv A n c a' f', .bool true]) ∧ a' ≤ n ∧ Rd w' lo g (b.drop a') f' ∧ w.grownBy w' (some g)
theorem go_below {w w1 w2 : World} {g : Nat} (h : w.grownBy w1 (some g)) (hb : Below w1.heap.size w1 w2) : w.grownBy w2 (some g) :=
  ⟨hb.os.trans h.os, hb.tape.trans h.tape, hb.output.trans h.output, Nat.le_trans h.size hb.size, fun k hk hne => (hb.block k (Nat.lt_of_lt_of_le hk h.size)).trans (h.block k hk hne)⟩
theorem go_set {w w1 : World} {g p o : Nat} (h : w.grownBy w1 (some g)) (hp : w.heap.size ≤ p) (v : Value) : w.grownBy (w1.setCell ⟨p, o, none⟩ v) (some g) :=
  ⟨h.os, h.tape, h.output, by simpa [World.setCell] using h.size, fun k hk hne => (Below.heap_setCell w1 _ v k (by show k ≠ p; omega)).trans (h.block k hk hne)⟩
theorem Blk.three {w : World} {g : Nat} {t : TypeId} {x y z : Value} (h : Blk w g t #[x, y, z]) (x' y' z' : Value) : Blk (((w.setCell ⟨g, 0, none⟩ x').setCell ⟨g, 1, none⟩ y').setCell ⟨g, 2, none⟩ z') g t #[x', y', z'] := ((h.set_ 0 x').set_ 1 y').set_ 2 z'
theorem three_only (w : World) (g : Nat) (x y z : Value) : w.grownBy (((w.setCell ⟨g, 0, none⟩ x).setCell ⟨g, 1, none⟩ y).setCell ⟨g, 2, none⟩ z) (some g) := only_setCell (only_setCell (only_setCell (World.grownBy.refl _ _) _ _) _ _) _ _
theorem Blk.grown {w w' : World} {h g : Nat} {t : TypeId} {cs : Array Value} (hb : Blk w h t cs) (hg : w.grownBy w' (some g)) (hne : h ≠ g) : Blk w' h t cs := (hg.block h hb.lt (fun e => by injection e with e; omega)).trans hb
theorem sg_back (m : Nat) (h : m < 18446744073709551616) : IntKind.u64.wrap (sg m) = (m : Int) := by
  unfold sg
  rw [IntKind.wrap_u64, IntKind.wrap_i64]
  omega


set_option maxRecDepth 100000 in
set_option maxHeartbeats 2000000 in
theorem take_u8 (lo g n c a v : Nat) (A : Option Addr) (b : List Nat) (f : Bool) (w : World) (hr : Rd w lo g (b.drop a) f) (hlg : lo ≤ g) (hb : Bytes w w.heap.size A n b) (hn : n ≤ 1000000) (ha : a ≤ n) (hv : v % 6 = 0) (hv8 : v < 256) :
    Calls Try.prog 23 #[.pointer (some ⟨g, 0, none⟩), rv A n c a f, .int .u8 (v : Int)] w (Both w lo g n c A b) := by
  have hz := hr.here
  have HBL := Lib.hid hb.1
  have HX := Lib.hid hb.2.1
  have hvi : (v : Int) % 6 = 0 := by omega
  obtain ⟨w0, hw0⟩ : ∃ w0, ((w.alloc (.cells #[.slice A n c, .int .i64 (a : Int), .bool f] 47)).alloc (.cells #[.slice none 0 0, .int .i64 0, .bool false] 47)).alloc (.cells #[.slice A n c, .int .i64 (a : Int), .bool f] 47) = w0 := ⟨_, rfl⟩
  have d0 : Below w.heap.size w w0 := by rw [← hw0]; exact (((Below.refl _ _).alloc (Nat.le_refl _) _).alloc (by simp) _).alloc (by simp; omega) _
  have z0 : w0.heap.size = w.heap.size + 3 := by rw [← hw0]; simp
  have kr : Blk w0 w.heap.size 47 #[.slice A n c, .int .i64 (a : Int), .bool f] := by
    rw [← hw0]
    exact (heap_alloc_old _ _ (by simp; omega)).trans ((heap_alloc_old _ _ (by simp)).trans (Blk.new w _ _))
  have k1 : Blk w0 (w.heap.size + 1) 47 #[.slice none 0 0, .int .i64 0, .bool false] := by
    have h := Blk.new (w.alloc (.cells #[.slice A n c, .int .i64 (a : Int), .bool f] 47)) 47 #[.slice none 0 0, .int .i64 0, .bool false]
    rw [World.size_alloc] at h
    rw [← hw0]
    exact (heap_alloc_old _ _ (by simp)).trans h
  have k2 : Blk w0 (w.heap.size + 1 + 1) 47 #[.slice A n c, .int .i64 (a : Int), .bool f] := by
    have h := Blk.new ((w.alloc (.cells #[.slice A n c, .int .i64 (a : Int), .bool f] 47)).alloc (.cells #[.slice none 0 0, .int .i64 0, .bool false] 47)) 47 #[.slice A n c, .int .i64 (a : Int), .bool f]
    rw [World.size_alloc, World.size_alloc] at h
    rw [← hw0]
    exact h
  have HR0 := Lib.hid (hr.below d0 hz)
  have HB0 := Lib.hid (hb.below d0 (Nat.le_refl _))
  have HK1 := Lib.hid k1
  have HK2 := Lib.hid k2
  have HZ := Lib.hid z0
  have HG0 := Lib.hid (go_below (World.grownBy.refl w (some g)) d0)
  obtain ⟨x0, x1, x2, -⟩ := cells3 kr
  clear hr hb kr k1 k2 z0 hv
  unfold rv
  go_enter Try.func23, Try.ntmps23
  go_wp2_with fail
  clear hw0
  refine (refTake_any n c a 1 w.heap.size A b f w0 HB0.out (by have := HZ.out; omega) hn ha (by omega)).mono ?_
  rintro e w1 ⟨rfl, b1⟩
  obtain ⟨a', ha'⟩ : ∃ a', goes f (b.drop a) a 1 = a' := ⟨_, rfl⟩
  obtain ⟨f', hf'⟩ : ∃ f', Pk.fails f (b.drop a) 1 = f' := ⟨_, rfl⟩
  obtain ⟨m, hm⟩ : ∃ m, Pk.num (Pk.taken f (b.drop a) 1) = m := ⟨_, rfl⟩
  have hmb : m < 256 := by rw [← hm]; exact Pk.taken_num_lt f (b.drop a) 1 (fun y hy => HX.out y (List.mem_of_mem_drop hy))
  rw [ha', hf', hm]
  have HA := Lib.hid ha'
  have HF := Lib.hid hf'
  have HM := Lib.hid hm
  clear ha' hf' hm
  have k2' := HK2.out.below b1 (by have := HZ.out; omega)
  have k1' := HK1.out.below b1 (by have := HZ.out; omega)
  obtain ⟨y0, y1, y2, s0, s1, s2⟩ := cells3 k2'
  have hgw1 := go_below HG0.out b1
  have HK2' := Lib.hid k2'
  have HK1' := Lib.hid k1'
  have HR1 := Lib.hid (HR0.out.below b1 (by have := HZ.out; omega))
  unfold rv
  clear b1 k1' k2' x0 x1 x2
  obtain ⟨w2, hw2⟩ : ∃ w2, ((w1.setCell ⟨w.heap.size + 1 + 1, 0, none⟩ (.slice A n c)).setCell ⟨w.heap.size + 1 + 1, 1, none⟩ (.int .i64 (a' : Int))).setCell ⟨w.heap.size + 1 + 1, 2, none⟩ (.bool f') = w2 := ⟨_, rfl⟩
  have t2 := HK2'.out.three (.slice A n c) (.int .i64 (a' : Int)) (.bool f')
  have g2 := three_only w1 (w.heap.size + 1 + 1) (.slice A n c) (.int .i64 (a' : Int)) (.bool f')
  rw [hw2] at t2 g2
  have HR2 := Lib.hid (HR1.out.kept g2 (by omega) hlg)
  have t1 := HK1'.out.grown g2 (by omega)
  have hgw2 : w.grownBy w2 (some g) := by rw [← hw2]; exact go_set (go_set (go_set hgw1 (by omega) _) (by omega) _) (by omega) _
  have T2 := Lib.hid t2
  have T1 := Lib.hid t1
  clear t1 t2 g2 hgw1
  go_wp2_with fail
  clear hw2 y0 y1 y2 s0 s1 s2
  refine (u8_any lo g (b.drop a) f w2 HR2.out).mono ?_
  rintro e w3 ⟨rfl, hr3, hg3⟩
  rw [HM.out]
  rw [left_goes, HA.out, HF.out] at hr3
  have u2 := T2.out.grown hg3 (by omega)
  have u1 := T1.out.grown hg3 (by omega)
  have hgw3 := hgw2.trans hg3
  have hz3 := T1.out.lt
  obtain ⟨y0, y1, y2, -⟩ := cells3 u2
  obtain ⟨q0, q1, q2, s0, s1, s2⟩ := cells3 u1
  have HR3 := Lib.hid hr3
  have g4 := three_only w3 (w.heap.size + 1) (.slice A n c) (.int .i64 (a' : Int)) (.bool f')
  have r4 := Lib.hid (HR3.out.kept g4 (by omega) hlg)
  clear hr3 hg3 u1 u2 g4
  go_wp2_with fail
  refine bodyPost_ret (v := .tuple #[.agg #[.slice A n c, .int .i64 (a' : Int), .bool f'], .bool true]) ?_ rfl ⟨a', f', rfl, ?_, r4.out, go_set (go_set (go_set hgw3 (by omega) _) (by omega) _) (by omega) _⟩
  · simp [results, Try.results23, go_sem, q0, q1, q2]
    done
  · rw [← HA.out]; exact goes_le b f a 1 n HBL.out ha


set_option maxRecDepth 100000 in
set_option maxHeartbeats 2000000 in
theorem take_u16 (lo g n c a v : Nat) (A : Option Addr) (b : List Nat) (f : Bool) (w : World) (hr : Rd w lo g (b.drop a) f) (hlg : lo ≤ g) (hb : Bytes w w.heap.size A n b) (hn : n ≤ 1000000) (ha : a ≤ n) (hv : v % 6 = 1) (hv8 : v < 256) :
    Calls Try.prog 23 #[.pointer (some ⟨g, 0, none⟩), rv A n c a f, .int .u8 (v : Int)] w (Both w lo g n c A b) := by
  have hz := hr.here
  have HBL := Lib.hid hb.1
  have HX := Lib.hid hb.2.1
  have hvi : (v : Int) % 6 = 1 := by omega
  obtain ⟨w0, hw0⟩ : ∃ w0, ((w.alloc (.cells #[.slice A n c, .int .i64 (a : Int), .bool f] 47)).alloc (.cells #[.slice none 0 0, .int .i64 0, .bool false] 47)).alloc (.cells #[.slice A n c, .int .i64 (a : Int), .bool f] 47) = w0 := ⟨_, rfl⟩
  have d0 : Below w.heap.size w w0 := by rw [← hw0]; exact (((Below.refl _ _).alloc (Nat.le_refl _) _).alloc (by simp) _).alloc (by simp; omega) _
  have z0 : w0.heap.size = w.heap.size + 3 := by rw [← hw0]; simp
  have kr : Blk w0 w.heap.size 47 #[.slice A n c, .int .i64 (a : Int), .bool f] := by
    rw [← hw0]
    exact (heap_alloc_old _ _ (by simp; omega)).trans ((heap_alloc_old _ _ (by simp)).trans (Blk.new w _ _))
  have k1 : Blk w0 (w.heap.size + 1) 47 #[.slice none 0 0, .int .i64 0, .bool false] := by
    have h := Blk.new (w.alloc (.cells #[.slice A n c, .int .i64 (a : Int), .bool f] 47)) 47 #[.slice none 0 0, .int .i64 0, .bool false]
    rw [World.size_alloc] at h
    rw [← hw0]
    exact (heap_alloc_old _ _ (by simp)).trans h
  have k2 : Blk w0 (w.heap.size + 1 + 1) 47 #[.slice A n c, .int .i64 (a : Int), .bool f] := by
    have h := Blk.new ((w.alloc (.cells #[.slice A n c, .int .i64 (a : Int), .bool f] 47)).alloc (.cells #[.slice none 0 0, .int .i64 0, .bool false] 47)) 47 #[.slice A n c, .int .i64 (a : Int), .bool f]
    rw [World.size_alloc, World.size_alloc] at h
    rw [← hw0]
    exact h
  have HR0 := Lib.hid (hr.below d0 hz)
  have HB0 := Lib.hid (hb.below d0 (Nat.le_refl _))
  have HK1 := Lib.hid k1
  have HK2 := Lib.hid k2
  have HZ := Lib.hid z0
  have HG0 := Lib.hid (go_below (World.grownBy.refl w (some g)) d0)
  obtain ⟨x0, x1, x2, -⟩ := cells3 kr
  clear hr hb kr k1 k2 z0 hv
  unfold rv
  go_enter Try.func23, Try.ntmps23
  go_wp2_with fail
  clear hw0
  refine (refTake_any n c a 2 w.heap.size A b f w0 HB0.out (by have := HZ.out; omega) hn ha (by omega)).mono ?_
  rintro e w1 ⟨rfl, b1⟩
  obtain ⟨a', ha'⟩ : ∃ a', goes f (b.drop a) a 2 = a' := ⟨_, rfl⟩
  obtain ⟨f', hf'⟩ : ∃ f', Pk.fails f (b.drop a) 2 = f' := ⟨_, rfl⟩
  obtain ⟨m, hm⟩ : ∃ m, Pk.num (Pk.taken f (b.drop a) 2) = m := ⟨_, rfl⟩
  have hmb : m < 65536 := by rw [← hm]; exact Pk.taken_num_lt f (b.drop a) 2 (fun y hy => HX.out y (List.mem_of_mem_drop hy))
  rw [ha', hf', hm]
  have HA := Lib.hid ha'
  have HF := Lib.hid hf'
  have HM := Lib.hid hm
  clear ha' hf' hm
  have k2' := HK2.out.below b1 (by have := HZ.out; omega)
  have k1' := HK1.out.below b1 (by have := HZ.out; omega)
  obtain ⟨y0, y1, y2, s0, s1, s2⟩ := cells3 k2'
  have hgw1 := go_below HG0.out b1
  have HK2' := Lib.hid k2'
  have HK1' := Lib.hid k1'
  have HR1 := Lib.hid (HR0.out.below b1 (by have := HZ.out; omega))
  unfold rv
  clear b1 k1' k2' x0 x1 x2
  obtain ⟨w2, hw2⟩ : ∃ w2, ((w1.setCell ⟨w.heap.size + 1 + 1, 0, none⟩ (.slice A n c)).setCell ⟨w.heap.size + 1 + 1, 1, none⟩ (.int .i64 (a' : Int))).setCell ⟨w.heap.size + 1 + 1, 2, none⟩ (.bool f') = w2 := ⟨_, rfl⟩
  have t2 := HK2'.out.three (.slice A n c) (.int .i64 (a' : Int)) (.bool f')
  have g2 := three_only w1 (w.heap.size + 1 + 1) (.slice A n c) (.int .i64 (a' : Int)) (.bool f')
  rw [hw2] at t2 g2
  have HR2 := Lib.hid (HR1.out.kept g2 (by omega) hlg)
  have t1 := HK1'.out.grown g2 (by omega)
  have hgw2 : w.grownBy w2 (some g) := by rw [← hw2]; exact go_set (go_set (go_set hgw1 (by omega) _) (by omega) _) (by omega) _
  have T2 := Lib.hid t2
  have T1 := Lib.hid t1
  clear t1 t2 g2 hgw1
  go_wp2_with fail
  clear hw2 y0 y1 y2 s0 s1 s2
  refine (u16_any lo g (b.drop a) f w2 HR2.out).mono ?_
  rintro e w3 ⟨rfl, hr3, hg3⟩
  rw [HM.out]
  rw [left_goes, HA.out, HF.out] at hr3
  have u2 := T2.out.grown hg3 (by omega)
  have u1 := T1.out.grown hg3 (by omega)
  have hgw3 := hgw2.trans hg3
  have hz3 := T1.out.lt
  obtain ⟨y0, y1, y2, -⟩ := cells3 u2
  obtain ⟨q0, q1, q2, s0, s1, s2⟩ := cells3 u1
  have HR3 := Lib.hid hr3
  have g4 := three_only w3 (w.heap.size + 1) (.slice A n c) (.int .i64 (a' : Int)) (.bool f')
  have r4 := Lib.hid (HR3.out.kept g4 (by omega) hlg)
  clear hr3 hg3 u1 u2 g4
  go_wp2_with fail
  refine bodyPost_ret (v := .tuple #[.agg #[.slice A n c, .int .i64 (a' : Int), .bool f'], .bool true]) ?_ rfl ⟨a', f', rfl, ?_, r4.out, go_set (go_set (go_set hgw3 (by omega) _) (by omega) _) (by omega) _⟩
  · simp [results, Try.results23, go_sem, q0, q1, q2]
    done
  · rw [← HA.out]; exact goes_le b f a 2 n HBL.out ha


set_option maxRecDepth 100000 in
set_option maxHeartbeats 2000000 in
theorem take_u32 (lo g n c a v : Nat) (A : Option Addr) (b : List Nat) (f : Bool) (w : World) (hr : Rd w lo g (b.drop a) f) (hlg : lo ≤ g) (hb : Bytes w w.heap.size A n b) (hn : n ≤ 1000000) (ha : a ≤ n) (hv : v % 6 = 2) (hv8 : v < 256) :
    Calls Try.prog 23 #[.pointer (some ⟨g, 0, none⟩), rv A n c a f, .int .u8 (v : Int)] w (Both w lo g n c A b) := by
  have hz := hr.here
  have HBL := Lib.hid hb.1
  have HX := Lib.hid hb.2.1
  have hvi : (v : Int) % 6 = 2 := by omega
  obtain ⟨w0, hw0⟩ : ∃ w0, ((w.alloc (.cells #[.slice A n c, .int .i64 (a : Int), .bool f] 47)).alloc (.cells #[.slice none 0 0, .int .i64 0, .bool false] 47)).alloc (.cells #[.slice A n c, .int .i64 (a : Int), .bool f] 47) = w0 := ⟨_, rfl⟩
  have d0 : Below w.heap.size w w0 := by rw [← hw0]; exact (((Below.refl _ _).alloc (Nat.le_refl _) _).alloc (by simp) _).alloc (by simp; omega) _
  have z0 : w0.heap.size = w.heap.size + 3 := by rw [← hw0]; simp
  have kr : Blk w0 w.heap.size 47 #[.slice A n c, .int .i64 (a : Int), .bool f] := by
    rw [← hw0]
    exact (heap_alloc_old _ _ (by simp; omega)).trans ((heap_alloc_old _ _ (by simp)).trans (Blk.new w _ _))
  have k1 : Blk w0 (w.heap.size + 1) 47 #[.slice none 0 0, .int .i64 0, .bool false] := by
    have h := Blk.new (w.alloc (.cells #[.slice A n c, .int .i64 (a : Int), .bool f] 47)) 47 #[.slice none 0 0, .int .i64 0, .bool false]
    rw [World.size_alloc] at h
    rw [← hw0]
    exact (heap_alloc_old _ _ (by simp)).trans h
  have k2 : Blk w0 (w.heap.size + 1 + 1) 47 #[.slice A n c, .int .i64 (a : Int), .bool f] := by
    have h := Blk.new ((w.alloc (.cells #[.slice A n c, .int .i64 (a : Int), .bool f] 47)).alloc (.cells #[.slice none 0 0, .int .i64 0, .bool false] 47)) 47 #[.slice A n c, .int .i64 (a : Int), .bool f]
    rw [World.size_alloc, World.size_alloc] at h
    rw [← hw0]
    exact h
  have HR0 := Lib.hid (hr.below d0 hz)
  have HB0 := Lib.hid (hb.below d0 (Nat.le_refl _))
  have HK1 := Lib.hid k1
  have HK2 := Lib.hid k2
  have HZ := Lib.hid z0
  have HG0 := Lib.hid (go_below (World.grownBy.refl w (some g)) d0)
  obtain ⟨x0, x1, x2, -⟩ := cells3 kr
  clear hr hb kr k1 k2 z0 hv
  unfold rv
  go_enter Try.func23, Try.ntmps23
  go_wp2_with fail
  clear hw0
  refine (refTake_any n c a 4 w.heap.size A b f w0 HB0.out (by have := HZ.out; omega) hn ha (by omega)).mono ?_
  rintro e w1 ⟨rfl, b1⟩
  obtain ⟨a', ha'⟩ : ∃ a', goes f (b.drop a) a 4 = a' := ⟨_, rfl⟩
  obtain ⟨f', hf'⟩ : ∃ f', Pk.fails f (b.drop a) 4 = f' := ⟨_, rfl⟩
  obtain ⟨m, hm⟩ : ∃ m, Pk.num (Pk.taken f (b.drop a) 4) = m := ⟨_, rfl⟩
  have hmb : m < 4294967296 := by rw [← hm]; exact Pk.taken_num_lt f (b.drop a) 4 (fun y hy => HX.out y (List.mem_of_mem_drop hy))
  rw [ha', hf', hm]
  have HA := Lib.hid ha'
  have HF := Lib.hid hf'
  have HM := Lib.hid hm
  clear ha' hf' hm
  have k2' := HK2.out.below b1 (by have := HZ.out; omega)
  have k1' := HK1.out.below b1 (by have := HZ.out; omega)
  obtain ⟨y0, y1, y2, s0, s1, s2⟩ := cells3 k2'
  have hgw1 := go_below HG0.out b1
  have HK2' := Lib.hid k2'
  have HK1' := Lib.hid k1'
  have HR1 := Lib.hid (HR0.out.below b1 (by have := HZ.out; omega))
  unfold rv
  clear b1 k1' k2' x0 x1 x2
  obtain ⟨w2, hw2⟩ : ∃ w2, ((w1.setCell ⟨w.heap.size + 1 + 1, 0, none⟩ (.slice A n c)).setCell ⟨w.heap.size + 1 + 1, 1, none⟩ (.int .i64 (a' : Int))).setCell ⟨w.heap.size + 1 + 1, 2, none⟩ (.bool f') = w2 := ⟨_, rfl⟩
  have t2 := HK2'.out.three (.slice A n c) (.int .i64 (a' : Int)) (.bool f')
  have g2 := three_only w1 (w.heap.size + 1 + 1) (.slice A n c) (.int .i64 (a' : Int)) (.bool f')
  rw [hw2] at t2 g2
  have HR2 := Lib.hid (HR1.out.kept g2 (by omega) hlg)
  have t1 := HK1'.out.grown g2 (by omega)
  have hgw2 : w.grownBy w2 (some g) := by rw [← hw2]; exact go_set (go_set (go_set hgw1 (by omega) _) (by omega) _) (by omega) _
  have T2 := Lib.hid t2
  have T1 := Lib.hid t1
  clear t1 t2 g2 hgw1
  go_wp2_with fail
  clear hw2 y0 y1 y2 s0 s1 s2
  refine (u32_any lo g (b.drop a) f w2 HR2.out).mono ?_
  rintro e w3 ⟨rfl, hr3, hg3⟩
  rw [HM.out]
  rw [left_goes, HA.out, HF.out] at hr3
  have u2 := T2.out.grown hg3 (by omega)
  have u1 := T1.out.grown hg3 (by omega)
  have hgw3 := hgw2.trans hg3
  have hz3 := T1.out.lt
  obtain ⟨y0, y1, y2, -⟩ := cells3 u2
  obtain ⟨q0, q1, q2, s0, s1, s2⟩ := cells3 u1
  have HR3 := Lib.hid hr3
  have g4 := three_only w3 (w.heap.size + 1) (.slice A n c) (.int .i64 (a' : Int)) (.bool f')
  have r4 := Lib.hid (HR3.out.kept g4 (by omega) hlg)
  clear hr3 hg3 u1 u2 g4
  go_wp2_with fail
  refine bodyPost_ret (v := .tuple #[.agg #[.slice A n c, .int .i64 (a' : Int), .bool f'], .bool true]) ?_ rfl ⟨a', f', rfl, ?_, r4.out, go_set (go_set (go_set hgw3 (by omega) _) (by omega) _) (by omega) _⟩
  · simp [results, Try.results23, go_sem, q0, q1, q2]
    done
  · rw [← HA.out]; exact goes_le b f a 4 n HBL.out ha


set_option maxRecDepth 100000 in
set_option maxHeartbeats 2000000 in
theorem take_u64 (lo g n c a v : Nat) (A : Option Addr) (b : List Nat) (f : Bool) (w : World) (hr : Rd w lo g (b.drop a) f) (hlg : lo ≤ g) (hb : Bytes w w.heap.size A n b) (hn : n ≤ 1000000) (ha : a ≤ n) (hv : v % 6 = 3) (hv8 : v < 256) :
    Calls Try.prog 23 #[.pointer (some ⟨g, 0, none⟩), rv A n c a f, .int .u8 (v : Int)] w (Both w lo g n c A b) := by
  have hz := hr.here
  have HBL := Lib.hid hb.1
  have HX := Lib.hid hb.2.1
  have hvi : (v : Int) % 6 = 3 := by omega
  obtain ⟨w0, hw0⟩ : ∃ w0, ((w.alloc (.cells #[.slice A n c, .int .i64 (a : Int), .bool f] 47)).alloc (.cells #[.slice none 0 0, .int .i64 0, .bool false] 47)).alloc (.cells #[.slice A n c, .int .i64 (a : Int), .bool f] 47) = w0 := ⟨_, rfl⟩
  have d0 : Below w.heap.size w w0 := by rw [← hw0]; exact (((Below.refl _ _).alloc (Nat.le_refl _) _).alloc (by simp) _).alloc (by simp; omega) _
  have z0 : w0.heap.size = w.heap.size + 3 := by rw [← hw0]; simp
  have kr : Blk w0 w.heap.size 47 #[.slice A n c, .int .i64 (a : Int), .bool f] := by
    rw [← hw0]
    exact (heap_alloc_old _ _ (by simp; omega)).trans ((heap_alloc_old _ _ (by simp)).trans (Blk.new w _ _))
  have k1 : Blk w0 (w.heap.size + 1) 47 #[.slice none 0 0, .int .i64 0, .bool false] := by
    have h := Blk.new (w.alloc (.cells #[.slice A n c, .int .i64 (a : Int), .bool f] 47)) 47 #[.slice none 0 0, .int .i64 0, .bool false]
    rw [World.size_alloc] at h
    rw [← hw0]
    exact (heap_alloc_old _ _ (by simp)).trans h
  have k2 : Blk w0 (w.heap.size + 1 + 1) 47 #[.slice A n c, .int .i64 (a : Int), .bool f] := by
    have h := Blk.new ((w.alloc (.cells #[.slice A n c, .int .i64 (a : Int), .bool f] 47)).alloc (.cells #[.slice none 0 0, .int .i64 0, .bool false] 47)) 47 #[.slice A n c, .int .i64 (a : Int), .bool f]
    rw [World.size_alloc, World.size_alloc] at h
    rw [← hw0]
    exact h
  have HR0 := Lib.hid (hr.below d0 hz)
  have HB0 := Lib.hid (hb.below d0 (Nat.le_refl _))
  have HK1 := Lib.hid k1
  have HK2 := Lib.hid k2
  have HZ := Lib.hid z0
  have HG0 := Lib.hid (go_below (World.grownBy.refl w (some g)) d0)
  obtain ⟨x0, x1, x2, -⟩ := cells3 kr
  clear hr hb kr k1 k2 z0 hv
  unfold rv
  go_enter Try.func23, Try.ntmps23
  go_wp2_with fail
  clear hw0
  refine (refTake_any n c a 8 w.heap.size A b f w0 HB0.out (by have := HZ.out; omega) hn ha (by omega)).mono ?_
  rintro e w1 ⟨rfl, b1⟩
  obtain ⟨a', ha'⟩ : ∃ a', goes f (b.drop a) a 8 = a' := ⟨_, rfl⟩
  obtain ⟨f', hf'⟩ : ∃ f', Pk.fails f (b.drop a) 8 = f' := ⟨_, rfl⟩
  obtain ⟨m, hm⟩ : ∃ m, Pk.num (Pk.taken f (b.drop a) 8) = m := ⟨_, rfl⟩
  have hmb : m < 18446744073709551616 := by rw [← hm]; exact Pk.taken_num_lt f (b.drop a) 8 (fun y hy => HX.out y (List.mem_of_mem_drop hy))
  rw [ha', hf', hm]
  have HA := Lib.hid ha'
  have HF := Lib.hid hf'
  have HM := Lib.hid hm
  clear ha' hf' hm
  have k2' := HK2.out.below b1 (by have := HZ.out; omega)
  have k1' := HK1.out.below b1 (by have := HZ.out; omega)
  obtain ⟨y0, y1, y2, s0, s1, s2⟩ := cells3 k2'
  have hgw1 := go_below HG0.out b1
  have HK2' := Lib.hid k2'
  have HK1' := Lib.hid k1'
  have HR1 := Lib.hid (HR0.out.below b1 (by have := HZ.out; omega))
  unfold rv
  clear b1 k1' k2' x0 x1 x2
  obtain ⟨w2, hw2⟩ : ∃ w2, ((w1.setCell ⟨w.heap.size + 1 + 1, 0, none⟩ (.slice A n c)).setCell ⟨w.heap.size + 1 + 1, 1, none⟩ (.int .i64 (a' : Int))).setCell ⟨w.heap.size + 1 + 1, 2, none⟩ (.bool f') = w2 := ⟨_, rfl⟩
  have t2 := HK2'.out.three (.slice A n c) (.int .i64 (a' : Int)) (.bool f')
  have g2 := three_only w1 (w.heap.size + 1 + 1) (.slice A n c) (.int .i64 (a' : Int)) (.bool f')
  rw [hw2] at t2 g2
  have HR2 := Lib.hid (HR1.out.kept g2 (by omega) hlg)
  have t1 := HK1'.out.grown g2 (by omega)
  have hgw2 : w.grownBy w2 (some g) := by rw [← hw2]; exact go_set (go_set (go_set hgw1 (by omega) _) (by omega) _) (by omega) _
  have T2 := Lib.hid t2
  have T1 := Lib.hid t1
  clear t1 t2 g2 hgw1
  go_wp2_with fail
  clear hw2 y0 y1 y2 s0 s1 s2
  refine (u64_any lo g (b.drop a) f w2 HR2.out).mono ?_
  rintro e w3 ⟨rfl, hr3, hg3⟩
  rw [HM.out]
  rw [left_goes, HA.out, HF.out] at hr3
  have u2 := T2.out.grown hg3 (by omega)
  have u1 := T1.out.grown hg3 (by omega)
  have hgw3 := hgw2.trans hg3
  have hz3 := T1.out.lt
  obtain ⟨y0, y1, y2, -⟩ := cells3 u2
  obtain ⟨q0, q1, q2, s0, s1, s2⟩ := cells3 u1
  have HR3 := Lib.hid hr3
  have g4 := three_only w3 (w.heap.size + 1) (.slice A n c) (.int .i64 (a' : Int)) (.bool f')
  have r4 := Lib.hid (HR3.out.kept g4 (by omega) hlg)
  clear hr3 hg3 u1 u2 g4
  go_wp2_with fail
  refine bodyPost_ret (v := .tuple #[.agg #[.slice A n c, .int .i64 (a' : Int), .bool f'], .bool true]) ?_ rfl ⟨a', f', rfl, ?_, r4.out, go_set (go_set (go_set hgw3 (by omega) _) (by omega) _) (by omega) _⟩
  · simp [results, Try.results23, go_sem, q0, q1, q2]
    done
  · rw [← HA.out]; exact goes_le b f a 8 n HBL.out ha


set_option maxRecDepth 100000 in
set_option maxHeartbeats 2000000 in
theorem take_int (lo g n c a v : Nat) (A : Option Addr) (b : List Nat) (f : Bool) (w : World) (hr : Rd w lo g (b.drop a) f) (hlg : lo ≤ g) (hb : Bytes w w.heap.size A n b) (hn : n ≤ 1000000) (ha : a ≤ n) (hv : v % 6 = 4) (hv8 : v < 256) :
    Calls Try.prog 23 #[.pointer (some ⟨g, 0, none⟩), rv A n c a f, .int .u8 (v : Int)] w (Both w lo g n c A b) := by
  have hz := hr.here
  have HBL := Lib.hid hb.1
  have HX := Lib.hid hb.2.1
  have hvi : (v : Int) % 6 = 4 := by omega
  obtain ⟨w0, hw0⟩ : ∃ w0, ((w.alloc (.cells #[.slice A n c, .int .i64 (a : Int), .bool f] 47)).alloc (.cells #[.slice none 0 0, .int .i64 0, .bool false] 47)).alloc (.cells #[.slice A n c, .int .i64 (a : Int), .bool f] 47) = w0 := ⟨_, rfl⟩
  have d0 : Below w.heap.size w w0 := by rw [← hw0]; exact (((Below.refl _ _).alloc (Nat.le_refl _) _).alloc (by simp) _).alloc (by simp; omega) _
  have z0 : w0.heap.size = w.heap.size + 3 := by rw [← hw0]; simp
  have kr : Blk w0 w.heap.size 47 #[.slice A n c, .int .i64 (a : Int), .bool f] := by
    rw [← hw0]
    exact (heap_alloc_old _ _ (by simp; omega)).trans ((heap_alloc_old _ _ (by simp)).trans (Blk.new w _ _))
  have k1 : Blk w0 (w.heap.size + 1) 47 #[.slice none 0 0, .int .i64 0, .bool false] := by
    have h := Blk.new (w.alloc (.cells #[.slice A n c, .int .i64 (a : Int), .bool f] 47)) 47 #[.slice none 0 0, .int .i64 0, .bool false]
    rw [World.size_alloc] at h
    rw [← hw0]
    exact (heap_alloc_old _ _ (by simp)).trans h
  have k2 : Blk w0 (w.heap.size + 1 + 1) 47 #[.slice A n c, .int .i64 (a : Int), .bool f] := by
    have h := Blk.new ((w.alloc (.cells #[.slice A n c, .int .i64 (a : Int), .bool f] 47)).alloc (.cells #[.slice none 0 0, .int .i64 0, .bool false] 47)) 47 #[.slice A n c, .int .i64 (a : Int), .bool f]
    rw [World.size_alloc, World.size_alloc] at h
    rw [← hw0]
    exact h
  have HR0 := Lib.hid (hr.below d0 hz)
  have HB0 := Lib.hid (hb.below d0 (Nat.le_refl _))
  have HK1 := Lib.hid k1
  have HK2 := Lib.hid k2
  have HZ := Lib.hid z0
  have HG0 := Lib.hid (go_below (World.grownBy.refl w (some g)) d0)
  obtain ⟨x0, x1, x2, -⟩ := cells3 kr
  clear hr hb kr k1 k2 z0 hv
  unfold rv
  go_enter Try.func23, Try.ntmps23
  go_wp2_with fail
  clear hw0
  refine (refTake_any n c a 8 w.heap.size A b f w0 HB0.out (by have := HZ.out; omega) hn ha (by omega)).mono ?_
  rintro e w1 ⟨rfl, b1⟩
  obtain ⟨a', ha'⟩ : ∃ a', goes f (b.drop a) a 8 = a' := ⟨_, rfl⟩
  obtain ⟨f', hf'⟩ : ∃ f', Pk.fails f (b.drop a) 8 = f' := ⟨_, rfl⟩
  obtain ⟨m, hm⟩ : ∃ m, Pk.num (Pk.taken f (b.drop a) 8) = m := ⟨_, rfl⟩
  have hmb : m < 18446744073709551616 := by rw [← hm]; exact Pk.taken_num_lt f (b.drop a) 8 (fun y hy => HX.out y (List.mem_of_mem_drop hy))
  rw [ha', hf', hm]
  have HA := Lib.hid ha'
  have HF := Lib.hid hf'
  have HM := Lib.hid hm
  clear ha' hf' hm
  have k2' := HK2.out.below b1 (by have := HZ.out; omega)
  have k1' := HK1.out.below b1 (by have := HZ.out; omega)
  obtain ⟨y0, y1, y2, s0, s1, s2⟩ := cells3 k2'
  have hgw1 := go_below HG0.out b1
  have HK2' := Lib.hid k2'
  have HK1' := Lib.hid k1'
  have HR1 := Lib.hid (HR0.out.below b1 (by have := HZ.out; omega))
  unfold rv
  clear b1 k1' k2' x0 x1 x2
  obtain ⟨w2, hw2⟩ : ∃ w2, ((w1.setCell ⟨w.heap.size + 1 + 1, 0, none⟩ (.slice A n c)).setCell ⟨w.heap.size + 1 + 1, 1, none⟩ (.int .i64 (a' : Int))).setCell ⟨w.heap.size + 1 + 1, 2, none⟩ (.bool f') = w2 := ⟨_, rfl⟩
  have t2 := HK2'.out.three (.slice A n c) (.int .i64 (a' : Int)) (.bool f')
  have g2 := three_only w1 (w.heap.size + 1 + 1) (.slice A n c) (.int .i64 (a' : Int)) (.bool f')
  rw [hw2] at t2 g2
  have HR2 := Lib.hid (HR1.out.kept g2 (by omega) hlg)
  have t1 := HK1'.out.grown g2 (by omega)
  have hgw2 : w.grownBy w2 (some g) := by rw [← hw2]; exact go_set (go_set (go_set hgw1 (by omega) _) (by omega) _) (by omega) _
  have T2 := Lib.hid t2
  have T1 := Lib.hid t1
  clear t1 t2 g2 hgw1
  go_wp2_with fail
  clear hw2 y0 y1 y2 s0 s1 s2
  refine (int_any lo g (b.drop a) f w2 HR2.out).mono ?_
  rintro e w3 ⟨rfl, hr3, hg3⟩
  rw [HM.out]
  rw [left_goes, HA.out, HF.out] at hr3
  have u2 := T2.out.grown hg3 (by omega)
  have u1 := T1.out.grown hg3 (by omega)
  have hgw3 := hgw2.trans hg3
  have hz3 := T1.out.lt
  obtain ⟨y0, y1, y2, -⟩ := cells3 u2
  obtain ⟨q0, q1, q2, s0, s1, s2⟩ := cells3 u1
  have HR3 := Lib.hid hr3
  have g4 := three_only w3 (w.heap.size + 1) (.slice A n c) (.int .i64 (a' : Int)) (.bool f')
  have r4 := Lib.hid (HR3.out.kept g4 (by omega) hlg)
  have hsg := sg_back m hmb
  clear hr3 hg3 u1 u2 g4
  go_wp2_with fail
  refine bodyPost_ret (v := .tuple #[.agg #[.slice A n c, .int .i64 (a' : Int), .bool f'], .bool true]) ?_ rfl ⟨a', f', rfl, ?_, r4.out, go_set (go_set (go_set hgw3 (by omega) _) (by omega) _) (by omega) _⟩
  · simp [results, Try.results23, go_sem, q0, q1, q2]
    done
  · rw [← HA.out]; exact goes_le b f a 8 n HBL.out ha

end Go.Proofs.Ytadcjllfabihbaa
