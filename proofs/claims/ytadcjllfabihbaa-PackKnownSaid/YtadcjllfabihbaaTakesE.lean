/- What the kind of texts takes, by both; any kind. -/
import Derived.Test.YtadcjllfabihbaaTakesD
namespace Go.Proofs.Ytadcjllfabihbaa
open Go.ChangeShapes Go.WideShapes Go.ChangeAt Go.RowKit


set_option maxRecDepth 100000 in
set_option maxHeartbeats 2000000 in
theorem take_text (lo g n c a v : Nat) (A : Option Addr) (b : List Nat) (f : Bool) (w : World) (hr : Rd w lo g (b.drop a) f) (hlg : lo ≤ g) (hb : Bytes w w.heap.size A n b) (hn : n ≤ 1000000) (ha : a ≤ n) (hnc : n ≤ c) (hv : v % 6 = 5) (hv8 : v < 256) :
    Calls Try.prog 23 #[.pointer (some ⟨g, 0, none⟩), rv A n c a f, .int .u8 (v : Int)] w (Both w lo g n c A b) := by
  have hz := hr.here
  have HBL := Lib.hid hb.1
  have HX := Lib.hid hb.2.1
  have hvi : (v : Int) % 6 = 5 := by omega
  obtain ⟨w0, hw0⟩ : ∃ w0, ((w.alloc (.cells #[.slice A n c, .int .i64 (a : Int), .bool f] 47)).alloc (.cells #[.slice none 0 0, .int .i64 0, .bool false] 47)).alloc (.cells #[.slice A n c, .int .i64 (a : Int), .bool f] 47) = w0 := ⟨_, rfl⟩
  have d0 : Below w.heap.size w w0 := by rw [← hw0]; exact (((Below.refl _ _).alloc (Nat.le_refl _) _).alloc (by simp) _).alloc (by simp; omega) _
  have z0 : w0.heap.size = w.heap.size + 3 := by rw [← hw0]; simp
  have kr : Blk w0 w.heap.size 47 #[.slice A n c, .int .i64 (a : Int), .bool f] := by
    rw [← hw0]
    exact (heap_alloc_old _ _ (by simp; omega)).trans ((heap_alloc_old _ _ (by simp)).trans (Blk.new w _ _))
  have k1 : Blk w0 (w.heap.size + 1) 47 #[.slice none 0 0, .int .i64 0, .bool false] := by
    have h := Blk.new (w.alloc (.cells #[.slice A n c, .int .i64 (a : Int), .bool f] 47)) 47 #[.slice none 0 0, .int .i64 0, .bool false]
    rw [World.size_alloc] at h
    rw [← hw0]
    exact (heap_alloc_old _ _ (by simp)).trans h
  have k2 : Blk w0 (w.heap.size + 1 + 1) 47 #[.slice A n c, .int .i64 (a : Int), .bool f] := by
    have h := Blk.new ((w.alloc (.cells #[.slice A n c, .int .i64 (a : Int), .bool f] 47)).alloc (.cells #[.slice none 0 0, .int .i64 0, .bool false] 47)) 47 #[.slice A n c, .int .i64 (a : Int), .bool f]
    rw [World.size_alloc, World.size_alloc] at h
    rw [← hw0]
    exact h
  have HR0 := Lib.hid (hr.below d0 hz)
  have HB0 := Lib.hid (hb.below d0 (Nat.le_refl _))
  have HK1 := Lib.hid k1
  have HK2 := Lib.hid k2
  have HZ := Lib.hid z0
  have HG0 := Lib.hid (go_below (World.grownBy.refl w (some g)) d0)
  obtain ⟨x0, x1, x2, -⟩ := cells3 kr
  clear hr hb kr k1 k2 z0 hv
  unfold rv
  go_enter Try.func23, Try.ntmps23
  go_wp2_with fail
  clear hw0
  refine (refTakeText_any n c a w.heap.size A b f w0 HB0.out (by have := HZ.out; omega) hn ha hnc).mono ?_
  rintro e w1 ⟨rfl, b1⟩
  obtain ⟨a', ha'⟩ : ∃ a', tgoes f (b.drop a) a = a' := ⟨_, rfl⟩
  obtain ⟨f', hf'⟩ : ∃ f', Pk.tfails f (b.drop a) = f' := ⟨_, rfl⟩
  obtain ⟨T, hT⟩ : ∃ T, textOf (Pk.ttaken f (b.drop a)) = T := ⟨_, rfl⟩
  rw [ha', hf', hT]
  have HA := Lib.hid ha'
  have HF := Lib.hid hf'
  have HT := Lib.hid hT
  clear ha' hf' hT
  have k1' := HK1.out.below b1 (by have := HZ.out; omega)
  have zz : w.heap.size + 1 + 1 < w1.heap.size := by have := b1.size; have := HZ.out; omega
  have e2 : Below w1.heap.size w1 (w1.alloc (.cells #[.slice A n c, .int .i64 (a' : Int), .bool f'] 47)) := (Below.refl _ _).alloc (Nat.le_refl _) _
  have kn : Blk (w1.alloc (.cells #[.slice A n c, .int .i64 (a' : Int), .bool f'] 47)) w1.heap.size 47 #[.slice A n c, .int .i64 (a' : Int), .bool f'] := Blk.new w1 _ _
  have hgw1 := go_below (go_below HG0.out b1) e2
  have k1'' := k1'.below e2 (by omega)
  have HR1 := Lib.hid ((HR0.out.below b1 (by have := HZ.out; omega)).below e2 (by omega))
  unfold rv
  clear b1 k1' x0 x1 x2 e2
  go_wp2_with fail
  generalize w1.alloc (.cells #[.slice A n c, .int .i64 (a' : Int), .bool f'] 47) = w2 at *
  generalize w1.heap.size = N at *
  have K1 := Lib.hid k1''
  have KN := Lib.hid kn
  obtain ⟨y0, y1, y2, -⟩ := cells3 kn
  obtain ⟨q0, q1, q2, s0, s1, s2⟩ := cells3 k1''
  have X2 : w2.drew.cell? ⟨N, 0, none⟩ = some (.slice A n c) ∧ w2.drew.cell? ⟨N, 1, none⟩ = some (.int .i64 (a' : Int)) ∧ w2.drew.cell? ⟨N, 2, none⟩ = some (.bool f') := ⟨y0, y1, y2⟩
  have gs := three_only w2.drew (w.heap.size + 1) (.slice A n c) (.int .i64 (a' : Int)) (.bool f')
  have HR2 := Lib.hid (show Rd w2.drew lo g (b.drop a) f from HR1.out)
  have HRs := Lib.hid (HR2.out.kept gs (by omega) hlg)
  have HNs := Lib.hid (Blk.grown (w := w2.drew) KN.out gs (by omega))
  have H1s := Lib.hid (Blk.three (w := w2.drew) K1.out (.slice A n c) (.int .i64 (a' : Int)) (.bool f'))
  have X4 := cells3' HNs.out
  have hgs : w.grownBy (((w2.drew.setCell ⟨w.heap.size + 1, 0, none⟩ (.slice A n c)).setCell ⟨w.heap.size + 1, 1, none⟩ (.int .i64 (a' : Int))).setCell ⟨w.heap.size + 1, 2, none⟩ (.bool f')) (some g) := go_set (go_set (go_set (only_drew hgw1) (by omega) _) (by omega) _) (by omega) _
  clear kn k1'' gs
  go_region_held3 (fun w' => w'.cell? ⟨N, 0, none⟩ = some (.slice A n c) ∧ w'.cell? ⟨N, 1, none⟩ = some (.int .i64 (a' : Int)) ∧ w'.cell? ⟨N, 2, none⟩ = some (.bool f')) (first | exact X2 | exact X4 | exact X3 | exact X5 | exact X6) (first
    | (go_at_call 29; (with_reducible refine (text_any lo g _ _ _ HR2.out).mono ?_); rintro e w3 ⟨rfl, hr3, hg3⟩; rw [HT.out]; rw [tleft_goes, HA.out, HF.out] at hr3; have hgw3 := (only_drew hgw1).trans hg3; have X3 := cells3' (Blk.grown (w := w2.drew) KN.out hg3 (by omega)); have K3 := Blk.grown (w := w2.drew) K1.out hg3 (by omega); obtain ⟨q0, q1, q2, s0, s1, s2⟩ := cells3 K3; have g4 := three_only w3 (w.heap.size + 1) (.slice A n c) (.int .i64 (a' : Int)) (.bool f'); have r4 := Lib.hid (hr3.kept g4 (by omega) hlg); have X5 := cells3' ((Blk.grown (w := w2.drew) KN.out hg3 (by omega)).grown g4 (by omega)); have hF := go_set (o := 2) (go_set (o := 1) (go_set (o := 0) hgw3 (show w.heap.size ≤ w.heap.size + 1 by omega) (.slice A n c)) (show w.heap.size ≤ w.heap.size + 1 by omega) (.int .i64 (a' : Int))) (show w.heap.size ≤ w.heap.size + 1 by omega) (.bool f'); clear hr3 hg3 g4 K3)
    | (go_at_call 29; refine (text_any lo g _ _ _ HRs.out).mono ?_; rintro e w5 ⟨rfl, hr5, hg5⟩; rw [HT.out]; rw [tleft_goes, HA.out, HF.out] at hr5; have hgw5 := hgs.trans hg5; have X6 := cells3' (HNs.out.grown hg5 (by omega)); obtain ⟨q0, q1, q2, s0, s1, s2⟩ := cells3 (H1s.out.grown hg5 (by omega)); have r5 := Lib.hid hr5; clear hr5 hg5))
  all_goals
    go_wp2_with fail
    refine bodyPost_ret (v := .tuple #[.agg #[.slice A n c, .int .i64 (a' : Int), .bool f'], .bool true]) ?_ rfl ?_
    · simp [results, Try.results23, go_sem, q0, q1, q2]
      done
    · first
      | exact ⟨a', f', rfl, by rw [← HA.out]; exact tgoes_le b f a n HBL.out ha, r4.out, hF⟩
      | exact ⟨a', f', rfl, by rw [← HA.out]; exact tgoes_le b f a n HBL.out ha, r5.out, hgw5⟩
theorem take_all (lo g n c a v : Nat) (A : Option Addr) (b : List Nat) (f : Bool) (w : World) (hr : Rd w lo g (b.drop a) f) (hlg : lo ≤ g) (hb : Bytes w w.heap.size A n b) (hn : n ≤ 1000000) (ha : a ≤ n) (hnc : n ≤ c) (hv8 : v < 256) :
    Calls Try.prog 23 #[.pointer (some ⟨g, 0, none⟩), rv A n c a f, .int .u8 (v : Int)] w (Both w lo g n c A b) := by
  have h : v % 6 = 0 ∨ v % 6 = 1 ∨ v % 6 = 2 ∨ v % 6 = 3 ∨ v % 6 = 4 ∨ v % 6 = 5 := by omega
  rcases h with h | h | h | h | h | h
  · exact take_u8 lo g n c a v A b f w hr hlg hb hn ha h hv8
  · exact take_u16 lo g n c a v A b f w hr hlg hb hn ha h hv8
  · exact take_u32 lo g n c a v A b f w hr hlg hb hn ha h hv8
  · exact take_u64 lo g n c a v A b f w hr hlg hb hn ha h hv8
  · exact take_int lo g n c a v A b f w hr hlg hb hn ha h hv8
  · exact take_text lo g n c a v A b f w hr hlg hb hn ha hnc h hv8
end Go.Proofs.Ytadcjllfabihbaa
