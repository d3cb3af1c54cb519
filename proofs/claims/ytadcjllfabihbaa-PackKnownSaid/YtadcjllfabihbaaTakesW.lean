/- PackTakes, walked: whatever is taken of any bytes, it is the document's. -/
import Derived.Test.YtadcjllfabihbaaTakesE
namespace Go.Proofs.Ytadcjllfabihbaa
open Go.ChangeShapes Go.WideShapes Go.ChangeAt Go.RowKit

theorem Rd.keptOpt {w w' : World} {lo g : Nat} {row : Option Nat} {l : List Nat} {f : Bool} (hr : Rd w lo g l f) (hg : w.grownBy w' row) (hh : ∀ h, row = some h → h < lo) (hlg : lo ≤ g) : Rd w' lo g l f := by
  cases row with
  | none => exact hr.below (below_none hg) hr.here
  | some h => exact hr.kept hg (.inr (hh h rfl)) hlg
theorem Blk.keptOpt {w w' : World} {h : Nat} {row : Option Nat} {t : TypeId} {cs : Array Value} (hb : Blk w h t cs) (hg : w.grownBy w' row) (hne : ∀ k, row = some k → k ≠ h) : Blk w' h t cs := (hg.block h hb.lt (fun e => hne h e.symm rfl)).trans hb

theorem go_alloc {w w1 : World} {row : Option Nat} (h : w.grownBy w1 row) (o : Obj) : w.grownBy (w1.alloc o) row := h.trans (World.grownBy_alloc w1 o row)
theorem go_three {w w1 : World} {g p : Nat} (h : w.grownBy w1 (some g)) (hp : w.heap.size ≤ p) (x y z : Value) : w.grownBy (((w1.setCell ⟨p, 0, none⟩ x).setCell ⟨p, 1, none⟩ y).setCell ⟨p, 2, none⟩ z) (some g) := go_set (go_set (go_set h hp _) hp _) hp _
theorem Rd.three {w : World} {lo g p : Nat} {l : List Nat} {f : Bool} (h : Rd w lo g l f) (hp : g < p) (hlg : lo ≤ g) (x y z : Value) : Rd (((w.setCell ⟨p, 0, none⟩ x).setCell ⟨p, 1, none⟩ y).setCell ⟨p, 2, none⟩ z) lo g l f := h.kept (three_only w p x y z) (.inl hp) hlg
set_option maxRecDepth 100000 in
set_option maxHeartbeats 4000000 in
theorem takes_any (n c m ck : Nat) (A Ak : Option Addr) (b kl : List Nat) (w : World) (hb : Bytes w w.heap.size A n b) (hnc : n ≤ c) (hk : Bytes w w.heap.size Ak m kl) (hn : n ≤ 9223372036854775807) (hm : m ≤ 9223372036854775807) :
    Calls Try.prog 4 #[.slice A n c, .slice Ak m ck] w fun e w' => e = .returned (.bool true) ∧ Below w.heap.size w w' := by
  by_cases h1 : 1000 < n
  · go_enter Try.func4, Try.ntmps4
    go_wp2_with fail
    refine (works_any _).mono ?_
    rintro e w1 ⟨rfl, b1⟩
    go_wp2_with fail
    go_ret
    exact ⟨rfl, b1⟩
  by_cases h2 : 60 < m
  · go_enter Try.func4, Try.ntmps4
    go_wp2_with fail
    refine (works_any _).mono ?_
    rintro e w1 ⟨rfl, b1⟩
    go_wp2_with fail
    go_ret
    exact ⟨rfl, b1⟩
  have HBL := Lib.hid hb.1
  have HX := Lib.hid hb.2.1
  go_enter Try.func4, Try.ntmps4
  go_wp2_with fail
  refine (own_any n c w.heap.size A b w hb (by omega)).mono ?_
  rintro e w1 ⟨A1, c1, rfl, ho1, b1⟩
  have f1 := Bytes.of_own ho1 HX.out
  have lo1 := Lib.hid fun k hk => (ho1.lt k hk)
  go_wp2_with fail
  refine (of_any n c1 w1.heap.size A1 b w1 f1 (Nat.le_refl _) (by omega)).mono ?_
  rintro e w2 ⟨g, rfl, r2, lg, b2⟩
  have d2 := below_next b1 b2
  have ho2 := own_below ho1 b2
  have z1 := b1.size
  have hg2 := r2.here
  have kH := Blk.new w2 47 #[.slice A n c, .int .i64 0, .bool false]
  have d3 : Below w.heap.size w (w2.alloc (.cells #[.slice A n c, .int .i64 0, .bool false] 47)) := d2.alloc d2.size _
  have r3 := rd_alloc r2 (.cells #[.slice A n c, .int .i64 0, .bool false] 47)
  have ho3 := ho2.alloc (.cells #[.slice A n c, .int .i64 0, .bool false] 47)
  clear f1 ho1 ho2 b1 r2
  go_wp2_with fail
  generalize w2.alloc (.cells #[.slice A n c, .int .i64 0, .bool false] 47) = w3 at *
  have zH : g < w2.heap.size := hg2
  have zb2 := b2.size
  generalize w2.heap.size = H at *
  have hHw : w1.heap.size ≤ H := by omega
  refine (spoil_any _ n c1 A1 _ w3 ho3 (by omega)).mono ?_
  rintro e w4 ⟨rfl, g4⟩
  have r4 := r3.keptOpt g4 (fun h e => (lo1.out h e).2) lg
  have k4 := kH.keptOpt g4 (fun h e => by have := (lo1.out h e).2; omega)
  have d4 : Below w.heap.size w w4 := d3.grown g4 d3.size (fun h e => (lo1.out h e).1)
  obtain ⟨x0, x1, x2, -⟩ := cells3 k4
  have HR4 := Lib.hid r4
  have HK4 := Lib.hid k4
  clear b2 ho3 g4 r3 kH d3 r4 k4 lo1
  go_wp2_with fail
  refine (is_any _ g n c 0 A b false w4 HR4.out HBL.out (by omega) (by omega)).mono ?_
  rintro e w5 ⟨rfl, b5⟩
  have d5 := below_next d4 b5
  have k5 := HK4.out.below b5 HK4.out.lt
  have r5 := HR4.out.below b5 HR4.out.here
  clear b5 HR4 HK4 d4 x0 x1 x2
  go_wp2_with fail
  go_loopw [8] (fun i wr => ∃ (k a : Nat) (f : Bool), k ≤ m ∧ i = .int .i64 k ∧ a ≤ n ∧ Blk wr H 47 #[.slice A n c, .int .i64 (a : Int), .bool f] ∧ Rd wr w1.heap.size g (b.drop a) f ∧ Below w.heap.size w wr) (fun i _ => m - (intOf i).toNat)
  case atStart => exact ⟨0, 0, false, by omega, rfl, by omega, k5, r5, d5⟩
  case round =>
    obtain ⟨k, a, f, hkm, rfl, ha, kr, rr, dr⟩ := hrel
    clear k5 r5 d5
    by_cases hlt : k < m
    · have hkr := hk.below dr (Nat.le_refl _)
      obtain ⟨bk, off, rfl, hbk, hc⟩ := hkr.2.2 (by omega)
      have hck := hc k hlt
      have hv8 := hkr.lt k
      have hbr := hb.below dr (Nat.le_refl _)
      generalize kl.getD k 0 = v at *
      clear hc hkr
      have zr := dr.size
      have zk := kr.lt
      have G0 : wr.grownBy wr.drew (some g) := only_drew (World.grownBy.refl wr (some g))
      have HS := Lib.hid (show ∀ W : World, wr.grownBy W (some g) → W.cell? ⟨H, 0, none⟩ = some (.slice A n c) ∧ W.cell? ⟨H, 1, none⟩ = some (.int .i64 (a : Int)) ∧ W.cell? ⟨H, 2, none⟩ = some (.bool f) ∧ W.cell? ⟨bk, off + k, none⟩ = some (.int .u8 (v : Int)) from fun W hW => by
        obtain ⟨y0, y1, y2⟩ := cells3' (kr.grown hW (by omega))
        exact ⟨y0, y1, y2, (World.cell?_of_block (a := ⟨bk, off + k, none⟩) (hW.block bk (by omega) (fun e => by injection e with e; omega))).trans hck⟩)
      have HKr := Lib.hid kr
      have HRr := Lib.hid (show Rd wr.drew w1.heap.size g (b.drop a) f from rr)
      have HBr := Lib.hid (show Bytes wr.drew wr.drew.heap.size A n b from hbr.more zr)
      have Hdr := Lib.hid dr
      obtain ⟨x0, x1, x2, -⟩ := cells3 kr
      go_wp2_with fail
      clear kr rr hbr dr
      have GB : wr.grownBy (wr.alloc (.cells #[.slice none 0 0, .int .i64 0, .bool false] 47)).drew (some g) := only_drew (World.grownBy_alloc wr _ _)
      have HRb := Lib.hid (show Rd (wr.alloc (.cells #[.slice none 0 0, .int .i64 0, .bool false] 47)).drew w1.heap.size g (b.drop a) f from rd_alloc HRr.out _)
      have HBb := Lib.hid (show Bytes (wr.alloc (.cells #[.slice none 0 0, .int .i64 0, .bool false] 47)).drew (wr.alloc (.cells #[.slice none 0 0, .int .i64 0, .bool false] 47)).drew.heap.size A n b from ((HBr.out.alloc (Nat.le_refl _) _).more (by simp)))
      have HNb := Lib.hid (show Blk (wr.alloc (.cells #[.slice none 0 0, .int .i64 0, .bool false] 47)).drew wr.heap.size 47 #[.slice none 0 0, .int .i64 0, .bool false] from Blk.new wr _ _)
      go_region_held3 (fun w' => w'.cell? ⟨H, 0, none⟩ = some (.slice A n c) ∧ w'.cell? ⟨H, 1, none⟩ = some (.int .i64 (a : Int)) ∧ w'.cell? ⟨H, 2, none⟩ = some (.bool f) ∧ w'.cell? ⟨bk, off + k, none⟩ = some (.int .u8 (v : Int))) (first | exact HS.out _ G0 | exact HS.out _ G3 | exact HS.out _ (go_alloc G3 _) | exact HS.out _ (go_alloc G0 _) | exact HS.out _ G5 | exact HS.out _ (go_three G5 (Nat.le_refl _) _ _ _)) (first
        | (go_at_call 23; (with_reducible refine (take_all w1.heap.size g n c a v A b f _ HRr.out lg HBr.out (by omega) ha hnc hv8).mono ?_); rintro e w3 ⟨a', f', rfl, ha', r3, g3⟩; have G3 := G0.trans g3; clear g3)
        | (go_at_call 23; (with_reducible refine (take_all w1.heap.size g n c a v A b f _ HRb.out lg HBb.out (by omega) ha hnc hv8).mono ?_); rintro e w5 ⟨a', f', rfl, ha', r5, g5⟩; have G5 := GB.trans g5; have N5 := Lib.hid (HNb.out.grown g5 (by omega)); obtain ⟨p0, p1, p2, t0, t1, t2⟩ := cells3 N5.out; clear g5))
      · have n6 := Blk.new w3 47 #[.slice A n c, .int .i64 (a' : Int), .bool f']
        have G6 := go_alloc G3 (.cells #[.slice A n c, .int .i64 (a' : Int), .bool f'] 47)
        have r6 := rd_alloc r3 (.cells #[.slice A n c, .int .i64 (a' : Int), .bool f'] 47)
        clear GB HRb HBb HNb x0 x1 x2 hck G0 HRr HBr
        have zz := G3.size
        clear r3 G3
        generalize w3.alloc (.cells #[.slice A n c, .int .i64 (a' : Int), .bool f'] 47) = w6 at *
        generalize w3.heap.size = N at *
        have zN : H < N ∧ w.heap.size ≤ g := by omega
        have kH6 := HKr.out.grown G6 (by omega)
        have d6 : Below w.heap.size w w6 := below_rd Hdr.out G6 (by omega)
        obtain ⟨i0, i1, i2, j0, j1, j2⟩ := cells3 kH6
        obtain ⟨m0, m1, m2, -⟩ := cells3 n6
        have r7 := r6.three (p := H) zH lg (.slice A n c) (.int .i64 (a' : Int)) (.bool f')
        have k7 := kH6.three (.slice A n c) (.int .i64 (a' : Int)) (.bool f')
        have d7 := ((d6.setCell (p := ⟨H, 0, none⟩) (show w.heap.size ≤ H by omega) (.slice A n c)).setCell (p := ⟨H, 1, none⟩) (show w.heap.size ≤ H by omega) (.int .i64 (a' : Int))).setCell (p := ⟨H, 2, none⟩) (show w.heap.size ≤ H by omega) (.bool f')
        have HK7 := Lib.hid k7
        have HR7 := Lib.hid r7
        clear n6 r6 kH6 G6 d6 HS Hdr HKr k7 r7
        unfold rv
        go_wp2_with fail
        refine (is_any _ g n c a' A b f' _ HR7.out HBL.out (by omega) ha').mono ?_
        rintro e w8 ⟨rfl, b8⟩
        have d8 := below_next d7 b8
        have k8 := HK7.out.below b8 HK7.out.lt
        have r8 := HR7.out.below b8 HR7.out.here
        clear b8 HK7 HR7 d7 i0 i1 i2 j0 j1 j2 m0 m1 m2
        go_wp2_with fail
        go_roundw
        case rel => exact ⟨k + 1, a', f', by omega, by go_num, ha', k8, r8, d8⟩
        case measure => simp [intOf]; omega
      · have n6 := N5.out.three (.slice A n c) (.int .i64 (a' : Int)) (.bool f')
        have G6 := go_three G5 (Nat.le_refl _) (.slice A n c) (.int .i64 (a' : Int)) (.bool f')
        have r6 := r5.three (p := wr.heap.size) (by omega) lg (.slice A n c) (.int .i64 (a' : Int)) (.bool f')
        clear GB HRb HBb HNb x0 x1 x2 hck G0 HRr HBr p0 p1 p2 t0 t1 t2
        have zz := G5.size
        clear r5 G5 N5
        generalize ((w5.setCell ⟨wr.heap.size, 0, none⟩ (.slice A n c)).setCell ⟨wr.heap.size, 1, none⟩ (.int .i64 (a' : Int))).setCell ⟨wr.heap.size, 2, none⟩ (.bool f') = w6 at *
        generalize wr.heap.size = N at *
        have zN : H < N ∧ w.heap.size ≤ g := by omega
        have kH6 := HKr.out.grown G6 (by omega)
        have d6 : Below w.heap.size w w6 := below_rd Hdr.out G6 (by omega)
        obtain ⟨i0, i1, i2, j0, j1, j2⟩ := cells3 kH6
        obtain ⟨m0, m1, m2, -⟩ := cells3 n6
        have r7 := r6.three (p := H) zH lg (.slice A n c) (.int .i64 (a' : Int)) (.bool f')
        have k7 := kH6.three (.slice A n c) (.int .i64 (a' : Int)) (.bool f')
        have d7 := ((d6.setCell (p := ⟨H, 0, none⟩) (show w.heap.size ≤ H by omega) (.slice A n c)).setCell (p := ⟨H, 1, none⟩) (show w.heap.size ≤ H by omega) (.int .i64 (a' : Int))).setCell (p := ⟨H, 2, none⟩) (show w.heap.size ≤ H by omega) (.bool f')
        have HK7 := Lib.hid k7
        have HR7 := Lib.hid r7
        clear n6 r6 kH6 G6 d6 HS Hdr HKr k7 r7
        unfold rv
        go_wp2_with fail
        refine (is_any _ g n c a' A b f' _ HR7.out HBL.out (by omega) ha').mono ?_
        rintro e w8 ⟨rfl, b8⟩
        have d8 := below_next d7 b8
        have k8 := HK7.out.below b8 HK7.out.lt
        have r8 := HR7.out.below b8 HR7.out.here
        clear b8 HK7 HR7 d7 i0 i1 i2 j0 j1 j2 m0 m1 m2
        go_wp2_with fail
        go_roundw
        case rel => exact ⟨k + 1, a', f', by omega, by go_num, ha', k8, r8, d8⟩
        case measure => simp [intOf]; omega
    · go_wp2_with fail
      refine (works_any _).mono ?_
      rintro e w6 ⟨rfl, b6⟩
      have d6 := below_next dr b6
      go_wp2_with fail
      go_ret
      exact ⟨rfl, d6⟩
end Go.Proofs.Ytadcjllfabihbaa
