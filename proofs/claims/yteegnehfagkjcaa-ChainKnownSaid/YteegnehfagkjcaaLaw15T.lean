/- Made by tools/gen/cn.py. -/
/- Layer 15, the statement ChainTells, as a walk: any versions are told to be a chain or not, and what it tells is the document's. -/
import Derived.Test.YteegnehfagkjcaaCnW
import Derived.Test.YteegnehfagkjcaaCnT
import Derived.Test.YteegnehfagkjcaaGrow
namespace Go.Proofs.Yteegnehfagkjcaa
open Go.ChangeShapes Go.WideShapes Go.ChangeAt Go.RowKit

/-- A row of a call's own whose cells may be written over. -/
theorem own_blk {w : World} {base n c s : Nat} {E : TypeId} {A : Option Addr} {xs : List Value} (h : w.ownsRow base E s (.slice A n c) n xs) (h0 : 0 < n) : ∃ g cs, A = some ⟨g, 0, none⟩ ∧ Blk w g E cs ∧ n * s ≤ cs.size ∧ base ≤ g := by
  rcases h.2 with ⟨_, hn⟩ | ⟨g, cap, cur, hv, hb, hg, hnc, _, hs, _⟩
  · omega
  · injection hv with hA hc _
    exact ⟨g, cur, hA, hg, by rw [hs]; exact Nat.mul_le_mul_right s hnc, hb⟩
theorem spoil6 {W W0 : World} {F : Nat → Prop} {g q : Nat} {T : TypeId} {cs : Array Value} (hT : Turns F W0 W) (hB : Blk W g T cs) (hg : F g) (u0 u1 u2 u3 u4 u5 : Value) :
    ∃ cs', Blk ((((((W.setCell ⟨g, q, none⟩ u0).setCell ⟨g, q + 1, none⟩ u1).setCell ⟨g, q + 2, none⟩ u2).setCell ⟨g, q + 3, none⟩ u3).setCell ⟨g, q + 4, none⟩ u4).setCell ⟨g, q + 5, none⟩ u5) g T cs' ∧ cs'.size = cs.size ∧ Turns F W0 ((((((W.setCell ⟨g, q, none⟩ u0).setCell ⟨g, q + 1, none⟩ u1).setCell ⟨g, q + 2, none⟩ u2).setCell ⟨g, q + 3, none⟩ u3).setCell ⟨g, q + 4, none⟩ u4).setCell ⟨g, q + 5, none⟩ u5) :=
  ⟨_, (((((hB.set_ q u0).set_ (q + 1) u1).set_ (q + 2) u2).set_ (q + 3) u3).set_ (q + 4) u4).set_ (q + 5) u5, by simp, (((((hT.setCell q u0 (fun _ => hg)).setCell (q + 1) u1 (fun _ => hg)).setCell (q + 2) u2 (fun _ => hg)).setCell (q + 3) u3 (fun _ => hg)).setCell (q + 4) u4 (fun _ => hg)).setCell (q + 5) u5 (fun _ => hg)⟩
set_option maxRecDepth 100000 in
set_option maxHeartbeats 4000000 in
theorem lawTells_any (w : World) (F0 : Nat → Prop) (A : Option Addr) (n c : Nat) (l : List Cn.Ver) (a b : Nat) (h : Cells w F0 A n 6 (vrL l)) : Calls Try.prog 3 #[.slice A n c, .int .u64 (a : Int), .int .u64 (b : Int)] w (BoolP w true) := by
  by_cases h20 : 20 < n
  · have d1 : (20 : Int) < (n : Int) := by omega
    clear h h20
    go_enter Try.func3, Try.ntmps3
    go_wp2_with (go_at_call 8; (refine (works_any _).mono ?_); rintro e w10 ⟨rfl, b10⟩; have B12 := Lib.hid b10; clear b10)
    go_ret
    exact ⟨rfl, B12.out⟩
  · have d1 : ¬ (20 : Int) < (n : Int) := by omega
    have hn : n ≤ 20 := by omega
    have hln := vr_len h
    have HRF := Lib.hid (refs_any w F0 A n c l h (by omega))
    have HOW := Lib.hid (fun (W : World) (hW : Below w.heap.size w W) => own_any W F0 A n c l (h.below hW) (by omega))
    unfold VrP at HRF HOW
    rw [hln] at HRF
    simp only [hln] at HOW
    have H := Lib.hid (And.intro h hln)
    clear h hln h20
    go_enter Try.func3, Try.ntmps3
    go_wp2_with fail
    refine HRF.out.mono ?_
    rintro e w1 ⟨A1, c1, rfl, ho1, b1⟩
    have H1 := Lib.hid (And.intro (Cells.of_own ho1) b1)
    clear ho1 b1
    go_wp2_with fail
    refine (HOW.out w1 H1.out.2).mono ?_
    rintro e w2 ⟨A2, c2, rfl, ho2, b2⟩
    have H2 := Lib.hid (And.intro ho2 (And.intro (H1.out.1.below b2) (And.intro (below_next H1.out.2 b2) (And.intro b2.size b2))))
    have HOF := Lib.hid (in_of w2 _ A2 n c2 l (Cells.of_own ho2) (by omega))
    clear ho2 b2
    go_wp2_with fail
    refine HOF.out.mono ?_
    intro e w3 hof
    obtain ⟨er, ptr, he, hb3, hcase⟩ : ∃ (er : Int) (ptr : Option Addr), e = .returned (.tuple #[.pointer ptr, .int .i64 er]) ∧ Below w2.heap.size w2 w3 ∧ ((Cn.right l = false ∧ ptr = none ∧ er = 2) ∨ (Cn.right l = true ∧ er = 0 ∧ ∃ g, ptr = some ⟨g, 0, none⟩ ∧ ChIn w3 (fun b => w2.heap.size ≤ b) g l)) := by
      rcases hof with ⟨h1, h2, h3⟩ | ⟨h1, g, h2, h3, h4⟩
      · exact ⟨2, none, h2, h3, .inl ⟨h1, rfl, rfl⟩⟩
      · exact ⟨0, _, h2, h4, .inr ⟨h1, rfl, g, rfl, h3⟩⟩
    subst he
    have H3 := Lib.hid (And.intro hb3 hcase)
    clear hof hb3 hcase
    go_wp2_with fail
    go_loopw [11] (fun i wr => ∃ j : Nat, j ≤ n ∧ i = .int .i64 (j : Int) ∧ Turns (fun b => w1.heap.size ≤ b ∧ b < w2.heap.size) w3 wr ∧ (0 < n → ∃ g cs, A2 = some ⟨g, 0, none⟩ ∧ Blk wr g 35 cs ∧ n * 6 ≤ cs.size ∧ w1.heap.size ≤ g ∧ g < w2.heap.size)) (fun i _ => n - (intOf i).toNat)
    case atStart => exact ⟨0, Nat.zero_le _, rfl, Turns.refl _ _, fun h0 => by
      obtain ⟨g, cs, e1, e2, e3, e4⟩ := own_blk H2.out.1 h0
      exact ⟨g, cs, e1, e2.below H3.out.1 e2.lt, e3, e4, e2.lt⟩⟩
    case round =>
      obtain ⟨j, hk, rfl, hT, hbk⟩ := hrel
      by_cases hlt : j < n
      · have i2 : (0 : Int) ≤ (j : Int) := by omega
        have i3 : (j : Int) < (n : Int) := by omega
        obtain ⟨g, cs, rfl, hB, hsz, hg1, hg2⟩ := hbk (by omega)
        have hq : ∀ q, q < 6 → ∃ x, wr.cell? ⟨g, j * 6 + q, none⟩ = some x := fun q hq => ⟨cs[j * 6 + q]'(by omega), by rw [hB.cell]; exact Array.getElem?_eq_getElem (by omega)⟩
        obtain ⟨x0, z0⟩ := hq 0 (by omega)
        obtain ⟨x1, z1⟩ := hq 1 (by omega)
        obtain ⟨x2, z2⟩ := hq 2 (by omega)
        obtain ⟨x3, z3⟩ := hq 3 (by omega)
        obtain ⟨x4, z4⟩ := hq 4 (by omega)
        obtain ⟨x5, z5⟩ := hq 5 (by omega)
        have f0 := hB.frozen (j * 6)
        have f1 := hB.frozen (j * 6 + 1)
        have f2 := hB.frozen (j * 6 + 2)
        have f3 := hB.frozen (j * 6 + 3)
        have f4 := hB.frozen (j * 6 + 4)
        have f5 := hB.frozen (j * 6 + 5)
        simp only [Nat.add_zero] at z0
        have HK := Lib.hid (And.intro hT (And.intro hB (And.intro hsz (And.intro hg1 hg2))))
        clear hT hB hsz hg1 hg2 hbk hq hk
        go_wp2_with fail
        go_roundw
        case rel =>
          obtain ⟨cs', e1, e2, e3⟩ := spoil6 (q := j * 6) HK.out.1 HK.out.2.1 ⟨HK.out.2.2.2.1, HK.out.2.2.2.2⟩ (.int .u64 0) (.bool false) (.int .i64 0) (.int .i64 0) (.int .i64 0) (.int .i64 0)
          exact ⟨j + 1, by omega, by go_num, e3, fun _ => ⟨g, cs', rfl, e1, by rw [e2]; exact HK.out.2.2.1, HK.out.2.2.2.1, HK.out.2.2.2.2⟩⟩
        case measure => simp [intOf]; omega
      · have hjn : n = j := by omega
        subst hjn
        have hR := (((H1.out.1.mono (G := fun b => b < w1.heap.size) (fun b hb _ => hb)).below H2.out.2.2.2.2).below H3.out.1).turn hT (fun b h e => by omega)
        have hLl := ((H.out.1.mono (G := fun b => b < w.heap.size) (fun b hb _ => hb)).below (below_next H2.out.2.2.1 H3.out.1)).turn hT (fun b h e => by have := H1.out.2.size; omega)
        have hB := (below_next H2.out.2.2.1 H3.out.1).trans (hT.below (below_next H2.out.2.2.1 H3.out.1).size (fun b h => by have := H1.out.2.size; omega))
        obtain ⟨wb, hwb⟩ : ∃ wb, wb = wr := ⟨wr, rfl⟩
        rw [← hwb] at hR hLl hB hT
        rw [← hwb]
        clear hwb
        have H4 := Lib.hid (And.intro hR (And.intro hLl hB))
        have HT := Lib.hid hT
        have HRR := Lib.hid (fun (W : World) (hW : Below wb.heap.size wb W) => refRights_any W _ A1 n c1 l (hR.below hW) (by omega))
        have HRI := Lib.hid (fun (W : World) (hW : Below wb.heap.size wb W) => rights_any W _ A n c l (hLl.below hW) (by omega))
        clear hT hbk hk hlt hR hLl hB
        rcases H3.out.2 with ⟨hrf, rfl, rfl⟩ | ⟨hrt, rfl, g, rfl, hch⟩
        · rw [hrf] at HRR HRI
          clear hrf
          go_wp2_with (first
            | (go_at_call 12; (with_reducible refine (HRR.out wb (Below.refl _ _)).mono ?_); rintro e w5 ⟨rfl, b5⟩; have B5 := Lib.hid b5; clear b5)
            | (go_at_call 13; (with_reducible refine (HRI.out w5 B5.out).mono ?_); rintro e w6 ⟨rfl, b6⟩; have B6 := Lib.hid (below_next B5.out b6); clear b6)
            | (go_at_call 12; (with_reducible refine (HRR.out w6 B6.out).mono ?_); rintro e w7 ⟨rfl, b7⟩; have B7 := Lib.hid (below_next B6.out b7); clear b7)
            | (go_at_call 8; (refine (works_any _).mono ?_); rintro e w8 ⟨rfl, b8⟩; have B8 := Lib.hid (below_next B7.out b8); clear b8))
          go_ret
          exact ⟨rfl, below_next H4.out.2.2 B8.out⟩
        · rw [hrt] at HRR HRI
          have hc4 := hch.turn HT.out (fun b h e => by omega)
          have HC4 := Lib.hid (And.intro hc4 hrt)
          clear hrt hch hc4
          go_wp2_with (first
            | (go_at_call 12; (with_reducible refine (HRR.out wb (Below.refl _ _)).mono ?_); rintro e w5 ⟨rfl, b5⟩; have B5 := Lib.hid b5; clear b5)
            | (go_at_call 13; (with_reducible refine (HRI.out w5 B5.out).mono ?_); rintro e w6 ⟨rfl, b6⟩; have B6 := Lib.hid (below_next B5.out b6); clear b6)
            | (go_at_call 12; (with_reducible refine (HRR.out w6 B6.out).mono ?_); rintro e w7 ⟨rfl, b7⟩; have B7 := Lib.hid (below_next B6.out b7); clear b7))
          go_loopw [12] (fun i wr => ∃ t : Nat, t ≤ 2 ∧ i = .int .i64 (t : Int) ∧ Below wb.heap.size wb wr) (fun i _ => 2 - (intOf i).toNat)
          case atStart => exact ⟨0, Nat.zero_le _, rfl, B7.out⟩
          case round =>
            obtain ⟨t, hk, rfl, hh⟩ := hrel
            by_cases hlt : t < 2
            · have i3 : (t : Int) < 2 := by omega
              have hl100 : l.length ≤ 100000 := by have := H.out.2; omega
              obtain ⟨⟨aa, ok⟩, hp⟩ : ∃ p, Cn.at_ l a = p := ⟨_, rfl⟩
              obtain ⟨⟨nv, nb⟩, hq⟩ : ∃ p, Cn.next l a = p := ⟨_, rfl⟩
              obtain ⟨df, hdf⟩ : ∃ p, Cn.differs l a b = p := ⟨_, rfl⟩
              have hdf2 := Cn.differs_ref HC4.out.2 a b
              rw [hdf] at hdf2
              obtain ⟨gb, hgb⟩ : ∃ p, Cn.isAt l a b = p := ⟨_, rfl⟩
              have N1 := Lib.hid (fun (W : World) (hW : Below wb.heap.size wb W) => in_at (HC4.out.1.below hW) hl100 a)
              have N2 := Lib.hid (fun (W : World) (hW : Below wb.heap.size wb W) => refAt_any W _ A1 n c1 l a (H4.out.1.below hW) (by omega) HC4.out.2)
              have N3 := Lib.hid (fun (W : World) (hW : Below wb.heap.size wb W) => in_next (HC4.out.1.below hW) hl100 a)
              have N4 := Lib.hid (fun (W : World) (hW : Below wb.heap.size wb W) => refNext_any W _ A1 n c1 l a (H4.out.1.below hW) (by omega))
              have N5 := Lib.hid (fun (W : World) (hW : Below wb.heap.size wb W) => in_differs (HC4.out.1.below hW) hl100 a b)
              have N6 := Lib.hid (fun (W : World) (hW : Below wb.heap.size wb W) => refDiffers_any W _ A1 n c1 l a b (H4.out.1.below hW) (by omega) HC4.out.2)
              have N7 := Lib.hid (fun (W : World) (hW : Below wb.heap.size wb W) => in_garbage (HC4.out.1.below hW) hl100 a b)
              have N8 := Lib.hid (fun (W : World) (hW : Below wb.heap.size wb W) => refGarbage_any W _ A1 n c1 l a b (H4.out.1.below hW) (by omega) HC4.out.2)
              have N9 := Lib.hid (fun (W : World) (hW : Below wb.heap.size wb W) => in_len (HC4.out.1.below hW))
              have N10 := Lib.hid (fun (W : World) (hW : Below wb.heap.size wb W) => in_versions (HC4.out.1.below hW) hl100)
              rw [hp] at N1 N2
              rw [hq] at N3 N4
              rw [hdf] at N5
              rw [← hdf2] at N6
              rw [hgb] at N7 N8
              rw [H.out.2] at N9
              unfold AtP at N1 N2
              unfold NextP at N3 N4
              unfold VrP at N10
              rw [H.out.2] at N10
              dsimp only at N1 N2 N3 N4
              have HREFS := Lib.hid (fun W : World => refs_any (W.alloc (.cells (verC nv).toArray 35)) (fun b => W.heap.size ≤ b) (some ⟨W.heap.size, 0, none⟩) 1 1 [nv] (Cells.of_own (own_ver W 35 nv)) (by omega))
              unfold verC at HREFS
              have HH := Lib.hid hh
              clear hp hq hdf hdf2 hgb hh hk
              go_wp2_with fail
              refine (N1.out wr HH.out).mono ?_
              rintro e w8 ⟨rfl, b8⟩
              have K1 := ((Held.start wr).step b8).new #[.int .i64 aa.c, .int .i64 aa.s, .int .i64 aa.lo, .int .i64 aa.hi] 33
              have HK1 := Lib.hid (And.intro K1 (below_next HH.out K1.1))
              clear b8 K1
              go_wp2_with fail
              refine (N2.out _ HK1.out.2).mono ?_
              rintro e w9 ⟨rfl, b9⟩
              have K2 := (HK1.out.1.step b9).new #[.int .i64 aa.c, .int .i64 aa.s, .int .i64 aa.lo, .int .i64 aa.hi] 40
              have HK2 := Lib.hid (And.intro K2 (below_next HH.out K2.1))
              clear b9 K2
              go_wp2_with fail
              refine (N3.out _ HK2.out.2).mono ?_
              rintro e w10 ⟨rfl, b10⟩
              have K3 := (HK2.out.1.step b10).new #[.int .u64 (nv.e : Int), .bool nv.d, .int .i64 nv.a.c, .int .i64 nv.a.s, .int .i64 nv.a.lo, .int .i64 nv.a.hi] 35
              have HK3 := Lib.hid (And.intro K3 (below_next HH.out K3.1))
              clear b10 K3
              go_wp2_with fail
              refine (N4.out _ HK3.out.2).mono ?_
              rintro e w11 ⟨rfl, b11⟩
              have K4 := (HK3.out.1.step b11).new #[.int .u64 (nv.e : Int), .bool nv.d, .int .i64 nv.a.c, .int .i64 nv.a.s, .int .i64 nv.a.lo, .int .i64 nv.a.hi] 46
              have HK4 := Lib.hid (And.intro K4 (below_next HH.out K4.1))
              clear b11 K4
              go_upto_region 21 with fail
              obtain ⟨x13, h13⟩ : ∃ x, w8.heap.size = x := ⟨_, rfl⟩
              obtain ⟨x15, h15⟩ : ∃ x, w9.heap.size = x := ⟨_, rfl⟩
              obtain ⟨x17, h17⟩ : ∃ x, w10.heap.size = x := ⟨_, rfl⟩
              obtain ⟨x19, h19⟩ : ∃ x, w11.heap.size = x := ⟨_, rfl⟩
              obtain ⟨wx, hwx⟩ : ∃ wx, w11.alloc (.cells #[.int .u64 (nv.e : Int), .bool nv.d, .int .i64 nv.a.c, .int .i64 nv.a.s, .int .i64 nv.a.lo, .int .i64 nv.a.hi] 46) = wx := ⟨_, rfl⟩
              have K5 := HK4.out.1
              have hXB := HK4.out.2
              rw [hwx] at hXB K5
              rw [h13, h15, h17, h19] at K5
              rw [hwx, h13, h15, h17, h19]
              have HX := Lib.hid hXB
              have HC : Hid (∀ X : World, Below wx.heap.size wx X → (X.cell? ⟨x13, 0, none⟩ = some (.int .i64 aa.c) ∧ X.cell? ⟨x13, 1, none⟩ = some (.int .i64 aa.s) ∧ X.cell? ⟨x13, 2, none⟩ = some (.int .i64 aa.lo) ∧ X.cell? ⟨x13, 3, none⟩ = some (.int .i64 aa.hi)) ∧ (X.cell? ⟨x15, 0, none⟩ = some (.int .i64 aa.c) ∧ X.cell? ⟨x15, 1, none⟩ = some (.int .i64 aa.s) ∧ X.cell? ⟨x15, 2, none⟩ = some (.int .i64 aa.lo) ∧ X.cell? ⟨x15, 3, none⟩ = some (.int .i64 aa.hi)) ∧ (X.cell? ⟨x17, 0, none⟩ = some (.int .u64 (nv.e : Int)) ∧ X.cell? ⟨x17, 1, none⟩ = some (.bool nv.d) ∧ X.cell? ⟨x17, 2, none⟩ = some (.int .i64 nv.a.c) ∧ X.cell? ⟨x17, 3, none⟩ = some (.int .i64 nv.a.s) ∧ X.cell? ⟨x17, 4, none⟩ = some (.int .i64 nv.a.lo) ∧ X.cell? ⟨x17, 5, none⟩ = some (.int .i64 nv.a.hi)) ∧ (X.cell? ⟨x19, 0, none⟩ = some (.int .u64 (nv.e : Int)) ∧ X.cell? ⟨x19, 1, none⟩ = some (.bool nv.d) ∧ X.cell? ⟨x19, 2, none⟩ = some (.int .i64 nv.a.c) ∧ X.cell? ⟨x19, 3, none⟩ = some (.int .i64 nv.a.s) ∧ X.cell? ⟨x19, 4, none⟩ = some (.int .i64 nv.a.lo) ∧ X.cell? ⟨x19, 5, none⟩ = some (.int .i64 nv.a.hi))) := Lib.hid fun X hX => by
                have k := K5.step hX
                exact ⟨⟨k.drop.drop.drop.top.cell 0, k.drop.drop.drop.top.cell 1, k.drop.drop.drop.top.cell 2, k.drop.drop.drop.top.cell 3⟩, ⟨k.drop.drop.top.cell 0, k.drop.drop.top.cell 1, k.drop.drop.top.cell 2, k.drop.drop.top.cell 3⟩, ⟨k.drop.top.cell 0, k.drop.top.cell 1, k.drop.top.cell 2, k.drop.top.cell 3, k.drop.top.cell 4, k.drop.top.cell 5⟩, ⟨k.top.cell 0, k.top.cell 1, k.top.cell 2, k.top.cell 3, k.top.cell 4, k.top.cell 5⟩⟩
              have D : Hid (Below wx.heap.size wx wx.drew) := Lib.hid (Below.refl _ _).drew
              have q1 := fun W => rver_self nv W
              have g1 := rver_guard
              have e1 : (ok != ok) = false := by simp
              have e2 : (df != df) = false := by simp
              have e3 : (nb != nb) = false := by simp
              have e4 : (gb != gb) = false := by simp
              clear hXB K5 hwx h13 h15 h17 h19
              go_region_held3 (fun X : World => (X.cell? ⟨x13, 0, none⟩ = some (.int .i64 aa.c) ∧ X.cell? ⟨x13, 1, none⟩ = some (.int .i64 aa.s) ∧ X.cell? ⟨x13, 2, none⟩ = some (.int .i64 aa.lo) ∧ X.cell? ⟨x13, 3, none⟩ = some (.int .i64 aa.hi)) ∧ (X.cell? ⟨x15, 0, none⟩ = some (.int .i64 aa.c) ∧ X.cell? ⟨x15, 1, none⟩ = some (.int .i64 aa.s) ∧ X.cell? ⟨x15, 2, none⟩ = some (.int .i64 aa.lo) ∧ X.cell? ⟨x15, 3, none⟩ = some (.int .i64 aa.hi)) ∧ (X.cell? ⟨x17, 0, none⟩ = some (.int .u64 (nv.e : Int)) ∧ X.cell? ⟨x17, 1, none⟩ = some (.bool nv.d) ∧ X.cell? ⟨x17, 2, none⟩ = some (.int .i64 nv.a.c) ∧ X.cell? ⟨x17, 3, none⟩ = some (.int .i64 nv.a.s) ∧ X.cell? ⟨x17, 4, none⟩ = some (.int .i64 nv.a.lo) ∧ X.cell? ⟨x17, 5, none⟩ = some (.int .i64 nv.a.hi)) ∧ (X.cell? ⟨x19, 0, none⟩ = some (.int .u64 (nv.e : Int)) ∧ X.cell? ⟨x19, 1, none⟩ = some (.bool nv.d) ∧ X.cell? ⟨x19, 2, none⟩ = some (.int .i64 nv.a.c) ∧ X.cell? ⟨x19, 3, none⟩ = some (.int .i64 nv.a.s) ∧ X.cell? ⟨x19, 4, none⟩ = some (.int .i64 nv.a.lo) ∧ X.cell? ⟨x19, 5, none⟩ = some (.int .i64 nv.a.hi))) (first | exact HC2.out _ D6.out | exact HC.out _ D.out | exact HC.out _ (D.out.alloc D.out.size _)) (first
                | (go_at_call 18; (refine (is_yes _ aa).mono ?_); rintro e w12 ⟨rfl, b12⟩; replace D : Hid (Below wx.heap.size wx w12) := Lib.hid (below_next D.out b12); clear b12)
                | (go_at_call 19; (refine (N5.out _ (below_next HX.out D.out)).mono ?_); rintro e w13 ⟨rfl, b13⟩; replace D : Hid (Below wx.heap.size wx w13) := Lib.hid (below_next D.out b13); clear b13)
                | (go_at_call 20; (refine (N6.out _ (below_next HX.out D.out)).mono ?_); rintro e w14 ⟨rfl, b14⟩; replace D : Hid (Below wx.heap.size wx w14) := Lib.hid (below_next D.out b14); clear b14)
                | (go_at_call 9; (refine (HREFS.out _).mono ?_); rintro e w15 ⟨A6, c6, rfl, ho6, b15⟩
                   obtain ⟨b6, o6, hA6, -, hlt6, x0, x1, x2, x3, x4, x5⟩ := vr_cells (Cells.of_own ho6) (i := 0) (x := nv) rfl
                   subst hA6
                   simp only [Nat.zero_mul, Nat.add_zero] at x0 x1 x2 x3 x4 x5
                   replace D : Hid (Below wx.heap.size wx w15) := Lib.hid (below_next (D.out.alloc D.out.size _) b15)
                   have D6 : Hid (Below w15.heap.size w15 w15) := Lib.hid (Below.refl _ _)
                   have HC2 : Hid (∀ X : World, Below w15.heap.size w15 X → (X.cell? ⟨x13, 0, none⟩ = some (.int .i64 aa.c) ∧ X.cell? ⟨x13, 1, none⟩ = some (.int .i64 aa.s) ∧ X.cell? ⟨x13, 2, none⟩ = some (.int .i64 aa.lo) ∧ X.cell? ⟨x13, 3, none⟩ = some (.int .i64 aa.hi)) ∧ (X.cell? ⟨x15, 0, none⟩ = some (.int .i64 aa.c) ∧ X.cell? ⟨x15, 1, none⟩ = some (.int .i64 aa.s) ∧ X.cell? ⟨x15, 2, none⟩ = some (.int .i64 aa.lo) ∧ X.cell? ⟨x15, 3, none⟩ = some (.int .i64 aa.hi)) ∧ (X.cell? ⟨x17, 0, none⟩ = some (.int .u64 (nv.e : Int)) ∧ X.cell? ⟨x17, 1, none⟩ = some (.bool nv.d) ∧ X.cell? ⟨x17, 2, none⟩ = some (.int .i64 nv.a.c) ∧ X.cell? ⟨x17, 3, none⟩ = some (.int .i64 nv.a.s) ∧ X.cell? ⟨x17, 4, none⟩ = some (.int .i64 nv.a.lo) ∧ X.cell? ⟨x17, 5, none⟩ = some (.int .i64 nv.a.hi)) ∧ (X.cell? ⟨x19, 0, none⟩ = some (.int .u64 (nv.e : Int)) ∧ X.cell? ⟨x19, 1, none⟩ = some (.bool nv.d) ∧ X.cell? ⟨x19, 2, none⟩ = some (.int .i64 nv.a.c) ∧ X.cell? ⟨x19, 3, none⟩ = some (.int .i64 nv.a.s) ∧ X.cell? ⟨x19, 4, none⟩ = some (.int .i64 nv.a.lo) ∧ X.cell? ⟨x19, 5, none⟩ = some (.int .i64 nv.a.hi)) ∧ (X.cell? ⟨b6, o6, none⟩ = some (.int .u64 (nv.e : Int)) ∧ X.cell? ⟨b6, o6 + 1, none⟩ = some (.bool nv.d) ∧ X.cell? ⟨b6, o6 + 2, none⟩ = some (.int .i64 nv.a.c) ∧ X.cell? ⟨b6, o6 + 3, none⟩ = some (.int .i64 nv.a.s) ∧ X.cell? ⟨b6, o6 + 4, none⟩ = some (.int .i64 nv.a.lo) ∧ X.cell? ⟨b6, o6 + 5, none⟩ = some (.int .i64 nv.a.hi))) := Lib.hid fun X hX => by
                     obtain ⟨k1, k2, k3, k4⟩ := HC.out X (below_next D.out hX)
                     exact ⟨k1, k2, k3, k4, (hX.cell (p := ⟨b6, o6, none⟩) hlt6).trans x0, (hX.cell (p := ⟨b6, o6 + 1, none⟩) hlt6).trans x1, (hX.cell (p := ⟨b6, o6 + 2, none⟩) hlt6).trans x2, (hX.cell (p := ⟨b6, o6 + 3, none⟩) hlt6).trans x3, (hX.cell (p := ⟨b6, o6 + 4, none⟩) hlt6).trans x4, (hX.cell (p := ⟨b6, o6 + 5, none⟩) hlt6).trans x5⟩
                   simp only [grow (S := fun X : World => (X.cell? ⟨x13, 0, none⟩ = some (.int .i64 aa.c) ∧ X.cell? ⟨x13, 1, none⟩ = some (.int .i64 aa.s) ∧ X.cell? ⟨x13, 2, none⟩ = some (.int .i64 aa.lo) ∧ X.cell? ⟨x13, 3, none⟩ = some (.int .i64 aa.hi)) ∧ (X.cell? ⟨x15, 0, none⟩ = some (.int .i64 aa.c) ∧ X.cell? ⟨x15, 1, none⟩ = some (.int .i64 aa.s) ∧ X.cell? ⟨x15, 2, none⟩ = some (.int .i64 aa.lo) ∧ X.cell? ⟨x15, 3, none⟩ = some (.int .i64 aa.hi)) ∧ (X.cell? ⟨x17, 0, none⟩ = some (.int .u64 (nv.e : Int)) ∧ X.cell? ⟨x17, 1, none⟩ = some (.bool nv.d) ∧ X.cell? ⟨x17, 2, none⟩ = some (.int .i64 nv.a.c) ∧ X.cell? ⟨x17, 3, none⟩ = some (.int .i64 nv.a.s) ∧ X.cell? ⟨x17, 4, none⟩ = some (.int .i64 nv.a.lo) ∧ X.cell? ⟨x17, 5, none⟩ = some (.int .i64 nv.a.hi)) ∧ (X.cell? ⟨x19, 0, none⟩ = some (.int .u64 (nv.e : Int)) ∧ X.cell? ⟨x19, 1, none⟩ = some (.bool nv.d) ∧ X.cell? ⟨x19, 2, none⟩ = some (.int .i64 nv.a.c) ∧ X.cell? ⟨x19, 3, none⟩ = some (.int .i64 nv.a.s) ∧ X.cell? ⟨x19, 4, none⟩ = some (.int .i64 nv.a.lo) ∧ X.cell? ⟨x19, 5, none⟩ = some (.int .i64 nv.a.hi))) (S' := fun X : World => (X.cell? ⟨x13, 0, none⟩ = some (.int .i64 aa.c) ∧ X.cell? ⟨x13, 1, none⟩ = some (.int .i64 aa.s) ∧ X.cell? ⟨x13, 2, none⟩ = some (.int .i64 aa.lo) ∧ X.cell? ⟨x13, 3, none⟩ = some (.int .i64 aa.hi)) ∧ (X.cell? ⟨x15, 0, none⟩ = some (.int .i64 aa.c) ∧ X.cell? ⟨x15, 1, none⟩ = some (.int .i64 aa.s) ∧ X.cell? ⟨x15, 2, none⟩ = some (.int .i64 aa.lo) ∧ X.cell? ⟨x15, 3, none⟩ = some (.int .i64 aa.hi)) ∧ (X.cell? ⟨x17, 0, none⟩ = some (.int .u64 (nv.e : Int)) ∧ X.cell? ⟨x17, 1, none⟩ = some (.bool nv.d) ∧ X.cell? ⟨x17, 2, none⟩ = some (.int .i64 nv.a.c) ∧ X.cell? ⟨x17, 3, none⟩ = some (.int .i64 nv.a.s) ∧ X.cell? ⟨x17, 4, none⟩ = some (.int .i64 nv.a.lo) ∧ X.cell? ⟨x17, 5, none⟩ = some (.int .i64 nv.a.hi)) ∧ (X.cell? ⟨x19, 0, none⟩ = some (.int .u64 (nv.e : Int)) ∧ X.cell? ⟨x19, 1, none⟩ = some (.bool nv.d) ∧ X.cell? ⟨x19, 2, none⟩ = some (.int .i64 nv.a.c) ∧ X.cell? ⟨x19, 3, none⟩ = some (.int .i64 nv.a.s) ∧ X.cell? ⟨x19, 4, none⟩ = some (.int .i64 nv.a.lo) ∧ X.cell? ⟨x19, 5, none⟩ = some (.int .i64 nv.a.hi)) ∧ (X.cell? ⟨b6, o6, none⟩ = some (.int .u64 (nv.e : Int)) ∧ X.cell? ⟨b6, o6 + 1, none⟩ = some (.bool nv.d) ∧ X.cell? ⟨b6, o6 + 2, none⟩ = some (.int .i64 nv.a.c) ∧ X.cell? ⟨b6, o6 + 3, none⟩ = some (.int .i64 nv.a.s) ∧ X.cell? ⟨b6, o6 + 4, none⟩ = some (.int .i64 nv.a.lo) ∧ X.cell? ⟨b6, o6 + 5, none⟩ = some (.int .i64 nv.a.hi))) (fun _ h => ⟨h.1, h.2.1, h.2.2.1, h.2.2.2.1⟩) ‹Shut _›] at *
                   clear ho6 b15 x0 x1 x2 x3 x4 x5 hlt6)
                | (go_at_call 21; (refine (N7.out _ (below_next HX.out D.out)).mono ?_); rintro e w16 ⟨rfl, b16⟩; replace D : Hid (Below wx.heap.size wx w16) := Lib.hid (below_next D.out b16); replace D6 : Hid (Below w15.heap.size w15 w16) := Lib.hid (below_next D6.out b16); clear b16)
                | (go_at_call 22; (refine (N8.out _ (below_next HX.out D.out)).mono ?_); rintro e w17 ⟨rfl, b17⟩; replace D : Hid (Below wx.heap.size wx w17) := Lib.hid (below_next D.out b17); replace D6 : Hid (Below w15.heap.size w15 w17) := Lib.hid (below_next D6.out b17); clear b17)
                | (go_at_call 23; (refine (N9.out _ (below_next HX.out D.out)).mono ?_); rintro e w18 ⟨rfl, b18⟩; replace D : Hid (Below wx.heap.size wx w18) := Lib.hid (below_next D.out b18); replace D6 : Hid (Below w15.heap.size w15 w18) := Lib.hid (below_next D6.out b18); clear b18))
              have HXD := Lib.hid (below_next HX.out D.out)
              clear D D6 HC HC2
              go_wp2_with fail
              refine (N10.out _ HXD.out).mono ?_
              rintro e w21 ⟨A7, c7, rfl, ho7, b21⟩
              have H7 := Lib.hid (And.intro ho7 (below_next HXD.out b21))
              clear b21 ho7
              go_wp2_with fail
              refine (same_yes w21 _ _ A7 A1 n c7 c1 l (Cells.of_own H7.out.1) (H4.out.1.below H7.out.2) (by omega)).mono ?_
              rintro e w22 ⟨rfl, b22⟩
              have H8 := Lib.hid (And.intro (own_below H7.out.1 b22) (below_next H7.out.2 b22))
              clear b22
              have HXS := Lib.hid HXD.out.size
              go_wp2_with fail
              go_loopw [22] (fun i wr => ∃ j : Nat, j ≤ n ∧ i = .int .i64 (j : Int) ∧ Turns (fun x => wb.heap.size ≤ x) w22 wr ∧ (0 < n → ∃ g cs, A7 = some ⟨g, 0, none⟩ ∧ Blk wr g 35 cs ∧ n * 6 ≤ cs.size ∧ wb.heap.size ≤ g)) (fun i _ => n - (intOf i).toNat)
              case atStart => exact ⟨0, Nat.zero_le _, rfl, Turns.refl _ _, fun h0 => by
                obtain ⟨g, cs, e1, e2, e3, e4⟩ := own_blk H8.out.1 h0
                exact ⟨g, cs, e1, e2, e3, Nat.le_trans HXS.out e4⟩⟩
              case round =>
                obtain ⟨j, hk5, rfl, hT5, hbk5⟩ := hrel
                by_cases hlt5 : j < n
                · have i2 : (0 : Int) ≤ (j : Int) := by omega
                  have i3 : (j : Int) < (n : Int) := by omega
                  obtain ⟨g5, cs5, rfl, hB5, hsz5, hg5⟩ := hbk5 (by omega)
                  have hq : ∀ q, q < 6 → ∃ x, wr.cell? ⟨g5, j * 6 + q, none⟩ = some x := fun q hq => ⟨cs5[j * 6 + q]'(by omega), by rw [hB5.cell]; exact Array.getElem?_eq_getElem (by omega)⟩
                  obtain ⟨x0, z0⟩ := hq 0 (by omega)
                  obtain ⟨x1, z1⟩ := hq 1 (by omega)
                  obtain ⟨x2, z2⟩ := hq 2 (by omega)
                  obtain ⟨x3, z3⟩ := hq 3 (by omega)
                  obtain ⟨x4, z4⟩ := hq 4 (by omega)
                  obtain ⟨x5, z5⟩ := hq 5 (by omega)
                  have f0 := hB5.frozen (j * 6)
                  have f1 := hB5.frozen (j * 6 + 1)
                  have f2 := hB5.frozen (j * 6 + 2)
                  have f3 := hB5.frozen (j * 6 + 3)
                  have f4 := hB5.frozen (j * 6 + 4)
                  have f5 := hB5.frozen (j * 6 + 5)
                  simp only [Nat.add_zero] at z0
                  have HK5 := Lib.hid (And.intro hT5 (And.intro hB5 (And.intro hsz5 hg5)))
                  clear hT5 hB5 hsz5 hg5 hbk5 hq hk5
                  go_wp2_with fail
                  go_roundw
                  case rel =>
                    obtain ⟨cs', e1, e2, e3⟩ := spoil6 (q := j * 6) HK5.out.1 HK5.out.2.1 HK5.out.2.2.2 (.int .u64 0) (.bool false) (.int .i64 0) (.int .i64 0) (.int .i64 0) (.int .i64 0)
                    exact ⟨j + 1, by omega, by go_num, e3, fun _ => ⟨g5, cs', rfl, e1, by rw [e2]; exact HK5.out.2.2.1, HK5.out.2.2.2⟩⟩
                  case measure => simp [intOf]; omega
                · have hjn5 : n = j := by omega
                  subst hjn5
                  have H9 := Lib.hid (H8.out.2.trans (hT5.below H8.out.2.size (fun x h => h)))
                  clear hT5 hbk5 hk5 hlt5
                  go_wp2_with fail
                  go_roundw
                  case rel => exact ⟨t + 1, by omega, by go_num, H9.out⟩
                  case measure => simp [intOf]; omega
            · have ht2 : t = 2 := by omega
              subst ht2
              have HH := Lib.hid hh
              clear hh hk hlt
              go_wp2_with (go_at_call 8; (refine (works_any _).mono ?_); rintro e w20 ⟨rfl, b20⟩; have B20 := Lib.hid b20; clear b20)
              go_ret
              exact ⟨rfl, below_next (below_next H4.out.2.2 HH.out) B20.out⟩
end Go.Proofs.Yteegnehfagkjcaa
