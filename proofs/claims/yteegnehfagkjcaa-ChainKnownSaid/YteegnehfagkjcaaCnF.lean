/- Made by tools/gen/cn.py. -/
/- Layer 15, the program: right, Right, Len, and where an epoch stands. -/
import Derived.Test.YteegnehfagkjcaaCnE
import Derived.Test.YteegnehfagkjcaaAg15
import Derived.Shelf.Abstract
namespace Go.Proofs.Yteegnehfagkjcaa
open Go.ChangeShapes Go.WideShapes Go.ChangeAt Go.RowKit

set_option maxRecDepth 100000 in
set_option maxHeartbeats 1000000 in
theorem vright_any (v : Cn.Ver) (w : World) : Calls Try.prog 37 #[.agg #[.int .u64 (v.e : Int), .bool v.d, .int .i64 v.a.c, .int .i64 v.a.s, .int .i64 v.a.lo, .int .i64 v.a.hi]] w (BoolP w (Cn.vok v)) := by
  obtain ⟨e, d, x⟩ := v
  dsimp only
  have HB := Lib.hid (bel_al w (.cells #[.int .u64 (e : Int), .bool d, .int .i64 x.c, .int .i64 x.s, .int .i64 x.lo, .int .i64 x.hi] 35))
  have HL := Lib.hid (Blk.new w 35 #[.int .u64 (e : Int), .bool d, .int .i64 x.c, .int .i64 x.s, .int .i64 x.lo, .int .i64 x.hi])
  have hR := fun W => right_any x W
  have hK := fun W => blank_any x W
  have hvok : Cn.vok ⟨e, d, x⟩ = (Ag.right x && (d == Ag.blank x)) := rfl
  have hbr : Ag.blank x = true → Ag.right x = true := fun h => by unfold Ag.right; rw [h]; rfl
  rw [hvok]
  clear hvok
  generalize Ag.blank x = b at hK hbr
  generalize Ag.right x = r at hR hbr
  have HR := Lib.hid hR
  have HK := Lib.hid hK
  clear hR hK
  cases d with
  | true =>
    have hv : (r && (true == b)) = b := by
      cases b
      · simp
      · rw [hbr rfl]; rfl
    rw [hv]
    clear hv hbr
    go_enter Try.func37, Try.ntmps37
    go_wp2_with (go_at_call 44; (with_reducible refine (HK.out _).mono ?_); rintro y w1 ⟨rfl, b1⟩; have B1 := Lib.hid b1; clear b1)
    go_ret
    exact ⟨rfl, HB.out.trans (B1.out.mono HB.out.size)⟩
  | false =>
    clear hbr
    cases r with
    | false =>
      go_enter Try.func37, Try.ntmps37
      go_wp2_with (go_at_call 45; (with_reducible refine (HR.out _).mono ?_); rintro y w1 ⟨rfl, b1⟩; have B1 := Lib.hid b1; clear b1)
      go_ret
      exact ⟨rfl, HB.out.trans (B1.out.mono HB.out.size)⟩
    | true =>
      go_enter Try.func37, Try.ntmps37
      go_wp2_with (first
        | (go_at_call 45; (with_reducible refine (HR.out _).mono ?_); rintro y w1 ⟨rfl, b1⟩; have hb := HL.out.below b1 HL.out.lt; have c2 := hb.cell 2; have c3 := hb.cell 3; have c4 := hb.cell 4; have c5 := hb.cell 5; simp only [List.getElem?_toArray, List.getElem?_cons_zero, List.getElem?_cons_succ] at c2 c3 c4 c5; have B1 := Lib.hid b1; clear b1 hb)
        | (go_at_call 44; (with_reducible refine (HK.out _).mono ?_); rintro y w2 ⟨rfl, b2⟩; have B2 := Lib.hid (below_next B1.out b2); clear b2))
      go_ret
      exact ⟨by cases b <;> rfl, HB.out.trans (B2.out.mono HB.out.size)⟩
set_option maxRecDepth 100000 in
set_option maxHeartbeats 4000000 in
theorem rights_any (w : World) (F : Nat → Prop) (A : Option Addr) (n c : Nat) (l : List Cn.Ver) (h : Cells w F A n 6 (vrL l)) (hn : n ≤ 1000000) : Calls Try.prog 13 #[.slice A n c] w (BoolP w (Cn.right l)) := by
  have hln := vr_len h
  have H := Lib.hid (And.intro h hln)
  clear h hln
  go_enter Try.func13, Try.ntmps13
  go_wp2_with fail
  go_loopw [8, 3] (fun i p wr => ∃ j : Nat, j ≤ n ∧ Cn.okTo l j = true ∧ i = .int .i64 (j : Int) ∧ p = .int .u64 (Cn.prev l j : Int) ∧ Below w.heap.size w wr) (fun i _ _ => n - (intOf i).toNat)
  case atStart => exact ⟨0, Nat.zero_le _, rfl, rfl, rfl, Below.refl _ _⟩
  case round =>
    obtain ⟨j, hk, hu, rfl, rfl, hh⟩ := hrel
    by_cases hlt : j < n
    · have i2 : (0 : Int) ≤ (j : Int) := by omega
      have i3 : (j : Int) < (n : Int) := by omega
      have hsu := Cn.okTo_succ l j
      rw [hu, Bool.true_and] at hsu
      have hok : Cn.okAt l j = (decide (Cn.prev l j < (Cn.ix l j).e) && Cn.vok (Cn.ix l j)) := rfl
      have hpv : Cn.prev l (j + 1) = (Cn.ix l j).e := by unfold Cn.prev; rw [if_neg (by omega), Nat.add_sub_cancel]
      have yhy := Cn.ix_some (l := l) (i := j) (by have := H.out.2; omega)
      obtain ⟨y, yeq⟩ : ∃ y, Cn.ix l j = y := ⟨_, rfl⟩
      rw [yeq] at yhy
      obtain ⟨b, off, rfl, -, yhbl, z0, z1, z2, z3, z4, z5⟩ := vr_cells H.out.1 yhy
      have y0 := (hh.cell (p := ⟨b, off + j * 6, none⟩) yhbl).trans z0
      have y1 := (hh.cell (p := ⟨b, off + j * 6 + 1, none⟩) yhbl).trans z1
      have y2 := (hh.cell (p := ⟨b, off + j * 6 + 2, none⟩) yhbl).trans z2
      have y3 := (hh.cell (p := ⟨b, off + j * 6 + 3, none⟩) yhbl).trans z3
      have y4 := (hh.cell (p := ⟨b, off + j * 6 + 4, none⟩) yhbl).trans z4
      have y5 := (hh.cell (p := ⟨b, off + j * 6 + 5, none⟩) yhbl).trans z5
      clear z0 z1 z2 z3 z4 z5
      obtain ⟨p, hp⟩ : ∃ p, Cn.prev l j = p := ⟨_, rfl⟩
      rw [hp, yeq] at hok
      rw [yeq] at hpv
      rw [hp]
      have HV : Hid (∀ X, Calls Try.prog 37 #[.agg #[.int .u64 (y.e : Int), .bool y.d, .int .i64 y.a.c, .int .i64 y.a.s, .int .i64 y.a.lo, .int .i64 y.a.hi]] X (BoolP X (Cn.vok y))) := Lib.hid fun X => vright_any y X
      obtain ⟨r, hr⟩ : ∃ r, Cn.vok y = r := ⟨_, rfl⟩
      rw [hr] at hok HV
      have HL := Lib.hid (Blk.new wr 35 #[.int .u64 (y.e : Int), .bool y.d, .int .i64 y.a.c, .int .i64 y.a.s, .int .i64 y.a.lo, .int .i64 y.a.hi])
      have HK := Lib.hid (And.intro hsu (And.intro hok (And.intro hpv hh)))
      clear hsu hok hpv hh hu hk yeq yhy hp hr
      by_cases h1 : p < y.e
      · have d1 : ¬ (y.e : Int) ≤ (p : Int) := by omega
        have HX := Lib.hid h1
        clear h1
        cases r with
        | true =>
          go_wp2_with (go_at_call 37; (with_reducible refine (HV.out _).mono ?_); rintro q w1 ⟨rfl, b1⟩; have c0 := (HL.out.below b1 HL.out.lt).cell 0; simp only [List.getElem?_toArray, List.getElem?_cons_zero] at c0; have B1 := Lib.hid b1; clear b1)
          go_roundw
          case rel => exact ⟨j + 1, by omega, by rw [HK.out.1, HK.out.2.1, decide_eq_true HX.out]; rfl, by go_num, by rw [HK.out.2.2.1], HK.out.2.2.2.trans ((bel_al _ _).trans (B1.out.mono (bel_al _ _).size) |>.mono HK.out.2.2.2.size)⟩
          case measure => simp [intOf]; omega
        | false =>
          have hf : Cn.right l = false := Cn.right_false (i := j) (by have := H.out.2; omega) (by rw [HK.out.2.1, Bool.and_false])
          have HF := Lib.hid hf
          clear hf
          go_wp2_with (go_at_call 37; (with_reducible refine (HV.out _).mono ?_); rintro q w1 ⟨rfl, b1⟩; have B1 := Lib.hid b1; clear b1)
          go_ret
          exact ⟨by rw [HF.out]; rfl, HK.out.2.2.2.trans ((bel_al _ _).trans (B1.out.mono (bel_al _ _).size) |>.mono HK.out.2.2.2.size)⟩
      · have d1 : (y.e : Int) ≤ (p : Int) := by omega
        have hf : Cn.right l = false := Cn.right_false (i := j) (by have := H.out.2; omega) (by rw [HK.out.2.1, decide_eq_false h1, Bool.false_and])
        have HF := Lib.hid hf
        clear h1 hf
        go_wp2_with fail
        go_ret
        exact ⟨by rw [HF.out]; rfl, HK.out.2.2.2.alloc HK.out.2.2.2.size _⟩
    · obtain rfl : j = n := by omega
      have hf : Cn.right l = true := by rw [← Cn.okTo_all, H.out.2]; exact hu
      have HK := Lib.hid (And.intro hf hh)
      clear hf hh hu hk hlt
      go_wp2_with fail
      go_ret
      exact ⟨by rw [HK.out.1]; rfl, HK.out.2⟩
/-- A chain in block g: its slice at A, of n versions; so many were cut off. -/
structure ChAt (w : World) (g : Nat) (A : Option Addr) (n c sp : Nat) (l : List Cn.Ver) : Prop where
  blk : Blk w g 75 #[.slice A n c, .int .i64 (sp : Int)]
  row : OwF w (fun _ => True) 35 6 A n c (vrL l)
  len : l.length = n
  spl : sp ≤ n
  right : Cn.right l = true
theorem ChAt.below {w w' : World} {g n c sp : Nat} {A : Option Addr} {l : List Cn.Ver} (h : ChAt w g A n c sp l) (hb : Below w.heap.size w w') : ChAt w' g A n c sp l := ⟨h.blk.below hb h.blk.lt, h.row.below hb, h.len, h.spl, h.right⟩
def IntP (w : World) (k : Int) (e : Ending) (w' : World) : Prop := e = .returned (.int .i64 k) ∧ Below w.heap.size w w'
set_option maxRecDepth 100000 in
theorem len_any (w : World) (g n c sp : Nat) (A : Option Addr) (l : List Cn.Ver) (h : ChAt w g A n c sp l) : Calls Try.prog 23 #[.pointer (some ⟨g, 0, none⟩)] w (IntP w (n : Int)) := by
  have q0 := h.blk.cell 0
  simp only [List.getElem?_toArray, List.getElem?_cons_zero] at q0
  clear h
  go_enter Try.func23, Try.ntmps23
  go_wp2_with fail
  go_ret
  exact ⟨rfl, Below.refl _ _⟩
set_option maxRecDepth 100000 in
theorem len_nil (w : World) : Calls Try.prog 23 #[.pointer none] w (IntP w 0) := by
  go_enter Try.func23, Try.ntmps23
  go_wp2_with fail
  go_ret
  exact ⟨rfl, Below.refl _ _⟩
set_option maxRecDepth 100000 in
set_option maxHeartbeats 1000000 in
theorem upto1_any (w : World) (g n c sp b1 b2 x i : Nat) (A : Option Addr) (l : List Cn.Ver) (h : ChAt w g A n c sp l) (h1 : Blk w b1 28 #[.pointer (some ⟨g, 0, none⟩)]) (h2 : Blk w b2 23 #[.int .u64 (x : Int)]) (hi : i < n) : Calls Try.prog 47 #[.int .i64 (i : Int), .pointer (some ⟨b1, 0, none⟩), .pointer (some ⟨b2, 0, none⟩)] w (BoolP w (decide (x < (Cn.ix l i).e))) := by
  have p0 := h1.cell 0
  have r0 := h2.cell 0
  have i2 : (0 : Int) ≤ (i : Int) := by omega
  have i3 : (i : Int) < (n : Int) := by omega
  have yhy := Cn.ix_some (l := l) (i := i) (by have := h.len; omega)
  obtain ⟨y, yeq⟩ : ∃ y, Cn.ix l i = y := ⟨_, rfl⟩
  rw [yeq] at yhy
  obtain ⟨b, off, rfl, -, yhbl, z0, z1, z2, z3, z4, z5⟩ := vr_cells h.row.cells yhy
  have y0 := ((Below.refl w.heap.size w).cell (p := ⟨b, off + i * 6, none⟩) yhbl).trans z0
  have y1 := ((Below.refl w.heap.size w).cell (p := ⟨b, off + i * 6 + 1, none⟩) yhbl).trans z1
  have y2 := ((Below.refl w.heap.size w).cell (p := ⟨b, off + i * 6 + 2, none⟩) yhbl).trans z2
  have y3 := ((Below.refl w.heap.size w).cell (p := ⟨b, off + i * 6 + 3, none⟩) yhbl).trans z3
  have y4 := ((Below.refl w.heap.size w).cell (p := ⟨b, off + i * 6 + 4, none⟩) yhbl).trans z4
  have y5 := ((Below.refl w.heap.size w).cell (p := ⟨b, off + i * 6 + 5, none⟩) yhbl).trans z5
  clear z0 z1 z2 z3 z4 z5
  have q0 := h.blk.cell 0
  simp only [List.getElem?_toArray, List.getElem?_cons_zero] at p0 r0 q0
  rw [yeq]
  clear h h1 h2 yeq yhy yhbl hi y1 y2 y3 y4 y5
  go_enter Try.func47, Try.ntmps47
  go_wp2_with fail
  go_region
  go_wp2_with fail
  go_ret
  exact ⟨rfl, (Below.refl _ _).drew⟩
set_option maxRecDepth 100000 in
set_option maxHeartbeats 1000000 in
theorem search_any (w : World) (n k : Nat) (gf : FuncId) (cap : Array Value) (f : Nat → Bool) (hent : ∀ (args : Array Value) (W : World), (callFunc gf args).run Try.prog W = .ok (.enter gf args) W) (hrun : ∀ (W : World) (i : Nat), Below w.heap.size w W → i < n → Calls Try.prog gf (#[.int .i64 (i : Int)] ++ cap) W (BoolP W (f i)))
    (hk : k ≤ n) (h0 : ∀ i, i < k → f i = false) (h1 : ∀ i, k ≤ i → i < n → f i = true) (hn : n ≤ 1000000) : Calls Try.prog 46 #[.int .i64 (n : Int), .func (.func gf) #[] cap] w (IntP w (k : Int)) := by
  have H := Lib.hid (And.intro hrun (And.intro h0 h1))
  clear hrun h0 h1
  go_enter Try.func46, Try.ntmps46
  go_wp2_with fail
  go_loopw [5, 6] (fun i j wr => ∃ lo hi : Nat, i = .int .i64 (lo : Int) ∧ j = .int .i64 (hi : Int) ∧ lo ≤ k ∧ k ≤ hi ∧ hi ≤ n ∧ Below w.heap.size w wr) (fun i j _ => (intOf j).toNat - (intOf i).toNat)
  case atStart => exact ⟨0, n, rfl, rfl, Nat.zero_le _, hk, Nat.le_refl _, Below.refl _ _⟩
  case round =>
    obtain ⟨lo, hi, rfl, rfl, h1, h2, h3, hh⟩ := hrel
    by_cases hlt : lo < hi
    · have i3 : (lo : Int) < (hi : Int) := by omega
      obtain ⟨m, hm⟩ : ∃ m, (lo + hi) / 2 = m := ⟨_, rfl⟩
      have m1 : lo ≤ m := by omega
      have m2 : m < hi := by omega
      have m3 : hi ≤ 1000000 := by omega
      have hc := H.out.1
      have HK := Lib.hid (And.intro h1 (And.intro h2 (And.intro h3 hh)))
      clear h1 h2 h3 hh hc
      have hmid : ((lo : Int) + (hi : Int)) / 2 = (m : Int) := by omega
      have hw1 : IntKind.i64.wrap ((m : Int) + 1) = (m : Int) + 1 := by rw [IntKind.wrap_i64]; omega
      have HM := Lib.hid hmid
      clear hmid hm
      go_wp2_with fail
      rw [HM.out]
      refine (H.out.1 wr m HK.out.2.2.2 (by have := HK.out.2.2.1; omega)).mono ?_
      rintro e w1 ⟨rfl, b1⟩
      have B1 := Lib.hid (below_next HK.out.2.2.2 b1)
      clear b1
      cases hf : f m with
      | true =>
        have hkm : k ≤ m := by
          rcases Nat.lt_or_ge m k with h | h
          · rw [H.out.2.1 m h] at hf
            cases hf
          · exact h
        have HF := Lib.hid hkm
        clear hf hkm
        go_wp2_with fail
        go_roundw
        case rel => exact ⟨lo, m, rfl, rfl, HK.out.1, HF.out, by have := HK.out.2.2.1; omega, B1.out⟩
        case measure => simp [intOf]; omega
      | false =>
        have hkm : m + 1 ≤ k := by
          rcases Nat.lt_or_ge m k with h | h
          · exact h
          · rw [H.out.2.2 m h (by have := HK.out.2.2.1; omega)] at hf
            cases hf
        have HF := Lib.hid hkm
        clear hf hkm
        go_wp2_with fail
        go_roundw
        case rel => exact ⟨m + 1, hi, by go_num, rfl, HF.out, HK.out.2.1, HK.out.2.2.1, B1.out⟩
        case measure => simp [intOf]; omega
    · obtain rfl : lo = k := by omega
      have HK := Lib.hid hh
      have i3 : ¬ (lo : Int) < (hi : Int) := by omega
      clear hh h1 h2 h3
      go_wp2_with fail
      go_ret
      exact ⟨rfl, HK.out⟩
set_option maxRecDepth 100000 in
set_option maxHeartbeats 1000000 in
theorem upto_any (w : World) (g n c sp x : Nat) (A : Option Addr) (l : List Cn.Ver) (h : ChAt w g A n c sp l) (hn : n ≤ 1000000) : Calls Try.prog 38 #[.pointer (some ⟨g, 0, none⟩), .int .u64 (x : Int)] w (IntP w (Cn.upto l x : Int)) := by
  have hent : ∀ (args : Array Value) (W : World), (callFunc 47 args).run Try.prog W = .ok (.enter 47 args) W := enters_of Try.func47 (by kernel_rfl) rfl
  have hmf : ∀ (fn : Fn) (first cap : Array Value) (w : World), (Instr.makeFunc fn first cap).run Try.prog w = .ok (.func fn first cap) w := fun _ _ _ _ => rfl
  have HE := Lib.hid hent
  have H := Lib.hid h
  clear h hent
  go_enter Try.func38, Try.ntmps38
  go_wp2_with fail
  obtain ⟨w0, hw0⟩ : ∃ w0, (w.alloc (.cells #[.pointer (some ⟨g, 0, none⟩)] 28)).alloc (.cells #[.int .u64 (x : Int)] 23) = w0 := ⟨_, rfl⟩
  have K := ((Held.start w).new #[.pointer (some ⟨g, 0, none⟩)] 28).new #[.int .u64 (x : Int)] 23
  have hz : (w.alloc (.cells #[.pointer (some ⟨g, 0, none⟩)] 28)).heap.size = w.heap.size + 1 := by simp
  rw [hw0, hz] at K
  rw [hw0]
  have HK := Lib.hid K
  clear K hw0 hz
  refine (len_any w0 g n c sp A l (H.out.below HK.out.1)).mono ?_
  rintro e w1 ⟨rfl, b1⟩
  have K1 := Lib.hid (HK.out.step b1)
  clear b1
  go_wp2_with fail
  refine (search_any w1 n (Cn.upto l x) _ #[.pointer (some ⟨w.heap.size, 0, none⟩), .pointer (some ⟨w.heap.size + 1, 0, none⟩)] (fun i => decide (x < (Cn.ix l i).e)) HE.out ?_ (by have := Cn.upto_le l x; have := H.out.len; omega) ?_ ?_ hn).mono ?_
  · intro W i hW hi
    have K2 := K1.out.step hW
    exact upto1_any W g n c sp w.heap.size (w.heap.size + 1) x i A l (H.out.below K2.1) (K2.at_ (by simp)) (K2.at_ (by simp)) hi
  · intro i hi
    exact decide_eq_false (by have := Cn.upto_lt hi; omega)
  · intro i h1 h2
    exact decide_eq_true (Cn.upto_ge H.out.right h1 (by rw [H.out.len]; exact h2))
  · rintro e w2 ⟨rfl, b2⟩
    have K2 := Lib.hid (K1.out.step b2)
    clear b2
    go_wp2_with fail
    go_ret
    exact ⟨rfl, K2.out.1⟩
set_option maxRecDepth 100000 in
set_option maxHeartbeats 1000000 in
theorem upto_nil (w : World) (x : Nat) : Calls Try.prog 38 #[.pointer none, .int .u64 (x : Int)] w (IntP w 0) := by
  have hent : ∀ (args : Array Value) (W : World), (callFunc 47 args).run Try.prog W = .ok (.enter 47 args) W := enters_of Try.func47 (by kernel_rfl) rfl
  have hmf : ∀ (fn : Fn) (first cap : Array Value) (w : World), (Instr.makeFunc fn first cap).run Try.prog w = .ok (.func fn first cap) w := fun _ _ _ _ => rfl
  have HE := Lib.hid hent
  clear hent
  go_enter Try.func38, Try.ntmps38
  go_wp2_with fail
  obtain ⟨w0, hw0⟩ : ∃ w0, (w.alloc (.cells #[.pointer none] 28)).alloc (.cells #[.int .u64 (x : Int)] 23) = w0 := ⟨_, rfl⟩
  have K := ((Held.start w).new #[.pointer none] 28).new #[.int .u64 (x : Int)] 23
  rw [hw0] at K
  rw [hw0]
  have HK := Lib.hid K
  clear K hw0
  refine (len_nil w0).mono ?_
  rintro e w1 ⟨rfl, b1⟩
  have K1 := Lib.hid (HK.out.step b1)
  clear b1
  go_wp2_with fail
  refine (search_any w1 0 0 _ #[.pointer (some ⟨w.heap.size, 0, none⟩), .pointer (some ⟨w.heap.size + 1, 0, none⟩)] (fun _ => true) HE.out (fun W i _ hi => absurd hi (Nat.not_lt_zero _)) (Nat.le_refl _) (fun i hi => absurd hi (Nat.not_lt_zero _)) (fun i _ hi => absurd hi (Nat.not_lt_zero _)) (by omega)).mono ?_
  rintro e w2 ⟨rfl, b2⟩
  have K2 := Lib.hid (K1.out.step b2)
  clear b2
  go_wp2_with fail
  go_ret
  exact ⟨rfl, K2.out.1⟩
end Go.Proofs.Yteegnehfagkjcaa
