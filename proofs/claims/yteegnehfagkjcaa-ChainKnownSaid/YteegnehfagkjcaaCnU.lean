/- Made by tools/gen/cn.py. -/
/- Layer 15, the program: Trim. -/
import Derived.Test.YteegnehfagkjcaaCnQ
import Derived.Test.YteegnehfagkjcaaCnT
namespace Go.Proofs.Yteegnehfagkjcaa
open Go.ChangeShapes Go.WideShapes Go.ChangeAt Go.RowKit
attribute [local go_sem] Oper.semAt_some

theorem Cn.garb_drop {l : List Cn.Ver} {k f : Nat} (hk : k < l.length) : Cn.garb (l.drop k) 0 f = Cn.garbL (Cn.ix l k) true (Cn.behind l k) f := by
  unfold Cn.garb
  have e : Cn.behind (l.drop k) 0 = Cn.behind l k := by
    unfold Cn.behind
    rw [List.length_drop, Cn.ix_drop]
    by_cases h : k + 1 < l.length
    · rw [if_pos h, if_pos (by omega), Nat.zero_add]
    · rw [if_neg h, if_neg (by omega)]
  rw [e, Cn.ix_drop, Nat.add_zero]
  rfl
def TrimI (w : World) (l : List Cn.Ver) (f : Nat) (S : World → Prop) (k : Nat) (V : World) : Prop :=
  Cn.trimN l f = k + Cn.trimN (l.drop k) f ∧ Blk V w.heap.size 79 #[byF f] ∧ Blk V (w.heap.size + 1) 3 #[.int .i64 (k : Int)] ∧ S V ∧ Below w.heap.size w V
theorem TrimI.abides {w : World} {l : List Cn.Ver} {f : Nat} {S : World → Prop} {K : Nat → Prop} {p : Option Addr} (hS : Src S K p l) (hK : ∀ r, K r → r < w.heap.size) (k : Nat) : Rg.Abides (w.heap.size + 3) (TrimI w l f S k) :=
  (Rg.Abides.pure _ _).and ((Rg.Abides.blk (.inl (by omega))).and ((Rg.Abides.blk (.inl (by omega))).and ((hS.abides (fun r hr => by have := hK r hr; omega)).and (Rg.Abides.below (Nat.le_refl _) (by omega)))))
def TrimA (w : World) (p : Option Addr) (l : List Cn.Ver) (f : Nat) (S : World → Prop) (k : Nat) (a' : Act) (V : World) : Prop :=
  TrimI w l f S k V ∧ ∃ Fb : Nat, w.heap.size + 5 ≤ Fb ∧ Blk V Fb 86 #[.int .u64 ((Cn.ix l k).e : Int), .bool (Cn.ix l k).d, .int .i64 (Cn.ix l k).a.c, .int .i64 (Cn.ix l k).a.s, .int .i64 (Cn.ix l k).a.lo, .int .i64 (Cn.ix l k).a.hi, .bool (k == 0), .int .u64 (Cn.behind l k : Int)] ∧
    a' = { tmps := #[.pointer p, .int .u64 (f : Int), undef, undef, .int .i64 0, .pointer (some ⟨w.heap.size, 0, none⟩), .pointer (some ⟨w.heap.size + 1, 0, none⟩), .pointer (some ⟨Fb, 0, none⟩), .int .u64 (f : Int), .agg #[.int .u64 (f : Int)], byF f, .pointer p, .func (.func 49) #[] #[.pointer (some ⟨w.heap.size + 2, 0, none⟩)], .agg #[.int .u64 ((Cn.ix l k).e : Int), .bool (Cn.ix l k).d, .int .i64 (Cn.ix l k).a.c, .int .i64 (Cn.ix l k).a.s, .int .i64 (Cn.ix l k).a.lo, .int .i64 (Cn.ix l k).a.hi, .bool (k == 0), .int .u64 (Cn.behind l k : Int)], undef, undef, undef, undef, undef, undef, undef, undef, undef, undef, undef, undef, undef], defers := [] }
theorem TrimA.abides {w : World} {l : List Cn.Ver} {f : Nat} {S : World → Prop} {K : Nat → Prop} {p : Option Addr} (hS : Src S K p l) (hK : ∀ r, K r → r < w.heap.size) (k : Nat) (a' : Act) : Rg.Abides (w.heap.size + 3) (TrimA w p l f S k a') where
  two V V' r h hg h1 h2 := by
    obtain ⟨e1, Fb, e2, e3, e4⟩ := h
    exact ⟨(TrimI.abides hS hK k).two V V' r e1 hg h1 h2, Fb, e2, (Rg.Abides.blk (T := w.heap.size + 3) (.inr e2)).two V V' r e3 hg h1 h2, e4⟩
  new V V' h hb := by
    obtain ⟨e1, Fb, e2, e3, e4⟩ := h
    exact ⟨(TrimI.abides hS hK k).new V V' e1 hb, Fb, e2, e3.below hb e3.lt, e4⟩
set_option maxRecDepth 100000 in
set_option maxHeartbeats 4000000 in
theorem trim_of (w : World) (p : Option Addr) (S : World → Prop) (K : Nat → Prop) (l : List Cn.Ver) (f : Nat) (hS : Src S K p l) (h0 : S w) (hK : ∀ r, K r → r < w.heap.size) (hn : l.length ≤ 100000) (R : World → World → Prop) (Fin : World → Prop)
    (hcut : 0 < Cn.trimN l f → ∀ W, S W → Calls Try.prog 42 #[.pointer p, .int .i64 (Cn.trimN l f : Int)] W fun e W' => e = .returned (.tuple #[]) ∧ W.heap.size ≤ W'.heap.size ∧ (∀ r, w.heap.size ≤ r → r < W.heap.size → W'.heap[r]? = W.heap[r]?) ∧ R W W')
    (hfin : 0 < Cn.trimN l f → ∀ W W' T, S W → Below w.heap.size w W → R W W' → w.heap.size ≤ T → T < W.heap.size → Fin (W'.putObj T (.deferred none)))
    (hfin0 : Cn.trimN l f = 0 → ∀ W, S W → Below w.heap.size w W → Fin W) :
    Calls Try.prog 29 #[.pointer p, .int .u64 (f : Int)] w fun e w' => e = .returned (.int .i64 (Cn.trimN l f : Int)) ∧ Fin w' := by
  have hmf : ∀ (fn : Fn) (first cap : Array Value) (w : World), (Instr.makeFunc fn first cap).run Try.prog w = .ok (.func fn first cap) w := fun _ _ _ _ => rfl
  have H := Lib.hid (And.intro hS (And.intro h0 (And.intro hK (And.intro hcut (And.intro hfin hfin0)))))
  have HB : Hid (∀ W, Calls Try.prog 41 #[.pointer p] W fun e w' => e = .returned (.func (.func 49) #[] #[.pointer (some ⟨W.heap.size, 0, none⟩)]) ∧ w' = W.alloc (.cells #[.pointer p] 28)) := Lib.hid fun W => links_any p W
  clear hS h0 hK hcut hfin hfin0
  refine (callsIn_wide (n := 9)).1 ?_
  refine callsIn_of_wp_marks Try.func29 rfl trivial ?_ rfl
  simp only [Try.ntmps29, List.size_toArray, List.length_cons, List.length_nil, Nat.reduceAdd, Nat.reduceSub, Array.replicate_succ, Array.replicate_zero, List.push_toArray, List.append_toArray, List.nil_append, List.cons_append]
  refine wpIn_wide.2 ?_
  go_wp2_with fail
  refine (HB.out _).mono ?_
  rintro e w3 ⟨rfl, rfl⟩
  go_wp2_with fail
  have KK := ((Held.start w).new #[byF f] 79).new #[.int .i64 0] 3 |>.new #[.pointer p] 28
  simp only [World.size_alloc] at KK
  obtain ⟨W0, hW⟩ : ∃ W, ((w.alloc (.cells #[byF f] 79)).alloc (.cells #[.int .i64 0] 3)).alloc (.cells #[.pointer p] 28) = W := ⟨_, rfl⟩
  have hsz : W0.heap.size = w.heap.size + 3 := by rw [← hW]; simp
  rw [hW] at KK
  have hW2 : ((w.alloc (.cells #[.func (.func 40) #[.agg #[.int .u64 (f : Int)]] #[]] 79)).alloc (.cells #[.int .i64 0] 3)).alloc (.cells #[.pointer p] 28) = W0 := hW
  rw [hW2]
  have hI0 : TrimI w l f S 0 W0 := ⟨by simp, KK.drop.drop.top, KK.drop.top, H.out.1.below _ _ H.out.2.1 KK.1, KK.1⟩
  have HW := Lib.hid (And.intro hI0 (And.intro KK.top (And.intro hsz (H.out.1.below _ _ H.out.2.1 KK.1))))
  clear hW hW2 hI0 KK hsz
  refine (wpIn_wide (n := 9)).1 ?_
  refine Rg.wp_range (gf := 49) (lb := #[.pointer (some ⟨w.heap.size + 2, 0, none⟩)]) rfl (enters_of Try.func49 (by kernel_rfl) rfl) (T := w.heap.size + 3) HW.out.2.2.1 (KpC.trans K (w.heap.size + 2)) (KpC.put (by omega) (fun r hr => by have := H.out.2.2.1 r hr; omega))
    (by have := links_gives S K p l (w.heap.size + 2) 8 W0 H.out.1 HW.out.2.2.2 HW.out.2.1 (by omega); rw [HW.out.2.2.1] at this; exact this) (fun _ _ => rfl)
    (TrimI w l f S) (fun c k V => c = .exit 0 ∧ Cn.trimN l f = k ∧ TrimI w l f S k V) (fun k => TrimI.abides H.out.1 H.out.2.2.1 k) (fun _ k => (Rg.Abides.pure _ _).and ((Rg.Abides.pure _ _).and (TrimI.abides H.out.1 H.out.2.2.1 k))) HW.out.1
    (fun k _ => TrimA w p l f S k) (fun k _ a' => TrimA.abides H.out.1 H.out.2.2.1 k a') ?assign ?body ?done ?stop
  case assign =>
    rintro m q k ⟨⟩ V C hk hI - hz hC
    unfold encL
    have hal := bel_al V (.cells #[.int .u64 ((Cn.ix l k).e : Int), .bool (Cn.ix l k).d, .int .i64 (Cn.ix l k).a.c, .int .i64 (Cn.ix l k).a.s, .int .i64 (Cn.ix l k).a.lo, .int .i64 (Cn.ix l k).a.hi, .bool (k == 0), .int .u64 (Cn.behind l k : Int)] 86)
    have HAL := Lib.hid (And.intro hal (And.intro hI hC))
    clear hal hI hC
    gi_wp2
    refine HAL.out.2.2 _ _ (Rg.Kept.of_below HAL.out.1 hz (fun r hr => HAL.out.1.block r (by
      rcases hr with rfl | hr
      · omega
      · have := H.out.2.2.1 r hr
        omega))) ⟨(TrimI.abides H.out.1 H.out.2.2.1 k).new _ _ HAL.out.2.1 HAL.out.1, V.heap.size, hz, Blk.new _ _ _, rfl⟩
  case body =>
    rintro m q k ⟨⟩ a' V hk ⟨⟨htr, a1, a2, a3, a4⟩, Fb, hFb, hb, rfl⟩ hz
    have z0 := a1.cell 0
    have z1 := a2.cell 0
    have y0 := hb.cell 0
    have y1 := hb.cell 1
    have y2 := hb.cell 2
    have y3 := hb.cell 3
    have y4 := hb.cell 4
    have y5 := hb.cell 5
    have y6 := hb.cell 6
    have y7 := hb.cell 7
    have f6 := hb.frozen 6
    unfold byF at z0
    simp only [List.getElem?_toArray, List.getElem?_cons_zero, List.getElem?_cons_succ] at z0 z1 y0 y1 y2 y3 y4 y5 y6 y7
    have hent : ∀ (args : Array Value) (W : World), (callFunc 40 args).run Try.prog W = .ok (.enter 40 args) W := enters_of Try.func40 (by kernel_rfl) rfl
    have hT1 := (Turns.refl (fun b => b = Fb) V).setCell (g := Fb) 6 (.bool true) (fun _ => rfl)
    have hne1 : w.heap.size ≠ Fb := by omega
    have hne2 : w.heap.size + 1 ≠ Fb := by omega
    have HV := Lib.hid (And.intro htr (And.intro a1 (And.intro a2 (And.intro a3 (And.intro a4 (And.intro hb hT1))))))
    clear htr a1 a2 a3 a4 hb hT1
    gi_wp2
    refine ⟨trivial, fun h => (by cases h), (CallsIn.inRound q (callsIn_wide.2 (garbage_any _ f (Cn.behind l k) (Cn.ix l k) true))).mono ?_⟩
    rintro e w1 ⟨rfl, b1⟩
    have hgd := Cn.garb_drop (f := f) hk
    obtain ⟨r, hr⟩ : ∃ r, Cn.garbL (Cn.ix l k) true (Cn.behind l k) f = r := ⟨_, rfl⟩
    rw [hr] at hgd ⊢
    have c1 := (HV.out.2.1.far (b := Fb) (o := 6) (fun e => hne1 e.symm) (.bool true)).below b1 (HV.out.2.1.far (b := Fb) (o := 6) (fun e => hne1 e.symm) (.bool true)).lt
    have c2 := (HV.out.2.2.1.far (b := Fb) (o := 6) (fun e => hne2 e.symm) (.bool true)).below b1 (HV.out.2.2.1.far (b := Fb) (o := 6) (fun e => hne2 e.symm) (.bool true)).lt
    have hsz1 : (V.setCell ⟨Fb, 6, none⟩ (.bool true)).heap.size = V.heap.size := by simp [World.setCell]
    have hT := HV.out.2.2.2.2.2.2.then (Turns.of_below (F := fun b => b = Fb) b1) (fun _ _ e => e)
    have c3 : S w1 := H.out.1.blk V w1 HV.out.2.2.2.1 hT.size (fun r hr hlt => hT.block r hlt (by have := H.out.2.2.1 r hr; omega))
    have c4 : Below w.heap.size w w1 := (HV.out.2.2.2.2.1.setCell (p := ⟨Fb, 6, none⟩) (by show w.heap.size ≤ Fb; omega) (.bool true)).trans (b1.mono (by rw [hsz1]; exact HV.out.2.2.2.2.1.size))
    have HK := Lib.hid (And.intro hgd (And.intro c1 (And.intro c2 (And.intro c3 (And.intro c4 hT)))))
    have x1 := c2.cell 0
    have g1 := c2.frozen 0
    simp only [List.getElem?_toArray, List.getElem?_cons_zero] at x1
    clear hgd c1 c2 c3 c4 hT b1 hsz1 hr y0 y1 y2 y3 y4 y5 y6 y7 z0 z1 f6
    cases r with
    | false =>
      gi_wp2
      have hst : Cn.trimN (l.drop k) f = 0 := Cn.trimN_stop fun _ => HK.out.1
      exact ⟨⟨HK.out.2.2.2.2.2.size, fun r h1 h2 => HK.out.2.2.2.2.2.block r (by omega) (by omega), trivial⟩, rfl, by rw [HV.out.1, hst, Nat.add_zero], HV.out.1, HK.out.2.1, HK.out.2.2.1, HK.out.2.2.2.1, HK.out.2.2.2.2.1⟩
    | true =>
      have hw1 : IntKind.i64.wrap ((k : Int) + 1) = (k : Int) + 1 := by rw [IntKind.wrap_i64]; omega
      gi_wp2
      have hT2 := HK.out.2.2.2.2.2.mono (G := fun b => b = Fb ∨ b = w.heap.size + 1) (fun _ _ e => .inl e) |>.setCell (g := w.heap.size + 1) 0 (.int .i64 ((k : Int) + 1)) (fun _ => .inr rfl)
      refine ⟨⟨hT2.size, fun r h1 h2 => hT2.block r (by omega) (by omega), fun r hr => ?_⟩, ?_, HK.out.2.1.far (b := w.heap.size + 1) (o := 0) (by omega) _, ?_, ?_, HK.out.2.2.2.2.1.setCell (p := ⟨w.heap.size + 1, 0, none⟩) (by show w.heap.size ≤ w.heap.size + 1; omega) _⟩
      · have h5 : r < w.heap.size + 3 ∧ r ≠ w.heap.size + 1 := by
          rcases hr with rfl | hr
          · omega
          · have := H.out.2.2.1 r hr
            omega
        exact hT2.block r (by omega) (by omega)
      · rw [HV.out.1, Cn.trimN_step hk HK.out.1]
        omega
      · have := HK.out.2.2.1.set_ 0 (.int .i64 ((k : Int) + 1))
        rw [show ((k + 1 : Nat) : Int) = (k : Int) + 1 by omega]
        exact this
      · exact H.out.1.blk w1 _ HK.out.2.2.2.1 (by simp [World.setCell]) (fun r hr hlt => Below.heap_setCell w1 _ _ r (by have := H.out.2.2.1 r hr; show r ≠ w.heap.size + 1; omega))
  case done =>
    rintro V ⟨htr, a1, a2, a3, a4⟩ hd
    have hkt : Cn.trimN l f = l.length := by
      rw [htr, List.drop_of_length_le (Nat.le_refl _)]
      rfl
    obtain ⟨k, hkk⟩ : ∃ k, l.length = k := ⟨_, rfl⟩
    rw [hkk] at hkt a2 htr
    have z1 := a2.cell 0
    simp only [List.getElem?_toArray, List.getElem?_cons_zero] at z1
    have hg := grownBy_putObj' V (w.heap.size + 3) (.deferred none)
    have hTl := (Array.getElem?_eq_some_iff.1 hd).1
    have HV := Lib.hid (And.intro a2 (And.intro a3 (And.intro a4 (And.intro hd (And.intro hg (And.intro hkt hTl))))))
    clear a1 a2 a3 a4 hd hg hkt hTl htr
    rcases Nat.eq_zero_or_pos k with hk0 | hk0
    · subst hk0
      go_wp2_with fail
      refine ⟨by simp, .inl ⟨_, _, rfl, run_takeDeferred HV.out.2.2.2.1, ?_⟩⟩
      refine ⟨.int .i64 0, ?_, by rw [HV.out.2.2.2.2.2.1]; rfl, H.out.2.2.2.2.2 HV.out.2.2.2.2.2.1 _ ((H.out.1.abides (T := w.heap.size + 3) (fun r hr => by have := H.out.2.2.1 r hr; omega)).two V _ _ HV.out.2.1 HV.out.2.2.2.2.1 (Nat.le_refl _) (by omega)) (HV.out.2.2.1.grown HV.out.2.2.2.2.1 HV.out.2.2.1.size (fun k e => by injection e with e; omega))⟩
      simp [results, Try.results29, go_sem]
    · have k1 : (0 : Int) < (k : Int) := by omega
      have hpos : 0 < Cn.trimN l f := by have := HV.out.2.2.2.2.2.1; omega
      have hc := H.out.2.2.2.1 hpos V HV.out.2.1
      rw [HV.out.2.2.2.2.2.1] at hc
      have HC := Lib.hid hc
      have HPOS := Lib.hid hpos
      clear hc hpos hk0
      go_wp2_with fail
      refine HC.out.mono ?_
      rintro e V2 ⟨rfl, hsz, hkeep, hR⟩
      have x1 := (show Blk V2 (w.heap.size + 1) 3 #[.int .i64 (k : Int)] from (hkeep (w.heap.size + 1) (by omega) HV.out.1.lt).trans HV.out.1).cell 0
      simp only [List.getElem?_toArray, List.getElem?_cons_zero] at x1
      have hd2 := (hkeep (w.heap.size + 3) (by omega) HV.out.2.2.2.2.2.2).trans HV.out.2.2.2.1
      have H2 := Lib.hid (And.intro hd2 hR)
      clear hsz hkeep hR hd2 z1
      go_wp2_with fail
      refine ⟨by simp, .inl ⟨_, _, rfl, run_takeDeferred H2.out.1, ?_⟩⟩
      refine ⟨.int .i64 (k : Int), ?_, by rw [HV.out.2.2.2.2.2.1], H.out.2.2.2.2.1 HPOS.out _ _ _ HV.out.2.1 HV.out.2.2.1 H2.out.2 (by omega) HV.out.2.2.2.2.2.2⟩
      simp [results, Try.results29, go_sem]
  case stop =>
    rintro c k V hk ⟨rfl, hkt, htr, a1, a2, a3, a4⟩ hd
    gi_wp2
    have z1 := a2.cell 0
    simp only [List.getElem?_toArray, List.getElem?_cons_zero] at z1
    have hg := grownBy_putObj' V (w.heap.size + 3) (.deferred none)
    have hTl := (Array.getElem?_eq_some_iff.1 hd).1
    have HV := Lib.hid (And.intro a2 (And.intro a3 (And.intro a4 (And.intro hd (And.intro hg (And.intro hkt hTl))))))
    clear a1 a2 a3 a4 hd hg hkt hTl htr
    rcases Nat.eq_zero_or_pos k with hk0 | hk0
    · subst hk0
      go_wp2_with fail
      refine ⟨by simp, .inl ⟨_, _, rfl, run_takeDeferred HV.out.2.2.2.1, ?_⟩⟩
      refine ⟨.int .i64 0, ?_, by rw [HV.out.2.2.2.2.2.1]; rfl, H.out.2.2.2.2.2 HV.out.2.2.2.2.2.1 _ ((H.out.1.abides (T := w.heap.size + 3) (fun r hr => by have := H.out.2.2.1 r hr; omega)).two V _ _ HV.out.2.1 HV.out.2.2.2.2.1 (Nat.le_refl _) (by omega)) (HV.out.2.2.1.grown HV.out.2.2.2.2.1 HV.out.2.2.1.size (fun k e => by injection e with e; omega))⟩
      simp [results, Try.results29, go_sem]
    · have k1 : (0 : Int) < (k : Int) := by omega
      have hpos : 0 < Cn.trimN l f := by have := HV.out.2.2.2.2.2.1; omega
      have hc := H.out.2.2.2.1 hpos V HV.out.2.1
      rw [HV.out.2.2.2.2.2.1] at hc
      have HC := Lib.hid hc
      have HPOS := Lib.hid hpos
      clear hc hpos hk0
      go_wp2_with fail
      refine HC.out.mono ?_
      rintro e V2 ⟨rfl, hsz, hkeep, hR⟩
      have x1 := (show Blk V2 (w.heap.size + 1) 3 #[.int .i64 (k : Int)] from (hkeep (w.heap.size + 1) (by omega) HV.out.1.lt).trans HV.out.1).cell 0
      simp only [List.getElem?_toArray, List.getElem?_cons_zero] at x1
      have hd2 := (hkeep (w.heap.size + 3) (by omega) HV.out.2.2.2.2.2.2).trans HV.out.2.2.2.1
      have H2 := Lib.hid (And.intro hd2 hR)
      clear hsz hkeep hR hd2 z1
      go_wp2_with fail
      refine ⟨by simp, .inl ⟨_, _, rfl, run_takeDeferred H2.out.1, ?_⟩⟩
      refine ⟨.int .i64 (k : Int), ?_, by rw [HV.out.2.2.2.2.2.1], H.out.2.2.2.2.1 HPOS.out _ _ _ HV.out.2.1 HV.out.2.2.1 H2.out.2 (by omega) HV.out.2.2.2.2.2.2⟩
      simp [results, Try.results29, go_sem]
theorem ChAt.turn {w w' : World} {G : Nat → Prop} {g n c sp : Nat} {A : Option Addr} {l : List Cn.Ver} (h : ChAt w g A n c sp l) (ht : Turns G w w') (hg : ¬ G g) (hA : ∀ b o p, A = some ⟨b, o, p⟩ → ¬ G b) : ChAt w' g A n c sp l := by
  refine ⟨ht.blk h.blk hg, ?_, h.len, h.spl, h.right⟩
  rcases h.row with h1 | ⟨b, o, cur, e, hF, hb, r⟩
  · exact .inl h1
  · exact .inr ⟨b, o, cur, e, hF, ht.blk hb (hA b o none e), r⟩
theorem ChAt.addr {w : World} {g n c sp : Nat} {A : Option Addr} {l : List Cn.Ver} (h : ChAt w g A n c sp l) : ∀ b o p, A = some ⟨b, o, p⟩ → b < w.heap.size := by
  intro b o p e
  rcases h.row with ⟨h1, -⟩ | ⟨b', o', cur, h1, -, hb, -⟩
  · rw [h1] at e
    cases e
  · rw [h1] at e
    injection e with e
    injection e with e1 e2 e3
    rw [← e1]
    exact hb.lt
theorem trim_any (w : World) (g n c sp f : Nat) (A : Option Addr) (l : List Cn.Ver) (h : ChAt w g A n c sp l) (hn : n ≤ 100000) : Calls Try.prog 29 #[.pointer (some ⟨g, 0, none⟩), .int .u64 (f : Int)] w (MutP w g A (l.drop (Cn.trimN l f)) (.int .i64 (Cn.trimN l f : Int))) := by
  have hle := Cn.trimN_le l f
  have hlen : (l.drop (Cn.trimN l f)).length = n - Cn.trimN l f := by rw [List.length_drop, h.len]
  refine (trim_of w (some ⟨g, 0, none⟩) _ _ l f (src_chain g n c sp A l (by omega) h.len) h (fun r hr => by
    rcases hr with rfl | ⟨o, p, e⟩
    · exact h.blk.lt
    · exact h.addr r o p e) (by rw [h.len]; exact hn)
    (fun W W' => ∃ A' c' sp', ChAt W' g A' (n - Cn.trimN l f) c' sp' (l.drop (Cn.trimN l f)) ∧ (∀ b o p, A' = some ⟨b, o, p⟩ → (∃ o2 p2, A = some ⟨b, o2, p2⟩) ∨ W.heap.size ≤ b) ∧ Turns (fun b => b = g) W W')
    (fun w' => ∃ A' c' sp', ChAt w' g A' (l.drop (Cn.trimN l f)).length c' sp' (l.drop (Cn.trimN l f)) ∧ (∀ b o p, A' = some ⟨b, o, p⟩ → (∃ o2 p2, A = some ⟨b, o2, p2⟩) ∨ w.heap.size ≤ b) ∧ Turns (fun b => b = g ∨ ∃ o p, A = some ⟨b, o, p⟩) w w') ?_ ?_ ?_)
  · intro _ W hW
    refine (cut_any W g n c sp (Cn.trimN l f) A l hW.blk hW.row hW.len hW.spl (by have := h.len; omega) (by omega) (Cn.right_drop hW.right _)).mono ?_
    rintro e W' ⟨rfl, A', c', sp', h1, h2, h3⟩
    exact ⟨rfl, h3.size, fun r hr hlt => h3.block r hlt (by have := h.blk.lt; omega), A', c', sp', h1, h2, h3⟩
  · rintro _ W W' T hW hB ⟨A', c', sp', h1, h2, h3⟩ hT hTW
    have hp := Turns.of_grown (grownBy_putObj' W' T (.deferred none))
    have hgl := h.blk.lt
    have hch := h1.turn hp (fun e => by injection e with e; omega) (fun b o p e e2 => by
      injection e2 with e2
      subst e2
      rcases h2 T o p e with ⟨o2, p2, h4⟩ | h4
      · have := h.addr T o2 p2 h4
        omega
      · omega)
    refine ⟨A', c', sp', by rw [hlen]; exact hch, fun b o p e => ?_, ?_⟩
    · rcases h2 b o p e with h4 | h4
      · exact .inl h4
      · exact .inr (Nat.le_trans hB.size h4)
    · exact ((Turns.of_below (F := fun b => b = g ∨ ∃ o p, A = some ⟨b, o, p⟩) hB).then (h3.mono (G := fun b => b = g ∨ ∃ o p, A = some ⟨b, o, p⟩) (fun b _ e => .inl e)) (fun _ _ e => e)).then hp (fun b hb e => by injection e with e; omega)
  · intro h0 W hW hB
    rw [h0, List.drop_zero]
    exact ⟨A, c, sp, by rw [hW.len]; exact hW, fun b o p e => .inl ⟨o, p, e⟩, Turns.of_below hB⟩
theorem trim_nil (w : World) (f : Nat) : Calls Try.prog 29 #[.pointer none, .int .u64 (f : Int)] w (IntP w 0) :=
  trim_of w none _ _ [] f src_nil trivial (fun _ h => h.elim) (by simp) (fun _ _ => True) (fun w' => Below w.heap.size w w') (fun h => absurd h (Nat.lt_irrefl 0)) (fun h => absurd h (Nat.lt_irrefl 0)) (fun _ _ _ hB => hB)
/-- A chain in blocks of F, its own one is g. -/
def ChIn (w : World) (F : Nat → Prop) (g : Nat) (l : List Cn.Ver) : Prop := ∃ A c sp, ChAt w g A l.length c sp l ∧ F g ∧ ∀ b o p, A = some ⟨b, o, p⟩ → F b
theorem ChIn.turn {w w' : World} {F G : Nat → Prop} {g : Nat} {l : List Cn.Ver} (h : ChIn w F g l) (ht : Turns G w w') (hd : ∀ b, F b → ¬ G b) : ChIn w' F g l := by
  obtain ⟨A, c, sp, h1, h2, h3⟩ := h
  exact ⟨A, c, sp, h1.turn ht (hd g h2) (fun b o p e => hd b (h3 b o p e)), h2, h3⟩
theorem ChIn.below {w w' : World} {F : Nat → Prop} {g : Nat} {l : List Cn.Ver} (h : ChIn w F g l) (hb : Below w.heap.size w w') : ChIn w' F g l := h.turn (G := fun _ => False) (Turns.of_below hb) fun _ _ e => e
theorem ChIn.mono {w : World} {F G : Nat → Prop} {g : Nat} {l : List Cn.Ver} (h : ChIn w F g l) (hF : ∀ b, b < w.heap.size → F b → G b) : ChIn w G g l := by
  obtain ⟨A, c, sp, h1, h2, h3⟩ := h
  exact ⟨A, c, sp, h1, hF g h1.blk.lt h2, fun b o p e => hF b (h1.addr b o p e) (h3 b o p e)⟩
theorem ChIn.right {w : World} {F : Nat → Prop} {g : Nat} {l : List Cn.Ver} (h : ChIn w F g l) : Cn.right l = true := by
  obtain ⟨A, c, sp, h1, -⟩ := h
  exact h1.right
def MutQ (w : World) (F : Nat → Prop) (g : Nat) (l' : List Cn.Ver) (v : Value) (e : Ending) (w' : World) : Prop := e = .returned v ∧ ChIn w' (fun b => F b ∨ w.heap.size ≤ b) g l' ∧ Turns F w w'
theorem MutP.q {w : World} {F : Nat → Prop} {g : Nat} {A : Option Addr} {l' : List Cn.Ver} {v : Value} {e : Ending} {w' : World} (h : MutP w g A l' v e w') (hg : F g) (hA : ∀ b o p, A = some ⟨b, o, p⟩ → F b) : MutQ w F g l' v e w' := by
  obtain ⟨h1, A', c', sp', h2, h3, h4⟩ := h
  refine ⟨h1, ⟨A', c', sp', h2, .inl hg, fun b o p e => ?_⟩, h4.mono (fun b _ e => ?_)⟩
  · rcases h3 b o p e with ⟨o2, p2, h5⟩ | h5
    · exact .inl (hA b o2 p2 h5)
    · exact .inr h5
  · rcases e with rfl | ⟨o, p, e⟩
    · exact hg
    · exact hA b o p e
section
variable {w : World} {F : Nat → Prop} {g : Nat} {l : List Cn.Ver}
theorem in_at (h : ChIn w F g l) (hn : l.length ≤ 100000) (x : Nat) : Calls Try.prog 14 #[.pointer (some ⟨g, 0, none⟩), .int .u64 (x : Int)] w (AtP w (Cn.at_ l x)) := by
  obtain ⟨A, c, sp, h1, -⟩ := h
  exact at_any w g _ c sp x A l h1 (by omega)
theorem in_next (h : ChIn w F g l) (hn : l.length ≤ 100000) (x : Nat) : Calls Try.prog 16 #[.pointer (some ⟨g, 0, none⟩), .int .u64 (x : Int)] w (NextP w (Cn.next l x)) := by
  obtain ⟨A, c, sp, h1, -⟩ := h
  exact next_any w g _ c sp x A l h1 (by omega)
theorem in_differs (h : ChIn w F g l) (hn : l.length ≤ 100000) (x y : Nat) : Calls Try.prog 19 #[.pointer (some ⟨g, 0, none⟩), .int .u64 (x : Int), .int .u64 (y : Int)] w (BoolP w (Cn.differs l x y)) := by
  obtain ⟨A, c, sp, h1, -⟩ := h
  exact differs_any w g _ c sp x y A l h1 (by omega)
theorem in_garbage (h : ChIn w F g l) (hn : l.length ≤ 100000) (x f : Nat) : Calls Try.prog 21 #[.pointer (some ⟨g, 0, none⟩), .int .u64 (x : Int), .int .u64 (f : Int)] w (BoolP w (Cn.isAt l x f)) := by
  obtain ⟨A, c, sp, h1, -⟩ := h
  exact garbC_any w g _ c sp x f A l h1 (by omega)
theorem in_len (h : ChIn w F g l) : Calls Try.prog 23 #[.pointer (some ⟨g, 0, none⟩)] w (IntP w (l.length : Int)) := by
  obtain ⟨A, c, sp, h1, -⟩ := h
  exact len_any w g _ c sp A l h1
theorem in_versions (h : ChIn w F g l) (hn : l.length ≤ 100000) : Calls Try.prog 24 #[.pointer (some ⟨g, 0, none⟩)] w (VrP w 35 l) := by
  obtain ⟨A, c, sp, h1, -⟩ := h
  exact versions_any w g _ c sp A l h1 hn
theorem in_add (h : ChIn w F g l) (hn : l.length ≤ 100000) (v : Cn.Ver) (hv : v.e < 18446744073709551616) : Calls Try.prog 31 #[.pointer (some ⟨g, 0, none⟩), .agg #[.int .u64 (v.e : Int), .bool v.d, .int .i64 v.a.c, .int .i64 v.a.s, .int .i64 v.a.lo, .int .i64 v.a.hi]] w (MutQ w F g (Cn.add l v).1 (.int .i64 (Cn.add l v).2)) := by
  obtain ⟨A, c, sp, h1, h2, h3⟩ := h
  exact (add_any w g _ c sp A l v h1 hn hv).mono fun e w' k => MutP.q (show MutP w g A _ (.int .i64 _) e w' from k) h2 h3
theorem in_drop (h : ChIn w F g l) (hn : l.length ≤ 100000) (x f : Nat) : Calls Try.prog 27 #[.pointer (some ⟨g, 0, none⟩), .int .u64 (x : Int), .int .u64 (f : Int)] w (MutQ w F g (Cn.drop l x f).1 (.bool (Cn.drop l x f).2)) := by
  obtain ⟨A, c, sp, h1, h2, h3⟩ := h
  exact (drop_any w g _ c sp x f A l h1 hn).mono fun e w' k => k.q h2 h3
theorem in_trim (h : ChIn w F g l) (hn : l.length ≤ 100000) (f : Nat) : Calls Try.prog 29 #[.pointer (some ⟨g, 0, none⟩), .int .u64 (f : Int)] w (MutQ w F g (l.drop (Cn.trimN l f)) (.int .i64 (Cn.trimN l f : Int))) := by
  obtain ⟨A, c, sp, h1, h2, h3⟩ := h
  exact (trim_any w g _ c sp f A l h1 hn).mono fun e w' k => k.q h2 h3
end
/-- The chain that is answered, or none. -/
def OfQ (w : World) (l : List Cn.Ver) (e : Ending) (w' : World) : Prop :=
  (Cn.right l = false ∧ e = .returned (.tuple #[.pointer none, .int .i64 2]) ∧ Below w.heap.size w w') ∨
  (Cn.right l = true ∧ ∃ g, e = .returned (.tuple #[.pointer (some ⟨g, 0, none⟩), .int .i64 0]) ∧ ChIn w' (fun b => w.heap.size ≤ b) g l ∧ Below w.heap.size w w')
theorem in_of (w : World) (F : Nat → Prop) (A : Option Addr) (n c : Nat) (l : List Cn.Ver) (h : Cells w F A n 6 (vrL l)) (hn : n ≤ 1000000) : Calls Try.prog 11 #[.slice A n c] w (OfQ w l) :=
  (of_any w F A n c l h hn).mono fun e w' k => by
    rcases k with k | ⟨k1, g, A', c', k2, k3, k4, k5, k6⟩
    · exact .inl k
    · exact .inr ⟨k1, g, k2, ⟨A', c', 0, k3, k4, k5⟩, k6⟩
theorem drop_nil (w : World) (x f : Nat) : Calls Try.prog 27 #[.pointer none, .int .u64 (x : Int), .int .u64 (f : Int)] w (BoolP w false) := by
  have hmf : ∀ (fn : Fn) (first cap : Array Value) (w : World), (Instr.makeFunc fn first cap).run Try.prog w = .ok (.func fn first cap) w := fun _ _ _ _ => rfl
  have HP := Lib.hid (place_nil w x f)
  unfold byF at HP
  go_enter Try.func27, Try.ntmps27
  go_wp2_with (go_at_call 39; (refine HP.out.mono ?_); rintro e w1 ⟨rfl, b1⟩; have B1 := Lib.hid b1; clear b1)
  go_ret
  exact ⟨rfl, B1.out⟩
end Go.Proofs.Yteegnehfagkjcaa
