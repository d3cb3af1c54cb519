/- Made by tools/gen/cn.py. -/
/- Layer 15, the statement ChainPlays, as a walk: whatever is called, a chain answers what the document says. -/
import Derived.Test.YteegnehfagkjcaaCnW
import Derived.Test.YteegnehfagkjcaaCnT
namespace Go.Proofs.Yteegnehfagkjcaa
open Go.ChangeShapes Go.WideShapes Go.ChangeAt Go.RowKit

structure Cn.Ac where
  k : Nat
  v : Cn.Ver
  f : Nat
def acC (a : Cn.Ac) : List Value := [.int .u8 (a.k : Int), .int .u64 (a.v.e : Int), .bool a.v.d, .int .i64 a.v.a.c, .int .i64 a.v.a.s, .int .i64 a.v.a.lo, .int .i64 a.v.a.hi, .int .u64 (a.f : Int)]
def acL (l : List Cn.Ac) : List Value := l.flatMap acC
theorem acL_len (l : List Cn.Ac) : (acL l).length = l.length * 8 := by
  induction l with
  | nil => rfl
  | cons y r ih =>
    rw [acL, List.flatMap_cons, List.length_append]
    have : (r.flatMap acC).length = r.length * 8 := ih
    rw [this, show (acC y).length = 8 from rfl, List.length_cons]
    omega
theorem acL_at (l : List Cn.Ac) (i : Nat) (x : Cn.Ac) (h : l[i]? = some x) (q : Nat) (hq : q < 8) : (acL l)[i * 8 + q]? = (acC x)[q]? := by
  induction l generalizing i with
  | nil => simp at h
  | cons y r ih =>
    have e : acL (y :: r) = acC y ++ acL r := by simp [acL]
    rw [e]
    cases i with
    | zero =>
      simp at h
      subst h
      rw [Nat.zero_mul, Nat.zero_add, List.getElem?_append_left (by exact hq)]
    | succ i =>
      simp at h
      rw [List.getElem?_append_right (by show 8 ≤ _; omega), show (i + 1) * 8 + q - (acC y).length = i * 8 + q by show (i + 1) * 8 + q - 8 = _; omega]
      exact ih i h
theorem ac_cells {w : World} {F : Nat → Prop} {A : Option Addr} {n : Nat} {l : List Cn.Ac} (h : Cells w F A n 8 (acL l)) {i : Nat} {x : Cn.Ac} (hx : l[i]? = some x) : ∃ b off, A = some ⟨b, off, none⟩ ∧ b < w.heap.size ∧ ∀ q, q < 8 → w.cell? ⟨b, off + i * 8 + q, none⟩ = (acC x)[q]? := by
  have hl : l.length = n := by have := h.1; rw [acL_len] at this; omega
  have hi := (List.getElem?_eq_some_iff.1 hx).1
  obtain ⟨b, off, e, hF, hb, hc⟩ := h.at_ (i := i) (by omega)
  exact ⟨b, off, e, hb, fun q hq => (hc q hq).trans (acL_at l i x hx q hq)⟩
/-- What a call makes of a chain. -/
def Cn.act (L : List Cn.Ver) (a : Cn.Ac) : List Cn.Ver := if a.k % 4 = 2 then (Cn.drop L a.v.e a.f).1 else if a.k % 4 = 3 then L.drop (Cn.trimN L a.f) else (Cn.add L a.v).1
theorem Cn.act_len (L : List Cn.Ver) (a : Cn.Ac) : (Cn.act L a).length ≤ L.length + 1 := by
  unfold Cn.act
  split
  · have := Cn.drop_fst_len L a.v.e a.f
    omega
  · split
    · rw [List.length_drop]
      omega
    · unfold Cn.add
      split
      · split
        · simp
        · simp
      · simp
/-- The chain, and the reference's row of it, apart. -/
def Both (w W : World) (g : Nat) (A : Option Addr) (L : List Cn.Ver) : Prop :=
  ∃ F : Nat → Prop, ChIn W F g L ∧ Cells W (fun b => ¬ F b) A L.length 6 (vrL L) ∧ (∀ b, F b → w.heap.size ≤ b) ∧ Below w.heap.size w W
theorem Both.below {w W W' : World} {g : Nat} {A : Option Addr} {L : List Cn.Ver} (h : Both w W g A L) (hb : Below W.heap.size W W') : Both w W' g A L := by
  obtain ⟨F, h1, h2, h3, h4⟩ := h
  exact ⟨F, h1.below hb, h2.below hb, h3, below_next h4 hb⟩
/-- .. and F tells blocks that are there. -/
theorem Both.open {w W : World} {g : Nat} {A : Option Addr} {L : List Cn.Ver} (h : Both w W g A L) : ∃ F : Nat → Prop, ChIn W F g L ∧ Cells W (fun b => ¬ F b) A L.length 6 (vrL L) ∧ (∀ b, F b → w.heap.size ≤ b ∧ b < W.heap.size) ∧ Below w.heap.size w W := by
  obtain ⟨F, h1, h2, h3, h4⟩ := h
  exact ⟨fun b => F b ∧ b < W.heap.size, h1.mono (fun b hb hF => ⟨hF, hb⟩), h2.mono (fun b _ hF e => hF e.1), fun b hb => ⟨h3 b hb.1, hb.2⟩, h4⟩
/-- Behind a call of the reference's and one of the program's that tell the same. -/
theorem Both.next {w W W1 W2 : World} {F : Nat → Prop} {g : Nat} {A1 : Option Addr} {L' : List Cn.Ver} {v : Value} {e : Ending} (hF : ∀ b, F b → w.heap.size ≤ b ∧ b < W.heap.size) (h4 : Below w.heap.size w W) (hb : Below W.heap.size W W1) (hc : Cells W1 (fun b => ¬ F b ∨ W.heap.size ≤ b) A1 L'.length 6 (vrL L')) (hm : MutQ W1 F g L' v e W2) : Both w W2 g A1 L' := by
  obtain ⟨-, h1, h2⟩ := hm
  have hc2 : Cells W1 (fun b => ¬ F b ∧ b < W1.heap.size) A1 L'.length 6 (vrL L') := hc.mono fun b hlt h => ⟨fun e => by
    rcases h with h | h
    · exact h e
    · have := (hF b e).2
      omega, hlt⟩
  refine ⟨fun b => F b ∨ W1.heap.size ≤ b, h1, (hc2.turn h2 (fun b h => h.1)).mono (fun b _ h e => ?_), fun b h => ?_, (below_next h4 hb).trans (h2.below (below_next h4 hb).size (fun b h => (hF b h).1))⟩
  · rcases e with e | e
    · exact h.1 e
    · have := h.2
      omega
  · rcases h with h | h
    · exact (hF b h).1
    · exact Nat.le_trans (below_next h4 hb).size h
set_option maxRecDepth 100000 in
set_option maxHeartbeats 4000000 in
theorem lawPlays_any (w : World) (F0 : Nat → Prop) (A : Option Addr) (n c : Nat) (l : List Cn.Ac) (h : Cells w F0 A n 8 (acL l)) (hv : ∀ a ∈ l, a.v.e < 18446744073709551616 ∧ a.k < 256) : Calls Try.prog 4 #[.slice A n c] w (BoolP w true) := by
  by_cases h40 : 40 < n
  · have d1 : (40 : Int) < (n : Int) := by omega
    clear h hv h40
    go_enter Try.func4, Try.ntmps4
    go_wp2_with (go_at_call 8; (refine (works_any _).mono ?_); rintro e w10 ⟨rfl, b10⟩; have B12 := Lib.hid b10; clear b10)
    go_ret
    exact ⟨rfl, B12.out⟩
  · have d1 : ¬ (40 : Int) < (n : Int) := by omega
    have hln : l.length = n := by have := h.1; rw [acL_len] at this; omega
    have H := Lib.hid (And.intro h (And.intro hln hv))
    have HOF : Hid (Calls Try.prog 11 #[.slice none 0 0] w (OfQ w [])) := Lib.hid (in_of w (fun _ => True) none 0 0 [] (Cells.nil _ _ _ _) (by omega))
    have hn : n ≤ 40 := by omega
    clear h hv hln h40
    go_enter Try.func4, Try.ntmps4
    go_wp2_with fail
    refine HOF.out.mono ?_
    rintro e w1 (⟨h4, -⟩ | ⟨-, g, rfl, h4, b4⟩)
    · cases h4
    · have H4 := Lib.hid (show Both w w1 g none [] from ⟨_, h4, Cells.nil _ _ _ _, fun _ h => h, b4⟩)
      clear h4 b4
      go_wp2_with fail
      go_loopw [6, 5] (fun i r wr => ∃ (j : Nat) (A1 : Option Addr) (c1 : Nat) (L : List Cn.Ver), j ≤ n ∧ i = .int .i64 (j : Int) ∧ r = .slice A1 L.length c1 ∧ L.length ≤ j ∧ Both w wr g A1 L) (fun i _ _ => n - (intOf i).toNat)
      case atStart => exact ⟨0, none, 0, [], Nat.zero_le _, rfl, rfl, Nat.le_refl _, H4.out⟩
      case round =>
        obtain ⟨j, A1, c1, L, hk, rfl, rfl, hL, hB⟩ := hrel
        by_cases hlt : j < n
        · have i2 : (0 : Int) ≤ (j : Int) := by omega
          have i3 : (j : Int) < (n : Int) := by omega
          obtain ⟨a, ha⟩ : ∃ a, l[j]? = some a := ⟨_, List.getElem?_eq_getElem (by rw [H.out.2.1]; exact hlt)⟩
          obtain ⟨b, off, rfl, hbl, hc⟩ := ac_cells H.out.1 ha
          have hva := H.out.2.2 a (List.mem_of_getElem? ha)
          obtain ⟨F, hCh, hCe, hF, hBel⟩ := hB.open
          have z := fun q hq => (hBel.cell (p := ⟨b, off + j * 8 + q, none⟩) hbl).trans (hc q hq)
          have z0 := z 0 (by omega)
          have z1 := z 1 (by omega)
          have z2 := z 2 (by omega)
          have z3 := z 3 (by omega)
          have z4 := z 4 (by omega)
          have z5 := z 5 (by omega)
          have z6 := z 6 (by omega)
          have z7 := z 7 (by omega)
          simp only [acC, List.getElem?_cons_zero, List.getElem?_cons_succ, Nat.add_zero] at z0 z1 z2 z3 z4 z5 z6 z7
          obtain ⟨ak, v, af⟩ := a
          dsimp only at z0 z1 z2 z3 z4 z5 z6 z7 hva
          obtain ⟨q, hq⟩ : ∃ q, ak % 4 = q := ⟨_, rfl⟩
          have hq1 : ((ak : Int)).tmod 4 = (q : Int) := by rw [Int.tmod_eq_emod_of_nonneg (by omega)]; omega
          have hq2 : (ak : Int) % 4 = (q : Int) := by omega
          have hq4 : q < 4 := by omega
          have HA := Lib.hid (And.intro hCh (And.intro hCe (And.intro hF (And.intro hBel (And.intro hva (And.intro hL hq))))))
          have HREFS := Lib.hid (fun W : World => refs_any (W.alloc (.cells (verC v).toArray 35)) (fun b => W.heap.size ≤ b) (some ⟨W.heap.size, 0, none⟩) 1 1 [v] (Cells.of_own (own_ver W 35 v)) (by omega))
          unfold verC at HREFS
          clear hc hCh hCe hF hBel hva hL z ha hB hbl hk hq
          go_upto_region 9 with fail
          have K1 := (Held.start wr).new #[.int .u8 (ak : Int), .int .u64 (v.e : Int), .bool v.d, .int .i64 v.a.c, .int .i64 v.a.s, .int .i64 v.a.lo, .int .i64 v.a.hi, .int .u64 (af : Int)] 58
          obtain ⟨bx, hbx⟩ : ∃ bx, wr.heap.size = bx := ⟨_, rfl⟩
          obtain ⟨wA, hwA⟩ : ∃ wA, wr.alloc (.cells #[.int .u8 (ak : Int), .int .u64 (v.e : Int), .bool v.d, .int .i64 v.a.c, .int .i64 v.a.s, .int .i64 v.a.lo, .int .i64 v.a.hi, .int .u64 (af : Int)] 58) = wA := ⟨_, rfl⟩
          rw [hwA, hbx] at K1
          rw [hwA, hbx]
          clear hwA hbx
          have y0 := K1.top.cell 0
          have y1 := K1.top.cell 1
          have y2 := K1.top.cell 2
          have y3 := K1.top.cell 3
          have y4 := K1.top.cell 4
          have y5 := K1.top.cell 5
          have y6 := K1.top.cell 6
          have y7 := K1.top.cell 7
          simp only [List.getElem?_toArray, List.getElem?_cons_zero, List.getElem?_cons_succ] at y0 y1 y2 y3 y4 y5 y6 y7
          have HK1 := Lib.hid K1
          clear K1
          go_wp2_with fail
          have K1 := HK1.out
          clear y0 y1 y2 y3 y4 y5 y6 y7
          refine (HREFS.out wA).mono ?_
          rintro e w2 ⟨A2, c2, rfl, ho2, b2⟩
          have K2 := K1.step ((bel_al _ _).trans (b2.mono (bel_al _ _).size))
          obtain ⟨b5, o5, hA5, -, hbl5, x0, x1, x2, x3, x4, x5⟩ := vr_cells (Cells.of_own ho2) (i := 0) (x := v) rfl
          subst hA5
          simp only [Nat.zero_mul, Nat.add_zero] at x0 x1 x2 x3 x4 x5
          have K3 := K2.new #[.int .u64 (v.e : Int), .bool v.d, .int .i64 v.a.c, .int .i64 v.a.s, .int .i64 v.a.lo, .int .i64 v.a.hi] 46
          have y0 := K3.top.cell 0
          have y1 := K3.drop.top.cell 0
          have y2 := K3.drop.top.cell 7
          have y3 := K3.drop.top.cell 1
          simp only [List.getElem?_toArray, List.getElem?_cons_zero, List.getElem?_cons_succ] at y0 y1 y2 y3
          have HK3 := Lib.hid K3
          clear K1 K2 K3 ho2 b2 z0 z1 z2 z3 z4 z5 z6 z7
          go_upto_region 10 with fail
          obtain ⟨w3, hw3⟩ : ∃ w3, w2.alloc (.cells #[.int .u64 (v.e : Int), .bool v.d, .int .i64 v.a.c, .int .i64 v.a.s, .int .i64 v.a.lo, .int .i64 v.a.hi] 46) = w3 := ⟨_, rfl⟩
          obtain ⟨vb, hvb⟩ : ∃ vb, w2.heap.size = vb := ⟨_, rfl⟩
          have K3 := HK3.out
          rw [hw3, hvb] at K3
          rw [hw3, hvb]
          clear hw3 hvb HK3 y0 y1 y2 y3 x0 x1 x2 x3 x4 x5
          have y0 := K3.top.cell 0
          have v1 := K3.top.cell 1
          have v2 := K3.top.cell 2
          have v3 := K3.top.cell 3
          have v4 := K3.top.cell 4
          have v5 := K3.top.cell 5
          have y1 := K3.drop.top.cell 0
          have y2 := K3.drop.top.cell 7
          have y3 := K3.drop.top.cell 1
          simp only [List.getElem?_toArray, List.getElem?_cons_zero, List.getElem?_cons_succ] at y0 v1 v2 v3 v4 v5 y1 y2 y3
          have HK3 := Lib.hid K3
          clear K3
          have hq0 : q = 2 ∨ q = 3 ∨ (q ≠ 2 ∧ q ≠ 3) := by omega
          have HCE := Lib.hid (HA.out.2.1.below HK3.out.1)
          have HCH := Lib.hid (HA.out.1.below HK3.out.1)
          have hL40 : L.length ≤ 100 := by have := HA.out.2.2.2.2.2.1; omega
          rcases hq0 with rfl | rfl | ⟨hq5, hq6⟩
          · have hact : Cn.act L ⟨ak, v, af⟩ = (Cn.drop L v.e af).1 := by unfold Cn.act; rw [if_pos HA.out.2.2.2.2.2.2]
            have hlen := Cn.act_len L ⟨ak, v, af⟩
            rw [hact] at hlen
            obtain ⟨⟨L', bo⟩, hd⟩ : ∃ p, Cn.drop L v.e af = p := ⟨_, rfl⟩
            have HR := Lib.hid (refDrop_any w3 (fun b => ¬ F b) A1 L.length c1 L v.e af HCE.out (by omega) HCH.out.right)
            have HM := Lib.hid (fun (W : World) (hW : Below w3.heap.size w3 W) => in_drop (HCH.out.below hW) (by omega) v.e af)
            rw [hd] at HR HM hlen
            dsimp only at HR HM hlen
            have hlen : L'.length ≤ j + 1 := by have := HA.out.2.2.2.2.2.1; omega
            clear hact hd
            go_wp2_with fail
            refine HR.out.mono ?_
            rintro e w4 ⟨A3, c3, rfl, hc3, b4⟩
            have hc3 : Cells w4 (fun b => ¬ F b ∨ wr.heap.size ≤ b) A3 L'.length 6 (vrL L') := hc3.mono (fun b _ h => h.imp id (fun h => Nat.le_trans HK3.out.1.size h))
            have HM4 := Lib.hid (HM.out w4 b4)
            have K4 := HK3.out.step b4
            have HB4 := Lib.hid K4.1
            have y1 := K4.drop.top.cell 1
            have y2 := K4.drop.top.cell 7
            simp only [List.getElem?_toArray, List.getElem?_cons_zero, List.getElem?_cons_succ] at y1 y2
            have H3 := Lib.hid hc3
            clear b4 K4 hc3 v1 v2 v3 v4 v5
            go_wp2_with fail
            refine HM4.out.mono ?_
            intro e w5 hm
            have e1 := hm.1
            subst e1
            have hc3 := H3.out
            have HB := Lib.hid (And.intro (Both.next HA.out.2.2.1 HA.out.2.2.2.1 HB4.out hc3 hm) hlen)
            clear hc3 hm hlen y0 y1 y2 y3
            go_wp2_with fail
            obtain ⟨F2, ch2, ce2, hf2, hb2⟩ := HB.out.1.open
            refine (in_versions ch2 (by have := HB.out.2; omega)).mono ?_
            rintro e w6 ⟨A6, c6, rfl, ho6, b6⟩
            have H6 := Lib.hid (And.intro (Cells.of_own ho6) (And.intro (ce2.below b6) b6))
            clear ch2 ce2 hf2 hb2 ho6 b6
            go_wp2_with fail
            refine (same_yes w6 _ _ A6 A3 L'.length c6 c3 L' H6.out.1 H6.out.2.1 (by have := HB.out.2; omega)).mono ?_
            rintro e w7 ⟨rfl, b7⟩
            have B7 := Lib.hid (below_next H6.out.2.2 b7)
            clear b7
            go_wp2_with fail
            go_roundw
            case rel => exact ⟨j + 1, A3, c3, L', by omega, by go_num, rfl, HB.out.2, HB.out.1.below B7.out⟩
            case measure => simp [intOf]; omega
          · have hact : Cn.act L ⟨ak, v, af⟩ = L.drop (Cn.trimN L af) := by unfold Cn.act; rw [if_neg (by have := HA.out.2.2.2.2.2.2; show ¬ ak % 4 = 2; omega), if_pos HA.out.2.2.2.2.2.2]
            have hlen := Cn.act_len L ⟨ak, v, af⟩
            rw [hact] at hlen
            obtain ⟨L', hd⟩ : ∃ p, L.drop (Cn.trimN L af) = p := ⟨_, rfl⟩
            obtain ⟨tn, ht⟩ : ∃ p, Cn.trimN L af = p := ⟨_, rfl⟩
            have HR := Lib.hid (refTrim_any w3 (fun b => ¬ F b) A1 L.length c1 L af HCE.out (by omega) HCH.out.right)
            have HM := Lib.hid (fun (W : World) (hW : Below w3.heap.size w3 W) => in_trim (HCH.out.below hW) (by omega) af)
            rw [hd] at HR HM hlen
            rw [ht] at HR HM
            have hlen : L'.length ≤ j + 1 := by have := HA.out.2.2.2.2.2.1; omega
            clear hact hd ht
            go_wp2_with fail
            refine HR.out.mono ?_
            rintro e w4 ⟨A3, c3, rfl, hc3, b4⟩
            have hc3 : Cells w4 (fun b => ¬ F b ∨ wr.heap.size ≤ b) A3 L'.length 6 (vrL L') := hc3.mono (fun b _ h => h.imp id (fun h => Nat.le_trans HK3.out.1.size h))
            have HM4 := Lib.hid (HM.out w4 b4)
            have K4 := HK3.out.step b4
            have HB4 := Lib.hid K4.1
            have y1 := K4.drop.top.cell 1
            have y2 := K4.drop.top.cell 7
            simp only [List.getElem?_toArray, List.getElem?_cons_zero, List.getElem?_cons_succ] at y1 y2
            have H3 := Lib.hid hc3
            clear b4 K4 hc3 v1 v2 v3 v4 v5
            go_wp2_with fail
            refine HM4.out.mono ?_
            intro e w5 hm
            have e1 := hm.1
            subst e1
            have hc3 := H3.out
            have HB := Lib.hid (And.intro (Both.next HA.out.2.2.1 HA.out.2.2.2.1 HB4.out hc3 hm) hlen)
            clear hc3 hm hlen y0 y1 y2 y3
            go_wp2_with fail
            obtain ⟨F2, ch2, ce2, hf2, hb2⟩ := HB.out.1.open
            refine (in_versions ch2 (by have := HB.out.2; omega)).mono ?_
            rintro e w6 ⟨A6, c6, rfl, ho6, b6⟩
            have H6 := Lib.hid (And.intro (Cells.of_own ho6) (And.intro (ce2.below b6) b6))
            clear ch2 ce2 hf2 hb2 ho6 b6
            go_wp2_with fail
            refine (same_yes w6 _ _ A6 A3 L'.length c6 c3 L' H6.out.1 H6.out.2.1 (by have := HB.out.2; omega)).mono ?_
            rintro e w7 ⟨rfl, b7⟩
            have B7 := Lib.hid (below_next H6.out.2.2 b7)
            clear b7
            go_wp2_with fail
            go_roundw
            case rel => exact ⟨j + 1, A3, c3, L', by omega, by go_num, rfl, HB.out.2, HB.out.1.below B7.out⟩
            case measure => simp [intOf]; omega
          · have hact : Cn.act L ⟨ak, v, af⟩ = (Cn.add L v).1 := by unfold Cn.act; rw [if_neg (by have := HA.out.2.2.2.2.2.2; show ¬ ak % 4 = 2; omega), if_neg (by have := HA.out.2.2.2.2.2.2; show ¬ ak % 4 = 3; omega)]
            have hlen := Cn.act_len L ⟨ak, v, af⟩
            rw [hact] at hlen
            obtain ⟨⟨L', er⟩, hd⟩ : ∃ p, Cn.add L v = p := ⟨_, rfl⟩
            have HR := Lib.hid (refAdd_any w3 (fun b => ¬ F b) A1 L.length c1 L v HCE.out (by omega))
            have HM := Lib.hid (fun (W : World) (hW : Below w3.heap.size w3 W) => in_add (HCH.out.below hW) (by omega) v HA.out.2.2.2.2.1.1)
            rw [hd] at HR HM hlen
            dsimp only at HR HM hlen
            have hlen : L'.length ≤ j + 1 := by have := HA.out.2.2.2.2.2.1; omega
            have q5 : ((q : Int) == 2) = false := beq_eq_false_iff_ne.mpr (by omega)
            have q6 : ((q : Int) == 3) = false := beq_eq_false_iff_ne.mpr (by omega)
            clear hact hd hq5 hq6
            go_wp2_with fail
            refine HR.out.mono ?_
            rintro e w4 ⟨A3, c3, rfl, hc3, b4⟩
            have hc3 : Cells w4 (fun b => ¬ F b ∨ wr.heap.size ≤ b) A3 L'.length 6 (vrL L') := hc3.mono (fun b _ h => h.imp id (fun h => Nat.le_trans HK3.out.1.size h))
            have HM4 := Lib.hid (HM.out w4 b4)
            have K4 := HK3.out.step b4
            have HB4 := Lib.hid K4.1
            have y1 := K4.drop.top.cell 1
            have v2 := K4.drop.top.cell 2
            have v3 := K4.drop.top.cell 3
            have v4 := K4.drop.top.cell 4
            have v5 := K4.drop.top.cell 5
            have v6 := K4.drop.top.cell 6
            simp only [List.getElem?_toArray, List.getElem?_cons_zero, List.getElem?_cons_succ] at y1 v2 v3 v4 v5 v6
            have H3 := Lib.hid hc3
            clear b4 K4 hc3
            go_wp2_with fail
            refine HM4.out.mono ?_
            intro e w5 hm
            have e1 := hm.1
            subst e1
            have hc3 := H3.out
            have er2 : (er == er) = true := by simp
            have er3 : (er != er) = false := by simp
            have HB := Lib.hid (And.intro (Both.next HA.out.2.2.1 HA.out.2.2.2.1 HB4.out hc3 hm) hlen)
            clear hc3 hm hlen y0 y1 y2 y3
            go_wp2_with fail
            obtain ⟨F2, ch2, ce2, hf2, hb2⟩ := HB.out.1.open
            refine (in_versions ch2 (by have := HB.out.2; omega)).mono ?_
            rintro e w6 ⟨A6, c6, rfl, ho6, b6⟩
            have H6 := Lib.hid (And.intro (Cells.of_own ho6) (And.intro (ce2.below b6) b6))
            clear ch2 ce2 hf2 hb2 ho6 b6
            go_wp2_with fail
            refine (same_yes w6 _ _ A6 A3 L'.length c6 c3 L' H6.out.1 H6.out.2.1 (by have := HB.out.2; omega)).mono ?_
            rintro e w7 ⟨rfl, b7⟩
            have B7 := Lib.hid (below_next H6.out.2.2 b7)
            clear b7
            go_wp2_with fail
            go_roundw
            case rel => exact ⟨j + 1, A3, c3, L', by omega, by go_num, rfl, HB.out.2, HB.out.1.below B7.out⟩
            case measure => simp [intOf]; omega
        · obtain rfl : j = n := by omega
          obtain ⟨F, -, -, -, hBel⟩ := hB
          have HB := Lib.hid hBel
          clear hBel hk
          go_wp2_with (go_at_call 8; (refine (works_any _).mono ?_); rintro e w10 ⟨rfl, b10⟩; have B12 := Lib.hid (below_next HB.out b10); clear b10)
          go_ret
          exact ⟨rfl, B12.out⟩
end Go.Proofs.Yteegnehfagkjcaa
