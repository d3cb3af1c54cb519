/- ArenaTells: the program's Same. -/
import Derived.Test.YtgpcpjjdneimfaaDoorPlW
namespace Go.Proofs.YtgpcpjjdneimfaaDoor
open Go.ChangeShapes Go.WideShapes Go.ChangeAt Go.RowKit

/-- A call that came in: what it does, its node, its handles. -/
structure Ac where
  x : Int
  v : NdV
  d : Ar.Nd
  Al : Option Addr
  m : Nat
  cl : Nat
  l : List (Int × Int)
def acRow (a : Ac) : List Value := [.int .i64 a.x, .bool a.d.leaf, .slice a.v.A1 a.v.n1 a.v.c1, .slice a.v.A2 a.v.n2 a.v.c2, .slice a.v.A3 a.v.n3 a.v.c3, .slice a.Al a.m a.cl]
structure AcRaw (W : World) (F : Nat → Prop) (a : Ac) : Prop where
  keys : Cells W F a.v.A1 a.v.n1 1 (strL a.d.keys)
  kids : Cells W F a.v.A2 a.v.n2 2 (hanL a.d.kids)
  vals : Cells W F a.v.A3 a.v.n3 1 (intL a.d.vals)
  hl : Cells W F a.Al a.m 2 (hanL a.l)
/-- A row of calls in memory. -/
structure ActIn (W : World) (F : Nat → Prop) (A : Option Addr) (n : Nat) (q : List Ac) : Prop where
  len : q.length = n
  row : 0 < n → ∃ b off, A = some ⟨b, off, none⟩ ∧ F b ∧ b < W.heap.size ∧ ∀ i a, q[i]? = some a → ∀ j, j < 6 → W.cell? ⟨b, off + i * 6 + j, none⟩ = (acRow a)[j]?
  raw : ∀ (i : Nat) (a : Ac), q[i]? = some a → AcRaw W F a
def FewA (a : Ac) : Prop := a.v.n1 ≤ 10 ∧ a.v.n2 ≤ 10 ∧ a.v.n3 ≤ 10 ∧ a.m ≤ 6
theorem AcRaw.nd {W : World} {F : Nat → Prop} {a : Ac} (h : AcRaw W F a) (hf : FewA a) : NdIn W F a.v a.d := ⟨h.keys, h.kids, h.vals, by have := hf.1; omega, by have := hf.2.1; omega, by have := hf.2.2.1; omega⟩
theorem AcRaw.below {W W' : World} {F : Nat → Prop} {a : Ac} (h : AcRaw W F a) (hb : Below W.heap.size W W') : AcRaw W' F a := ⟨h.keys.below hb, h.kids.below hb, h.vals.below hb, h.hl.below hb⟩
theorem ActIn.below {W W' : World} {F : Nat → Prop} {A : Option Addr} {n : Nat} {q : List Ac} (h : ActIn W F A n q) (hb : Below W.heap.size W W') : ActIn W' F A n q where
  len := h.len
  row h0 := by
    obtain ⟨b, off, h1, h2, h3, h4⟩ := h.row h0
    exact ⟨b, off, h1, h2, Nat.lt_of_lt_of_le h3 hb.size, fun i a hi j hj => (hb.cell (p := ⟨b, off + i * 6 + j, none⟩) h3).trans (h4 i a hi j hj)⟩
  raw i a hi := (h.raw i a hi).below hb
def FewP (w : World) (n : Nat) (q : List Ac) (top : Int) (e : Ending) (w' : World) : Prop := ∃ b : Bool, e = .returned (.bool b) ∧ (b = true → (n : Int) ≤ top ∧ ∀ (i : Nat) (a : Ac), i < 100 → q[i]? = some a → FewA a) ∧ Below w.heap.size w w'
theorem FewP.no {w w' : World} {n : Nat} {q : List Ac} {top : Int} (h : Below w.heap.size w w') : FewP w n q top (.returned (.bool false)) w' := ⟨false, rfl, by simp, h⟩
set_option maxRecDepth 100000 in
set_option maxHeartbeats 4000000 in
theorem few_any (w : World) (F : Nat → Prop) (A : Option Addr) (n c : Nat) (q : List Ac) (h : ActIn w F A n q) (hn : n ≤ 9223372036854775807) (top : Int) :
    Calls Tryd.prog 8 #[.slice A n c, .int .i64 top] w (FewP w n q top) := by
  have H := Lib.hid h
  clear h
  go_enter Tryd.func8, Tryd.ntmps8
  go_wp2_with fail
  go_loopw [5] (fun i wr => ∃ j : Nat, j ≤ n ∧ j ≤ 100 ∧ i = .int .i64 (j : Int) ∧ Below w.heap.size w wr ∧ ∀ (i' : Nat) (a : Ac), i' < j → q[i']? = some a → FewA a) (fun i _ => n - (intOf i).toNat)
  case atStart => exact ⟨0, by omega, by omega, rfl, Below.refl _ _, fun i' a h => by omega⟩
  case round =>
    obtain ⟨j, hj, hj1, rfl, hbel, hall⟩ := hrel
    have i1 : (0 : Int) ≤ (j : Int) := by omega
    have HJ := Lib.hid (And.intro hj (And.intro hj1 (And.intro hbel hall)))
    clear hbel hall hj1
    by_cases hlt : j < n
    · have i2 : (j : Int) < (n : Int) := by omega
      by_cases h100 : j < 100
      · have i3 : (j : Int) < 100 := by omega
        obtain ⟨a, ha⟩ : ∃ a, q[j]? = some a := ⟨_, List.getElem?_eq_getElem (by rw [H.out.len]; exact hlt)⟩
        obtain ⟨b, off, rfl, -, hb, hc⟩ := H.out.row (by omega)
        have hcell : ∀ k, k < 6 → wr.cell? ⟨b, off + j * 6 + k, none⟩ = (acRow a)[k]? := fun k hk => (HJ.out.2.2.1.cell (p := ⟨b, _, none⟩) hb).trans (hc j a ha k hk)
        have p1 := hcell 1 (by omega)
        have p2 := hcell 2 (by omega)
        have p3 := hcell 3 (by omega)
        have p4 := hcell 4 (by omega)
        have p5 := hcell 5 (by omega)
        simp only [acRow, List.getElem?_cons_zero, List.getElem?_cons_succ] at p1 p2 p3 p4 p5
        have HA := Lib.hid (And.intro ha (And.intro hb (H.out.raw j a ha)))
        clear hcell ha hc hb
        go_upto_region 4 with fail
        go_upto_region 5 with fail
        obtain ⟨nb, hnb⟩ : ∃ nb, wr.heap.size = nb := ⟨_, rfl⟩
        obtain ⟨Y, hY⟩ : ∃ Y, wr.alloc (.cells #[.bool a.d.leaf, .slice a.v.A1 a.v.n1 a.v.c1, .slice a.v.A2 a.v.n2 a.v.c2, .slice a.v.A3 a.v.n3 a.v.c3] 36) = Y := ⟨_, rfl⟩
        have bY : Below wr.heap.size wr Y := hY ▸ (Below.refl _ _).alloc (Nat.le_refl _) _
        have hbox : Blk Y nb 36 #[.bool a.d.leaf, .slice a.v.A1 a.v.n1 a.v.c1, .slice a.v.A2 a.v.n2 a.v.c2, .slice a.v.A3 a.v.n3 a.v.c3] := by
          rw [← hY, ← hnb]
          exact Blk.new _ _ _
        have b1 := hbox.cell 1
        have b2 := hbox.cell 2
        have b3 := hbox.cell 3
        have h5 := (bY.cell (p := ⟨b, off + j * 6 + 5, none⟩) (Nat.lt_of_lt_of_le HA.out.2.1 HJ.out.2.2.1.size)).trans p5
        simp only [List.getElem?_toArray, List.getElem?_cons_zero, List.getElem?_cons_succ] at b1 b2 b3
        have hbY := below_next HJ.out.2.2.1 bY
        have HY := Lib.hid (And.intro hbY (And.intro hbox (And.intro hY hnb)))
        clear p1 p2 p3 p4 p5 hbY hbox bY hY hnb
        change Code.wp _ _ _ _ (wr.alloc (.cells #[.bool a.d.leaf, .slice a.v.A1 a.v.n1 a.v.c1, .slice a.v.A2 a.v.n2 a.v.c2, .slice a.v.A3 a.v.n3 a.v.c3] 36))
        rw [HY.out.2.2.1, HY.out.2.2.2]
        by_cases c1 : (10 : Int) < (a.v.n1 : Int)
        · as_aux_lemma =>
          go_wp2_with fail
          go_ret
          exact FewP.no HY.out.1
        by_cases c2 : (10 : Int) < (a.v.n2 : Int)
        · as_aux_lemma =>
          go_wp2_with fail
          go_ret
          exact FewP.no HY.out.1
        by_cases c3 : (10 : Int) < (a.v.n3 : Int)
        · as_aux_lemma =>
          go_wp2_with fail
          go_ret
          exact FewP.no HY.out.1
        by_cases c4 : (6 : Int) < (a.m : Int)
        · as_aux_lemma =>
          go_wp2_with fail
          go_ret
          exact FewP.no HY.out.1
        have HF : Hid (FewA a) := Lib.hid ⟨by omega, by omega, by omega, by omega⟩
        go_wp2_with fail
        clear b1 b2 b3 h5 c1 c2 c3 c4
        go_loopw [7] (fun i wx => ∃ k : Nat, k ≤ a.v.n1 ∧ i = .int .i64 (k : Int) ∧ Below Y.heap.size Y wx) (fun i _ => a.v.n1 - (intOf i).toNat)
        case atStart => exact ⟨0, by omega, rfl, Below.refl _ _⟩
        case round =>
          obtain ⟨k, hk, rfl, hbel⟩ := hrel
          have k1 : (0 : Int) ≤ (k : Int) := by omega
          have kf := HF.out.1
          have hbx := HY.out.2.1.below hbel HY.out.2.1.lt
          have b1 := hbx.cell 1
          simp only [List.getElem?_toArray, List.getElem?_cons_zero, List.getElem?_cons_succ] at b1
          have hbn := below_next HY.out.1 hbel
          have HX := Lib.hid (And.intro hbel hbn)
          have hkr := HA.out.2.2.keys.below hbn
          clear hbx hbel hbn
          by_cases hkl : k < a.v.n1
          · have k2 : (k : Int) < (a.v.n1 : Int) := by omega
            obtain ⟨x, hx⟩ : ∃ x, a.d.keys[k]? = some x := ⟨_, List.getElem?_eq_getElem (by have := hkr.1; simp [strL] at this; omega)⟩
            obtain ⟨p, po, hA, -, -, hc⟩ := hkr.at_ hkl
            have hx2 : (strL a.d.keys)[k]? = some (Value.string x) := by simp [strL, hx]
            have z0 := hc 0 (by omega)
            simp only [Nat.mul_one, Nat.add_zero] at z0
            rw [hx2] at z0
            rw [hA] at b1
            clear hc hx2 hkr hA
            by_cases cx : (40 : Int) < (x.size : Int)
            · as_aux_lemma =>
              go_wp2_with fail
              go_ret
              exact FewP.no HX.out.2
            · as_aux_lemma =>
              go_wp2_with fail
              exact ⟨⟨k + 1, by omega, by go_num, HX.out.1⟩, by simp [intOf]; omega⟩
          · as_aux_lemma =>
            obtain rfl : k = a.v.n1 := by omega
            have HN : Hid (∀ (i' : Nat) (a' : Ac), i' < j + 1 → q[i']? = some a' → FewA a') := Lib.hid fun i' a' h1 h2 => by
              rcases Nat.lt_or_ge i' j with h3 | h3
              · exact HJ.out.2.2.2 i' a' h3 h2
              · obtain rfl : i' = j := by omega
                have h4 := HA.out.1
                rw [h2] at h4
                cases h4
                exact HF.out
            clear hkr
            go_wp2_with fail
            exact ⟨⟨j + 1, by omega, by omega, by go_num, HX.out.2, HN.out⟩, by simp [intOf]; omega⟩
      · have i3 : ¬ (j : Int) < 100 := by omega
        as_aux_lemma =>
        have hall : ∀ (i' : Nat) (a' : Ac), i' < 100 → q[i']? = some a' → FewA a' := fun i' a' h1 h2 => HJ.out.2.2.2 i' a' (by omega) h2
        have HN := Lib.hid hall
        clear hall
        go_wp2_with fail
        go_ret
        exact ⟨_, rfl, fun h => ⟨by simpa using h, HN.out⟩, HJ.out.2.2.1⟩
    · have i2 : ¬ (j : Int) < (n : Int) := by omega
      as_aux_lemma =>
      have hall : ∀ (i' : Nat) (a' : Ac), i' < 100 → q[i']? = some a' → FewA a' := fun i' a' h1 h2 => HJ.out.2.2.2 i' a' (by have h3 := (List.getElem?_eq_some_iff.1 h2).1; have h4 := H.out.len; omega) h2
      have HN := Lib.hid hall
      clear hall
      go_wp2_with fail
      go_ret
      exact ⟨_, rfl, fun h => ⟨by simpa using h, HN.out⟩, HJ.out.2.2.1⟩
end Go.Proofs.YtgpcpjjdneimfaaDoor

namespace Go.Proofs.YtgpcpjjdneimfaaDoor
open Go.ChangeShapes Go.WideShapes Go.ChangeAt Go.RowKit

/-- The two arenas between calls: the program's is g, the reference's lies in the box rb. -/
structure Play (w0 w : World) (g rb j : Nat) (L : List Ar.Pl) (A : Option Addr) (n c : Nat) (P R : Nat → Prop) : Prop where
  two : Two w0 w g L L A n P R
  few : Few L j
  box : Blk w rb 29 #[.slice A n c]
  offP : ¬ P rb
  offR : ¬ R rb
  ge : w0.heap.size ≤ rb
theorem Play.below {w0 w w' : World} {g rb j : Nat} {L : List Ar.Pl} {A : Option Addr} {n c : Nat} {P R : Nat → Prop} (h : Play w0 w g rb j L A n c P R) (hb : Below w.heap.size w w') : Play w0 w' g rb j L A n c P R :=
  ⟨h.two.below hb, h.few, h.box.below hb h.box.lt, h.offP, h.offR, h.ge⟩
theorem Play.start (w0 w : World) (hv : Vars w0) (hb : Below w0.heap.size w0 w) : Play w0 ((w.alloc (.cells #[.slice none 0 0, .map none, .int .i64 0] 73)).alloc (.cells #[.slice none 0 0] 29)) w.heap.size (w.heap.size + 1) 0 [] none 0 0 (fun b => b = w.heap.size) (fun _ => False) := by
  have h1 := Two.start w0 w hv hb
  have hs := hb.size
  have h2 : Blk ((w.alloc (.cells #[.slice none 0 0, .map none, .int .i64 0] 73)).alloc (.cells #[.slice none 0 0] 29)) (w.heap.size + 1) 29 #[.slice none 0 0] := by
    have := Blk.new (w.alloc (.cells #[.slice none 0 0, .map none, .int .i64 0] 73)) 29 #[.slice none 0 0]
    rwa [show (w.alloc (.cells #[.slice none 0 0, .map none, .int .i64 0] 73)).heap.size = w.heap.size + 1 by simp] at this
  exact ⟨h1.below ((Below.refl _ _).alloc (Nat.le_refl _) _), ⟨by simp, fun i p hp => by simp at hp⟩, h2, by omega, fun e => e, by omega⟩
/-- Behind a call of both: the reference's new arena lies in the box b. -/
structure Next (w0 wr : World) (g rb j : Nat) (A : Option Addr) (n c b : Nat) (L' : List Ar.Pl) (A2 : Option Addr) (n2 c2 : Nat) (P' R' : Nat → Prop) (wx : World) : Prop where
  two : Two w0 wx g L' L' A2 n2 P' R'
  few : Few L' (j + 1)
  box : Blk wx b 29 #[.slice A2 n2 c2]
  old : Blk wx rb 29 #[.slice A n c]
  offP : ¬ P' rb
  offR : ¬ R' rb
section
variable {w0 wr X0 X1 : World} {g rb j n n2 c c2 : Nat} {L L' : List Ar.Pl} {A A2 : Option Addr} {P R P' R' : Nat → Prop}
theorem Play.newBox (h : Play w0 wr g rb j L A n c P R) (hb : Below wr.heap.size wr X0) (h2 : Two w0 X1 g L' L' A2 n2 P' R') (h3 : Few L' (j + 1)) (hT : Turns P X0 X1) (hP : ∀ b, P' b → P b ∨ X0.heap.size ≤ b) (hR : ∀ b, R' b → R b ∨ X0.heap.size ≤ b) : Next w0 wr g rb j A n c X1.heap.size L' A2 n2 c2 P' R' (X1.alloc (.cells #[.slice A2 n2 c2] 29)) := by
  have hs := hb.size
  have hl := h.box.lt
  have b1 := hT.blk (h.box.below hb h.box.lt) h.offP
  exact ⟨h2.below ((Below.refl _ _).alloc (Nat.le_refl _) _), h3, Blk.new _ _ _, b1.al _, fun e => (hP _ e).elim h.offP (fun e => by omega), fun e => (hR _ e).elim h.offR (fun e => by omega)⟩
theorem Play.oldBox (h : Play w0 wr g rb j L A n c P R) (hX : X0.heap = (wr.alloc (.cells #[.slice none 0 0] 29)).heap) (hb : Below wr.heap.size wr X0) (h2 : Two w0 X1 g L' L' A2 n2 P' R') (h3 : Few L' (j + 1)) (hT : Turns P X0 X1) (hP : ∀ b, P' b → P b ∨ X0.heap.size ≤ b) (hR : ∀ b, R' b → R b ∨ X0.heap.size ≤ b) (hN : Blk X1 wr.heap.size 29 #[.slice none 0 0]) : Next w0 wr g rb j A n c wr.heap.size L' A2 n2 c2 P' R' (X1.setCell ⟨wr.heap.size, 0, none⟩ (.slice A2 n2 c2)) := by
  have hs : X0.heap.size = wr.heap.size + 1 := by rw [hX]; simp
  have hl := h.box.lt
  have hw := h.two.bel.size
  have b1 := hT.blk (h.box.below hb h.box.lt) h.offP
  have t1 : Turns (fun x => x = wr.heap.size) X1 (X1.setCell ⟨wr.heap.size, 0, none⟩ (.slice A2 n2 c2)) := (Turns.refl (fun x => x = wr.heap.size) X1).setCell (g := wr.heap.size) _ _ (fun _ => rfl)
  refine ⟨h2.off t1 ?_, h3, by simpa using hN.set_ 0 (.slice A2 n2 c2), t1.blk b1 (by omega), fun e => (hP _ e).elim h.offP (fun e => by omega), fun e => (hR _ e).elim h.offR (fun e => by omega)⟩
  rintro b rfl
  exact ⟨fun e => (hP _ e).elim (fun e => by have := h.two.plt _ e; omega) (fun e => by omega), fun e => (hR _ e).elim (fun e => by have := h.two.rlt _ e; omega) (fun e => by omega), hw⟩
theorem Next.play {b : Nat} {wx : World} (h : Next w0 wr g rb j A n c b L' A2 n2 c2 P' R' wx) (hg : w0.heap.size ≤ rb) : Play w0 (wx.setCell ⟨rb, 0, none⟩ (.slice A2 n2 c2)) g rb (j + 1) L' A2 n2 c2 P' R' := by
  have t1 : Turns (fun x => x = rb) wx (wx.setCell ⟨rb, 0, none⟩ (.slice A2 n2 c2)) := (Turns.refl (fun x => x = rb) wx).setCell (g := rb) _ _ (fun _ => rfl)
  refine ⟨h.two.off t1 ?_, h.few, by simpa using h.old.set_ 0 (.slice A2 n2 c2), h.offP, h.offR, hg⟩
  rintro b rfl
  exact ⟨h.offP, h.offR, hg⟩
end
set_option maxRecDepth 100000 in
set_option maxHeartbeats 4000000 in
theorem lawPlays_any (w : World) (hv : Vars w) (A : Option Addr) (n c : Nat) (q : List Ac) (h : ActIn w (fun b => b < w.heap.size) A n q) (hn : n ≤ 9223372036854775807) : Calls Tryd.prog 3 #[.slice A n c] w (WorksP w) := by
  have H := Lib.hid h
  have HV := Lib.hid hv
  have HF := Lib.hid (few_any w _ A n c q h hn 40)
  clear h hv
  go_enter Tryd.func3, Tryd.ntmps3
  go_wp2_with fail
  refine HF.out.mono ?_
  clear HF
  rintro e w1 ⟨b, rfl, hb, b1⟩
  have HB := Lib.hid b1
  clear b1
  cases b with
  | false =>
    as_aux_lemma =>
    clear hb
    have HW := Lib.hid (works_any w1 (HV.out.next HB.out))
    go_wp2_with fail
    refine HW.out.mono ?_
    clear HW
    rintro e w2 ⟨rfl, b2⟩
    have HB2 := Lib.hid (below_next HB.out b2)
    clear b2
    go_wp2_with fail
    go_ret
    exact ⟨rfl, HB2.out⟩
  | true =>
    obtain ⟨hn40, hfa⟩ := hb rfl
    have hn41 : n ≤ 40 := by omega
    have HFA := Lib.hid hfa
    clear hb hfa hn40
    go_wp2_with fail
    refine (arNew_any w1).mono ?_
    rintro e w2 ⟨rfl, rfl⟩
    obtain ⟨g, hg⟩ : ∃ g, w1.heap.size = g := ⟨_, rfl⟩
    obtain ⟨rb, hrb⟩ : ∃ rb, w1.heap.size + 1 = rb := ⟨_, rfl⟩
    obtain ⟨w3, hw3⟩ : ∃ w3, (w1.alloc (.cells #[.slice none 0 0, .map none, .int .i64 0] 73)).alloc (.cells #[.slice none 0 0] 29) = w3 := ⟨_, rfl⟩
    have hP0 := Play.start w w1 HV.out HB.out
    rw [hw3, hrb, hg] at hP0
    have S0 := Lib.hid hP0
    have HK := Lib.hid (And.intro hg (And.intro hrb hw3))
    clear hP0 hg hrb hw3
    go_upto_region 5 with fail
    change Code.wp _ _ _ _ ((w1.alloc (.cells #[.slice none 0 0, .map none, .int .i64 0] 73)).alloc (.cells #[.slice none 0 0] 29))
    rw [HK.out.2.2, HK.out.2.1, HK.out.1]
    go_wp2_with fail
    go_loopw [5] (fun i wr => ∃ (j : Nat) (L : List Ar.Pl) (A' : Option Addr) (n' c' : Nat) (P R : Nat → Prop), j ≤ n ∧ i = .int .i64 (j : Int) ∧ Play w wr g rb j L A' n' c' P R) (fun i _ => n - (intOf i).toNat)
    case atStart => exact ⟨0, [], none, 0, 0, _, _, by omega, rfl, S0.out⟩
    case round =>
      obtain ⟨j, L, A', n', c', P, R, hj, rfl, hP⟩ := hrel
      have HP := Lib.hid hP
      clear hP S0 HK
      by_cases hlt : j < n
      · have i1 : (0 : Int) ≤ (j : Int) := by omega
        have i2 : (j : Int) < (n : Int) := by omega
        obtain ⟨a, ha⟩ : ∃ a, q[j]? = some a := ⟨_, List.getElem?_eq_getElem (by rw [H.out.len]; exact hlt)⟩
        obtain ⟨b, off, rfl, -, hbw, hc⟩ := H.out.row (by omega)
        have hfa := HFA.out j a (by omega) ha
        have HA := Lib.hid (And.intro hbw (And.intro (hc j a ha) (And.intro (H.out.raw j a ha) hfa)))
        clear hc ha hbw hfa
        go_upto_region 8 with fail
        go_cut [6, 7] (fun p v wx => ∃ (b : Nat) (L' : List Ar.Pl) (A2 : Option Addr) (n2 c2 : Nat) (P' R' : Nat → Prop), p = .pointer (some ⟨b, 0, none⟩) ∧ v = .bool true ∧ Next w wr g rb j A' n' c' b L' A2 n2 c2 P' R' wx)
        case first =>
          have PT : Hid (∀ X', Turns (fun x => P x ∨ wr.heap.size ≤ x) wr X' → X'.cell? ⟨rb, 0, none⟩ = some (.slice A' n' c') ∧ X'.cell? ⟨b, off + j * 6, none⟩ = some (.int .i64 a.x) ∧ X'.cell? ⟨b, off + j * 6 + 1, none⟩ = some (.bool a.d.leaf) ∧ X'.cell? ⟨b, off + j * 6 + 2, none⟩ = some (.slice a.v.A1 a.v.n1 a.v.c1) ∧ X'.cell? ⟨b, off + j * 6 + 3, none⟩ = some (.slice a.v.A2 a.v.n2 a.v.c2) ∧ X'.cell? ⟨b, off + j * 6 + 4, none⟩ = some (.slice a.v.A3 a.v.n3 a.v.c3) ∧ X'.cell? ⟨b, off + j * 6 + 5, none⟩ = some (.slice a.Al a.m a.cl)) := Lib.hid fun X' ht => by
            have h1 := ht.blk HP.out.box (fun e => e.elim HP.out.offP (fun e => by have := HP.out.box.lt; omega))
            have h2 : Below w.heap.size w X' := HP.out.two.bel.trans (ht.below HP.out.two.bel.size (fun y e => e.elim (HP.out.two.pge y) (fun e => Nat.le_trans HP.out.two.bel.size e)))
            have h3 : ∀ k, k < 6 → X'.cell? ⟨b, off + j * 6 + k, none⟩ = (acRow a)[k]? := fun k hk => (h2.cell (p := ⟨b, off + j * 6 + k, none⟩) HA.out.1).trans (HA.out.2.1 k hk)
            exact ⟨h1.cell 0, h3 0 (by omega), h3 1 (by omega), h3 2 (by omega), h3 3 (by omega), h3 4 (by omega), h3 5 (by omega)⟩
          have T0 : Hid (Turns (fun x => P x ∨ wr.heap.size ≤ x) wr wr.drew) := Lib.hid (Turns.refl _ _).drew
          have T0b : Hid (∀ o, Turns (fun x => P x ∨ wr.heap.size ≤ x) wr (wr.alloc o).drew) := Lib.hid fun o => ((Turns.refl _ _).alloc o).drew
          have TN : Hid (∀ X0 X1, Below wr.heap.size wr X0 → Turns P X0 X1 → Turns (fun x => P x ∨ wr.heap.size ≤ x) wr X1) := Lib.hid fun X0 X1 h1 h2 => (Turns.of_below h1).then h2 (fun _ _ e => .inl e)
          have E0 : Hid (Below wr.heap.size wr wr.drew) := Lib.hid (Below.refl _ _).drew
          have E0b : Hid (Below wr.heap.size wr (wr.alloc (.cells #[.slice none 0 0] 29)).drew) := Lib.hid ((Below.refl _ _).alloc (Nat.le_refl _) _).drew
          have HD : Hid (∀ X', Below wr.heap.size wr X' → Calls Tryd.prog 11 #[.pointer (some ⟨g, 0, none⟩), .agg #[.slice A' n' c'], .agg #[.int .i64 a.x, .bool a.d.leaf, .slice a.v.A1 a.v.n1 a.v.c1, .slice a.v.A2 a.v.n2 a.v.c2, .slice a.v.A3 a.v.n3 a.v.c3, .slice a.Al a.m a.cl]] X' (DoesP w X' g P R (j + 1))) := Lib.hid fun X' h1 => by
            have h2 := HP.out.two.bel.trans (h1.mono HP.out.two.bel.size)
            have h3 := HA.out.2.2.1.below h2
            exact does_any w X' g L A' n' c' P R j (HP.out.two.below h1) HP.out.few (by omega) a.x a.v a.d a.Al a.m a.cl a.l (h3.nd HA.out.2.2.2) h3.hl (by have := HA.out.2.2.2.2.2.2; omega)
          go_region_held3 (fun X' => X'.cell? ⟨rb, 0, none⟩ = some (.slice A' n' c') ∧ X'.cell? ⟨b, off + j * 6, none⟩ = some (.int .i64 a.x) ∧ X'.cell? ⟨b, off + j * 6 + 1, none⟩ = some (.bool a.d.leaf) ∧ X'.cell? ⟨b, off + j * 6 + 2, none⟩ = some (.slice a.v.A1 a.v.n1 a.v.c1) ∧ X'.cell? ⟨b, off + j * 6 + 3, none⟩ = some (.slice a.v.A2 a.v.n2 a.v.c2) ∧ X'.cell? ⟨b, off + j * 6 + 4, none⟩ = some (.slice a.v.A3 a.v.n3 a.v.c3) ∧ X'.cell? ⟨b, off + j * 6 + 5, none⟩ = some (.slice a.Al a.m a.cl)) (first | with_reducible exact PT.out _ T1.out | with_reducible exact PT.out _ T0.out | with_reducible exact PT.out _ (T0b.out _) | with_reducible exact PT.out _ (Turns.alloc T1.out _) | exact PT.out _ (Turns.setCell (g := wr.heap.size) T1.out _ _ (fun _ => Or.inr (Nat.le_refl _))) | fail) (first
            | (go_at_call 11; (with_reducible refine (HD.out _ E0.out).mono ?_); rintro e X1 ⟨L', A2, n2, c2, P', R', rfl, hT2, hF2, hTu, hPs, hRs⟩; have T1 := Lib.hid (TN.out _ _ E0.out hTu); have O1 := Lib.hid (Play.newBox (c2 := c2) HP.out E0.out hT2 hF2 hTu hPs hRs); clear hT2 hF2 hTu hPs hRs)
            | (go_at_call 11; (with_reducible refine (HD.out _ E0b.out).mono ?_); rintro e X1 ⟨L', A2, n2, c2, P', R', rfl, hT2, hF2, hTu, hPs, hRs⟩; have T1 := Lib.hid (TN.out _ _ E0b.out hTu); have hN := hTu.blk (w := (wr.alloc (.cells #[.slice none 0 0] 29)).drew) (Blk.new wr 29 #[.slice none 0 0]) (fun e => by have := HP.out.two.plt _ e; omega); have z0 := hN.cell 0; have y0 := hN.frozen 0; have O2 := Lib.hid (Play.oldBox (X0 := (wr.alloc (.cells #[.slice none 0 0] 29)).drew) (c2 := c2) HP.out rfl E0b.out hT2 hF2 hTu hPs hRs hN); simp only [List.getElem?_toArray, List.getElem?_cons_zero] at z0; clear hT2 hF2 hTu hPs hRs hN))
          all_goals go_wp2_with fail
          all_goals go_meet
          · case rel => exact ⟨_, L', A2, n2, c2, P', R', rfl, rfl, O1.out⟩
          · case rel => exact ⟨_, L', A2, n2, c2, P', R', rfl, rfl, O2.out⟩
        case rest =>
          obtain ⟨b', L', A2, n2, c2, P', R', rfl, rfl, hN⟩ := hcut
          have z0 := hN.box.cell 0
          have y0 := hN.old.cell 0
          have f0 := hN.old.frozen 0
          simp only [List.getElem?_toArray, List.getElem?_cons_zero] at z0 y0
          obtain ⟨V, hV⟩ : ∃ V, wc.setCell ⟨rb, 0, none⟩ (.slice A2 n2 c2) = V := ⟨_, rfl⟩
          have hPl : Play w V g rb (j + 1) L' A2 n2 c2 P' R' := hV ▸ hN.play HP.out.ge
          have x0 := hPl.box.cell 0
          simp only [List.getElem?_toArray, List.getElem?_cons_zero] at x0
          have HPl := Lib.hid hPl
          have HV2 := Lib.hid hV
          have HI := Lib.hid (is_any w V g L' A2 n2 c2 P' R' (j + 1) hPl.two hPl.few (by omega))
          clear hPl hV hN
          go_upto_region 10 with fail
          change Code.wp _ _ _ _ (wc.setCell ⟨rb, 0, none⟩ (.slice A2 n2 c2))
          rw [HV2.out]
          clear z0 y0 f0
          go_wp2_with fail
          refine HI.out.mono ?_
          clear HI x0
          rintro e V2 ⟨rfl, bV⟩
          have HP2 := Lib.hid (HPl.out.below bV)
          clear bV
          go_wp2_with fail
          exact ⟨⟨j + 1, L', A2, n2, c2, P', R', by omega, by go_num, HP2.out⟩, by simp [intOf]; omega⟩
      · obtain rfl : j = n := by omega
        as_aux_lemma =>
        have x0 := HP.out.box.cell 0
        simp only [List.getElem?_toArray, List.getElem?_cons_zero] at x0
        have HI := Lib.hid (is_any w wr g L A' n' c' P R j HP.out.two HP.out.few (by omega))
        go_wp2_with fail
        refine HI.out.mono ?_
        clear HI x0
        rintro e V2 ⟨rfl, bV⟩
        have HP2 := Lib.hid (HP.out.below bV)
        have HW := Lib.hid (works_any V2 (HP2.out.two.vars))
        clear bV
        go_wp2_with fail
        refine HW.out.mono ?_
        clear HW
        rintro e V3 ⟨rfl, b3⟩
        have HB3 := Lib.hid (HP2.out.two.bel.trans (b3.mono HP2.out.two.bel.size))
        clear b3
        go_wp2_with fail
        go_ret
        exact ⟨rfl, HB3.out⟩
end Go.Proofs.YtgpcpjjdneimfaaDoor

namespace Go.Proofs.YtgpcpjjdneimfaaDoor
open Go.ChangeShapes Go.WideShapes Go.ChangeAt Go.RowKit

/-- Whether p holds, told in new memory. -/
def TellP (w : World) (p : Prop) (e : Ending) (w' : World) : Prop := (∃ b : Bool, e = .returned (.bool b) ∧ (b = true ↔ p)) ∧ Below w.heap.size w w'
theorem phandle_same (a b x y : Int) (w : World) : (Op.equalIn 10000 42 (.agg #[.int .i64 a, .int .i64 b]) (.agg #[.int .i64 x, .int .i64 y])).run Tryd.prog w = .ok (decide (a = x) && decide (b = y)) w := by
  have hS : Tryd.prog.underlying 42 = some (.struct (Tryd.prog.fieldsOf 42)) := by kernel_rfl
  have hp : Tryd.prog.stoodInHeld 42 = false := by kernel_rfl
  rw [show (10000 : Nat) = 9999 + 1 from rfl, run_equalIn_agg w 9999 42 _ _ hS hp]
  simp only [Program.fieldsOf, Tryd.underlying42]
  go_simp
  (repeat' split) <;> simp [*]
set_option maxRecDepth 100000 in
theorem eqS_any (w : World) (F F' : Nat → Prop) (A B : Option Addr) (n c m k : Nat) (l l' : List ByteArray) (h : Cells w F A n 1 (strL l)) (h' : Cells w F' B m 1 (strL l')) (hn : n ≤ 1000000) : Calls Tryd.prog 37 #[.slice A n c, .slice B m k] w (TellP w (l = l')) := by
  have H := Lib.hid (And.intro h (And.intro h' hn))
  have hln : l.length = n := by have := H.out.1.1; simp [strL] at this; omega
  have hlm : l'.length = m := by have := H.out.2.1.1; simp [strL] at this; omega
  have HL := Lib.hid (And.intro hln hlm)
  clear h h' hln hlm
  go_enter Tryd.func37, Tryd.ntmps37
  by_cases hnm : n = m
  · subst hnm
    go_wp2_with fail
    go_loopw [13, 5] (fun i _ wr => ∃ j : Nat, j ≤ n ∧ i = .int .i64 (j : Int) ∧ Below w.heap.size w wr ∧ ∀ k, k < j → l[k]? = l'[k]?) (fun i _ _ => n - (intOf i).toNat)
    case atStart => exact ⟨0, by omega, rfl, Below.refl _ _, fun k hk => by omega⟩
    case round =>
      obtain ⟨j, hj, rfl, hbel, heq⟩ := hrel
      have i1 : (0 : Int) ≤ (j : Int) := by omega
      by_cases hlt : j < n
      · have i2 : (j : Int) < (n : Int) := by omega
        obtain ⟨x, hx⟩ : ∃ x, l[j]? = some x := ⟨_, List.getElem?_eq_getElem (by have := HL.out.1; omega)⟩
        obtain ⟨y, hy⟩ : ∃ y, l'[j]? = some y := ⟨_, List.getElem?_eq_getElem (by have := HL.out.2; omega)⟩
        obtain ⟨p, off, rfl, -, -, hc⟩ := (H.out.1.below hbel).at_ hlt
        obtain ⟨q, off', rfl, -, -, hc'⟩ := (H.out.2.1.below hbel).at_ (show j < n from hlt)
        have hx2 : (strL l)[j]? = some (Value.string x) := by simp [strL, hx]
        have hy2 : (strL l')[j]? = some (Value.string y) := by simp [strL, hy]
        have z0 := hc 0 (by omega)
        have z2 := hc' 0 (by omega)
        simp only [Nat.mul_one, Nat.add_zero] at z0 z2
        rw [hx2] at z0
        rw [hy2] at z2
        have HK := Lib.hid (And.intro hbel (And.intro heq (And.intro hx hy)))
        clear hbel heq hx hy hc hc' hx2 hy2
        by_cases hxe : x = y
        · have hq : (x.toList == y.toList) = true := by rw [hxe]; simp
          have hq2 : (x.toList != y.toList) = false := by rw [hxe]; simp
          go_wp2_with fail
          go_still_tail 8, (by kernel_rfl)
          change wpList _ _ _ _ _ wr.drew
          obtain ⟨w2, hw2⟩ : ∃ w2, wr.drew = w2 := ⟨_, rfl⟩
          have hb2 : Hid (Below w.heap.size w w2) := Lib.hid (hw2 ▸ HK.out.1.drew)
          rw [hw2]
          clear hw2
          go_wp2_with fail
          refine ⟨⟨j + 1, by omega, by go_num, hb2.out, fun k hk => ?_⟩, by simp [intOf]; omega⟩
          rcases Nat.lt_or_ge k j with hkj | hkj
          · exact HK.out.2.1 k hkj
          · obtain rfl : k = j := by omega
            rw [HK.out.2.2.1, HK.out.2.2.2, hxe]
        · have hq : (x.toList == y.toList) = false := bytes_ne hxe
          have hq2 : (x.toList != y.toList) = true := by rw [bne, hq]; rfl
          go_wp2_with fail
          go_still_tail 8, (by kernel_rfl)
          change wpList _ _ _ _ _ wr.drew
          obtain ⟨w2, hw2⟩ : ∃ w2, wr.drew = w2 := ⟨_, rfl⟩
          have hb2 : Hid (Below w.heap.size w w2) := Lib.hid (hw2 ▸ HK.out.1.drew)
          rw [hw2]
          clear hw2
          go_wp2_with fail
          go_ret
          refine ⟨⟨false, rfl, (by intro e; cases e), fun e => absurd ?_ hxe⟩, hb2.out⟩
          have h5 := HK.out.2.2.1
          rw [e, HK.out.2.2.2] at h5
          exact (Option.some.inj h5).symm
      · obtain rfl : j = n := by omega
        have hall : l = l' := by
          apply List.ext_getElem?
          intro k
          rcases Nat.lt_or_ge k j with hk | hk
          · exact heq k hk
          · rw [List.getElem?_eq_none (by have := HL.out.1; omega), List.getElem?_eq_none (by have := HL.out.2; omega)]
        have HE1 := Lib.hid (And.intro hbel hall)
        clear hbel heq hall
        go_wp2_with fail
        go_ret
        exact ⟨⟨true, rfl, fun _ => HE1.out.2, fun _ => rfl⟩, HE1.out.1⟩
  · have hd : ¬ (n : Int) = (m : Int) := by omega
    have hd1 : ((n : Int) == (m : Int)) = false := by simpa using hd
    have hd2 : ((n : Int) != (m : Int)) = true := by simpa using hd
    go_wp2_with fail
    go_ret
    exact ⟨⟨false, rfl, (by intro e; cases e), fun e => absurd (by rw [← HL.out.1, ← HL.out.2, e]) hnm⟩, Below.refl _ _⟩
set_option maxRecDepth 100000 in
theorem eqH_any (w : World) (F F' : Nat → Prop) (A B : Option Addr) (n c m k : Nat) (l l' : List (Int × Int)) (h : Cells w F A n 2 (hanL l)) (h' : Cells w F' B m 2 (hanL l')) (hn : n ≤ 1000000) : Calls Tryd.prog 38 #[.slice A n c, .slice B m k] w (TellP w (l = l')) := by
  have H := Lib.hid (And.intro h (And.intro h' hn))
  have hln : l.length = n := by have := H.out.1.1; rw [hanL_len] at this; omega
  have hlm : l'.length = m := by have := H.out.2.1.1; rw [hanL_len] at this; omega
  have HL := Lib.hid (And.intro hln hlm)
  clear h h' hln hlm
  go_enter Tryd.func38, Tryd.ntmps38
  by_cases hnm : n = m
  · subst hnm
    go_wp2_with fail
    go_loopw [13, 5] (fun i _ wr => ∃ j : Nat, j ≤ n ∧ i = .int .i64 (j : Int) ∧ Below w.heap.size w wr ∧ ∀ k, k < j → l[k]? = l'[k]?) (fun i _ _ => n - (intOf i).toNat)
    case atStart => exact ⟨0, by omega, rfl, Below.refl _ _, fun k hk => by omega⟩
    case round =>
      obtain ⟨j, hj, rfl, hbel, heq⟩ := hrel
      have i1 : (0 : Int) ≤ (j : Int) := by omega
      by_cases hlt : j < n
      · have i2 : (j : Int) < (n : Int) := by omega
        obtain ⟨x, hx⟩ : ∃ x, l[j]? = some x := ⟨_, List.getElem?_eq_getElem (by have := HL.out.1; omega)⟩
        obtain ⟨y, hy⟩ : ∃ y, l'[j]? = some y := ⟨_, List.getElem?_eq_getElem (by have := HL.out.2; omega)⟩
        obtain ⟨p, off, rfl, -, -, hc⟩ := (H.out.1.below hbel).at_ hlt
        obtain ⟨q, off', rfl, -, -, hc'⟩ := (H.out.2.1.below hbel).at_ (show j < n from hlt)
        have hx2 := hanL_at _ j x hx
        have hy2 := hanL_at _ j y hy
        obtain ⟨x1, x2⟩ := x
        obtain ⟨y1, y2⟩ := y
        have z0 := (hc 0 (by omega)).trans hx2.1
        have z1 := (hc 1 (by omega)).trans hx2.2
        have z2 := (hc' 0 (by omega)).trans hy2.1
        have z3 := (hc' 1 (by omega)).trans hy2.2
        simp only [Nat.add_zero] at z0 z2
        simp only at z0 z1 z2 z3
        have hxy : ((x1, x2) = (y1, y2)) ↔ (x1 = y1 ∧ x2 = y2) := by simp
        have HK := Lib.hid (And.intro hbel (And.intro heq (And.intro hx hy)))
        clear hbel heq hx hy hc hc' hx2 hy2
        by_cases hxe : (x1, x2) = (y1, y2)
        · have g1 := handle_guard
          have q1 : ∀ W, (Op.equalIn 10000 42 (.agg #[.int .i64 x1, .int .i64 x2]) (.agg #[.int .i64 y1, .int .i64 y2])).run Tryd.prog W = .ok true W := fun W => by rw [phandle_same, decide_eq_true (hxy.1 hxe).1, decide_eq_true (hxy.1 hxe).2]; rfl
          clear hxy
          go_wp2_with fail
          go_still_tail 8, (by kernel_rfl)
          change wpList _ _ _ _ _ wr.drew
          obtain ⟨w2, hw2⟩ : ∃ w2, wr.drew = w2 := ⟨_, rfl⟩
          have hb2 : Hid (Below w.heap.size w w2) := Lib.hid (hw2 ▸ HK.out.1.drew)
          rw [hw2]
          clear hw2
          go_wp2_with fail
          refine ⟨⟨j + 1, by omega, by go_num, hb2.out, fun k hk => ?_⟩, by simp [intOf]; omega⟩
          rcases Nat.lt_or_ge k j with hkj | hkj
          · exact HK.out.2.1 k hkj
          · obtain rfl : k = j := by omega
            rw [HK.out.2.2.1, HK.out.2.2.2, hxe]
        · have g1 := handle_guard
          have q1 : ∀ W, (Op.equalIn 10000 42 (.agg #[.int .i64 x1, .int .i64 x2]) (.agg #[.int .i64 y1, .int .i64 y2])).run Tryd.prog W = .ok false W := fun W => by
            rw [phandle_same]
            have : (decide (x1 = y1) && decide (x2 = y2)) = false := by
              rw [Bool.and_eq_false_iff, decide_eq_false_iff_not, decide_eq_false_iff_not]
              by_cases h1 : x1 = y1
              · exact .inr (fun h2 => hxe (hxy.2 ⟨h1, h2⟩))
              · exact .inl h1
            rw [this]
          have HXY := Lib.hid hxy
          clear hxy
          go_wp2_with fail
          go_still_tail 8, (by kernel_rfl)
          change wpList _ _ _ _ _ wr.drew
          obtain ⟨w2, hw2⟩ : ∃ w2, wr.drew = w2 := ⟨_, rfl⟩
          have hb2 : Hid (Below w.heap.size w w2) := Lib.hid (hw2 ▸ HK.out.1.drew)
          rw [hw2]
          clear hw2
          go_wp2_with fail
          go_ret
          refine ⟨⟨false, rfl, (by intro e; cases e), fun e => absurd ?_ hxe⟩, hb2.out⟩
          have h5 := HK.out.2.2.1
          rw [e, HK.out.2.2.2] at h5
          exact (Option.some.inj h5).symm
      · obtain rfl : j = n := by omega
        have hall : l = l' := by
          apply List.ext_getElem?
          intro k
          rcases Nat.lt_or_ge k j with hk | hk
          · exact heq k hk
          · rw [List.getElem?_eq_none (by have := HL.out.1; omega), List.getElem?_eq_none (by have := HL.out.2; omega)]
        have HE1 := Lib.hid (And.intro hbel hall)
        clear hbel heq hall
        go_wp2_with fail
        go_ret
        exact ⟨⟨true, rfl, fun _ => HE1.out.2, fun _ => rfl⟩, HE1.out.1⟩
  · have hd : ¬ (n : Int) = (m : Int) := by omega
    have hd1 : ((n : Int) == (m : Int)) = false := by simpa using hd
    have hd2 : ((n : Int) != (m : Int)) = true := by simpa using hd
    go_wp2_with fail
    go_ret
    exact ⟨⟨false, rfl, (by intro e; cases e), fun e => absurd (by rw [← HL.out.1, ← HL.out.2, e]) hnm⟩, Below.refl _ _⟩
set_option maxRecDepth 100000 in
theorem eqI_any (w : World) (F F' : Nat → Prop) (A B : Option Addr) (n c m k : Nat) (l l' : List Int) (h : Cells w F A n 1 (intL l)) (h' : Cells w F' B m 1 (intL l')) (hn : n ≤ 1000000) : Calls Tryd.prog 39 #[.slice A n c, .slice B m k] w (TellP w (l = l')) := by
  have H := Lib.hid (And.intro h (And.intro h' hn))
  have hln : l.length = n := by have := H.out.1.1; simp [intL] at this; omega
  have hlm : l'.length = m := by have := H.out.2.1.1; simp [intL] at this; omega
  have HL := Lib.hid (And.intro hln hlm)
  clear h h' hln hlm
  go_enter Tryd.func39, Tryd.ntmps39
  by_cases hnm : n = m
  · subst hnm
    go_wp2_with fail
    go_loopw [13, 5] (fun i _ wr => ∃ j : Nat, j ≤ n ∧ i = .int .i64 (j : Int) ∧ Below w.heap.size w wr ∧ ∀ k, k < j → l[k]? = l'[k]?) (fun i _ _ => n - (intOf i).toNat)
    case atStart => exact ⟨0, by omega, rfl, Below.refl _ _, fun k hk => by omega⟩
    case round =>
      obtain ⟨j, hj, rfl, hbel, heq⟩ := hrel
      have i1 : (0 : Int) ≤ (j : Int) := by omega
      by_cases hlt : j < n
      · have i2 : (j : Int) < (n : Int) := by omega
        obtain ⟨x, hx⟩ : ∃ x, l[j]? = some x := ⟨_, List.getElem?_eq_getElem (by have := HL.out.1; omega)⟩
        obtain ⟨y, hy⟩ : ∃ y, l'[j]? = some y := ⟨_, List.getElem?_eq_getElem (by have := HL.out.2; omega)⟩
        obtain ⟨p, off, rfl, -, -, hc⟩ := (H.out.1.below hbel).at_ hlt
        obtain ⟨q, off', rfl, -, -, hc'⟩ := (H.out.2.1.below hbel).at_ (show j < n from hlt)
        have hx2 : (intL l)[j]? = some (Value.int .i64 x) := by simp [intL, hx]
        have hy2 : (intL l')[j]? = some (Value.int .i64 y) := by simp [intL, hy]
        have z0 := hc 0 (by omega)
        have z2 := hc' 0 (by omega)
        simp only [Nat.mul_one, Nat.add_zero] at z0 z2
        rw [hx2] at z0
        rw [hy2] at z2
        have HK := Lib.hid (And.intro hbel (And.intro heq (And.intro hx hy)))
        clear hbel heq hx hy hc hc' hx2 hy2
        by_cases hxe : x = y
        · have hq : (x == y) = true := by rw [hxe]; simp
          have hq2 : (x != y) = false := by rw [hxe]; simp
          go_wp2_with fail
          go_still_tail 8, (by kernel_rfl)
          change wpList _ _ _ _ _ wr.drew
          obtain ⟨w2, hw2⟩ : ∃ w2, wr.drew = w2 := ⟨_, rfl⟩
          have hb2 : Hid (Below w.heap.size w w2) := Lib.hid (hw2 ▸ HK.out.1.drew)
          rw [hw2]
          clear hw2
          go_wp2_with fail
          refine ⟨⟨j + 1, by omega, by go_num, hb2.out, fun k hk => ?_⟩, by simp [intOf]; omega⟩
          rcases Nat.lt_or_ge k j with hkj | hkj
          · exact HK.out.2.1 k hkj
          · obtain rfl : k = j := by omega
            rw [HK.out.2.2.1, HK.out.2.2.2, hxe]
        · have hq : (x == y) = false := by simpa using hxe
          have hq2 : (x != y) = true := by simpa using hxe
          go_wp2_with fail
          go_still_tail 8, (by kernel_rfl)
          change wpList _ _ _ _ _ wr.drew
          obtain ⟨w2, hw2⟩ : ∃ w2, wr.drew = w2 := ⟨_, rfl⟩
          have hb2 : Hid (Below w.heap.size w w2) := Lib.hid (hw2 ▸ HK.out.1.drew)
          rw [hw2]
          clear hw2
          go_wp2_with fail
          go_ret
          refine ⟨⟨false, rfl, (by intro e; cases e), fun e => absurd ?_ hxe⟩, hb2.out⟩
          have h5 := HK.out.2.2.1
          rw [e, HK.out.2.2.2] at h5
          exact (Option.some.inj h5).symm
      · obtain rfl : j = n := by omega
        have hall : l = l' := by
          apply List.ext_getElem?
          intro k
          rcases Nat.lt_or_ge k j with hk | hk
          · exact heq k hk
          · rw [List.getElem?_eq_none (by have := HL.out.1; omega), List.getElem?_eq_none (by have := HL.out.2; omega)]
        have HE1 := Lib.hid (And.intro hbel hall)
        clear hbel heq hall
        go_wp2_with fail
        go_ret
        exact ⟨⟨true, rfl, fun _ => HE1.out.2, fun _ => rfl⟩, HE1.out.1⟩
  · have hd : ¬ (n : Int) = (m : Int) := by omega
    have hd1 : ((n : Int) == (m : Int)) = false := by simpa using hd
    have hd2 : ((n : Int) != (m : Int)) = true := by simpa using hd
    go_wp2_with fail
    go_ret
    exact ⟨⟨false, rfl, (by intro e; cases e), fun e => absurd (by rw [← HL.out.1, ← HL.out.2, e]) hnm⟩, Below.refl _ _⟩
end Go.Proofs.YtgpcpjjdneimfaaDoor

namespace Go.Proofs.YtgpcpjjdneimfaaDoor
open Go.ChangeShapes Go.WideShapes Go.ChangeAt Go.RowKit

theorem nodes_made (w : World) (u0 u1 u2 u3 v0 v1 v2 v3 : Value) : ∃ W a r, (w.alloc (.cells #[u0, u1, u2, u3] 36)).alloc (.cells #[v0, v1, v2, v3] 36) = W ∧ w.heap.size = a ∧ w.heap.size + 1 = r ∧ Below w.heap.size w W ∧ Blk W a 36 #[u0, u1, u2, u3] ∧ Blk W r 36 #[v0, v1, v2, v3] := by
  refine ⟨_, _, _, rfl, rfl, rfl, ((Below.refl _ _).alloc (Nat.le_refl _) _).alloc (by simp) _, (Blk.new w _ _).below ((Below.refl _ _).alloc (Nat.le_refl _) _) (by simp), ?_⟩
  have := Blk.new (w.alloc (.cells #[u0, u1, u2, u3] 36)) 36 #[v0, v1, v2, v3]
  simpa using this
theorem nd_eq {d d' : Ar.Nd} (h0 : d.leaf = d'.leaf) (h1 : d.keys = d'.keys) (h2 : d.kids = d'.kids) (h3 : d.vals = d'.vals) : d = d' := by
  obtain ⟨a, b, c, e⟩ := d
  obtain ⟨a', b', c', e'⟩ := d'
  simp only at h0 h1 h2 h3
  subst h0 h1 h2 h3
  rfl
set_option maxRecDepth 100000 in
theorem arenaSame_any (w : World) (F F' : Nat → Prop) (v v' : NdV) (d d' : Ar.Nd) (h : NdIn w F v d) (h' : NdIn w F' v' d') : Calls Tryd.prog 20 #[v.val d.leaf, v'.val d'.leaf] w (SameP w d d') := by
  obtain ⟨A1, n1, c1, A2, n2, c2, A3, n3, c3⟩ := v
  obtain ⟨B1, m1, k1, B2, m2, k2, B3, m3, k3⟩ := v'
  obtain ⟨lf, hlf⟩ : ∃ lf, d.leaf = lf := ⟨_, rfl⟩
  obtain ⟨lg, hlg⟩ : ∃ lg, d'.leaf = lg := ⟨_, rfl⟩
  obtain ⟨W, a, r, hW, ha, hr, hB, hbox, hbox'⟩ := nodes_made w (.bool lf) (.slice A1 n1 c1) (.slice A2 n2 c2) (.slice A3 n3 c3) (.bool lg) (.slice B1 m1 k1) (.slice B2 m2 k2) (.slice B3 m3 k3)
  have H := Lib.hid (And.intro hW (And.intro ha (And.intro hr (And.intro hB (And.intro hbox hbox')))))
  have HN := Lib.hid (And.intro (h.below hB) (h'.below hB))
  have HL := Lib.hid (And.intro hlf hlg)
  have a0 := hbox.cell 0
  have a1 := hbox.cell 1
  have b0 := hbox'.cell 0
  have b1 := hbox'.cell 1
  simp only [List.getElem?_toArray, List.getElem?_cons_zero, List.getElem?_cons_succ] at a0 a1 b0 b1
  have HS := Lib.hid (eqS_any W _ _ A1 B1 n1 c1 m1 k1 d.keys d'.keys HN.out.1.keys HN.out.2.keys HN.out.1.few1)
  show Calls Tryd.prog _ #[.agg #[.bool d.leaf, .slice A1 n1 c1, .slice A2 n2 c2, .slice A3 n3 c3], .agg #[.bool d'.leaf, .slice B1 m1 k1, .slice B2 m2 k2, .slice B3 m3 k3]] w _
  rw [hlf, hlg]
  clear hW ha hr hB hbox hbox' hlf hlg h h'
  go_enter Tryd.func20, Tryd.ntmps20
  go_upto_region 1 with fail
  rw [H.out.1, H.out.2.2.1, H.out.2.1]
  by_cases hl : lf = lg
  · subst hl
    have hll : (lf == lf) = true := by simp
    go_wp2_with fail
    refine HS.out.mono ?_
    rintro e w2 ⟨⟨b, rfl, hb⟩, bb⟩
    have HB2 := Lib.hid (And.intro bb hb)
    have hx := H.out.2.2.2.2.1.below bb H.out.2.2.2.2.1.lt
    have hx' := H.out.2.2.2.2.2.below bb H.out.2.2.2.2.2.lt
    clear a0 a1 b0 b1 bb hb HS hll
    cases b with
    | false =>
      as_aux_lemma =>
      clear hx hx'
      go_wp2_with fail
      go_ret
      refine ⟨⟨false, rfl, (by intro e; cases e), fun e => ?_⟩, H.out.2.2.2.1.trans (HB2.out.1.mono H.out.2.2.2.1.size)⟩
      exact HB2.out.2.2 (by rw [e])
    | true =>
      have a2 := hx.cell 2
      have b2 := hx'.cell 2
      simp only [List.getElem?_toArray, List.getElem?_cons_zero, List.getElem?_cons_succ] at a2 b2
      have HS := Lib.hid (eqH_any w2 _ _ A2 B2 n2 c2 m2 k2 d.kids d'.kids (HN.out.1.kids.below HB2.out.1) (HN.out.2.kids.below HB2.out.1) HN.out.1.few2)
      clear hx hx'
      go_wp2_with fail
      refine HS.out.mono ?_
      rintro e w3 ⟨⟨b, rfl, hb⟩, bb⟩
      have bb := below_next HB2.out.1 bb
      have HB3 := Lib.hid (And.intro bb hb)
      have hx := H.out.2.2.2.2.1.below bb H.out.2.2.2.2.1.lt
      have hx' := H.out.2.2.2.2.2.below bb H.out.2.2.2.2.2.lt
      clear a2 b2 bb hb HS
      cases b with
      | false =>
        as_aux_lemma =>
        clear hx hx'
        go_wp2_with fail
        go_ret
        refine ⟨⟨false, rfl, (by intro e; cases e), fun e => ?_⟩, H.out.2.2.2.1.trans (HB3.out.1.mono H.out.2.2.2.1.size)⟩
        exact HB3.out.2.2 (by rw [e])
      | true =>
        have a3 := hx.cell 3
        have b3 := hx'.cell 3
        simp only [List.getElem?_toArray, List.getElem?_cons_zero, List.getElem?_cons_succ] at a3 b3
        have HS := Lib.hid (eqI_any w3 _ _ A3 B3 n3 c3 m3 k3 d.vals d'.vals (HN.out.1.vals.below HB3.out.1) (HN.out.2.vals.below HB3.out.1) HN.out.1.few3)
        clear hx hx'
        go_wp2_with fail
        refine HS.out.mono ?_
        rintro e w4 ⟨⟨b, rfl, hb⟩, bb⟩
        have HB4 := Lib.hid (And.intro (below_next HB3.out.1 bb) hb)
        clear a3 b3 bb hb HS
        go_wp2_with fail
        go_ret
        refine ⟨⟨b, rfl, fun e => ?_, fun e => HB4.out.2.2 (by rw [e])⟩, H.out.2.2.2.1.trans (HB4.out.1.mono H.out.2.2.2.1.size)⟩
        exact nd_eq (by rw [HL.out.1, HL.out.2]) (HB2.out.2.1 (by simp)) (HB3.out.2.1 (by simp)) (HB4.out.2.1 e)
  · have hll : (lf == lg) = false := by simpa using hl
    as_aux_lemma =>
    clear HS
    go_wp2_with fail
    go_ret
    exact ⟨⟨false, rfl, (by intro e; cases e), fun e => absurd (by rw [← HL.out.1, ← HL.out.2, e]) hl⟩, H.out.2.2.2.1⟩
end Go.Proofs.YtgpcpjjdneimfaaDoor
