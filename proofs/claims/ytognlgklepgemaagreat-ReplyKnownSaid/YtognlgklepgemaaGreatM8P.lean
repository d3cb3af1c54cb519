/- Layer 8's statement ReplyPuts. -/
import Derived.Test.YtognlgklepgemaaGreatRpI
import Derived.Test.YtognlgklepgemaaGreatRpU
import Derived.Test.YtognlgklepgemaaGreatKit
import Derived.Test.YtognlgklepgemaaGreatLaw8F
import Derived.Test.YtognlgklepgemaaGreatM8K
import Derived.Test.YtognlgklepgemaaGreatSpoil
namespace Go.Proofs.YtognlgklepgemaaGreat
open Go.ChangeShapes Go.WideShapes Go.ChangeAt Go.RowKit

theorem all_snoc {α : Type} [Inhabited α] {p : α → Bool} {l : List α} {j : Nat} (hj : j < l.length) (h : (l.take j).all p = true) (h2 : p (l.getD j default) = true) : (l.take (j + 1)).all p = true := by
  rw [all_take hj h]
  exact h2
def Rp.fewR (r : Rw) : Bool := decide (r.p.k.size ≤ 60)
set_option maxRecDepth 100000 in
set_option maxHeartbeats 1000000 in
theorem fewR_any (n c B : Nat) (A : Option Addr) (l : List Rw) (w : World) (h : RowsIn w B A n l) (hn : n ≤ 80) : Calls Tryz.prog 34 #[.slice A n c] w fun e w' => e = .returned (.bool (l.all Rp.fewR)) ∧ w = w' := by
  have HP := Lib.hid h
  have hlen := h.1
  clear h
  go_enter Tryz.func34, Tryz.ntmps34
  go_wp2_with fail
  go_loopw [3] (fun i wr => ∃ j : Nat, j ≤ n ∧ i = .int .i64 (j : Int) ∧ (l.take j).all Rp.fewR = true ∧ w = wr) (fun i _ => n - (intOf i).toNat)
  case atStart => exact ⟨0, by omega, rfl, by simp, rfl⟩
  case round =>
    obtain ⟨j, hj, rfl, hall, rfl⟩ := hrel
    by_cases hlt : j < n
    · obtain ⟨b, off, rfl, hb, x0, -, -, -, -, -, -⟩ := HP.out.row hlt
      obtain ⟨r, hr⟩ : ∃ r, l.getD j default = r := ⟨_, rfl⟩
      rw [hr] at x0
      have HA := Lib.hid (And.intro hall hr)
      have hl : j < l.length := by omega
      have i1 : (0 : Int) ≤ j := by omega
      have i2 : (j : Int) < n := by omega
      clear hall hr
      by_cases h60 : r.p.k.size ≤ 60
      · have q1 : ¬ (60 : Int) < r.p.k.size := by omega
        have HR := Lib.hid (show Rp.fewR r = true from decide_eq_true h60)
        clear h60
        go_wp2_with fail
        refine ⟨⟨j + 1, by omega, by go_num, all_snoc hl HA.out.1 (by rw [HA.out.2]; exact HR.out), trivial⟩, by simp [intOf]; omega⟩
      · have q1 : (60 : Int) < r.p.k.size := by omega
        have HR := Lib.hid (all_not (f := Rp.fewR) hl (by rw [HA.out.2]; exact decide_eq_false h60))
        clear h60
        go_wp2_with fail
        go_ret
        exact ⟨by rw [HR.out]; rfl, rfl⟩
    · obtain rfl : j = n := by omega
      rw [List.take_of_length_le (by omega)] at hall
      have HA := Lib.hid hall
      clear hall
      go_wp2_with fail
      go_ret
      exact ⟨by rw [HA.out]; rfl, rfl⟩
def Rp.fewP (r : Pn) : Bool := decide (r.k.size ≤ 60)
set_option maxRecDepth 100000 in
set_option maxHeartbeats 1000000 in
theorem fewP_any (n c B : Nat) (A : Option Addr) (l : List Pn) (w : World) (h : PansIn w B A n l) (hn : n ≤ 80) : Calls Tryz.prog 35 #[.slice A n c] w fun e w' => e = .returned (.bool (l.all Rp.fewP)) ∧ w = w' := by
  have HP := Lib.hid h
  have hlen := h.1
  clear h
  go_enter Tryz.func35, Tryz.ntmps35
  go_wp2_with fail
  go_loopw [3] (fun i wr => ∃ j : Nat, j ≤ n ∧ i = .int .i64 (j : Int) ∧ (l.take j).all Rp.fewP = true ∧ w = wr) (fun i _ => n - (intOf i).toNat)
  case atStart => exact ⟨0, by omega, rfl, by simp, rfl⟩
  case round =>
    obtain ⟨j, hj, rfl, hall, rfl⟩ := hrel
    by_cases hlt : j < n
    · obtain ⟨b, off, rfl, hb, x0, -, -⟩ := HP.out.pan hlt
      obtain ⟨r, hr⟩ : ∃ r, l.getD j default = r := ⟨_, rfl⟩
      rw [hr] at x0
      have HA := Lib.hid (And.intro hall hr)
      have hl : j < l.length := by omega
      have i1 : (0 : Int) ≤ j := by omega
      have i2 : (j : Int) < n := by omega
      clear hall hr
      by_cases h60 : r.k.size ≤ 60
      · have q1 : ¬ (60 : Int) < r.k.size := by omega
        have HR := Lib.hid (show Rp.fewP r = true from decide_eq_true h60)
        clear h60
        go_wp2_with fail
        refine ⟨⟨j + 1, by omega, by go_num, all_snoc hl HA.out.1 (by rw [HA.out.2]; exact HR.out), trivial⟩, by simp [intOf]; omega⟩
      · have q1 : (60 : Int) < r.k.size := by omega
        have HR := Lib.hid (all_not (f := Rp.fewP) hl (by rw [HA.out.2]; exact decide_eq_false h60))
        clear h60
        go_wp2_with fail
        go_ret
        exact ⟨by rw [HR.out]; rfl, rfl⟩
    · obtain rfl : j = n := by omega
      rw [List.take_of_length_le (by omega)] at hall
      have HA := Lib.hid hall
      clear hall
      go_wp2_with fail
      go_ret
      exact ⟨by rw [HA.out]; rfl, rfl⟩
def Rp.few (x : Rp.V) (rows : List Rw) (gone : List Pn) : Bool := decide (x.n ≤ 80) && decide (x.m ≤ 80) && rows.all Rp.fewR && gone.all Rp.fewP
theorem Rp.few_is {x : Rp.V} {rows : List Rw} {gone : List Pn} (h : Rp.few x rows gone = true) : x.n ≤ 80 ∧ x.m ≤ 80 ∧ (∀ r ∈ rows, r.p.k.size ≤ 60) ∧ ∀ r ∈ gone, r.k.size ≤ 60 := by
  unfold Rp.few at h
  simp only [Bool.and_eq_true, List.all_eq_true, decide_eq_true_iff] at h
  exact ⟨h.1.1.1, h.1.1.2, fun r hr => of_decide_eq_true (h.1.2 r hr), fun r hr => of_decide_eq_true (h.2 r hr)⟩
set_option maxRecDepth 100000 in
set_option maxHeartbeats 2000000 in
theorem fewRep_any (x : Rp.V) (rows : List Rw) (gone : List Pn) (B : Nat) (w : World) (hx : x.In w B rows gone) (hB : B ≤ w.heap.size) : Calls Tryz.prog 15 #[x.val] w fun e w' => e = .returned (.bool (Rp.few x rows gone)) ∧ Below w.heap.size w w' := by
  have S0 := (Held.start w).new x.cells 28
  have HS := Lib.hid S0
  have CR : Hid (∀ W, x.n ≤ 80 → Below w.heap.size w W → Calls Tryz.prog 34 #[.slice x.A x.n x.c] W fun e w' => e = .returned (.bool (rows.all Rp.fewR)) ∧ W = w') := Lib.hid fun W hn hW => fewR_any x.n x.c B x.A rows W (hx.1.below hW hB) hn
  have CP : Hid (∀ W, x.m ≤ 80 → Below w.heap.size w W → Calls Tryz.prog 35 #[.slice x.G x.m x.d] W fun e w' => e = .returned (.bool (gone.all Rp.fewP)) ∧ W = w') := Lib.hid fun W hn hW => fewP_any x.m x.d B x.G gone W (hx.2.below hW hB) hn
  unfold Rp.few
  obtain ⟨b3, h3⟩ : ∃ b, rows.all Rp.fewR = b := ⟨_, rfl⟩
  obtain ⟨b4, h4⟩ : ∃ b, gone.all Rp.fewP = b := ⟨_, rfl⟩
  rw [h3] at CR ⊢
  rw [h4] at CP ⊢
  clear S0 hx hB h3 h4
  obtain ⟨k, id, code, last, ep, fl, un, le, st, ti, A, n, c, G, m, d⟩ := x
  unfold Rp.V.val at *
  unfold Rp.V.cells at *
  dsimp only at *
  by_cases h1 : n ≤ 80
  rotate_left
  · have q : ¬ (n : Int) ≤ 80 := by omega
    have e1 : decide (n ≤ 80) = false := decide_eq_false h1
    rw [e1]
    clear h1 e1
    go_enter Tryz.func15, Tryz.ntmps15
    go_wp2_with fail
    go_ret
    exact ⟨rfl, HS.out.1⟩
  by_cases h2 : m ≤ 80
  rotate_left
  · have q : (n : Int) ≤ 80 := by omega
    have q2 : decide ((m : Int) ≤ 80) = false := decide_eq_false (by omega)
    have e1 : decide (n ≤ 80) = true := decide_eq_true h1
    have e2 : decide (m ≤ 80) = false := decide_eq_false h2
    rw [e1, e2]
    clear h1 h2 e1 e2
    go_enter Tryz.func15, Tryz.ntmps15
    go_wp2_with fail
    go_ret
    exact ⟨rfl, HS.out.1⟩
  have q : (n : Int) ≤ 80 := by omega
  have q2 : decide ((m : Int) ≤ 80) = true := decide_eq_true (by omega)
  have e1 : decide (n ≤ 80) = true := decide_eq_true h1
  have e2 : decide (m ≤ 80) = true := decide_eq_true h2
  rw [e1, e2]
  have HH := Lib.hid (And.intro h1 h2)
  clear h1 h2 e1 e2
  cases b3
  · go_enter Tryz.func15, Tryz.ntmps15
    go_wp2_with fail
    refine (CR.out _ HH.out.1 HS.out.1).mono ?_
    rintro e w1 ⟨rfl, rfl⟩
    go_wp2_with fail
    go_ret
    exact ⟨rfl, HS.out.1⟩
  · go_enter Tryz.func15, Tryz.ntmps15
    go_wp2_with fail
    refine (CR.out _ HH.out.1 HS.out.1).mono ?_
    rintro e w1 ⟨rfl, rfl⟩
    go_wp2_with fail
    refine (CP.out _ HH.out.2 HS.out.1).mono ?_
    rintro e w1 ⟨rfl, rfl⟩
    go_wp2_with fail
    go_ret
    exact ⟨by cases b4 <;> rfl, HS.out.1⟩
end Go.Proofs.YtognlgklepgemaaGreat

namespace Go.Proofs.YtognlgklepgemaaGreat
open Go.ChangeShapes Go.WideShapes Go.ChangeAt Go.RowKit

theorem Rp.blank_at (x : Rp.V) (c : Nat) (A : Option Addr) (a : Nat) (G : Option Addr) (d : Nat) : ∃ A' a' G' d', (x.at_ A a G d).blank c = (x.blank c).at_ A' a' G' d' := by
  by_cases h0 : c = 101
  · subst h0; exact ⟨_, _, _, _, rfl⟩
  by_cases h1 : c = 102
  · subst h1; exact ⟨_, _, _, _, rfl⟩
  by_cases h2 : c = 117
  · subst h2; exact ⟨_, _, _, _, rfl⟩
  by_cases h3 : c = 76
  · subst h3; exact ⟨_, _, _, _, rfl⟩
  by_cases h4 : c = 115
  · subst h4; exact ⟨_, _, _, _, rfl⟩
  by_cases h5 : c = 116
  · subst h5; exact ⟨_, _, _, _, rfl⟩
  by_cases h6 : c = 99
  · subst h6; exact ⟨_, _, _, _, rfl⟩
  by_cases h7 : c = 108
  · subst h7; exact ⟨_, _, _, _, rfl⟩
  by_cases h8 : c = 114
  · subst h8; exact ⟨none, 0, _, _, rfl⟩
  · refine ⟨A, a, none, 0, ?_⟩
    unfold Rp.V.blank
    simp only [if_neg h0, if_neg h1, if_neg h2, if_neg h3, if_neg h4, if_neg h5, if_neg h6, if_neg h7, if_neg h8]
    rfl
theorem Rp.blanks_at (l : List Nat) (x : Rp.V) (A : Option Addr) (a : Nat) (G : Option Addr) (d : Nat) : ∃ A' a' G' d', l.foldl Rp.V.blank (x.at_ A a G d) = (l.foldl Rp.V.blank x).at_ A' a' G' d' := by
  induction l generalizing x A a G d with
  | nil => exact ⟨_, _, _, _, rfl⟩
  | cons c l ih =>
    obtain ⟨A', a', G', d', e⟩ := Rp.blank_at x c A a G d
    rw [List.foldl_cons, List.foldl_cons, e]
    exact ih _ _ _ _ _
theorem Rp.right_at (x : Rp.V) (rows : List Rw) (gone : List Pn) (A : Option Addr) (a : Nat) (G : Option Addr) (d : Nat) : (x.at_ A a G d).right rows gone = x.right rows gone := by
  obtain ⟨A', a', G', d', e⟩ := Rp.blanks_at (Rp.parts x.k) x A a G d
  unfold Rp.V.right
  have h1 : (x.at_ A a G d).kind = x.kind := rfl
  have h2 : (Rp.parts (x.at_ A a G d).k).foldl Rp.V.blank (x.at_ A a G d) = ((Rp.parts x.k).foldl Rp.V.blank x).at_ A' a' G' d' := e
  rw [h1, h2]
  rfl
end Go.Proofs.YtognlgklepgemaaGreat

namespace Go.Proofs.YtognlgklepgemaaGreat
open Go.ChangeShapes Go.WideShapes Go.ChangeAt Go.RowKit

theorem Rp.bytes_at (x : Rp.V) (rows : List Rw) (gone : List Pn) (A : Option Addr) (a : Nat) (G : Option Addr) (d : Nat) : (x.at_ A a G d).bytes rows gone = x.bytes rows gone := rfl
theorem Rp.putB_at (x : Rp.V) (rows : List Rw) (gone : List Pn) (A : Option Addr) (a : Nat) (G : Option Addr) (d : Nat) : Rp.putB (x.at_ A a G d) rows gone = Rp.putB x rows gone := by
  unfold Rp.putB
  rw [Rp.right_at, Rp.bytes_at]
theorem Rp.putE_at (x : Rp.V) (rows : List Rw) (gone : List Pn) (A : Option Addr) (a : Nat) (G : Option Addr) (d : Nat) : Rp.putE (x.at_ A a G d) rows gone = Rp.putE x rows gone := by
  unfold Rp.putE
  rw [Rp.right_at]
theorem Rp.ok_at {x : Rp.V} (h : x.ok) (A : Option Addr) (a : Nat) (G : Option Addr) (d : Nat) : (x.at_ A a G d).ok := h
theorem Rp.chunks_bytes_lt (x : Rp.V) (rows : List Rw) (gone : List Pn) (hk : x.k < 256) : ∀ y ∈ x.bytes rows gone, y < 256 := by
  intro y hy
  rw [← Rp.chunks_flat x rows gone hk] at hy
  obtain ⟨l, hl, hyl⟩ := List.mem_flatten.1 hy
  exact Rp.chunks_lt x rows gone l hl y hyl
theorem Rp.putB_lt (x : Rp.V) (rows : List Rw) (gone : List Pn) (hk : x.k < 256) : ∀ y ∈ Rp.putB x rows gone, y < 256 := by
  unfold Rp.putB
  split
  · exact Rp.chunks_bytes_lt x rows gone hk
  · simp
theorem Rp.putB_len (x : Rp.V) (rows : List Rw) (gone : List Pn) (hr : rows.length = x.n) (hg : gone.length = x.m) : (Rp.putB x rows gone).length ≤ 5300 := by
  unfold Rp.putB
  split
  · rename_i h
    exact Rp.bytes_le h hr hg
  · simp
theorem same_b (n c c' B : Nat) (A A' : Option Addr) (l : List Nat) (w : World) (hb : Bytes w B A n l) (hb' : Bytes w B A' n l) (hn : n ≤ 9223372036854775807) : Calls Tryz.prog 17 #[.slice A n c, .slice A' n c'] w fun e w' => e = .returned (.bool true) ∧ Below w.heap.size w w' :=
  (same_yes n c n c' B A A' l w hb hb' hn).mono fun _ _ h => ⟨h.1, by obtain ⟨m, rfl⟩ := h.2; exact below_drewN (Below.refl _ _) m⟩
end Go.Proofs.YtognlgklepgemaaGreat

namespace Go.Proofs.YtognlgklepgemaaGreat
open Go.ChangeShapes Go.WideShapes Go.ChangeAt Go.RowKit

theorem spoil_b {w w' : World} {base n c : Nat} {A : Option Addr} {e : TypeId} {xs : List Value} {B : Nat} (h : w.ownsRow base e 1 (.slice A n c) n xs) (hg : w.grownBy w' (Value.slice A n c).ownBlock) (hB : B ≤ base) (hw : B ≤ w.heap.size) : Below B w w' :=
  (Below.refl B w).grown hg hw (fun k hk => by have := (h.lt k hk).1; omega)
set_option maxRecDepth 100000 in
set_option maxHeartbeats 20000000 in
theorem replyPuts_any (x y : Rp.V) (rows rows' : List Rw) (gone gone' : List Pn) (w : World) (hx : x.In w w.heap.size rows gone) (hy : y.In w w.heap.size rows' gone') (okx : x.ok) (oky : y.ok) : Calls Tryz.prog 5 #[x.val, y.val] w (LawP w) := by
  obtain ⟨W0, hW0⟩ : ∃ W, (w.alloc (.cells x.cells 28)).alloc (.cells y.cells 28) = W := ⟨_, rfl⟩
  have B0 : Below w.heap.size w W0 := by
    rw [← hW0]
    exact ((Below.refl _ _).alloc (Nat.le_refl _) _).alloc (by simp) _
  have K1 : Blk W0 w.heap.size 28 x.cells := by
    rw [← hW0]
    exact blk_al (Blk.new w _ _) _
  have K2 : Blk W0 (w.heap.size + 1) 28 y.cells := by
    rw [← hW0]
    exact blk_nw _ _ _ _ (by simp)
  have P : Hid (∀ W, Below W0.heap.size W0 W → RepCells W w.heap.size x ∧ RepCells W (w.heap.size + 1) y) := Lib.hid fun W hW => ⟨(rep_cells (K1.below hW K1.lt)).1, (rep_cells (K2.below hW K2.lt)).1⟩
  have CF : Hid (∀ W, Below W0.heap.size W0 W → Calls Tryz.prog 15 #[x.val] W fun e w' => e = .returned (.bool (Rp.few x rows gone)) ∧ Below W.heap.size W w') := Lib.hid fun W hW => fewRep_any x rows gone w.heap.size W (hx.below (B0.trans (hW.mono B0.size)) (Nat.le_refl _)) (Nat.le_trans B0.size hW.size)
  have CG : Hid (∀ W, Below W0.heap.size W0 W → Calls Tryz.prog 15 #[y.val] W fun e w' => e = .returned (.bool (Rp.few y rows' gone')) ∧ Below W.heap.size W w') := Lib.hid fun W hW => fewRep_any y rows' gone' w.heap.size W (hy.below (B0.trans (hW.mono B0.size)) (Nat.le_refl _)) (Nat.le_trans B0.size hW.size)
  have HB := Lib.hid B0
  cases hfx : Rp.few x rows gone
  · rw [hfx] at CF
    clear CG hfx hx hy okx oky B0 K1 K2
    obtain ⟨k, id, code, last, ep, fl, un, le, st, ti, A, n, c, G, m, d⟩ := x
    obtain ⟨k', id', code', last', ep', fl', un', le', st', ti', A', n', c', G', m', d'⟩ := y
    unfold Rp.V.val RepCells at *
    unfold Rp.V.cells at *
    dsimp only at *
    obtain ⟨⟨u0, u1, u2, u3, u4, u5, u6, u7, u8, u9, u10, u11⟩, -⟩ := P.out W0 (Below.refl _ _)
    go_enter Tryz.func5, Tryz.ntmps5
    go_wp2_with fail
    clear hW0 u0 u1 u2 u3 u4 u5 u6 u7 u8 u9 u10 u11
    refine (CF.out _ (Below.refl _ _)).mono ?_
    rintro e w1 ⟨rfl, b1⟩
    have H1 := Lib.hid (below_next HB.out b1)
    clear b1
    go_wp2_with fail
    refine (works8_any _).mono ?_
    rintro e w2 ⟨rfl, b2⟩
    have H2 := Lib.hid (below_next H1.out b2)
    clear b2
    go_wp2_with fail
    go_ret
    exact ⟨rfl, H2.out⟩
  cases hfy : Rp.few y rows' gone'
  · rw [hfx] at CF
    rw [hfy] at CG
    clear hfx hfy hx hy okx oky B0 K1 K2
    obtain ⟨k, id, code, last, ep, fl, un, le, st, ti, A, n, c, G, m, d⟩ := x
    obtain ⟨k', id', code', last', ep', fl', un', le', st', ti', A', n', c', G', m', d'⟩ := y
    unfold Rp.V.val RepCells at *
    unfold Rp.V.cells at *
    dsimp only at *
    obtain ⟨⟨u0, u1, u2, u3, u4, u5, u6, u7, u8, u9, u10, u11⟩, -⟩ := P.out W0 (Below.refl _ _)
    go_enter Tryz.func5, Tryz.ntmps5
    go_wp2_with fail
    clear hW0 u0 u1 u2 u3 u4 u5 u6 u7 u8 u9 u10 u11
    refine (CF.out _ (Below.refl _ _)).mono ?_
    rintro e w1 ⟨rfl, b1⟩
    obtain ⟨-, v0, v1, v2, v3, v4, v5, v6, v7, v8, v9, v10, v11⟩ := P.out w1 b1
    have H1 := Lib.hid b1
    clear b1
    go_wp2_with fail
    clear v0 v1 v2 v3 v4 v5 v6 v7 v8 v9 v10 v11
    refine (CG.out _ H1.out).mono ?_
    rintro e w2 ⟨rfl, b2⟩
    have H2 := Lib.hid (below_next (below_next HB.out H1.out) b2)
    clear b2
    go_wp2_with fail
    refine (works8_any _).mono ?_
    rintro e w3 ⟨rfl, b3⟩
    have H3 := Lib.hid (below_next H2.out b3)
    clear b3
    go_wp2_with fail
    go_ret
    exact ⟨rfl, H3.out⟩
  obtain ⟨xn, xm, -, -⟩ := Rp.few_is hfx
  obtain ⟨yn, ym, -, -⟩ := Rp.few_is hfy
  rw [hfx] at CF
  rw [hfy] at CG
  have IX : Hid (∀ W, Below W0.heap.size W0 W → x.In W w.heap.size rows gone) := Lib.hid fun W hW => hx.below (B0.trans (hW.mono B0.size)) (Nat.le_refl _)
  have IY : Hid (∀ W, Below W0.heap.size W0 W → y.In W w.heap.size rows' gone') := Lib.hid fun W hW => hy.below (B0.trans (hW.mono B0.size)) (Nat.le_refl _)
  have hsz : ∀ W, Below W0.heap.size W0 W → w.heap.size ≤ W.heap.size := fun W hW => Nat.le_trans B0.size hW.size
  obtain ⟨rr, hrr⟩ : ∃ r, x.right rows gone = r := ⟨_, rfl⟩
  obtain ⟨sm, hsm⟩ : ∃ r, Rp.same x y rows rows' gone gone' = r := ⟨_, rfl⟩
  obtain ⟨bs, hbs⟩ : ∃ r, Rp.putB x rows gone = r := ⟨_, rfl⟩
  obtain ⟨er, her⟩ : ∃ r, Rp.putE x rows gone = r := ⟨_, rfl⟩
  have hbl : bs.length ≤ 5300 := by rw [← hbs]; exact Rp.putB_len x rows gone hx.1.1 hx.2.1
  have hblt : ∀ y ∈ bs, y < 256 := by rw [← hbs]; exact Rp.putB_lt x rows gone okx.1
  have CPut : Hid (∀ W, Below W0.heap.size W0 W → Calls Tryz.prog 16 #[x.val] W (PutR W bs er)) := Lib.hid fun W hW => by
    rw [← hbs, ← her]
    exact pPut8_any x rows gone w.heap.size W (IX.out W hW) (hsz W hW) okx (by omega) (by omega)
  have CRp : Hid (∀ W, Below W0.heap.size W0 W → Calls Tryz.prog 19 #[x.val] W fun e w' => e = .returned (.bool rr) ∧ Below W.heap.size W w') := Lib.hid fun W hW => by
    rw [← hrr]
    exact pRight8_any x rows gone w.heap.size W (IX.out W hW) (hsz W hW) okx (by omega) (by omega)
  have CDx : Hid (∀ W, Below W0.heap.size W0 W → Calls Tryz.prog 9 #[x.val] W (RepP W x rows gone)) := Lib.hid fun W hW => docRep_any x rows gone w.heap.size W (IX.out W hW) (hsz W hW) (by omega) (by omega)
  have CDy : Hid (∀ W, Below W0.heap.size W0 W → Calls Tryz.prog 9 #[y.val] W (RepP W y rows' gone')) := Lib.hid fun W hW => docRep_any y rows' gone' w.heap.size W (IY.out W hW) (hsz W hW) (by omega) (by omega)
  have CSxy : Hid (∀ W, Below W0.heap.size W0 W → Calls Tryz.prog 21 #[x.val, y.val] W fun e w' => e = .returned (.bool sm) ∧ Below W.heap.size W w') := Lib.hid fun W hW => by
    rw [← hsm]
    exact psame8_any x y rows rows' gone gone' w.heap.size W (IX.out W hW) (IY.out W hW) (hsz W hW) okx oky (by omega) (by omega) (by omega) (by omega)
  have CSxx : Hid (∀ W, Below W0.heap.size W0 W → Calls Tryz.prog 21 #[x.val, x.val] W fun e w' => e = .returned (.bool true) ∧ Below W.heap.size W w') := Lib.hid fun W hW => by
    have h := psame8_any x x rows rows gone gone w.heap.size W (IX.out W hW) (IX.out W hW) (hsz W hW) okx okx (by omega) (by omega) (by omega) (by omega)
    have e : Rp.same x x rows rows gone gone = true := Rp.same_at x rows gone x.A x.c x.G x.d x.A x.c x.G x.d
    rw [e] at h
    exact h
  have CRr : Hid (∀ W A c G d, (x.at_ A c G d).In W W.heap.size rows gone → Calls Tryz.prog 20 #[(x.at_ A c G d).val] W fun e w' => e = .returned (.bool rr) ∧ Below W.heap.size W w') := Lib.hid fun W A c G d h => by
    rw [← hrr, ← Rp.right_at x rows gone A c G d]
    exact refRight8_any (x.at_ A c G d) W.heap.size rows gone W h (Nat.le_refl _) (by show x.n ≤ _; omega) (by show x.m ≤ _; omega)
  have CPr : Hid (∀ W A c G d, (x.at_ A c G d).In W W.heap.size rows gone → Calls Tryz.prog 8 #[(x.at_ A c G d).val] W (PutR W bs er)) := Lib.hid fun W A c G d h => by
    rw [← hbs, ← her, ← Rp.putB_at x rows gone A c G d, ← Rp.putE_at x rows gone A c G d]
    exact refPut8_any (x.at_ A c G d) rows gone W.heap.size W h (Nat.le_refl _) (Rp.ok_at okx A c G d) (by show x.n ≤ _; omega) (by show x.m ≤ _; omega)
  have CSr : Hid (∀ W A c G d A' c' G' d', (x.at_ A c G d).In W W.heap.size rows gone → (y.at_ A' c' G' d').In W W.heap.size rows' gone' → Calls Tryz.prog 22 #[(x.at_ A c G d).val, (y.at_ A' c' G' d').val] W fun e w' => e = .returned (.bool sm) ∧ Below W.heap.size W w') := Lib.hid fun W A c G d A' c' G' d' h h' => by
    have hh := refSame8_any (x.at_ A c G d) (y.at_ A' c' G' d') rows rows' gone gone' W.heap.size W h h' (Nat.le_refl _) (by show x.n ≤ _; omega) (by show x.m ≤ _; omega) (by show y.n ≤ _; omega) (by show y.m ≤ _; omega)
    have e : Rp.same (x.at_ A c G d) (y.at_ A' c' G' d') rows rows' gone gone' = sm := hsm
    rw [e] at hh
    exact hh
  have CSs : Hid (∀ W A c G d A' c' G' d', (x.at_ A c G d).In W W.heap.size rows gone → (x.at_ A' c' G' d').In W W.heap.size rows gone → Calls Tryz.prog 22 #[(x.at_ A c G d).val, (x.at_ A' c' G' d').val] W fun e w' => e = .returned (.bool true) ∧ Below W.heap.size W w') := Lib.hid fun W A c G d A' c' G' d' h h' => by
    have hh := refSame8_any (x.at_ A c G d) (x.at_ A' c' G' d') rows rows gone gone W.heap.size W h h' (Nat.le_refl _) (by show x.n ≤ _; omega) (by show x.m ≤ _; omega) (by show x.n ≤ _; omega) (by show x.m ≤ _; omega)
    have e : Rp.same (x.at_ A c G d) (x.at_ A' c' G' d') rows rows gone gone = true := Rp.same_at x rows gone A c G d A' c' G' d'
    rw [e] at hh
    exact hh
  have hK12 := Lib.hid (And.intro K1 K2)
  have RC8 : Hid (∀ (W : World) g A c G d, Blk W g 40 (x.at_ A c G d).cells → RepCells W g (x.at_ A c G d)) := Lib.hid fun W g A c G d hW => (rep_cells hW).1
  have HBL := Lib.hid hblt
  clear hx hy okx oky hfx hfy xn xm yn ym hrr hsm hbs her B0 K1 K2 hblt hsz IX IY
  obtain ⟨k, id, code, last, ep, fl, un, le, st, ti, A, n, c, G, m, d⟩ := x
  obtain ⟨k', id', code', last', ep', fl', un', le', st', ti', A', n', c', G', m', d'⟩ := y
  unfold RepP Rp.V.at_ Rp.V.val RepCells at *
  unfold Rp.V.cells at *
  dsimp only at *
  obtain ⟨⟨u0, u1, u2, u3, u4, u5, u6, u7, u8, u9, u10, u11⟩, -⟩ := P.out W0 (Below.refl _ _)
  go_enter Tryz.func5, Tryz.ntmps5
  go_wp2_with fail
  clear hW0 u0 u1 u2 u3 u4 u5 u6 u7 u8 u9 u10 u11
  refine (CF.out _ (Below.refl _ _)).mono ?_
  rintro e w1 ⟨rfl, b1⟩
  obtain ⟨-, v0, v1, v2, v3, v4, v5, v6, v7, v8, v9, v10, v11⟩ := P.out w1 b1
  have H1 := Lib.hid b1
  clear b1
  go_wp2_with fail
  clear v0 v1 v2 v3 v4 v5 v6 v7 v8 v9 v10 v11
  refine (CG.out _ H1.out).mono ?_
  rintro e w2 ⟨rfl, b2⟩
  obtain ⟨⟨u0, u1, u2, u3, u4, u5, u6, u7, u8, u9, u10, u11⟩, -⟩ := P.out w2 (below_next H1.out b2)
  have H2 := Lib.hid (below_next H1.out b2)
  clear b2
  go_wp2_with fail
  clear u0 u1 u2 u3 u4 u5 u6 u7 u8 u9 u10 u11
  refine (CDx.out _ H2.out).mono ?_
  rintro e w3 ⟨A3, c3, G3, d3, rfl, i3, b3⟩
  have H3 := Lib.hid (And.intro ((below_next H2.out b3).alloc (Nat.le_trans H2.out.size b3.size) (.cells #[.int .u8 (k : Int), .int .u32 (id : Int), .int .u16 (code : Int), .bool last, .int .u64 (ep : Int), .int .u64 (fl : Int), .int .u64 (un : Int), .int .u64 (le : Int), .int .u64 (st : Int), .int .u64 (ti : Int), .slice A3 n c3, .slice G3 m d3] 40)) (And.intro (i3.below ((Below.refl _ _).alloc (Nat.le_refl _) (.cells #[.int .u8 (k : Int), .int .u32 (id : Int), .int .u16 (code : Int), .bool last, .int .u64 (ep : Int), .int .u64 (fl : Int), .int .u64 (un : Int), .int .u64 (le : Int), .int .u64 (st : Int), .int .u64 (ti : Int), .slice A3 n c3, .slice G3 m d3] 40)) (Nat.le_refl _)) (Blk.new w3 40 #[.int .u8 (k : Int), .int .u32 (id : Int), .int .u16 (code : Int), .bool last, .int .u64 (ep : Int), .int .u64 (fl : Int), .int .u64 (un : Int), .int .u64 (le : Int), .int .u64 (st : Int), .int .u64 (ti : Int), .slice A3 n c3, .slice G3 m d3])))
  clear b3 i3
  go_wp2_with fail
  refine (CPr.out _ A3 c3 G3 d3 (H3.out.2.1.more (by simp))).mono ?_
  rintro e w4 ⟨A4, c4, rfl, o4, b4⟩
  have H4 := Lib.hid (And.intro (below_next H3.out.1 b4) (And.intro (H3.out.2.1.below b4 (by simp)) (H3.out.2.2.below b4 H3.out.2.2.lt)))
  have O4 := Lib.hid (Bytes.of_own o4 HBL.out)
  have hz3 : w3.heap.size < w4.heap.size := H4.out.2.2.lt
  clear b4 o4
  go_wp2_with fail
  go_loopw [8] (fun i wr => ∃ j : Nat, j ≤ 2 ∧ i = .int .i64 (j : Int) ∧ Below w4.heap.size w4 wr) (fun i _ => 2 - (intOf i).toNat)
  case atStart => exact ⟨0, by omega, rfl, Below.refl _ _⟩
  case round =>
    obtain ⟨j, hj, rfl, hbel⟩ := hrel
    have HJ := Lib.hid hbel
    by_cases hlt : j < 2
    · have i1 : (j : Int) < 2 := by omega
      obtain ⟨⟨u0, u1, u2, u3, u4, u5, u6, u7, u8, u9, u10, u11⟩, -⟩ := P.out wr (below_next H4.out.1 hbel)
      clear hbel
      go_wp2_with fail
      clear u0 u1 u2 u3 u4 u5 u6 u7 u8 u9 u10 u11
      refine (CPut.out _ (below_next H4.out.1 HJ.out)).mono ?_
      rintro e w5 ⟨A5, c5, rfl, o5, b5⟩
      have H5 := Lib.hid (And.intro o5 (And.intro b5 (O4.out.below (below_next HJ.out b5) (Nat.le_refl _))))
      have hz5 : w4.heap.size ≤ w5.heap.size := (below_next HJ.out b5).size
      clear o5 b5
      have eqr : (er != er) = false := by simp
      go_wp2_with fail
      refine (same_b bs.length c5 c4 w5.heap.size A5 A4 bs w5 (Bytes.of_own H5.out.1 HBL.out) (H5.out.2.2.more hz5) (by omega)).mono ?_
      rintro e w6 ⟨rfl, b6⟩
      have H6 := Lib.hid (And.intro (own_below H5.out.1 b6) (below_next H5.out.2.1 b6))
      clear b6
      go_wp2_with fail
      refine (spoil_any _ bs.length c5 A5 _ w6 H6.out.1 (by omega)).mono ?_
      rintro e w7 ⟨rfl, g7⟩
      have H7 := Lib.hid (H6.out.2.trans (spoil_b H6.out.1 g7 (Nat.le_refl _) H6.out.2.size))
      clear g7
      go_wp2_with fail
      refine ⟨⟨j + 1, by omega, by go_num, below_next HJ.out H7.out⟩, by simp [intOf]; omega⟩
    · obtain rfl : j = 2 := by omega
      have P5 : Hid (∀ W, Below wr.heap.size wr W → (W.cell? ⟨w.heap.size, 0, none⟩ = some (.int .u8 (k : Int)) ∧ W.cell? ⟨w.heap.size, 1, none⟩ = some (.int .u32 (id : Int)) ∧ W.cell? ⟨w.heap.size, 2, none⟩ = some (.int .u16 (code : Int)) ∧ W.cell? ⟨w.heap.size, 3, none⟩ = some (.bool last) ∧ W.cell? ⟨w.heap.size, 4, none⟩ = some (.int .u64 (ep : Int)) ∧ W.cell? ⟨w.heap.size, 5, none⟩ = some (.int .u64 (fl : Int)) ∧ W.cell? ⟨w.heap.size, 6, none⟩ = some (.int .u64 (un : Int)) ∧ W.cell? ⟨w.heap.size, 7, none⟩ = some (.int .u64 (le : Int)) ∧ W.cell? ⟨w.heap.size, 8, none⟩ = some (.int .u64 (st : Int)) ∧ W.cell? ⟨w.heap.size, 9, none⟩ = some (.int .u64 (ti : Int)) ∧ W.cell? ⟨w.heap.size, 10, none⟩ = some (.slice A n c) ∧ W.cell? ⟨w.heap.size, 11, none⟩ = some (.slice G m d)) ∧ (W.cell? ⟨w.heap.size + 1, 0, none⟩ = some (.int .u8 (k' : Int)) ∧ W.cell? ⟨w.heap.size + 1, 1, none⟩ = some (.int .u32 (id' : Int)) ∧ W.cell? ⟨w.heap.size + 1, 2, none⟩ = some (.int .u16 (code' : Int)) ∧ W.cell? ⟨w.heap.size + 1, 3, none⟩ = some (.bool last') ∧ W.cell? ⟨w.heap.size + 1, 4, none⟩ = some (.int .u64 (ep' : Int)) ∧ W.cell? ⟨w.heap.size + 1, 5, none⟩ = some (.int .u64 (fl' : Int)) ∧ W.cell? ⟨w.heap.size + 1, 6, none⟩ = some (.int .u64 (un' : Int)) ∧ W.cell? ⟨w.heap.size + 1, 7, none⟩ = some (.int .u64 (le' : Int)) ∧ W.cell? ⟨w.heap.size + 1, 8, none⟩ = some (.int .u64 (st' : Int)) ∧ W.cell? ⟨w.heap.size + 1, 9, none⟩ = some (.int .u64 (ti' : Int)) ∧ W.cell? ⟨w.heap.size + 1, 10, none⟩ = some (.slice A' n' c') ∧ W.cell? ⟨w.heap.size + 1, 11, none⟩ = some (.slice G' m' d')) ∧ W.cell? ⟨w3.heap.size, 0, none⟩ = some (.int .u8 (k : Int)) ∧ W.cell? ⟨w3.heap.size, 1, none⟩ = some (.int .u32 (id : Int)) ∧ W.cell? ⟨w3.heap.size, 2, none⟩ = some (.int .u16 (code : Int)) ∧ W.cell? ⟨w3.heap.size, 3, none⟩ = some (.bool last) ∧ W.cell? ⟨w3.heap.size, 4, none⟩ = some (.int .u64 (ep : Int)) ∧ W.cell? ⟨w3.heap.size, 5, none⟩ = some (.int .u64 (fl : Int)) ∧ W.cell? ⟨w3.heap.size, 6, none⟩ = some (.int .u64 (un : Int)) ∧ W.cell? ⟨w3.heap.size, 7, none⟩ = some (.int .u64 (le : Int)) ∧ W.cell? ⟨w3.heap.size, 8, none⟩ = some (.int .u64 (st : Int)) ∧ W.cell? ⟨w3.heap.size, 9, none⟩ = some (.int .u64 (ti : Int)) ∧ W.cell? ⟨w3.heap.size, 10, none⟩ = some (.slice A3 n c3) ∧ W.cell? ⟨w3.heap.size, 11, none⟩ = some (.slice G3 m d3)) := Lib.hid fun W hW => by
        have h := below_next HJ.out hW
        obtain ⟨h1, h2⟩ := P.out W (below_next H4.out.1 h)
        exact ⟨h1, h2, RC8.out W w3.heap.size A3 c3 G3 d3 (H4.out.2.2.below h H4.out.2.2.lt)⟩
      have I5 : Hid (∀ W, Below wr.heap.size wr W → (⟨k, id, code, last, ep, fl, un, le, st, ti, A3, n, c3, G3, m, d3⟩ : Rp.V).In W W.heap.size rows gone) := Lib.hid fun W hW => by
        have h := below_next HJ.out hW
        exact (H4.out.2.1.below h (Nat.le_of_lt hz3)).more (Nat.le_trans (Nat.le_of_lt hz3) h.size)
      have Q5 : Hid (∀ W, Below wr.heap.size wr W → Below W0.heap.size W0 W) := Lib.hid fun W hW => below_next H4.out.1 (below_next HJ.out hW)
      have D0 : Hid (Below wr.heap.size wr wr.drew) := Lib.hid (Below.refl _ _).drew
      clear hbel
      go_upto_region 12 with (fail)
      go_region_held3 (fun W => (W.cell? ⟨w.heap.size, 0, none⟩ = some (.int .u8 (k : Int)) ∧ W.cell? ⟨w.heap.size, 1, none⟩ = some (.int .u32 (id : Int)) ∧ W.cell? ⟨w.heap.size, 2, none⟩ = some (.int .u16 (code : Int)) ∧ W.cell? ⟨w.heap.size, 3, none⟩ = some (.bool last) ∧ W.cell? ⟨w.heap.size, 4, none⟩ = some (.int .u64 (ep : Int)) ∧ W.cell? ⟨w.heap.size, 5, none⟩ = some (.int .u64 (fl : Int)) ∧ W.cell? ⟨w.heap.size, 6, none⟩ = some (.int .u64 (un : Int)) ∧ W.cell? ⟨w.heap.size, 7, none⟩ = some (.int .u64 (le : Int)) ∧ W.cell? ⟨w.heap.size, 8, none⟩ = some (.int .u64 (st : Int)) ∧ W.cell? ⟨w.heap.size, 9, none⟩ = some (.int .u64 (ti : Int)) ∧ W.cell? ⟨w.heap.size, 10, none⟩ = some (.slice A n c) ∧ W.cell? ⟨w.heap.size, 11, none⟩ = some (.slice G m d)) ∧ (W.cell? ⟨w.heap.size + 1, 0, none⟩ = some (.int .u8 (k' : Int)) ∧ W.cell? ⟨w.heap.size + 1, 1, none⟩ = some (.int .u32 (id' : Int)) ∧ W.cell? ⟨w.heap.size + 1, 2, none⟩ = some (.int .u16 (code' : Int)) ∧ W.cell? ⟨w.heap.size + 1, 3, none⟩ = some (.bool last') ∧ W.cell? ⟨w.heap.size + 1, 4, none⟩ = some (.int .u64 (ep' : Int)) ∧ W.cell? ⟨w.heap.size + 1, 5, none⟩ = some (.int .u64 (fl' : Int)) ∧ W.cell? ⟨w.heap.size + 1, 6, none⟩ = some (.int .u64 (un' : Int)) ∧ W.cell? ⟨w.heap.size + 1, 7, none⟩ = some (.int .u64 (le' : Int)) ∧ W.cell? ⟨w.heap.size + 1, 8, none⟩ = some (.int .u64 (st' : Int)) ∧ W.cell? ⟨w.heap.size + 1, 9, none⟩ = some (.int .u64 (ti' : Int)) ∧ W.cell? ⟨w.heap.size + 1, 10, none⟩ = some (.slice A' n' c') ∧ W.cell? ⟨w.heap.size + 1, 11, none⟩ = some (.slice G' m' d')) ∧ W.cell? ⟨w3.heap.size, 0, none⟩ = some (.int .u8 (k : Int)) ∧ W.cell? ⟨w3.heap.size, 1, none⟩ = some (.int .u32 (id : Int)) ∧ W.cell? ⟨w3.heap.size, 2, none⟩ = some (.int .u16 (code : Int)) ∧ W.cell? ⟨w3.heap.size, 3, none⟩ = some (.bool last) ∧ W.cell? ⟨w3.heap.size, 4, none⟩ = some (.int .u64 (ep : Int)) ∧ W.cell? ⟨w3.heap.size, 5, none⟩ = some (.int .u64 (fl : Int)) ∧ W.cell? ⟨w3.heap.size, 6, none⟩ = some (.int .u64 (un : Int)) ∧ W.cell? ⟨w3.heap.size, 7, none⟩ = some (.int .u64 (le : Int)) ∧ W.cell? ⟨w3.heap.size, 8, none⟩ = some (.int .u64 (st : Int)) ∧ W.cell? ⟨w3.heap.size, 9, none⟩ = some (.int .u64 (ti : Int)) ∧ W.cell? ⟨w3.heap.size, 10, none⟩ = some (.slice A3 n c3) ∧ W.cell? ⟨w3.heap.size, 11, none⟩ = some (.slice G3 m d3)) (first | with_reducible exact P5.out _ D0.out | with_reducible exact P5.out _ D1.out | with_reducible exact P5.out _ D2.out | with_reducible exact P5.out _ D3.out | with_reducible exact P5.out _ D4.out | with_reducible exact P5.out _ D5.out | with_reducible exact P5.out _ D6.out | with_reducible exact P5.out _ D7.out | with_reducible exact P5.out _ D8.out | with_reducible exact P5.out _ D9.out) (first
        | (go_at_call 19; (with_reducible refine (CRp.out _ (Q5.out _ D0.out)).mono ?_); rintro e v1 ⟨rfl, p1⟩; have D1 := Lib.hid (below_next D0.out p1); clear p1)
        | (go_at_call 20; (with_reducible refine (CRr.out _ A3 c3 G3 d3 (I5.out _ D1.out)).mono ?_); rintro e v2 ⟨rfl, p2⟩; have D2 := Lib.hid (below_next D1.out p2); clear p2)
        | (go_at_call 21; (with_reducible refine (CSxy.out _ (Q5.out _ D2.out)).mono ?_); rintro e v3 ⟨rfl, p3⟩; have D3 := Lib.hid (below_next D2.out p3); clear p3)
        | (go_at_call 9; (with_reducible refine (CDy.out _ (Q5.out _ D3.out)).mono ?_); rintro e v4 ⟨A13, c13, G13, d13, rfl, i13, p4⟩; have D4 := Lib.hid (below_next D3.out p4); have I13 := Lib.hid i13; clear p4 i13)
        | (go_at_call 22; (with_reducible refine (CSr.out _ A3 c3 G3 d3 A13 c13 G13 d13 (I5.out _ D4.out) I13.out).mono ?_); rintro e v5 ⟨rfl, p5⟩; have D5 := Lib.hid (below_next D4.out p5); clear p5)
        | (go_at_call 21; (with_reducible refine (CSxx.out _ (Q5.out _ D5.out)).mono ?_); rintro e v6 ⟨rfl, p6⟩; have D6 := Lib.hid (below_next D5.out p6); clear p6)
        | (go_at_call 9; (with_reducible refine (CDx.out _ (Q5.out _ D6.out)).mono ?_); rintro e v7 ⟨A14, c14, G14, d14, rfl, i14, p7⟩; have D7 := Lib.hid (below_next D6.out p7); have I14 := Lib.hid i14; clear p7 i14)
        | (go_at_call 22; (with_reducible refine (CSs.out _ A14 c14 G14 d14 A3 c3 G3 d3 I14.out (I5.out _ D7.out)).mono ?_); rintro e v8 ⟨rfl, p8⟩; have D8 := Lib.hid (below_next D7.out p8); clear p8)
        | (go_at_call 14; (with_reducible refine (works8_any _).mono ?_); rintro e v9 ⟨rfl, p9⟩; have D9 := Lib.hid (below_next D8.out p9); clear p9))
      all_goals (go_wp2_with fail)
      go_ret
      exact ⟨rfl, below_next HB.out (Q5.out _ D9.out)⟩
end Go.Proofs.YtognlgklepgemaaGreat
