/- ArenaPlays: a node as the reference has it. -/
import Derived.Test.YtgpcpjjdneimfaaDoorArX
import Derived.Maps.AppendAt
import Derived.Deep.DeepCutAuto
namespace Go.Proofs.YtgpcpjjdneimfaaDoor
open Go.ChangeShapes Go.WideShapes Go.ChangeAt Go.RowKit

theorem wpList_append_eq {P : Program} {w w' : World} {ops : Array Oper} {rest : List Oper} {o : Oper} {a : Act} {Q : Exit → Act → World → Prop} (hgd : o.guard = none) (s x : Operand) (t : TypeId)
    (hop : o.op = .call { callee := .builtin .append, args := #[s, x], argTypes := #[t, t] }) {v xv v' : Value} (hs : a.eval s = v) (hx : a.eval x = xv) (hrun : (Builtin.append_ #[t, t] o.type #[v, xv]).run P w = .ok v' w') (hK : wpList P ops Q rest (a.put o.dst v') w') :
    wpList P ops Q (o :: rest) a w := by
  refine wpList_plain hgd fun K hK' => ?_
  unfold Oper.wp
  simp [execOp, hop, resolve, invoke, builtin, hs, hx, hrun, Result.andThen]
  exact hK' _ _ hK
/-- A list put behind none: a row of the call's own. -/
theorem append_copy {w : World} {F : Nat → Prop} {A : Option Addr} {n c s : Nat} {xs : List Value} (T E : TypeId) (i : TypeInfo) (z : Value) (by_ : Nat) (ht : Tryd.prog.underlying T = some (.slice E)) (hi : Tryd.prog.info? E = some i) (hz : i.zero = some z) (hsize : i.size = s) (hby : i.bytes = by_) (hzs : z.cells.size = s) (hsz : 0 < s) (ty : TypeId)
    (h : Cells w F A n s xs) (h1 : ∀ u ∈ xs, u.oneCell' = true) (hn : n ≤ 1000000) (hb2 : by_ ≤ 1000) :
    ∃ A' c' w', (Builtin.append_ #[T, T] ty #[.slice none 0 0, .slice A n c]).run Tryd.prog w = .ok (.slice A' n c') w' ∧ w'.ownsRow w.heap.size E s (.slice A' n c') n xs ∧ Below w.heap.size w w' := by
  cases A with
  | none =>
    obtain rfl : n = 0 := by
      rcases Nat.eq_zero_or_pos n with h0 | h0
      · exact h0
      · obtain ⟨b, off, e, _⟩ := h.2 h0
        cases e
    obtain rfl : xs = [] := List.length_eq_zero_iff.1 (by rw [h.1, Nat.zero_mul])
    exact ⟨none, 0, w, run_append_nil T ty E i ht hi c, own_nil _ _ _ _, Below.refl _ _⟩
  | some ad =>
    have hnews : ∀ j u, xs[j]? = some u → w.cell? (ad.add j) = some u := fun j u hu => by
      rcases Nat.eq_zero_or_pos n with h0 | h0
      · subst h0
        have : xs = [] := List.length_eq_zero_iff.1 (by rw [h.1, Nat.zero_mul])
        rw [this] at hu
        cases hu
      · obtain ⟨b, off, e, _, _, hc⟩ := h.2 h0
        cases e
        rw [add_at]
        exact hc j u hu
    have hbb : n * by_ ≤ 1000000 * 1000 := Nat.mul_le_mul hn hb2
    obtain ⟨v', w', hr, h2, h3, -, -⟩ := run_append_own_at (P := Tryd.prog) w w.heap.size T ty E i z s by_ ht hi hz hsize hby hzs hsz (.slice none 0 0) 0 [] (own_nil _ _ _ _) ad n c xs h.1 hnews h1 (by unfold maxLen; omega) (by rw [Nat.zero_add]; omega) (Nat.le_refl _)
    rw [Nat.zero_add, List.nil_append] at h2
    obtain ⟨A', c', rfl⟩ := own_slice h2
    exact ⟨A', c', w', hr, h2, below_none h3⟩
def PairP (w : World) (x : Int × Int) (e : Ending) (w' : World) : Prop := e = .returned (.agg #[.int .i64 x.1, .int .i64 x.2]) ∧ Below w.heap.size w w'
set_option maxRecDepth 100000 in
theorem handle_any (w : World) (x1 x2 : Int) : Calls Tryd.prog 15 #[.agg #[.int .i64 x1, .int .i64 x2]] w (PairP w (x1, x2)) := by
  go_enter Tryd.func15, Tryd.ntmps15
  go_wp2_with fail
  refine bodyPost_ret (v := .agg #[.int .i64 x1, .int .i64 x2]) ?_ rfl ⟨rfl, ((Below.refl _ _).alloc (Nat.le_refl _) _).alloc (by simp) _⟩
  simp [results, Tryd.results15, go_sem]
theorem Tryd.info51 : (Tryd.prog.info? 51).map (fun i => (i.zero, i.size, i.bytes)) = some (some (.agg #[.int .i64 0, .int .i64 0]), 2, 16) := by kernel_rfl
def RowP (w : World) (E : TypeId) (s n : Nat) (xs : List Value) (e : Ending) (w' : World) : Prop := ∃ A c, e = .returned (.slice A n c) ∧ w'.ownsRow w.heap.size E s (.slice A n c) n xs ∧ Below w.heap.size w w'
theorem han_snoc (l : List (Int × Int)) (j : Nat) (x : Int × Int) (h : l[j]? = some x) : hanL (l.take (j + 1)) = hanL (l.take j) ++ [.int .i64 x.1, .int .i64 x.2] := by
  have hj := (List.getElem?_eq_some_iff.1 h).1
  rw [List.take_succ_eq_append_getElem hj, hanL_append]
  rw [List.getElem?_eq_getElem hj] at h
  rw [Option.some.inj h]
  rfl
set_option maxRecDepth 100000 in
theorem handles_any (w : World) (F : Nat → Prop) (A : Option Addr) (n c : Nat) (l : List (Int × Int)) (h : Cells w F A n 2 (hanL l)) (hn : n ≤ 1000000) : Calls Tryd.prog 32 #[.slice A n c] w (RowP w 51 2 n (hanL l)) := by
  obtain ⟨i0, hi, hz0, hz1, hz2⟩ := info_parts Tryd.info51
  have hln : l.length = n := by have := h.1; rw [hanL_len] at this; omega
  have HI := Lib.hid (And.intro hi (And.intro hz0 (And.intro hz1 hz2)))
  have H := Lib.hid (And.intro h hln)
  clear h hln hi hz0 hz1 hz2
  go_enter Tryd.func32, Tryd.ntmps32
  go_wp2_with fail
  go_loopw [3, 4] (fun r i wr => ∃ j : Nat, j ≤ n ∧ i = .int .i64 (j : Int) ∧ wr.ownsRow w.heap.size 51 2 r j (hanL (l.take j)) ∧ Below w.heap.size w wr) (fun _ i _ => n - (intOf i).toNat)
  case atStart => exact ⟨0, by omega, rfl, own_nil _ _ _ _, Below.refl _ _⟩
  case round =>
    obtain ⟨j, hj, rfl, hown, hbel⟩ := hrel
    by_cases hlt : j < n
    · have i1 : (0 : Int) ≤ (j : Int) := by omega
      have i2 : (j : Int) < (n : Int) := by omega
      obtain ⟨x, hx⟩ : ∃ x, l[j]? = some x := ⟨_, List.getElem?_eq_getElem (by rw [H.out.2]; exact hlt)⟩
      obtain ⟨b, off, rfl, -, -, hc⟩ := (H.out.1.below hbel).at_ hlt
      have hx2 := hanL_at l j x hx
      have z0 : wr.cell? ⟨b, off + j * 2, none⟩ = some (.int .i64 x.1) := (hc 0 (by omega)).trans hx2.1
      have z1 : wr.cell? ⟨b, off + j * 2 + 1, none⟩ = some (.int .i64 x.2) := (hc 1 (by omega)).trans hx2.2
      have hst := han_snoc l j x hx
      have HK := Lib.hid (And.intro hown (And.intro hbel hst))
      clear hown hbel hst hc hx2 hx
      go_wp2_with fail
      refine (handle_any _ x.1 x.2).mono ?_
      rintro e w1 ⟨rfl, hb1⟩
      have H1 := Lib.hid (And.intro (own_below HK.out.1 hb1) (HK.out.2.1.trans (hb1.mono HK.out.2.1.size)))
      clear hb1
      go_wp2_with (at_builtin; refine wpList_append_own _ rfl _ _ 46 rfl w.heap.size 51 i0 _ 2 16 Tryd.underlying46 HI.out.1 HI.out.2.1 HI.out.2.2.1 HI.out.2.2.2 rfl (by decide) _ j _ rfl (H1.out.1.alloc _) ⟨w1.heap.size, 0, none⟩ 1 1 [.int .i64 x.1, .int .i64 x.2] rfl rfl (cell_two' _ _ _ _ _ rfl) (by simp [Value.oneCell']) (by unfold maxLen; omega) (by omega) (by have := H1.out.2.size; simp; omega) ?_)
      intro v' w2 hown2 hgr2 _
      have hbel2 : Below w.heap.size w w2 := grow_below H1.out.2 hgr2 (fun g' hg' => (H1.out.1.lt g' hg').1)
      have HO := Lib.hid (And.intro hown2 hbel2)
      clear hown2 hgr2 hbel2
      go_wp2_with fail
      refine ⟨⟨j + 1, by omega, by go_num, ?_, HO.out.2⟩, by simp [intOf]; omega⟩
      rw [HK.out.2.2]
      exact HO.out.1
    · obtain rfl : j = n := by omega
      rw [List.take_of_length_le (by rw [H.out.2]; exact Nat.le_refl _)] at hown
      obtain ⟨A', c', rfl⟩ := own_slice hown
      have HK := Lib.hid (And.intro hown hbel)
      clear hown hbel
      go_wp2_with fail
      go_ret
      exact ⟨A', c', rfl, HK.out.1, HK.out.2⟩
/-- The first of some handles; a blank one, where there is none. -/
def headOf (l : List (Int × Int)) : Int × Int := l.headD (0, 0)
set_option maxRecDepth 100000 in
theorem first_any (w : World) (F : Nat → Prop) (A : Option Addr) (n c : Nat) (l : List (Int × Int)) (h : Cells w F A n 2 (hanL l)) : Calls Tryd.prog 28 #[.slice A n c] w (PairP w (headOf l)) := by
  have hln : l.length = n := by have := h.1; rw [hanL_len] at this; omega
  rcases Nat.eq_zero_or_pos n with h0 | h0
  · subst h0
    obtain rfl : l = [] := List.length_eq_zero_iff.1 hln
    clear h hln
    go_enter Tryd.func28, Tryd.ntmps28
    go_wp2_with fail
    refine bodyPost_ret (v := .agg #[.int .i64 0, .int .i64 0]) ?_ rfl ⟨rfl, (Below.refl _ _).alloc (Nat.le_refl _) _⟩
    simp [results, Tryd.results28, go_sem]
  · obtain ⟨x, hx⟩ : ∃ x, l[0]? = some x := ⟨_, List.getElem?_eq_getElem (by omega)⟩
    obtain ⟨b, off, rfl, -, hbl, hc⟩ := h.at_ h0
    have hx2 := hanL_at l 0 x hx
    have z0 : w.cell? ⟨b, off, none⟩ = some (.int .i64 x.1) := (hc 0 (by omega)).trans hx2.1
    have z1 : w.cell? ⟨b, off + 1, none⟩ = some (.int .i64 x.2) := (hc 1 (by omega)).trans hx2.2
    have hne : ((n : Int) == 0) = false := by simp; omega
    have i2 : (0 : Int) < (n : Int) := by omega
    have he : headOf l = x := by
      cases l with
      | nil => simp at hx
      | cons y r => simpa [headOf] using hx
    have HE := Lib.hid he
    clear h hln hx hx2 hc he
    go_enter Tryd.func28, Tryd.ntmps28
    go_wp2_with fail
    refine bodyPost_ret (v := .agg #[.int .i64 x.1, .int .i64 x.2]) ?_ rfl ⟨by rw [HE.out], (Below.refl _ _).alloc (Nat.le_refl _) _⟩
    simp [results, Tryd.results28, go_sem]
end Go.Proofs.YtgpcpjjdneimfaaDoor

namespace Go.Proofs.YtgpcpjjdneimfaaDoor
open Go.ChangeShapes Go.WideShapes Go.ChangeAt Go.RowKit

/-- Three blocks of the call's own, the last of them a node that is being filled. -/
theorem three_made (w : World) (T : TypeId) (u0 u1 u2 u3 v0 v1 v2 v3 x0 x1 x2 x3 : Value) (T2 T3 : TypeId) : ∃ W a r b, ((w.alloc (.cells #[u0, u1, u2, u3] T)).alloc (.cells #[v0, v1, v2, v3] T2)).alloc (.cells #[x0, x1, x2, x3] T3) = W ∧ w.heap.size = a ∧ w.heap.size + 1 = r ∧ w.heap.size + 1 + 1 = b ∧ Below w.heap.size w W ∧ Blk W a T #[u0, u1, u2, u3] ∧ Blk W r T2 #[v0, v1, v2, v3] ∧ Blk W b T3 #[x0, x1, x2, x3] ∧ W.heap.size = w.heap.size + 3 := by
  have h1 : Below (w.heap.size + 1) (w.alloc (.cells #[u0, u1, u2, u3] T)) ((w.alloc (.cells #[u0, u1, u2, u3] T)).alloc (.cells #[v0, v1, v2, v3] T2)) := (Below.refl _ _).alloc (by simp) _
  have h2 : Below (w.heap.size + 1 + 1) ((w.alloc (.cells #[u0, u1, u2, u3] T)).alloc (.cells #[v0, v1, v2, v3] T2)) (((w.alloc (.cells #[u0, u1, u2, u3] T)).alloc (.cells #[v0, v1, v2, v3] T2)).alloc (.cells #[x0, x1, x2, x3] T3)) := (Below.refl _ _).alloc (by simp) _
  have b1 : Blk ((w.alloc (.cells #[u0, u1, u2, u3] T)).alloc (.cells #[v0, v1, v2, v3] T2)) (w.heap.size + 1) T2 #[v0, v1, v2, v3] := by
    have := Blk.new (w.alloc (.cells #[u0, u1, u2, u3] T)) T2 #[v0, v1, v2, v3]
    simpa using this
  have b2 : Blk (((w.alloc (.cells #[u0, u1, u2, u3] T)).alloc (.cells #[v0, v1, v2, v3] T2)).alloc (.cells #[x0, x1, x2, x3] T3)) (w.heap.size + 1 + 1) T3 #[x0, x1, x2, x3] := by
    have := Blk.new ((w.alloc (.cells #[u0, u1, u2, u3] T)).alloc (.cells #[v0, v1, v2, v3] T2)) T3 #[x0, x1, x2, x3]
    simpa using this
  refine ⟨_, _, _, _, rfl, rfl, rfl, rfl, (((Below.refl _ _).alloc (Nat.le_refl _) _).alloc (by simp) _).alloc (by simp; omega) _, ((Blk.new w T _).below h1 (by omega)).below h2 (by omega), b1.below h2 (by omega), b2, by simp⟩
set_option maxRecDepth 100000 in
theorem own_any (w : World) (F : Nat → Prop) (v : NdV) (d : Ar.Nd) (h : NdIn w F v d) : Calls Tryd.prog 27 #[v.val d.leaf] w (NdNewW w d) := by
  obtain ⟨A1, n1, c1, A2, n2, c2, A3, n3, c3⟩ := v
  obtain ⟨lf, hlf⟩ : ∃ lf, d.leaf = lf := ⟨_, rfl⟩
  obtain ⟨W, a, r, b, hW, ha, hr, hb, hB, hbox, hres, hnew, hWs⟩ := three_made w 36 (.bool lf) (.slice A1 n1 c1) (.slice A2 n2 c2) (.slice A3 n3 c3) (.bool false) (.slice none 0 0) (.slice none 0 0) (.slice none 0 0) (.bool lf) (.slice none 0 0) (.slice none 0 0) (.slice none 0 0) 36 36
  obtain ⟨iS, hS0, hS1, hS2, hS3⟩ := info_parts Tryd.info9
  obtain ⟨iH, hH0, hH1, hH2, hH3⟩ := info_parts Tryd.info42
  obtain ⟨iI, hI0, hI1, hI2, hI3⟩ := info_parts Tryd.info3
  have hnd := (h.mono (G := fun x => x < w.heap.size) (fun x hx _ => hx)).below hB
  have hab : a ≠ b := by omega
  have hrb : r ≠ b := by omega
  have hbl := hnew.lt
  have hFb : ∀ x, x < w.heap.size → ¬ x = b := fun x hx e => by omega
  obtain ⟨B1, k1, w1, hrun1, hown1, hb1⟩ := append_copy 32 9 iS _ 16 Tryd.underlying32 hS0 hS1 hS2 hS3 rfl (by decide) 32 hnd.keys (strL_one _) h.few1 (by omega)
  obtain ⟨w2, hw2⟩ : ∃ w2, w1.setCell ⟨b, 1, none⟩ (.slice B1 n1 k1) = w2 := ⟨_, rfl⟩
  have hbox1 := hbox.below hb1 hbox.lt
  have hres1 := hres.below hb1 hres.lt
  have hnew1 := hnew.below hb1 hnew.lt
  have t2 : Turns (fun x => x = b) w1 w2 := hw2 ▸ (Turns.refl (fun x => x = b) w1).setCell (g := b) _ _ (fun _ => rfl)
  have hbox2 := t2.blk hbox1 hab
  have hres2 := t2.blk hres1 hrb
  have hnew2 : Blk w2 b 36 #[.bool lf, .slice B1 n1 k1, .slice none 0 0, .slice none 0 0] := hw2 ▸ hnew1.set_ 1 _
  have hnd2 := (hnd.below hb1).turn t2 hFb
  have s1 := hb1.size
  have s2 := t2.size
  have p1 : WrA w2 W.heap.size B1 := (WrA.of_own hown1).turn t2 (fun x hx e => by omega)
  have q1 : Cells w2 (fun x => W.heap.size ≤ x) B1 n1 1 (strL d.keys) := ((Cells.of_own hown1)).turn t2 (fun x hx e => by omega)
  obtain ⟨B2, k2, w3, hrun2, hown2, hb3⟩ := append_copy 33 42 iH _ 16 Tryd.underlying33 hH0 hH1 hH2 hH3 rfl (by decide) 33 hnd2.kids (hanL_one _) h.few2 (by omega)
  obtain ⟨w4, hw4⟩ : ∃ w4, w3.setCell ⟨b, 2, none⟩ (.slice B2 n2 k2) = w4 := ⟨_, rfl⟩
  have hbox3 := hbox2.below hb3 hbox2.lt
  have hres3 := hres2.below hb3 hres2.lt
  have hnew3 := hnew2.below hb3 hnew2.lt
  have t4 : Turns (fun x => x = b) w3 w4 := hw4 ▸ (Turns.refl (fun x => x = b) w3).setCell (g := b) _ _ (fun _ => rfl)
  have hbox4 := t4.blk hbox3 hab
  have hres4 := t4.blk hres3 hrb
  have hnew4 : Blk w4 b 36 #[.bool lf, .slice B1 n1 k1, .slice B2 n2 k2, .slice none 0 0] := hw4 ▸ hnew3.set_ 2 _
  have hnd4 := (hnd2.below hb3).turn t4 hFb
  have s3 := hb3.size
  have s4 := t4.size
  have q1 := (q1.below hb3).turn t4 (fun x hx e => by omega)
  have p1 := (p1.below hb3).turn t4 (fun x hx e => by omega)
  have p2 : WrA w4 W.heap.size B2 := ((WrA.of_own hown2).lower (by omega)).turn t4 (fun x hx e => by omega)
  have q2 : Cells w4 (fun x => W.heap.size ≤ x) B2 n2 2 (hanL d.kids) := ((Cells.of_own hown2).mono (fun x _ hx => by omega)).turn t4 (fun x hx e => by omega)
  obtain ⟨B3, k3, w5, hrun3, hown3, hb5⟩ := append_copy 34 3 iI _ 8 Tryd.underlying34 hI0 hI1 hI2 hI3 rfl (by decide) 34 hnd4.vals (intL_one _) h.few3 (by omega)
  obtain ⟨w6, hw6⟩ : ∃ w6, w5.setCell ⟨b, 3, none⟩ (.slice B3 n3 k3) = w6 := ⟨_, rfl⟩
  have hbox5 := hbox4.below hb5 hbox4.lt
  have hres5 := hres4.below hb5 hres4.lt
  have hnew5 := hnew4.below hb5 hnew4.lt
  have t6 : Turns (fun x => x = b) w5 w6 := hw6 ▸ (Turns.refl (fun x => x = b) w5).setCell (g := b) _ _ (fun _ => rfl)
  have hres6 := t6.blk hres5 hrb
  have hnew6 : Blk w6 b 36 #[.bool lf, .slice B1 n1 k1, .slice B2 n2 k2, .slice B3 n3 k3] := hw6 ▸ hnew5.set_ 3 _
  have s5 := hb5.size
  have s6 := t6.size
  have q1 := (q1.below hb5).turn t6 (fun x hx e => by omega)
  have q2 := (q2.below hb5).turn t6 (fun x hx e => by omega)
  have p1 := (p1.below hb5).turn t6 (fun x hx e => by omega)
  have p2 := (p2.below hb5).turn t6 (fun x hx e => by omega)
  have p3 : WrA w6 W.heap.size B3 := ((WrA.of_own hown3).lower (by omega)).turn t6 (fun x hx e => by omega)
  have PP := Lib.hid (And.intro p1 (And.intro p2 p3))
  have q3 : Cells w6 (fun x => W.heap.size ≤ x) B3 n3 1 (intL d.vals) := ((Cells.of_own hown3).mono (fun x _ hx => by omega)).turn t6 (fun x hx e => by omega)
  have T06 : Turns (fun x => x = b) w w6 := (((((Turns.of_below hB).trans (Turns.of_below hb1)).trans t2).trans (Turns.of_below hb3)).trans t4).trans (Turns.of_below hb5) |>.trans t6
  have H := Lib.hid (And.intro hW (And.intro ha (And.intro hr (And.intro hb (And.intro hw2 (And.intro hw4 (And.intro hw6 (And.intro hlf (And.intro hWs (And.intro T06 (And.intro q1 (And.intro q2 (And.intro q3 (And.intro hres6 h))))))))))))))
  have HA := Lib.hid (And.intro hbox (And.intro hnew (And.intro hbox2 (And.intro hnew2 (And.intro hbox4 (And.intro hnew4 hnew6))))))
  have HB := Lib.hid (And.intro hnew1 (And.intro hnew3 hnew5))
  have R1 : Hid ((Builtin.append_ #[32, 32] 32 #[.slice none 0 0, .slice A1 n1 c1]).run Tryd.prog W = .ok (.slice B1 n1 k1) w1) := Lib.hid hrun1
  have R2 : Hid ((Builtin.append_ #[33, 33] 33 #[.slice none 0 0, .slice A2 n2 c2]).run Tryd.prog w2 = .ok (.slice B2 n2 k2) w3) := Lib.hid hrun2
  have R3 : Hid ((Builtin.append_ #[34, 34] 34 #[.slice none 0 0, .slice A3 n3 c3]).run Tryd.prog w4 = .ok (.slice B3 n3 k3) w5) := Lib.hid hrun3
  unfold NdV.val
  rw [hlf]
  clear hW ha hr hb hw2 hw4 hw6 hlf hWs T06 q1 q2 q3 hres6 h hbox hnew hbox1 hnew1 hbox2 hnew2 hbox3 hnew3 hbox4 hnew4 hbox5 hnew5 hnew6 hres hres1 hres2 hres3 hres4 hres5 hrun1 hrun2 hrun3
  show Calls Tryd.prog _ #[.agg #[.bool lf, .slice A1 n1 c1, .slice A2 n2 c2, .slice A3 n3 c3]] w _
  go_enter Tryd.func27, Tryd.ntmps27
  go_upto_region 2 with fail
  rw [H.out.1, H.out.2.2.2.1, H.out.2.2.1, H.out.2.1]
  have a0 := HA.out.1.cell 1
  have b0 := HA.out.2.1.cell 1
  have c0 := HB.out.1.cell 1
  have f0 := HB.out.1.frozen 1
  simp only [List.getElem?_toArray, List.getElem?_cons_zero, List.getElem?_cons_succ] at a0 b0 c0
  go_upto_region 3 with (at_builtin; refine wpList_append_eq rfl _ _ 32 rfl rfl rfl R1.out ?_)
  rw [H.out.2.2.2.2.1]
  clear a0 b0 c0 f0
  have a0 := HA.out.2.2.1.cell 2
  have b0 := HA.out.2.2.2.1.cell 2
  have c0 := HB.out.2.1.cell 2
  have f0 := HB.out.2.1.frozen 2
  simp only [List.getElem?_toArray, List.getElem?_cons_zero, List.getElem?_cons_succ] at a0 b0 c0
  go_upto_region 4 with (at_builtin; refine wpList_append_eq rfl _ _ 33 rfl rfl rfl R2.out ?_)
  rw [H.out.2.2.2.2.2.1]
  clear a0 b0 c0 f0
  have a0 := HA.out.2.2.2.2.1.cell 3
  have b0 := HA.out.2.2.2.2.2.1.cell 3
  have c0 := HB.out.2.2.cell 3
  have f0 := HB.out.2.2.frozen 3
  simp only [List.getElem?_toArray, List.getElem?_cons_zero, List.getElem?_cons_succ] at a0 b0 c0
  go_upto_region 5 with (at_builtin; refine wpList_append_eq rfl _ _ 34 rfl rfl rfl R3.out ?_)
  rw [H.out.2.2.2.2.2.2.1]
  clear a0 b0 c0 f0
  have hn6 := HA.out.2.2.2.2.2.2
  have hr6 := H.out.2.2.2.2.2.2.2.2.2.2.2.2.2.1
  have e0 := hn6.cell 0
  have e1 := hn6.cell 1
  have e2 := hn6.cell 2
  have e3 := hn6.cell 3
  have y0 := hr6.cell 0
  have y1 := hr6.cell 1
  have y2 := hr6.cell 2
  have y3 := hr6.cell 3
  have f0 := hr6.frozen 0
  have f1 := hr6.frozen 1
  have f2 := hr6.frozen 2
  have f3 := hr6.frozen 3
  simp only [List.getElem?_toArray, List.getElem?_cons_zero, List.getElem?_cons_succ] at e0 e1 e2 e3 y0 y1 y2 y3
  clear hn6 hr6
  go_wp2_with fail
  have hU := H.out.2.2.2.2.2.2.2.2.2.2.2.2.2.1.node (.bool lf) (.slice B1 n1 k1) (.slice B2 n2 k2) (.slice B3 n3 k3)
  have hT : Turns (fun x => x = r) w6 (setNode w6 r 0 (.bool lf) (.slice B1 n1 k1) (.slice B2 n2 k2) (.slice B3 n3 k3)) := setNode_turn (Turns.refl _ _) 0 _ _ _ _ (fun _ => rfl)
  obtain ⟨U, hUe⟩ : ∃ U, setNode w6 r 0 (.bool lf) (.slice B1 n1 k1) (.slice B2 n2 k2) (.slice B3 n3 k3) = U := ⟨_, rfl⟩
  rw [hUe] at hU hT
  change bodyPost _ _ _ _ _ (setNode w6 r 0 (.bool lf) (.slice B1 n1 k1) (.slice B2 n2 k2) (.slice B3 n3 k3))
  rw [hUe]
  clear e0 e1 e2 e3 y0 y1 y2 y3 f0 f1 f2 f3
  obtain ⟨hW, ha, hr, hb, hw2, hw4, hw6, hlf, hWs, T06, q1, q2, q3, hres6, h⟩ := H.out
  have hTU : Turns (fun x => w.heap.size ≤ x) w U := (T06.mono (by rintro x _ rfl; omega)).trans (hT.mono (by rintro x _ rfl; omega))
  have hbU : Below w.heap.size w U := hTU.below (Nat.le_refl _) (fun x hx => hx)
  have e0 := hU.cell 0
  have e1 := hU.cell 1
  have e2 := hU.cell 2
  have e3 := hU.cell 3
  simp only [List.getElem?_toArray, List.getElem?_cons_zero, List.getElem?_cons_succ] at e0 e1 e2 e3
  have hne : ∀ x, W.heap.size ≤ x → ¬ x = r := fun x hx e => by omega
  refine bodyPost_ret (v := .agg #[.bool lf, .slice B1 n1 k1, .slice B2 n2 k2, .slice B3 n3 k3]) ?_ rfl ⟨⟨B1, n1, k1, B2, n2, k2, B3, n3, k3⟩, by rw [hlf]; rfl, ?_, hbU, ?_⟩
  · simp [results, Tryd.results27, go_sem, e0, e1, e2, e3]
  · exact ⟨(q1.turn hT hne).mono (fun x _ hx => by omega), (q2.turn hT hne).mono (fun x _ hx => by omega), (q3.turn hT hne).mono (fun x _ hx => by omega), h.few1, h.few2, h.few3⟩
  · exact ⟨(PP.out.1.turn hT hne).lower (by omega), (PP.out.2.1.turn hT hne).lower (by omega), (PP.out.2.2.turn hT hne).lower (by omega)⟩
end Go.Proofs.YtgpcpjjdneimfaaDoor

namespace Go.Proofs.YtgpcpjjdneimfaaDoor
open Go.ChangeShapes Go.WideShapes Go.ChangeAt Go.RowKit

set_option maxRecDepth 100000 in
theorem node_any (w : World) (F : Nat → Prop) (v : NdV) (d : Ar.Nd) (h : NdIn w F v d) : Calls Tryd.prog 17 #[v.val d.leaf] w (NdNew w d) := by
  obtain ⟨A1, n1, c1, A2, n2, c2, A3, n3, c3⟩ := v
  obtain ⟨lf, hlf⟩ : ∃ lf, d.leaf = lf := ⟨_, rfl⟩
  obtain ⟨W, hW⟩ : ∃ W, ((w.alloc (.cells #[.bool lf, .slice A1 n1 c1, .slice A2 n2 c2, .slice A3 n3 c3] 36)).alloc (.cells #[.bool false, .slice none 0 0, .slice none 0 0, .slice none 0 0] 48)) = W := ⟨_, rfl⟩
  obtain ⟨a, ha⟩ : ∃ a, w.heap.size = a := ⟨_, rfl⟩
  obtain ⟨r, hr⟩ : ∃ r, w.heap.size + 1 = r := ⟨_, rfl⟩
  have hB : Below w.heap.size w W := hW ▸ ((Below.refl _ _).alloc (Nat.le_refl _) _).alloc (by simp) _
  have hbox : Blk W a 36 #[.bool lf, .slice A1 n1 c1, .slice A2 n2 c2, .slice A3 n3 c3] := by
    rw [← hW, ← ha]
    exact (Blk.new w _ _).below ((Below.refl _ _).alloc (Nat.le_refl _) _) (by simp)
  have hres : Blk W r 48 #[.bool false, .slice none 0 0, .slice none 0 0, .slice none 0 0] := by
    rw [← hW, ← hr]
    have := Blk.new (w.alloc (.cells #[.bool lf, .slice A1 n1 c1, .slice A2 n2 c2, .slice A3 n3 c3] 36)) 48 #[.bool false, .slice none 0 0, .slice none 0 0, .slice none 0 0]
    simpa using this
  have hnd := (h.mono (G := fun x => x < w.heap.size) (fun x hx _ => hx)).below hB
  have H := Lib.hid (And.intro hW (And.intro ha (And.intro hr (And.intro hB (And.intro hbox (And.intro hres (And.intro hnd hlf)))))))
  show Calls Tryd.prog _ #[.agg #[.bool d.leaf, .slice A1 n1 c1, .slice A2 n2 c2, .slice A3 n3 c3]] w _
  rw [hlf]
  clear hW ha hr hB hbox hres hnd hlf h
  go_enter Tryd.func17, Tryd.ntmps17
  go_upto_region 1 with fail
  rw [H.out.1, H.out.2.2.1, H.out.2.1]
  go_cut [3] (fun p wx => ∃ (b : Nat) (B2 : Option Addr) (k2 : Nat), p = .pointer (some ⟨b, 0, none⟩) ∧ W.heap.size ≤ b ∧ Blk wx b 48 #[.bool lf, .slice none 0 0, .slice B2 n2 k2, .slice none 0 0] ∧ Cells wx (fun x => W.heap.size ≤ x ∧ ¬ x = b) B2 n2 2 (hanL d.kids) ∧ Below W.heap.size W wx)
  case first =>
    have P : Hid (∀ X, Below W.heap.size W X → X.cell? ⟨a, 0, none⟩ = some (.bool lf) ∧ X.cell? ⟨a, 2, none⟩ = some (.slice A2 n2 c2)) := Lib.hid fun X hX =>
      have h1 := H.out.2.2.2.2.1.below hX H.out.2.2.2.2.1.lt
      ⟨h1.cell 0, h1.cell 2⟩
    have HC : Hid (∀ X, Below W.heap.size W X → Calls Tryd.prog 32 #[.slice A2 n2 c2] X (RowP X 51 2 n2 (hanL d.kids))) := Lib.hid fun X hX =>
      handles_any X _ A2 n2 c2 _ (H.out.2.2.2.2.2.2.1.kids.below hX) H.out.2.2.2.2.2.2.1.few2
    have P4 : Hid (∀ (X : World) (b : Nat), W.heap.size ≤ b → Below W.heap.size W X → ∀ u0 u1 u2 u3 : Value, ((((X.setCell ⟨b, 0, none⟩ u0).setCell ⟨b, 1, none⟩ u1).setCell ⟨b, 2, none⟩ u2).setCell ⟨b, 3, none⟩ u3).cell? ⟨a, 0, none⟩ = some (.bool lf) ∧ ((((X.setCell ⟨b, 0, none⟩ u0).setCell ⟨b, 1, none⟩ u1).setCell ⟨b, 2, none⟩ u2).setCell ⟨b, 3, none⟩ u3).cell? ⟨a, 2, none⟩ = some (.slice A2 n2 c2)) := Lib.hid fun X b hb hX u0 u1 u2 u3 =>
      P.out _ ((((hX.setCell (p := ⟨b, 0, none⟩) hb u0).setCell (p := ⟨b, 1, none⟩) hb u1).setCell (p := ⟨b, 2, none⟩) hb u2).setCell (p := ⟨b, 3, none⟩) hb u3)
    have E0 : Hid (Below W.heap.size W W.drew) := Lib.hid (Below.refl _ _).drew
    have E0b : Hid (Below W.heap.size W (W.alloc (.cells #[.bool false, .slice none 0 0, .slice none 0 0, .slice none 0 0] 48)).drew) := Lib.hid ((Below.refl _ _).alloc (Nat.le_refl _) _).drew
    have PN : Hid (∀ X, Below (W.alloc (.cells #[.bool false, .slice none 0 0, .slice none 0 0, .slice none 0 0] 48)).drew.heap.size (W.alloc (.cells #[.bool false, .slice none 0 0, .slice none 0 0, .slice none 0 0] 48)).drew X → (X.cell? ⟨W.heap.size, 0, none⟩ = some (.bool false) ∧ X.cell? ⟨W.heap.size, 1, none⟩ = some (.slice none 0 0) ∧ X.cell? ⟨W.heap.size, 2, none⟩ = some (.slice none 0 0) ∧ X.cell? ⟨W.heap.size, 3, none⟩ = some (.slice none 0 0)) ∧ (X.frozen? ⟨W.heap.size, 0, none⟩ = false ∧ X.frozen? ⟨W.heap.size, 1, none⟩ = false ∧ X.frozen? ⟨W.heap.size, 2, none⟩ = false ∧ X.frozen? ⟨W.heap.size, 3, none⟩ = false)) := Lib.hid fun X hX =>
      have h1 : Blk (W.alloc (.cells #[.bool false, .slice none 0 0, .slice none 0 0, .slice none 0 0] 48)).drew W.heap.size 48 #[.bool false, .slice none 0 0, .slice none 0 0, .slice none 0 0] := Blk.new W _ _
      have h2 := h1.below hX h1.lt
      ⟨⟨h2.cell 0, h2.cell 1, h2.cell 2, h2.cell 3⟩, ⟨h2.frozen 0, h2.frozen 1, h2.frozen 2, h2.frozen 3⟩⟩
    go_region_held3 (fun X => X.cell? ⟨a, 0, none⟩ = some (.bool lf) ∧ X.cell? ⟨a, 2, none⟩ = some (.slice A2 n2 c2)) (first | with_reducible exact P.out _ E0.out | with_reducible exact P.out _ E1.out | with_reducible exact P.out _ (E1.out.alloc E1.out.size _) | with_reducible exact P.out _ E0b.out | with_reducible exact P4.out _ _ E1.out.size (E1.out.alloc E1.out.size _) _ _ _ _ | with_reducible exact P4.out _ _ (Nat.le_refl _) E1.out _ _ _ _ | fail) (first
      | (go_at_call 32; (with_reducible refine (HC.out _ E0.out).mono ?_); rintro e X1 ⟨B2, k2, rfl, o1, bb1⟩; have E1 := Lib.hid (below_next E0.out bb1); have O1 := Lib.hid (And.intro o1 bb1); clear o1 bb1)
      | (go_at_call 32; (with_reducible refine (HC.out _ E0b.out).mono ?_); rintro e X1 ⟨B2, k2, rfl, o1, bb1⟩; obtain ⟨⟨z0, z1, z2, z3⟩, ⟨y0, y1, y2, y3⟩⟩ := PN.out _ bb1; have E1 := Lib.hid (below_next E0b.out bb1); have O1 := Lib.hid (And.intro o1 bb1); clear o1 bb1))
    · go_wp2_with fail
      go_meet
      case rel =>
        have hc : Cells X1 (fun x => W.heap.size ≤ x ∧ ¬ x = X1.heap.size) B2 n2 2 (hanL d.kids) := (Cells.of_own O1.out.1).mono (fun x hx hh => ⟨hh, by omega⟩)
        exact ⟨X1.heap.size, B2, k2, rfl, E1.out.size, Blk.new _ _ _, hc.below ((Below.refl _ _).alloc (Nat.le_refl _) _), E1.out.alloc E1.out.size _⟩
    · clear z0 z1 z2 z3 y0 y1 y2 y3
      go_wp2_with fail
      go_meet
      case rel =>
        have h1 : Blk (W.alloc (.cells #[.bool false, .slice none 0 0, .slice none 0 0, .slice none 0 0] 48)).drew W.heap.size 48 #[.bool false, .slice none 0 0, .slice none 0 0, .slice none 0 0] := Blk.new W _ _
        have h2 := (h1.below O1.out.2 h1.lt).node (.bool lf) (.slice none 0 0) (.slice B2 n2 k2) (.slice none 0 0)
        have hT : Turns (fun x => x = W.heap.size) X1 (setNode X1 W.heap.size 0 (.bool lf) (.slice none 0 0) (.slice B2 n2 k2) (.slice none 0 0)) := setNode_turn (Turns.refl _ _) 0 _ _ _ _ (fun _ => rfl)
        have hsz : (W.alloc (.cells #[.bool false, .slice none 0 0, .slice none 0 0, .slice none 0 0] 48)).drew.heap.size = W.heap.size + 1 := by
          show (W.alloc _).heap.size = _
          simp
        have hc : Cells X1 (fun x => W.heap.size ≤ x ∧ ¬ x = W.heap.size) B2 n2 2 (hanL d.kids) := (Cells.of_own O1.out.1).mono (fun x hx hh => ⟨by omega, by omega⟩)
        exact ⟨W.heap.size, B2, k2, rfl, Nat.le_refl _, h2, hc.turn hT (fun x hx e => hx.2 e), ((Turns.of_below (F := fun x => x = W.heap.size) E1.out).then hT (fun _ _ e => e)).below (Nat.le_refl _) (fun x e => by omega)⟩
  case rest =>
    obtain ⟨b, B2, k2, rfl, hbW, hnew, q2, hBW⟩ := hcut
    obtain ⟨hW, ha, hr, hB, hbox, hres, hnd, hlf⟩ := H.out
    obtain ⟨iS, hS0, hS1, hS2, hS3⟩ := info_parts Tryd.info9
    obtain ⟨iI, hI0, hI1, hI2, hI3⟩ := info_parts Tryd.info3
    have sB := hB.size
    have sW := hBW.size
    have hal := hbox.lt
    have hrl := hres.lt
    have hab : a ≠ b := by omega
    have hrb : r ≠ b := by omega
    have hbox := hbox.below hBW hal
    have hres := hres.below hBW hrl
    have hnd := hnd.below hBW
    have hFb : ∀ x, x < w.heap.size → ¬ x = b := fun x hx e => by omega
    have hbl := hnew.lt
    obtain ⟨B1, k1, w1, hrun1, hown1, hb1⟩ := append_copy 32 9 iS _ 16 Tryd.underlying32 hS0 hS1 hS2 hS3 rfl (by decide) 32 hnd.keys (strL_one _) hnd.few1 (by omega)
    obtain ⟨w2, hw2⟩ : ∃ w2, w1.setCell ⟨b, 1, none⟩ (.slice B1 n1 k1) = w2 := ⟨_, rfl⟩
    have hbox1 := hbox.below hb1 hbox.lt
    have hres1 := hres.below hb1 hres.lt
    have hnew1 := hnew.below hb1 hnew.lt
    have t2 : Turns (fun x => x = b) w1 w2 := hw2 ▸ (Turns.refl (fun x => x = b) w1).setCell (g := b) _ _ (fun _ => rfl)
    have hbox2 := t2.blk hbox1 hab
    have hres2 := t2.blk hres1 hrb
    have hnew2 : Blk w2 b 48 #[.bool lf, .slice B1 n1 k1, .slice B2 n2 k2, .slice none 0 0] := hw2 ▸ hnew1.set_ 1 _
    have hnd2 := (hnd.below hb1).turn t2 hFb
    have s1 := hb1.size
    have s2 := t2.size
    have q1 : Cells w2 (fun x => W.heap.size ≤ x ∧ ¬ x = b) B1 n1 1 (strL d.keys) := ((Cells.of_own hown1).mono (fun x _ hx => ⟨by omega, by omega⟩)).turn t2 (fun x hx e => hx.2 e)
    have q2 := (q2.below hb1).turn t2 (fun x hx e => hx.2 e)
    obtain ⟨B3, k3, w5, hrun3, hown3, hb5⟩ := append_copy 34 3 iI _ 8 Tryd.underlying34 hI0 hI1 hI2 hI3 rfl (by decide) 34 hnd2.vals (intL_one _) hnd.few3 (by omega)
    obtain ⟨w6, hw6⟩ : ∃ w6, w5.setCell ⟨b, 3, none⟩ (.slice B3 n3 k3) = w6 := ⟨_, rfl⟩
    have hres5 := hres2.below hb5 hres2.lt
    have hnew5 := hnew2.below hb5 hnew2.lt
    have t6 : Turns (fun x => x = b) w5 w6 := hw6 ▸ (Turns.refl (fun x => x = b) w5).setCell (g := b) _ _ (fun _ => rfl)
    have hres6 := t6.blk hres5 hrb
    have hnew6 : Blk w6 b 48 #[.bool lf, .slice B1 n1 k1, .slice B2 n2 k2, .slice B3 n3 k3] := hw6 ▸ hnew5.set_ 3 _
    have s5 := hb5.size
    have s6 := t6.size
    have q1 := (q1.below hb5).turn t6 (fun x hx e => hx.2 e)
    have q2 := (q2.below hb5).turn t6 (fun x hx e => hx.2 e)
    have q3 : Cells w6 (fun x => W.heap.size ≤ x ∧ ¬ x = b) B3 n3 1 (intL d.vals) := ((Cells.of_own hown3).mono (fun x _ hx => ⟨by omega, by omega⟩)).turn t6 (fun x hx e => hx.2 e)
    have T06 : Turns (fun x => x = b) w w6 := ((((Turns.of_below hB).trans (Turns.of_below (hBW))).trans (Turns.of_below hb1)).trans t2).trans (Turns.of_below hb5) |>.trans t6
    have HH := Lib.hid (And.intro hw2 (And.intro hw6 (And.intro T06 (And.intro q1 (And.intro q2 (And.intro q3 (And.intro hres6 (And.intro hnd.few1 (And.intro hnd.few2 (And.intro hnd.few3 (And.intro hbW (And.intro hrl (And.intro hr sB)))))))))))))
    have HA := Lib.hid (And.intro hbox (And.intro hnew (And.intro hnew1 (And.intro hbox2 (And.intro hnew2 (And.intro hnew5 hnew6))))))
    have R1 : Hid ((Builtin.append_ #[32, 32] 32 #[.slice none 0 0, .slice A1 n1 c1]).run Tryd.prog wc = .ok (.slice B1 n1 k1) w1) := Lib.hid hrun1
    have R3 : Hid ((Builtin.append_ #[34, 34] 34 #[.slice none 0 0, .slice A3 n3 c3]).run Tryd.prog w2 = .ok (.slice B3 n3 k3) w5) := Lib.hid hrun3
    clear hW ha hr hw2 hw6 hlf T06 q1 q2 q3 hres6 hbox hnew hbox1 hnew1 hbox2 hnew2 hnew5 hnew6 hres hres1 hres2 hres5 hrun1 hrun3
    have a0 := HA.out.1.cell 1
    have b0 := HA.out.2.1.cell 1
    have c0 := HA.out.2.2.1.cell 1
    have f0 := HA.out.2.2.1.frozen 1
    simp only [List.getElem?_toArray, List.getElem?_cons_zero, List.getElem?_cons_succ] at a0 b0 c0
    go_upto_region 3 with (at_builtin; refine wpList_append_eq rfl _ _ 32 rfl rfl rfl R1.out ?_)
    rw [HH.out.1]
    clear a0 b0 c0 f0
    have a0 := HA.out.2.2.2.1.cell 3
    have b0 := HA.out.2.2.2.2.1.cell 3
    have c0 := HA.out.2.2.2.2.2.1.cell 3
    have f0 := HA.out.2.2.2.2.2.1.frozen 3
    simp only [List.getElem?_toArray, List.getElem?_cons_zero, List.getElem?_cons_succ] at a0 b0 c0
    go_upto_region 4 with (at_builtin; refine wpList_append_eq rfl _ _ 34 rfl rfl rfl R3.out ?_)
    rw [HH.out.2.1]
    clear a0 b0 c0 f0
    have hn6 := HA.out.2.2.2.2.2.2
    have hr6 := HH.out.2.2.2.2.2.2.1
    have e0 := hn6.cell 0
    have e1 := hn6.cell 1
    have e2 := hn6.cell 2
    have e3 := hn6.cell 3
    have y0 := hr6.cell 0
    have y1 := hr6.cell 1
    have y2 := hr6.cell 2
    have y3 := hr6.cell 3
    have f0 := hr6.frozen 0
    have f1 := hr6.frozen 1
    have f2 := hr6.frozen 2
    have f3 := hr6.frozen 3
    simp only [List.getElem?_toArray, List.getElem?_cons_zero, List.getElem?_cons_succ] at e0 e1 e2 e3 y0 y1 y2 y3
    clear hn6 hr6
    go_wp2_with fail
    have hU := HH.out.2.2.2.2.2.2.1.node (.bool lf) (.slice B1 n1 k1) (.slice B2 n2 k2) (.slice B3 n3 k3)
    have hT : Turns (fun x => x = r) w6 (setNode w6 r 0 (.bool lf) (.slice B1 n1 k1) (.slice B2 n2 k2) (.slice B3 n3 k3)) := setNode_turn (Turns.refl _ _) 0 _ _ _ _ (fun _ => rfl)
    obtain ⟨U, hUe⟩ : ∃ U, setNode w6 r 0 (.bool lf) (.slice B1 n1 k1) (.slice B2 n2 k2) (.slice B3 n3 k3) = U := ⟨_, rfl⟩
    rw [hUe] at hU hT
    change bodyPost _ _ _ _ _ (setNode w6 r 0 (.bool lf) (.slice B1 n1 k1) (.slice B2 n2 k2) (.slice B3 n3 k3))
    rw [hUe]
    clear e0 e1 e2 e3 y0 y1 y2 y3 f0 f1 f2 f3
    obtain ⟨hw2, hw6, T06, q1, q2, q3, hres6, l1, l2, l3, hbW, hrl, hr, sB⟩ := HH.out
    have hlf := H.out.2.2.2.2.2.2.2
    have hTU : Turns (fun x => w.heap.size ≤ x) w U := (T06.mono (by rintro x _ rfl; omega)).trans (hT.mono (by rintro x _ rfl; omega))
    have hbU : Below w.heap.size w U := hTU.below (Nat.le_refl _) (fun x hx => hx)
    have e0 := hU.cell 0
    have e1 := hU.cell 1
    have e2 := hU.cell 2
    have e3 := hU.cell 3
    simp only [List.getElem?_toArray, List.getElem?_cons_zero, List.getElem?_cons_succ] at e0 e1 e2 e3
    have hne : ∀ x, (W.heap.size ≤ x ∧ ¬ x = b) → ¬ x = r := fun x hx e => by omega
    refine bodyPost_ret (v := .agg #[.bool lf, .slice B1 n1 k1, .slice B2 n2 k2, .slice B3 n3 k3]) ?_ rfl ⟨⟨B1, n1, k1, B2, n2, k2, B3, n3, k3⟩, by rw [hlf]; rfl, ?_, hbU⟩
    · simp [results, Tryd.results17, go_sem, e0, e1, e2, e3]
    · exact ⟨(q1.turn hT hne).mono (fun x _ hx => by omega), (q2.turn hT hne).mono (fun x _ hx => by omega), (q3.turn hT hne).mono (fun x _ hx => by omega), l1, l2, l3⟩
end Go.Proofs.YtgpcpjjdneimfaaDoor
