/- Made by tools/gen/cn.py. -/
/- Layer 15, the program: Add. -/
import Derived.Test.YteegnehfagkjcaaCnK
import Derived.Deep.RegionLaw
namespace Go.Proofs.Yteegnehfagkjcaa
open Go.ChangeShapes Go.WideShapes Go.ChangeAt Go.RowKit

theorem Cn.right_snoc {l : List Cn.Ver} {v : Cn.Ver} (hr : Cn.right l = true) (h1 : Cn.one v = true) (h : ∀ i, i < l.length → (Cn.ix l i).e < v.e) : Cn.right (l ++ [v]) = true := by
  unfold Cn.one at h1
  rw [Bool.and_eq_true] at h1
  have h0 := of_decide_eq_true h1.1
  have e1 : ∀ i, i < l.length → Cn.ix (l ++ [v]) i = Cn.ix l i := fun i hi => by
    unfold Cn.ix
    rw [List.getD_eq_getElem?_getD, List.getD_eq_getElem?_getD, List.getElem?_append_left hi]
  have e2 : Cn.ix (l ++ [v]) l.length = v := by
    unfold Cn.ix
    rw [List.getD_eq_getElem?_getD, List.getElem?_append_right (Nat.le_refl _)]
    simp
  rw [Cn.right_iff]
  intro i hi
  rw [List.length_append, List.length_singleton] at hi
  rcases Nat.lt_or_ge i l.length with h2 | h2
  · have := (Cn.right_iff l).1 hr i h2
    unfold Cn.prev at this ⊢
    rw [e1 i h2]
    by_cases h3 : i = 0
    · rw [if_pos h3] at this ⊢
      exact this
    · rw [if_neg h3] at this ⊢
      rw [e1 (i - 1) (by omega)]
      exact this
  · obtain rfl : i = l.length := by omega
    rw [e2]
    refine ⟨?_, h1.2⟩
    unfold Cn.prev
    by_cases h3 : l.length = 0
    · rw [if_pos h3]
      exact h0
    · rw [if_neg h3, e1 (l.length - 1) (by omega)]
      exact h _ (by omega)
theorem step_append_eq {P : Program} {w w' : World} {ops : Array Oper} {o : Oper} {a : Act} {K : Act → World → Prop} {Q : Exit → Act → World → Prop} {E : Prop} (hw : Region.wanted o (yielded ops a.tmps) = true) (s x : Operand) (t : TypeId)
    (ho : o.op = .call { callee := .builtin .append, args := #[s, x], argTypes := #[t, t] }) {v xv v' : Value} (hs : a.eval s = v) (hx : a.eval x = xv) (hrun : (Builtin.append_ #[t, t] o.type #[v, xv]).run P w = .ok v' w') (h : K (a.put o.dst v') w') :
    if Region.wanted o (yielded ops a.tmps) = true then Oper.wp P o a w K Q else E := by
  rw [if_pos hw]
  unfold Oper.wp
  simp [execOp, ho, resolve, invoke, builtin, hs, hx, hrun, Result.andThen]
  exact h
theorem OwF.loc {w : World} {F : Nat → Prop} {E : TypeId} {s n c : Nat} {A : Option Addr} {xs : List Value} (h : OwF w F E s A n c xs) : OwF w (fun b => ∃ o p, A = some ⟨b, o, p⟩) E s A n c xs := by
  rcases h with h | ⟨b, o, cur, e, hF, hb, r⟩
  · exact .inl h
  · exact .inr ⟨b, o, cur, e, ⟨o, none, e⟩, hb, r⟩
theorem OwF.not_blk {w : World} {F : Nat → Prop} {E T : TypeId} {s n c g : Nat} {A : Option Addr} {xs : List Value} {cs : Array Value} (h : OwF w F E s A n c xs) (hg : Blk w g T cs) (hne : E ≠ T) : ¬ ∃ o p, A = some ⟨g, o, p⟩ := by
  rintro ⟨o, p, e⟩
  rcases h with ⟨h, -⟩ | ⟨b, o', cur, e', hF, hb, r⟩
  · rw [h] at e
    cases e
  · rw [e'] at e
    injection e with e
    injection e with e1 e2 e3
    exact blk_kind hg hb hne e1
def AddP (w : World) (g : Nat) (A : Option Addr) (l' : List Cn.Ver) (r : Int) (e : Ending) (w' : World) : Prop :=
  e = .returned (.int .i64 r) ∧ ∃ A' c' sp', ChAt w' g A' l'.length c' sp' l' ∧ (∀ b o p, A' = some ⟨b, o, p⟩ → (∃ o2 p2, A = some ⟨b, o2, p2⟩) ∨ w.heap.size ≤ b) ∧ Turns (fun b => b = g ∨ ∃ o p, A = some ⟨b, o, p⟩) w w'
set_option maxRecDepth 100000 in
set_option maxHeartbeats 4000000 in
theorem add_any (w : World) (g n c sp : Nat) (A : Option Addr) (l : List Cn.Ver) (v : Cn.Ver) (h : ChAt w g A n c sp l) (hn : n ≤ 100000) (hv : v.e < 18446744073709551616) : Calls Try.prog 31 #[.pointer (some ⟨g, 0, none⟩), .agg #[.int .u64 (v.e : Int), .bool v.d, .int .i64 v.a.c, .int .i64 v.a.s, .int .i64 v.a.lo, .int .i64 v.a.hi]] w (AddP w g A (Cn.add l v).1 (Cn.add l v).2) := by
  obtain ⟨i0, hi, hz0, hz1, hz2⟩ := info_parts Try.info35
  have HI := Lib.hid (And.intro hi (And.intro hz0 (And.intro hz1 hz2)))
  obtain ⟨rb, hrb⟩ : ∃ rb, w.heap.size = rb := ⟨_, rfl⟩
  have K := (Held.start w).new (verC v).toArray 35
  unfold verC at K
  obtain ⟨w0, hw0⟩ : ∃ w0, w.alloc (.cells #[.int .u64 (v.e : Int), .bool v.d, .int .i64 v.a.c, .int .i64 v.a.s, .int .i64 v.a.lo, .int .i64 v.a.hi] 35) = w0 := ⟨_, rfl⟩
  rw [hw0, hrb] at K
  have HR := Lib.hid (rights_any (w0.alloc (.cells (verC v).toArray 35)) (fun b => w0.heap.size ≤ b) (some ⟨w0.heap.size, 0, none⟩) 1 1 [v] (Cells.of_own (own_ver w0 35 v)) (by omega))
  unfold verC at HR
  rw [Cn.right_one] at HR
  have HS := Lib.hid h
  have HK := Lib.hid (And.intro K hrb)
  have q0 := K.top.cell 0
  have q1 := K.top.cell 1
  have q2 := K.top.cell 2
  have q3 := K.top.cell 3
  have q4 := K.top.cell 4
  have q5 := K.top.cell 5
  simp only [List.getElem?_toArray, List.getElem?_cons_zero, List.getElem?_cons_succ] at q0 q1 q2 q3 q4 q5
  clear h K hi hz0 hz1 hz2
  cases h1 : Cn.one v with
  | false =>
    have hadd : Cn.add l v = (l, 2) := by
      unfold Cn.add
      rw [h1]
      rfl
    rw [hadd]
    rw [h1] at HR
    clear h1 hadd
    go_enter Try.func31, Try.ntmps31
    go_wp2_with fail
    refine HR.out.mono ?_
    rintro e w1 ⟨rfl, b1⟩
    have B1 := Lib.hid (HK.out.1.1.trans (((bel_al _ _).trans (b1.mono (bel_al _ _).size)).mono HK.out.1.1.size))
    clear b1 q0 q1 q2 q3 q4 q5 hw0 hrb
    go_wp2_with fail
    go_ret
    have e1 := HS.out.len
    exact ⟨rfl, A, c, sp, by rw [e1]; exact HS.out.below B1.out, fun b o p e => .inl ⟨o, p, e⟩, Turns.of_below B1.out⟩
  | true =>
    have hv0 : 0 < v.e := by
      unfold Cn.one at h1
      rw [Bool.and_eq_true] at h1
      exact of_decide_eq_true h1.1
    obtain ⟨x, hx⟩ : ∃ x, v.e - 1 = x := ⟨_, rfl⟩
    have hwr : IntKind.u64.wrap ((v.e : Int) - 1) = (x : Int) := by rw [IntKind.wrap_u64]; omega
    have hadd : Cn.add l v = if Cn.upto l x = l.length then (l ++ [v], 0) else (l, 150) := by
      unfold Cn.add
      rw [if_pos h1, hx]
    rw [h1] at HR
    by_cases hup : Cn.upto l x = l.length
    · have hnx : Cn.next l x = (Cn.zero, false) := by unfold Cn.next; rw [if_pos hup]
      rw [if_pos hup] at hadd
      rw [hadd]
      have hrs := Cn.right_snoc HS.out.right h1 fun i hi => by
        have := Cn.upto_lt (l := l) (x := x) (i := i) (by omega)
        omega
      have HX := Lib.hid (And.intro hnx hrs)
      clear h1 hadd hup hnx hrs
      go_enter Try.func31, Try.ntmps31
      go_wp2_with fail
      refine HR.out.mono ?_
      rintro e w1 ⟨rfl, b1⟩
      have K1 := Lib.hid (HK.out.1.step ((bel_al _ _).trans (b1.mono (bel_al _ _).size)))
      have q0 := K1.out.top.cell 0
      simp only [List.getElem?_toArray, List.getElem?_cons_zero] at q0
      clear b1 q1 q2 q3 q4 q5 hw0 hrb
      go_wp2_with fail
      refine (next_any w1 g n c sp x A l (HS.out.below K1.out.1) (by omega)).mono ?_
      rintro e w2 ⟨rfl, b2⟩
      rw [HX.out.1]
      dsimp only [Cn.zero, Ag.none']
      have K2 := Lib.hid (K1.out.step b2)
      clear b2 q0
      go_upto_region 8 with fail
      obtain ⟨wx, hwx⟩ : ∃ wx, w2.alloc (.cells #[.int .u64 0, .bool false, .int .i64 0, .int .i64 0, .int .i64 0, .int .i64 0] 35) = wx := ⟨_, rfl⟩
      have K3 := K2.out.step (bel_al w2 (.cells #[.int .u64 0, .bool false, .int .i64 0, .int .i64 0, .int .i64 0, .int .i64 0] 35))
      rw [hwx] at K3
      rw [hwx]
      have HX3 := HS.out.below K3.1
      have a0 := HX3.blk.cell 0
      have q0 := K3.top.cell 0
      have q1 := K3.top.cell 1
      have q2 := K3.top.cell 2
      have q3 := K3.top.cell 3
      have q4 := K3.top.cell 4
      have q5 := K3.top.cell 5
      simp only [List.getElem?_toArray, List.getElem?_cons_zero, List.getElem?_cons_succ] at a0 q0 q1 q2 q3 q4 q5
      have H3 := Lib.hid K3
      have hglt : g < wx.heap.size := HX3.blk.lt
      have hrlt : rb < wx.heap.size := K3.top.lt
      clear K3 HX3 hwx hwr
      obtain ⟨w6, hw6⟩ : ∃ w6, (wx.alloc (.cells #[.int .u64 (v.e : Int), .bool v.d, .int .i64 v.a.c, .int .i64 v.a.s, .int .i64 v.a.lo, .int .i64 v.a.hi] 35)).drew = w6 := ⟨_, rfl⟩
      have K6 := H3.out.new #[.int .u64 (v.e : Int), .bool v.d, .int .i64 v.a.c, .int .i64 v.a.s, .int .i64 v.a.lo, .int .i64 v.a.hi] 35
      have K6 : Held w w6 _ := hw6 ▸ (⟨K6.1.drew, K6.2⟩ : Held w (wx.alloc (.cells #[.int .u64 (v.e : Int), .bool v.d, .int .i64 v.a.c, .int .i64 v.a.s, .int .i64 v.a.lo, .int .i64 v.a.hi] 35)).drew _)
      have hsrc : ∀ j u, (verC v)[j]? = some u → w6.cell? ((⟨wx.heap.size, 0, none⟩ : Addr).add j) = some u := by
        rw [← hw6]
        exact ver_new wx 35 v _ rfl
      have C6 := HS.out.below K6.1
      obtain ⟨A7, c7, w7, hrun, hown7, hT7, hloc7⟩ := run_append_off (P := Try.prog) w6 (fun b => ∃ o p, A = some ⟨b, o, p⟩) 22 22 35 i0 _ 6 Try.underlying22 HI.out.1 HI.out.2.1 HI.out.2.2.1 rfl (by decide) (by rw [HI.out.2.2.2]; decide) A n c (vrL l) C6.row.loc (by omega) ⟨wx.heap.size, 0, none⟩ 1 1 (verC v) rfl hsrc (by intro u hu; exact vrL_one [v] u (by simpa [vrL] using hu)) (by decide) (by decide)
      have a6 := C6.blk.cell 0
      simp only [List.getElem?_toArray, List.getElem?_cons_zero] at a6
      have hnb := C6.row.not_blk C6.blk (by decide)
      have B7 := hT7.blk C6.blk hnb
      have z0 := B7.cell 0
      have f0 := B7.frozen 0
      simp only [List.getElem?_toArray, List.getElem?_cons_zero] at z0
      have B8 := B7.set_ 0 (.slice A7 (n + 1) c7)
      have T8 := ((Turns.of_below (F := fun b => b = g ∨ ∃ o p, A = some ⟨b, o, p⟩) K6.1).then (hT7.mono (G := fun b => b = g ∨ ∃ o p, A = some ⟨b, o, p⟩) (fun b _ hb => .inr hb)) (fun _ _ hb => hb)).setCell (g := g) 0 (.slice A7 (n + 1) c7) (fun _ => .inl rfl)
      have R8 := hown7.far B7 (by decide) ((Turns.refl (fun b => b = g) w7).setCell (g := g) 0 (.slice A7 (n + 1) c7) (fun _ => rfl))
      have H8 := Lib.hid (And.intro B8 (And.intro T8 (And.intro R8 (And.intro K6.1.size C6.spl))))
      have HRUN := Lib.hid hrun
      have HFIN : Hid (∃ A' c' sp', ChAt (w7.setCell ⟨g, 0, none⟩ (.slice A7 (n + 1) c7)) g A' (l ++ [v]).length c' sp' (l ++ [v]) ∧ (∀ b o p, A' = some ⟨b, o, p⟩ → (∃ o2 p2, A = some ⟨b, o2, p2⟩) ∨ w.heap.size ≤ b) ∧ Turns (fun b => b = g ∨ ∃ o p, A = some ⟨b, o, p⟩) w (w7.setCell ⟨g, 0, none⟩ (.slice A7 (n + 1) c7))) := Lib.hid (by
        have hlen : (l ++ [v]).length = n + 1 := by rw [List.length_append, HS.out.len]; rfl
        refine ⟨A7, c7, sp, ⟨?_, ?_, rfl, ?_, HX.out.2⟩, fun b o p e => ?_, H8.out.2.1⟩
        · rw [hlen]
          exact H8.out.1
        · rw [hlen, show vrL (l ++ [v]) = vrL l ++ verC v by simp [vrL]]
          exact H8.out.2.2.1.mono (fun _ _ _ => trivial)
        · rw [hlen]
          have := H8.out.2.2.2.2
          omega
        · rcases H8.out.2.2.1 with ⟨h1, -⟩ | ⟨g', o', cur, h1, h2, -⟩
          · rw [h1] at e
            cases e
          · rw [h1] at e
            injection e with e
            injection e with e1 e2 e3
            subst e1
            rcases h2 with h2 | h2
            · exact .inl h2
            · exact .inr (Nat.le_trans H8.out.2.2.2.1 h2))
      clear hrun hown7 hT7 hloc7 B7 B8 T8 R8 K6 C6 hsrc hnb H8
      go_region_law (refine step_append_eq rfl (.tmp 28) (.tmp 30) 22 rfl (v := .slice A n c) (xv := .slice (some ⟨wx.heap.size, 0, none⟩) 1 1) (v' := .slice A7 (n + 1) c7) (w' := w7) (by simp [Act.eval]) (by simp [Act.eval]) HRUN.out ?_)
      all_goals
        go_wp2_with fail
        go_ret
        exact ⟨rfl, HFIN.out⟩
    · have hnx : Cn.next l x = (Cn.ix l (Cn.upto l x), true) := by unfold Cn.next; rw [if_neg hup]
      rw [if_neg hup] at hadd
      rw [hadd]
      have HX := Lib.hid hnx
      clear h1 hadd hup hnx
      go_enter Try.func31, Try.ntmps31
      go_wp2_with fail
      refine HR.out.mono ?_
      rintro e w1 ⟨rfl, b1⟩
      have K1 := Lib.hid (HK.out.1.step ((bel_al _ _).trans (b1.mono (bel_al _ _).size)))
      have q0 := K1.out.top.cell 0
      simp only [List.getElem?_toArray, List.getElem?_cons_zero] at q0
      clear b1 q1 q2 q3 q4 q5 hw0 hrb
      go_wp2_with fail
      refine (next_any w1 g n c sp x A l (HS.out.below K1.out.1) (by omega)).mono ?_
      rintro e w2 ⟨rfl, b2⟩
      rw [HX.out]
      dsimp only
      have K2 := Lib.hid (K1.out.step b2)
      clear b2 q0
      go_wp2_with fail
      go_ret
      have e1 := HS.out.len
      have B2 := K2.out.1.alloc K2.out.1.size (.cells #[.int .u64 ((Cn.ix l (Cn.upto l x)).e : Int), .bool (Cn.ix l (Cn.upto l x)).d, .int .i64 (Cn.ix l (Cn.upto l x)).a.c, .int .i64 (Cn.ix l (Cn.upto l x)).a.s, .int .i64 (Cn.ix l (Cn.upto l x)).a.lo, .int .i64 (Cn.ix l (Cn.upto l x)).a.hi] 35)
      exact ⟨rfl, A, c, sp, by rw [e1]; exact HS.out.below B2, fun b o p e => .inl ⟨o, p, e⟩, Turns.of_below B2⟩
set_option maxRecDepth 100000 in
theorem add_nil (w : World) (v : Cn.Ver) : Calls Try.prog 31 #[.pointer none, .agg #[.int .u64 (v.e : Int), .bool v.d, .int .i64 v.a.c, .int .i64 v.a.s, .int .i64 v.a.lo, .int .i64 v.a.hi]] w (IntP w 1) := by
  have HB := Lib.hid (bel_al w (.cells #[.int .u64 (v.e : Int), .bool v.d, .int .i64 v.a.c, .int .i64 v.a.s, .int .i64 v.a.lo, .int .i64 v.a.hi] 35))
  go_enter Try.func31, Try.ntmps31
  go_wp2_with fail
  go_ret
  exact ⟨rfl, HB.out⟩
end Go.Proofs.Yteegnehfagkjcaa
