/- ReplyKnown: the examples of the chapter; replies of each kind, with each part another one; their bytes, cut anywhere, and with each byte another one; as many rows as may be, and one more: all is as the document says. A closed statement: no condition. -/
import Derived.Test.YtognlgklepgemaaGreatM8C
import Derived.Laws.MakeOwn
import Derived.Deep.DeepCutAuto
import Derived.Test.YtognlgklepgemaaGreatOpenA
namespace Go.Proofs.YtognlgklepgemaaGreat
open Go.ChangeShapes Go.WideShapes Go.ChangeAt Go.RowKit

theorem append_lies_g {P : Program} {w : World} {ops : Array Oper} {rest : List Oper} {o : Oper} {a : Act} {Q : Exit → Act → World → Prop} (hgd : Region.wanted o (yielded ops a.tmps) = true) (s x : Operand) (t : TypeId)
    (ho : o.op = .call { callee := .builtin .append, args := #[s, x], argTypes := #[t, t] })
    (base : Nat) (e : TypeId) (i : TypeInfo) (z : Value) (size bytes : Nat) (ht : P.underlying t = some (.slice e)) (hi : P.info? e = some i) (hz : i.zero = some z)
    (hsize : i.size = size) (hby : i.bytes = bytes) (hzs : z.cells.size = size) (hsz : 0 < size)
    (v : Value) (n : Nat) (xs : List Value) (hs : a.eval s = v) (hown : w.ownsRow base e size v n xs)
    (ad : Addr) (m c : Nat) (news : List Value) (hx : a.eval x = .slice (some ad) m c) (hl : news.length = m * size) (hnews : ∀ j u, news[j]? = some u → w.cell? (ad.add j) = some u) (h1 : ∀ u ∈ news, u.oneCell' = true)
    (hm : 0 < m) (h63 : n + m ≤ maxLen) (hbytes : (n + m) * bytes ≤ 140737488355328) (hbase : base ≤ w.heap.size) (H : Nat) (hH : w.heap.size = H)
    (h : ∀ g cap w', w'.ownsRow base e size (.slice (some ⟨g, 0, none⟩) (n + m) cap) (n + m) (xs ++ news) → w.grownBy w' v.ownBlock → (v.ownBlock = some g ∨ g = H) → g < w'.heap.size → wpList P ops Q rest (a.put o.dst (.slice (some ⟨g, 0, none⟩) (n + m) cap)) w') : wpList P ops Q (o :: rest) a w :=
  wpList_step fun K hK => by
    rw [if_pos hgd]
    exact wp_append_lies w s x t ho base e i z size bytes ht hi hz hsize hby hzs hsz v n xs hs hown ad m c news hx hl hnews h1 hm h63 hbytes hbase H hH fun g cap w' h2 h3 h4 h5 => hK _ _ (h g cap w' h2 h3 h4 h5)
theorem own_some8k {w : World} {base n c : Nat} {e : TypeId} {A : Option Addr} {xs : List Value} (h : w.ownsRow base e 1 (.slice A n c) n xs) (h0 : 0 < n) : ∃ g, A = some ⟨g, 0, none⟩ ∧ base ≤ g := by
  obtain ⟨g, cap, hv, hc, hlt⟩ := h.form h0
  have hl := (h.lt g (by rw [hv]; rfl)).1
  injection hv with hv
  subst hv
  exact ⟨g, rfl, hl⟩
theorem u8s_put8 (l : List Nat) (j x : Nat) : (u8s l).set j (.int .u8 (x : Int)) = u8s (l.set j x) := by simp [u8s, List.map_set]
theorem back_nil8 (x : Rp.V) (rows : List Rw) (gone : List Pn) (W : World) (hx : x.In W W.heap.size rows gone) (hf : FineRep x rows gone) : Calls Tryz.prog 7 #[x.val, .slice none 0 0] W (LawP W) :=
  replyBack_any x rows gone 0 0 none [] W hx hf.1 hf.2.1 hf.2.2.1 Bytes.nil (by omega)
theorem back_zero8 (N C : Nat) (Q : Option Addr) (l : List Nat) (W : World) (hq : Bytes W W.heap.size Q N l) (hN : N ≤ 9223372036854775807) : Calls Tryz.prog 7 #[.agg #[.int .u8 0, .int .u32 0, .int .u16 0, .bool false, .int .u64 0, .int .u64 0, .int .u64 0, .int .u64 0, .int .u64 0, .int .u64 0, .slice none 0 0, .slice none 0 0], .slice Q N C] W (LawP W) :=
  replyBack_any ⟨0, 0, 0, false, 0, 0, 0, 0, 0, 0, none, 0, 0, none, 0, 0⟩ [] [] N C Q l W ⟨RowsIn.nil, PansIn.nil⟩ (by unfold Rp.V.ok; decide) (by simp) (by simp) hq hN
theorem Held.three_at8 {w W : World} {l : List (Nat × TypeId × Array Value)} {g T : Nat} {cs : Array Value} (h : Held w W ((g, T, cs) :: l)) (hg : w.heap.size ≤ g) (hl : ∀ x ∈ l, x.1 ≠ g) (o : Nat) (x' y' z' : Value) : Held w (((W.setCell ⟨g, o, none⟩ x').setCell ⟨g, o + 1, none⟩ y').setCell ⟨g, o + 2, none⟩ z') ((g, T, ((cs.setIfInBounds o x').setIfInBounds (o + 1) y').setIfInBounds (o + 2) z') :: l) :=
  ((h.put8 hg hl o x').put8 hg hl (o + 1) y').put8 hg hl (o + 2) z'
theorem blk_at8 {W : World} {g : Nat} {T : TypeId} {cs : Array Value} (h : Blk W g T cs) (l : List Value) (hl : cs = l.toArray) : ∀ j u, l[j]? = some u → W.cell? ((⟨g, 0, none⟩ : Addr).add j) = some u := by
  intro j u h'
  rw [add_at, Nat.zero_add, h.cell, hl]
  simpa using h'
theorem two_ab8 (w : World) (a b : Array Value) (ta tb : TypeId) : Held w ((w.alloc (.cells a ta)).alloc (.cells b tb)).drew [(w.heap.size, ta, a), (w.heap.size + 1, tb, b)] := by
  have h := (((Held.start w).new a ta).new b tb).step (Below.refl _ _).drew
  rw [show (w.alloc (.cells a ta)).heap.size = w.heap.size + 1 by simp] at h
  exact h.sub8 (by intro x hx; simp only [List.mem_cons, List.not_mem_nil, or_false] at hx ⊢; exact hx.symm)
theorem two_ba8 (w : World) (a b : Array Value) (ta tb : TypeId) : Held w ((w.alloc (.cells b tb)).alloc (.cells a ta)).drew [(w.heap.size + 1, ta, a), (w.heap.size, tb, b)] := by
  have h := (((Held.start w).new b tb).new a ta).step (Below.refl _ _).drew
  rw [show (w.alloc (.cells b tb)).heap.size = w.heap.size + 1 by simp] at h
  exact h
theorem rowL_one8 (q : Rw) : ∀ u ∈ rowL q, u.oneCell' = true := by
  intro u hu
  simp only [rowL, List.mem_cons, List.not_mem_nil, or_false] at hu
  rcases hu with rfl | rfl | rfl | rfl | rfl | rfl | rfl <;> rfl
theorem RowsIn.head8 {w : World} {B n : Nat} {A : Option Addr} {l : List Rw} (h : RowsIn w B A n l) {i : Nat} (hi : i ≤ n) : RowsIn w B A i (l.take i) := by
  refine ⟨by rw [List.length_take, h.1]; omega, fun h0 => ?_⟩
  obtain ⟨b, off, rfl, hb, hcl⟩ := h.2 (by omega)
  refine ⟨b, off, rfl, hb, fun k hk j hj => ?_⟩
  rw [hcl k (by omega) j hj]
  congr 2
  rw [List.getD_eq_getElem?_getD, List.getD_eq_getElem?_getD, List.getElem?_take_of_lt hk]
set_option maxRecDepth 100000 in
set_option maxHeartbeats 40000000 in
theorem replyKnown_any (w : World) : Calls Tryz.prog 3 #[] w (LawP w) := by
  obtain ⟨iu, hi, hz0, hz1, hz2⟩ := info_parts Tryz.info5
  have HI := Lib.hid (And.intro hi (And.intro hz0 (And.intro hz1 hz2)))
  clear hi hz0 hz1 hz2
  go_enter Tryz.func3, Tryz.ntmps3
  go_wp2_with fail
  go_loopw [1] (fun kv wr => ∃ k : Nat, k ≤ 10 ∧ kv = .int .u8 (k : Int) ∧ Below w.heap.size w wr) (fun kv _ => 10 - (intOf kv).toNat)
  case atStart => exact ⟨0, by omega, rfl, Below.refl _ _⟩
  case round =>
    obtain ⟨k, hk, rfl, hx⟩ := hrel
    have HX := Lib.hid hx
    clear hx
    by_cases hk10 : k < 10
    · have i1 : (k : Int) < 10 := by omega
      go_wp2_with fail
      refine (example8_any k _ (by omega)).mono ?_
      rintro e w1 ⟨x, rows, gone, rfl, hin, hf, b1⟩
      have H1 := Lib.hid (below_next HX.out b1)
      have HIN : Hid (∀ W, Below w1.heap.size w1 W → x.In W W.heap.size rows gone) := Lib.hid fun W hW => ⟨(hin.1.below hW (Nat.le_refl _)).more hW.size, (hin.2.below hW (Nat.le_refl _)).more hW.size⟩
      have FX := Lib.hid hf
      have CO : Hid (∀ (W : World) (i : Nat), Below w1.heap.size w1 W → i < 14 → Calls Tryz.prog 6 #[x.val, .int .i64 (i : Int)] W (FineP W)) := Lib.hid fun W i hW hi => odd8_any i hi x rows gone W (HIN.out W hW) FX.out
      have CP : Hid (∀ (W : World) (x1 : Rp.V) (rows1 : List Rw) (gone1 : List Pn), Below w1.heap.size w1 W → x1.In W W.heap.size rows1 gone1 → FineRep x1 rows1 gone1 → Calls Tryz.prog 5 #[x1.val, x.val] W (LawP W)) := Lib.hid fun W x1 rows1 gone1 hW h1 f1 => replyPuts_any x1 x rows1 rows gone1 gone W h1 (HIN.out W hW) f1.1 FX.out.1
      have CQ : Hid (∀ (W : World) (x1 : Rp.V) (rows1 : List Rw) (gone1 : List Pn), Below w1.heap.size w1 W → x1.In W W.heap.size rows1 gone1 → FineRep x1 rows1 gone1 → Calls Tryz.prog 5 #[x.val, x1.val] W (LawP W)) := Lib.hid fun W x1 rows1 gone1 hW h1 f1 => replyPuts_any x x1 rows rows1 gone gone1 W (HIN.out W hW) h1 FX.out.1 f1.1
      have CB : Hid (∀ (W : World) (A' : Option Addr) (m c' : Nat) (l : List Nat), Below w1.heap.size w1 W → Bytes W W.heap.size A' m l → m ≤ 9223372036854775807 → Calls Tryz.prog 7 #[x.val, .slice A' m c'] W (LawP W)) := Lib.hid fun W A' m c' l hW hb hm => replyBack_any x rows gone m c' A' l W (HIN.out W hW) FX.out.1 FX.out.2.1 FX.out.2.2.1 hb hm
      have hpl := Rp.putB_len x rows gone hin.1.1 hin.2.1
      have hplt := Rp.putB_lt x rows gone hf.1.1
      obtain ⟨pb, hpb⟩ : ∃ p, Rp.putB x rows gone = p := ⟨_, rfl⟩
      obtain ⟨pe, hpe⟩ : ∃ p, Rp.putE x rows gone = p := ⟨_, rfl⟩
      obtain ⟨m, hm⟩ : ∃ m, pb.length = m := ⟨_, rfl⟩
      rw [hpb] at hpl hplt
      rw [hm] at hpl
      have CD : Hid (∀ W, Below w1.heap.size w1 W → Calls Tryz.prog 9 #[x.val] W fun e w' => ∃ r, e = .returned r ∧ Below W.heap.size W w' ∧ ∀ W2, Below w'.heap.size w' W2 → Calls Tryz.prog 8 #[r] W2 fun e w' => ∃ A' c', e = .returned (.tuple #[.slice A' m c', .int .i64 pe]) ∧ w'.ownsRow W2.heap.size 5 1 (.slice A' m c') m (u8s pb) ∧ Below W2.heap.size W2 w') := Lib.hid fun W hW => by
        refine (docRep_any x rows gone W.heap.size W (HIN.out W hW) (Nat.le_refl _) (by have := FX.out.2.2.2.1; omega) (by have := FX.out.2.2.2.2; omega)).mono ?_
        rintro e v ⟨A, c, G, d, rfl, hi2, b⟩
        refine ⟨_, rfl, b, fun W2 hW2 => ?_⟩
        have h := refPut8_any (x.at_ A c G d) rows gone v.heap.size W2 ⟨hi2.1.below hW2 (Nat.le_refl _), hi2.2.below hW2 (Nat.le_refl _)⟩ hW2.size FX.out.1 (by have := FX.out.2.2.2.1; show x.n ≤ 1000; omega) (by have := FX.out.2.2.2.2; show x.m ≤ 1000; omega)
        unfold PutR at h
        rw [Rp.putB_at, Rp.putE_at, hpb, hpe, hm] at h
        exact h
      have HPL := Lib.hid (And.intro hpl (And.intro hplt hm))
      clear hpb hpe hm hpl hplt hin hf b1
      obtain ⟨xv, hxv⟩ : ∃ v, x.val = v := ⟨_, rfl⟩
      rw [hxv] at CO CP CQ CB CD ⊢
      obtain ⟨xk, xid, xco, xla, xep, xfl, xun, xle, xst, xti, XA, xn, xc, XG, xm, xd⟩ := x
      have hxv : xv = .agg #[.int .u8 (xk : Int), .int .u32 (xid : Int), .int .u16 (xco : Int), .bool xla, .int .u64 (xep : Int), .int .u64 (xfl : Int), .int .u64 (xun : Int), .int .u64 (xle : Int), .int .u64 (xst : Int), .int .u64 (xti : Int), .slice XA xn xc, .slice XG xm xd] := hxv.symm
      subst hxv
      have K1 := Blk.new w1 28 #[.int .u8 (xk : Int), .int .u32 (xid : Int), .int .u16 (xco : Int), .bool xla, .int .u64 (xep : Int), .int .u64 (xfl : Int), .int .u64 (xun : Int), .int .u64 (xle : Int), .int .u64 (xst : Int), .int .u64 (xti : Int), .slice XA xn xc, .slice XG xm xd]
      have B1 := (Below.refl w1.heap.size w1).alloc (Nat.le_refl _) (.cells #[.int .u8 (xk : Int), .int .u32 (xid : Int), .int .u16 (xco : Int), .bool xla, .int .u64 (xep : Int), .int .u64 (xfl : Int), .int .u64 (xun : Int), .int .u64 (xle : Int), .int .u64 (xst : Int), .int .u64 (xti : Int), .slice XA xn xc, .slice XG xm xd] 28)
      go_upto_region 5 with (fail)
      obtain ⟨W1, hW⟩ : ∃ W, w1.alloc (.cells #[.int .u8 (xk : Int), .int .u32 (xid : Int), .int .u16 (xco : Int), .bool xla, .int .u64 (xep : Int), .int .u64 (xfl : Int), .int .u64 (xun : Int), .int .u64 (xle : Int), .int .u64 (xst : Int), .int .u64 (xti : Int), .slice XA xn xc, .slice XG xm xd] 28) = W := ⟨_, rfl⟩
      rw [hW] at K1 B1 ⊢
      have hlt1 : w1.heap.size < W1.heap.size := K1.lt
      have PC : Hid (∀ W, Below W1.heap.size W1 W → (fun W => W.cell? ⟨w1.heap.size, 0, none⟩ = some (.int .u8 (xk : Int)) ∧ W.cell? ⟨w1.heap.size, 1, none⟩ = some (.int .u32 (xid : Int)) ∧ W.cell? ⟨w1.heap.size, 2, none⟩ = some (.int .u16 (xco : Int)) ∧ W.cell? ⟨w1.heap.size, 3, none⟩ = some (.bool xla) ∧ W.cell? ⟨w1.heap.size, 4, none⟩ = some (.int .u64 (xep : Int)) ∧ W.cell? ⟨w1.heap.size, 5, none⟩ = some (.int .u64 (xfl : Int)) ∧ W.cell? ⟨w1.heap.size, 6, none⟩ = some (.int .u64 (xun : Int)) ∧ W.cell? ⟨w1.heap.size, 7, none⟩ = some (.int .u64 (xle : Int)) ∧ W.cell? ⟨w1.heap.size, 8, none⟩ = some (.int .u64 (xst : Int)) ∧ W.cell? ⟨w1.heap.size, 9, none⟩ = some (.int .u64 (xti : Int)) ∧ W.cell? ⟨w1.heap.size, 10, none⟩ = some (.slice XA xn xc) ∧ W.cell? ⟨w1.heap.size, 11, none⟩ = some (.slice XG xm xd)) W) := Lib.hid fun W hW => by
        have kk := K1.below hW K1.lt
        exact ⟨kk.cell 0, kk.cell 1, kk.cell 2, kk.cell 3, kk.cell 4, kk.cell 5, kk.cell 6, kk.cell 7, kk.cell 8, kk.cell 9, kk.cell 10, kk.cell 11⟩
      have U : Hid (∀ W, Below W1.heap.size W1 W → Below w1.heap.size w1 W) := Lib.hid fun W hW => below_next B1 hW
      clear hW K1
      have B1 := Lib.hid B1
      go_wp2_with fail
      go_loopw [3] (fun i wr => ∃ j : Nat, j ≤ 14 ∧ i = .int .i64 (j : Int) ∧ Below W1.heap.size W1 wr) (fun i _ => 14 - (intOf i).toNat)
      case atStart => exact ⟨0, by omega, rfl, Below.refl _ _⟩
      case round =>
        obtain ⟨j, hj, rfl, hx⟩ := hrel
        have HY := Lib.hid hx
        clear hx
        by_cases hj14 : j < 14
        · have i3 : (j : Int) < 14 := by omega
          go_upto_region 8 with (fail)
          have D0 : Below W1.heap.size W1 wr.drew := HY.out.drew
          go_region_held3 (fun W => W.cell? ⟨w1.heap.size, 0, none⟩ = some (.int .u8 (xk : Int)) ∧ W.cell? ⟨w1.heap.size, 1, none⟩ = some (.int .u32 (xid : Int)) ∧ W.cell? ⟨w1.heap.size, 2, none⟩ = some (.int .u16 (xco : Int)) ∧ W.cell? ⟨w1.heap.size, 3, none⟩ = some (.bool xla) ∧ W.cell? ⟨w1.heap.size, 4, none⟩ = some (.int .u64 (xep : Int)) ∧ W.cell? ⟨w1.heap.size, 5, none⟩ = some (.int .u64 (xfl : Int)) ∧ W.cell? ⟨w1.heap.size, 6, none⟩ = some (.int .u64 (xun : Int)) ∧ W.cell? ⟨w1.heap.size, 7, none⟩ = some (.int .u64 (xle : Int)) ∧ W.cell? ⟨w1.heap.size, 8, none⟩ = some (.int .u64 (xst : Int)) ∧ W.cell? ⟨w1.heap.size, 9, none⟩ = some (.int .u64 (xti : Int)) ∧ W.cell? ⟨w1.heap.size, 10, none⟩ = some (.slice XA xn xc) ∧ W.cell? ⟨w1.heap.size, 11, none⟩ = some (.slice XG xm xd)) (first | with_reducible exact PC.out _ D0 | with_reducible exact PC.out _ D1 | with_reducible exact PC.out _ D2 | with_reducible exact PC.out _ D3 | with_reducible exact PC.out _ D4) (first
            | (go_at_call 7; (with_reducible refine (back_nil8 x2 rows2 gone2 v3 in2 f2).mono ?_); rintro e v4 ⟨rfl, p4⟩; have D4 := below_next D3 p4; clear D3 p4)
            | (go_at_call 6; have _ := D2; (with_reducible refine (CO.out v2 j (U.out _ D2) hj14).mono ?_); rintro e v3 ⟨x2, rows2, gone2, rfl, in2, f2, p3⟩; have D3 := below_next D2 p3; clear D2 p3)
            | (go_at_call 5; (with_reducible refine (CP.out v1 x1 rows1 gone1 (U.out _ D1) in1 f1).mono ?_); rintro e v2 ⟨rfl, p2⟩; have D2 := below_next D1 p2; clear D1 p2)
            | (go_at_call 6; (with_reducible refine (CO.out _ j (U.out _ D0) hj14).mono ?_); rintro e v1 ⟨x1, rows1, gone1, rfl, in1, f1, p1⟩; have D1 := below_next D0 p1; clear D0 p1))
          go_wp2_with fail
          exact ⟨⟨j + 1, by omega, by go_num, D4⟩, by simp [intOf]; omega⟩
        · have i3 : ¬ (j : Int) < 14 := by omega
          obtain ⟨q0, q1, q2, q3, q4, q5, q6, q7, q8, q9, q10, q11⟩ := PC.out _ HY.out
          go_wp2_with fail
          clear q0 q1 q2 q3 q4 q5 q6 q7 q8 q9 q10 q11
          refine (CD.out _ (U.out _ HY.out)).mono ?_
          rintro e v5 ⟨r5, rfl, p5, CR⟩
          have CR := Lib.hid CR
          have H5 := Lib.hid (below_next HY.out p5)
          clear p5
          go_wp2_with fail
          refine (CR.out v5 (Below.refl _ _)).mono ?_
          rintro e v6 ⟨A6, c6, rfl, o6, p6⟩
          have H6 := Lib.hid (below_next H5.out p6)
          have HB : Hid (∀ W, Below v6.heap.size v6 W → Bytes W v6.heap.size A6 m pb ∧ v6.heap.size ≤ W.heap.size ∧ m ≤ c6) := Lib.hid fun W hW => ⟨(Bytes.of_own o6 HPL.out.2.1).below hW (Nat.le_refl _), hW.size, own_cap o6⟩
          clear o6 p6 CR CD
          go_upto_region 11 with (fail)
          have PC6 : Hid (∀ W, Below v6.heap.size v6 W → (fun W => W.cell? ⟨w1.heap.size, 0, none⟩ = some (.int .u8 (xk : Int)) ∧ W.cell? ⟨w1.heap.size, 1, none⟩ = some (.int .u32 (xid : Int)) ∧ W.cell? ⟨w1.heap.size, 2, none⟩ = some (.int .u16 (xco : Int)) ∧ W.cell? ⟨w1.heap.size, 3, none⟩ = some (.bool xla) ∧ W.cell? ⟨w1.heap.size, 4, none⟩ = some (.int .u64 (xep : Int)) ∧ W.cell? ⟨w1.heap.size, 5, none⟩ = some (.int .u64 (xfl : Int)) ∧ W.cell? ⟨w1.heap.size, 6, none⟩ = some (.int .u64 (xun : Int)) ∧ W.cell? ⟨w1.heap.size, 7, none⟩ = some (.int .u64 (xle : Int)) ∧ W.cell? ⟨w1.heap.size, 8, none⟩ = some (.int .u64 (xst : Int)) ∧ W.cell? ⟨w1.heap.size, 9, none⟩ = some (.int .u64 (xti : Int)) ∧ W.cell? ⟨w1.heap.size, 10, none⟩ = some (.slice XA xn xc) ∧ W.cell? ⟨w1.heap.size, 11, none⟩ = some (.slice XG xm xd)) W) := Lib.hid fun W hW => PC.out W (below_next H6.out hW)
          have U6 : Hid (∀ W, Below v6.heap.size v6 W → Below w1.heap.size w1 W) := Lib.hid fun W hW => U.out W (below_next H6.out hW)
          obtain ⟨k1, hk1⟩ : ∃ k1, k + 1 = k1 := ⟨_, rfl⟩
          have i4 : IntKind.u8.wrap ((k : Int) + 1) = (k1 : Int) := by rw [IntKind.wrap_u8]; omega
          have i5 : ((k : Int) + 1) % 256 = (k1 : Int) := by omega
          have hm5 : m ≤ 5300 := HPL.out.1
          go_cut [64] (fun v wx => v = .bool false ∧ Below v6.heap.size v6 wx)
          case first =>
            have D0 : Below v6.heap.size v6 v6.drew := (Below.refl _ _).drew
            go_region_held3 (fun W => W.cell? ⟨w1.heap.size, 0, none⟩ = some (.int .u8 (xk : Int)) ∧ W.cell? ⟨w1.heap.size, 1, none⟩ = some (.int .u32 (xid : Int)) ∧ W.cell? ⟨w1.heap.size, 2, none⟩ = some (.int .u16 (xco : Int)) ∧ W.cell? ⟨w1.heap.size, 3, none⟩ = some (.bool xla) ∧ W.cell? ⟨w1.heap.size, 4, none⟩ = some (.int .u64 (xep : Int)) ∧ W.cell? ⟨w1.heap.size, 5, none⟩ = some (.int .u64 (xfl : Int)) ∧ W.cell? ⟨w1.heap.size, 6, none⟩ = some (.int .u64 (xun : Int)) ∧ W.cell? ⟨w1.heap.size, 7, none⟩ = some (.int .u64 (xle : Int)) ∧ W.cell? ⟨w1.heap.size, 8, none⟩ = some (.int .u64 (xst : Int)) ∧ W.cell? ⟨w1.heap.size, 9, none⟩ = some (.int .u64 (xti : Int)) ∧ W.cell? ⟨w1.heap.size, 10, none⟩ = some (.slice XA xn xc) ∧ W.cell? ⟨w1.heap.size, 11, none⟩ = some (.slice XG xm xd)) (first | with_reducible exact PC6.out _ D0 | with_reducible exact PC6.out _ D1 | with_reducible exact PC6.out _ D2 | with_reducible exact PC6.out _ D3 | with_reducible exact PC6.out _ D3a | with_reducible exact PC6.out _ D4 | with_reducible exact PC6.out _ D4a | with_reducible exact PC6.out _ F4 | with_reducible exact PC6.out _ D9) (first
              | (go_at_call 10; (with_reducible refine (replyReads_any (m + 1) cap4 _ _ (pb ++ [0]) _ H4.out.2 (Nat.le_refl _)).mono ?_); rintro e v12 ⟨rfl, p6⟩; have D9 := below_next F4 p6; clear F4 p6)
              | (have _ := OA; (refine step_append_here (by first | rfl | simp [Region.wanted, yielded]) (.tmp 59) (.tmp 60) 33 rfl v6.heap.size 5 iu (.int .u8 0) 1 1 Tryz.underlying33 HI.out.1 HI.out.2.1 HI.out.2.2.1 HI.out.2.2.2 rfl (by decide) _ m (u8s pb) rfl OA.out ⟨v10.heap.size, 0, none⟩ 1 1 [.int .u8 0] rfl rfl LOA.out (by simp [Value.oneCell']) (by omega) (by unfold maxLen; omega) (by omega) D4a.size _ rfl ?_); intro g4 cap4 v11 ho4 hg4 _ _; have F4 := D4a.grown hg4 D4a.size (fun k hk => (OA.out.lt k hk).1); have H4 := Lib.hid (And.intro (own_cap ho4) (Bytes.of_own (show v11.ownsRow v6.heap.size 5 1 (.slice (some ⟨g4, 0, none⟩) (m + 1) cap4) (m + 1) (u8s (pb ++ [0])) from u8s_append pb [0] ▸ ho4) (fun x hx => (List.mem_append.1 hx).elim (HPL.out.2.1 x) (fun h => by rw [List.mem_singleton.1 h]; omega)))); clear ho4 hg4)
              | (have _ := OB; (refine step_append_here (by first | rfl | simp [Region.wanted, yielded]) (.tmp 59) (.tmp 60) 33 rfl v6.heap.size 5 iu (.int .u8 0) 1 1 Tryz.underlying33 HI.out.1 HI.out.2.1 HI.out.2.2.1 HI.out.2.2.2 rfl (by decide) _ m (u8s pb) rfl OB.out ⟨v9.heap.size, 0, none⟩ 1 1 [.int .u8 0] rfl rfl LOB.out (by simp [Value.oneCell']) (by omega) (by unfold maxLen; omega) (by omega) D4.size _ rfl ?_); intro g4 cap4 v11 ho4 hg4 _ _; have F4 := D4.grown hg4 D4.size (fun k hk => (OB.out.lt k hk).1); have H4 := Lib.hid (And.intro (own_cap ho4) (Bytes.of_own (show v11.ownsRow v6.heap.size 5 1 (.slice (some ⟨g4, 0, none⟩) (m + 1) cap4) (m + 1) (u8s (pb ++ [0])) from u8s_append pb [0] ▸ ho4) (fun x hx => (List.mem_append.1 hx).elim (HPL.out.2.1 x) (fun h => by rw [List.mem_singleton.1 h]; omega)))); clear ho4 hg4)
              | (go_at_call 11; (with_reducible refine (own_any m c6 _ A6 pb v9 (HB.out _ D3).1 (by omega)).mono ?_); rintro e v10 ⟨A7, c7, rfl, o7, p4⟩; have D4 := below_next D3 p4; have D4a := D4.alloc D4.size (.cells #[.int .u8 0] 5); have OA := Lib.hid (own_lower (own_below o7 ((Below.refl _ _).alloc (Nat.le_refl _) (.cells #[.int .u8 0] 5))) D3.size); have LOA := Lib.hid (one_cell v10 5 (.int .u8 0)); clear o7 p4 D3 D3a)
              | (go_at_call 11; (with_reducible refine (own_any m c6 _ A6 pb (v9.alloc (.cells #[.int .u8 0] 5)) (HB.out _ D3a).1 (by omega)).mono ?_); rintro e v10 ⟨A7, c7, rfl, o7, p4⟩; have D4 := below_next D3a p4; have OB := Lib.hid (own_lower o7 D3a.size); have LOB : Hid (∀ j u, ([.int .u8 0] : List Value)[j]? = some u → v10.cell? ((⟨v9.heap.size, 0, none⟩ : Addr).add j) = some u) := Lib.hid fun j u h => (p4.cell (p := (⟨v9.heap.size, 0, none⟩ : Addr).add j) (by rw [add_at]; simp)).trans (one_cell v9 5 (.int .u8 0) j u h); clear o7 p4 D3 D3a)
              | (go_at_call 7; (with_reducible refine (CB.out v8 A6 m c6 pb (U6.out _ D2) ((HB.out _ D2).1.more (HB.out _ D2).2.1) (by omega)).mono ?_); rintro e v9 ⟨rfl, p3⟩; have D3 := below_next D2 p3; have D3a := D3.alloc D3.size (.cells #[.int .u8 0] 5); clear D2 p3)
              | (go_at_call 5; (with_reducible refine (CQ.out v7 y rows1 gone1 (U6.out _ D1) in1 f1).mono ?_); rintro e v8 ⟨rfl, p2⟩; have D2 := below_next D1 p2; clear D1 p2)
              | (go_at_call 4; (with_reducible refine (example8_any k1 _ (by omega)).mono ?_); rintro e v7 ⟨y, rows1, gone1, rfl, in1, f1, p1⟩; have D1 := below_next D0 p1; clear D0 p1))
            all_goals (go_wp2_with fail)
            all_goals go_meet
            all_goals exact ⟨rfl, D9⟩
          case rest =>
          obtain ⟨rfl, hbx⟩ := hcut
          have HX6 := Lib.hid hbx
          clear hbx CO CP CQ CB PC6 PC
          go_wp2_with fail
          go_loopw [6] (fun i wr => ∃ n : Nat, n ≤ m ∧ i = .int .i64 (n : Int) ∧ Below v6.heap.size v6 wr) (fun i _ => m - (intOf i).toNat)
          case atStart => exact ⟨0, by omega, rfl, HX6.out⟩
          case round =>
            obtain ⟨n, hn, rfl, hx⟩ := hrel
            have HZ := Lib.hid hx
            clear hx
            by_cases hnm : n < m
            · have i6 : (n : Int) < m := by omega
              have i7 : (0 : Int) ≤ n := by omega
              go_wp2_with fail
              refine (own_any m c6 _ A6 pb wr (HB.out wr HZ.out).1 (by omega)).mono ?_
              rintro e v7 ⟨A7, c7, rfl, o7, b7⟩
              obtain ⟨g7, rfl, hg7⟩ := own_some8k o7 (by omega)
              have F3 := Lib.hid (below_next HZ.out b7)
              have o7' := own_lower o7 HZ.out.size
              have hg7w : v6.heap.size ≤ g7 := Nat.le_trans HZ.out.size hg7
              have O7 := Lib.hid o7'
              have hc7 := own_cap o7
              clear o7 o7' b7
              go_upto_region 17 with (fail)
              go_cut [78] (fun _ wx => ∃ K2, (∀ y ∈ K2, y < 256) ∧ K2.length = m ∧ Below v6.heap.size v6 wx ∧ wx.ownsRow v6.heap.size 5 1 (.slice (some ⟨g7, 0, none⟩) m c7) m (u8s K2))
              case first =>
                have hcell : v7.cell? ⟨g7, n, none⟩ = some (.int .u8 ((pb.getD n 0 : Nat) : Int)) := by
                  have := O7.out.cellAt n (by omega)
                  rw [this]
                  exact u8s_at (by rw [HPL.out.2.2]; exact hnm)
                have hfz := O7.out.frozenAt n
                have hyl : pb.getD n 0 < 256 := by
                  rw [List.getD_eq_getElem?_getD, List.getElem?_eq_getElem (by rw [HPL.out.2.2]; exact hnm)]
                  exact HPL.out.2.1 _ (List.getElem_mem _)
                obtain ⟨y, hy⟩ : ∃ y, pb.getD n 0 = y := ⟨_, rfl⟩
                rw [hy] at hcell hyl
                obtain ⟨r8, e8, f8, l8⟩ := tm8 n 8 8 rfl (by omega)
                rcases (by omega : r8 = 0 ∨ r8 = 1 ∨ r8 = 2 ∨ r8 = 3 ∨ r8 = 4 ∨ r8 = 5 ∨ r8 = 6 ∨ r8 = 7) with rfl | rfl | rfl | rfl | rfl | rfl | rfl | rfl
                · have t8 : (n : Int).tmod 8 = 0 := e8
                  have t8' : (n : Int) % 8 = 0 := f8
                  have hxor : bits .xor .u8 (y : Int) 1 = ((y ^^^ 1 : Nat) : Int) := u8_xor_nat y 1 hyl (by decide)
                  have hz8 : y ^^^ 1 < 256 := Nat.xor_lt_two_pow (n := 8) hyl (by decide)
                  obtain ⟨z, hz⟩ : ∃ z, y ^^^ 1 = z := ⟨_, rfl⟩
                  rw [hz] at hxor hz8
                  have hst := O7.out.stored n (.int .u8 (z : Int))
                  rw [u8s_put8] at hst
                  have HST := Lib.hid (And.intro hst.1 (F3.out.setCell (p := ⟨g7, n, none⟩) hg7w (.int .u8 (z : Int))))
                  have HK2 : Hid (∀ q ∈ pb.set n z, q < 256) := Lib.hid (by
                    intro q hq
                    rcases List.mem_or_eq_of_mem_set hq with hq | rfl
                    · exact HPL.out.2.1 q hq
                    · exact hz8)
                  have HL2 : Hid ((pb.set n z).length = m) := Lib.hid (by rw [List.length_set, HPL.out.2.2])
                  clear hst hz hy hyl hz8 e8 f8 l8
                  go_region
                  all_goals (go_wp2_with fail)
                  all_goals go_meet
                  all_goals exact ⟨pb.set n z, HK2.out, HL2.out, HST.out.2.drew, HST.out.1⟩
                · have t8 : (n : Int).tmod 8 = 1 := e8
                  have t8' : (n : Int) % 8 = 1 := f8
                  have hxor : bits .xor .u8 (y : Int) 2 = ((y ^^^ 2 : Nat) : Int) := u8_xor_nat y 2 hyl (by decide)
                  have hz8 : y ^^^ 2 < 256 := Nat.xor_lt_two_pow (n := 8) hyl (by decide)
                  obtain ⟨z, hz⟩ : ∃ z, y ^^^ 2 = z := ⟨_, rfl⟩
                  rw [hz] at hxor hz8
                  have hst := O7.out.stored n (.int .u8 (z : Int))
                  rw [u8s_put8] at hst
                  have HST := Lib.hid (And.intro hst.1 (F3.out.setCell (p := ⟨g7, n, none⟩) hg7w (.int .u8 (z : Int))))
                  have HK2 : Hid (∀ q ∈ pb.set n z, q < 256) := Lib.hid (by
                    intro q hq
                    rcases List.mem_or_eq_of_mem_set hq with hq | rfl
                    · exact HPL.out.2.1 q hq
                    · exact hz8)
                  have HL2 : Hid ((pb.set n z).length = m) := Lib.hid (by rw [List.length_set, HPL.out.2.2])
                  clear hst hz hy hyl hz8 e8 f8 l8
                  go_region
                  all_goals (go_wp2_with fail)
                  all_goals go_meet
                  all_goals exact ⟨pb.set n z, HK2.out, HL2.out, HST.out.2.drew, HST.out.1⟩
                · have t8 : (n : Int).tmod 8 = 2 := e8
                  have t8' : (n : Int) % 8 = 2 := f8
                  have hxor : bits .xor .u8 (y : Int) 4 = ((y ^^^ 4 : Nat) : Int) := u8_xor_nat y 4 hyl (by decide)
                  have hz8 : y ^^^ 4 < 256 := Nat.xor_lt_two_pow (n := 8) hyl (by decide)
                  obtain ⟨z, hz⟩ : ∃ z, y ^^^ 4 = z := ⟨_, rfl⟩
                  rw [hz] at hxor hz8
                  have hst := O7.out.stored n (.int .u8 (z : Int))
                  rw [u8s_put8] at hst
                  have HST := Lib.hid (And.intro hst.1 (F3.out.setCell (p := ⟨g7, n, none⟩) hg7w (.int .u8 (z : Int))))
                  have HK2 : Hid (∀ q ∈ pb.set n z, q < 256) := Lib.hid (by
                    intro q hq
                    rcases List.mem_or_eq_of_mem_set hq with hq | rfl
                    · exact HPL.out.2.1 q hq
                    · exact hz8)
                  have HL2 : Hid ((pb.set n z).length = m) := Lib.hid (by rw [List.length_set, HPL.out.2.2])
                  clear hst hz hy hyl hz8 e8 f8 l8
                  go_region
                  all_goals (go_wp2_with fail)
                  all_goals go_meet
                  all_goals exact ⟨pb.set n z, HK2.out, HL2.out, HST.out.2.drew, HST.out.1⟩
                · have t8 : (n : Int).tmod 8 = 3 := e8
                  have t8' : (n : Int) % 8 = 3 := f8
                  have hxor : bits .xor .u8 (y : Int) 8 = ((y ^^^ 8 : Nat) : Int) := u8_xor_nat y 8 hyl (by decide)
                  have hz8 : y ^^^ 8 < 256 := Nat.xor_lt_two_pow (n := 8) hyl (by decide)
                  obtain ⟨z, hz⟩ : ∃ z, y ^^^ 8 = z := ⟨_, rfl⟩
                  rw [hz] at hxor hz8
                  have hst := O7.out.stored n (.int .u8 (z : Int))
                  rw [u8s_put8] at hst
                  have HST := Lib.hid (And.intro hst.1 (F3.out.setCell (p := ⟨g7, n, none⟩) hg7w (.int .u8 (z : Int))))
                  have HK2 : Hid (∀ q ∈ pb.set n z, q < 256) := Lib.hid (by
                    intro q hq
                    rcases List.mem_or_eq_of_mem_set hq with hq | rfl
                    · exact HPL.out.2.1 q hq
                    · exact hz8)
                  have HL2 : Hid ((pb.set n z).length = m) := Lib.hid (by rw [List.length_set, HPL.out.2.2])
                  clear hst hz hy hyl hz8 e8 f8 l8
                  go_region
                  all_goals (go_wp2_with fail)
                  all_goals go_meet
                  all_goals exact ⟨pb.set n z, HK2.out, HL2.out, HST.out.2.drew, HST.out.1⟩
                · have t8 : (n : Int).tmod 8 = 4 := e8
                  have t8' : (n : Int) % 8 = 4 := f8
                  have hxor : bits .xor .u8 (y : Int) 16 = ((y ^^^ 16 : Nat) : Int) := u8_xor_nat y 16 hyl (by decide)
                  have hz8 : y ^^^ 16 < 256 := Nat.xor_lt_two_pow (n := 8) hyl (by decide)
                  obtain ⟨z, hz⟩ : ∃ z, y ^^^ 16 = z := ⟨_, rfl⟩
                  rw [hz] at hxor hz8
                  have hst := O7.out.stored n (.int .u8 (z : Int))
                  rw [u8s_put8] at hst
                  have HST := Lib.hid (And.intro hst.1 (F3.out.setCell (p := ⟨g7, n, none⟩) hg7w (.int .u8 (z : Int))))
                  have HK2 : Hid (∀ q ∈ pb.set n z, q < 256) := Lib.hid (by
                    intro q hq
                    rcases List.mem_or_eq_of_mem_set hq with hq | rfl
                    · exact HPL.out.2.1 q hq
                    · exact hz8)
                  have HL2 : Hid ((pb.set n z).length = m) := Lib.hid (by rw [List.length_set, HPL.out.2.2])
                  clear hst hz hy hyl hz8 e8 f8 l8
                  go_region
                  all_goals (go_wp2_with fail)
                  all_goals go_meet
                  all_goals exact ⟨pb.set n z, HK2.out, HL2.out, HST.out.2.drew, HST.out.1⟩
                · have t8 : (n : Int).tmod 8 = 5 := e8
                  have t8' : (n : Int) % 8 = 5 := f8
                  have hxor : bits .xor .u8 (y : Int) 32 = ((y ^^^ 32 : Nat) : Int) := u8_xor_nat y 32 hyl (by decide)
                  have hz8 : y ^^^ 32 < 256 := Nat.xor_lt_two_pow (n := 8) hyl (by decide)
                  obtain ⟨z, hz⟩ : ∃ z, y ^^^ 32 = z := ⟨_, rfl⟩
                  rw [hz] at hxor hz8
                  have hst := O7.out.stored n (.int .u8 (z : Int))
                  rw [u8s_put8] at hst
                  have HST := Lib.hid (And.intro hst.1 (F3.out.setCell (p := ⟨g7, n, none⟩) hg7w (.int .u8 (z : Int))))
                  have HK2 : Hid (∀ q ∈ pb.set n z, q < 256) := Lib.hid (by
                    intro q hq
                    rcases List.mem_or_eq_of_mem_set hq with hq | rfl
                    · exact HPL.out.2.1 q hq
                    · exact hz8)
                  have HL2 : Hid ((pb.set n z).length = m) := Lib.hid (by rw [List.length_set, HPL.out.2.2])
                  clear hst hz hy hyl hz8 e8 f8 l8
                  go_region
                  all_goals (go_wp2_with fail)
                  all_goals go_meet
                  all_goals exact ⟨pb.set n z, HK2.out, HL2.out, HST.out.2.drew, HST.out.1⟩
                · have t8 : (n : Int).tmod 8 = 6 := e8
                  have t8' : (n : Int) % 8 = 6 := f8
                  have hxor : bits .xor .u8 (y : Int) 64 = ((y ^^^ 64 : Nat) : Int) := u8_xor_nat y 64 hyl (by decide)
                  have hz8 : y ^^^ 64 < 256 := Nat.xor_lt_two_pow (n := 8) hyl (by decide)
                  obtain ⟨z, hz⟩ : ∃ z, y ^^^ 64 = z := ⟨_, rfl⟩
                  rw [hz] at hxor hz8
                  have hst := O7.out.stored n (.int .u8 (z : Int))
                  rw [u8s_put8] at hst
                  have HST := Lib.hid (And.intro hst.1 (F3.out.setCell (p := ⟨g7, n, none⟩) hg7w (.int .u8 (z : Int))))
                  have HK2 : Hid (∀ q ∈ pb.set n z, q < 256) := Lib.hid (by
                    intro q hq
                    rcases List.mem_or_eq_of_mem_set hq with hq | rfl
                    · exact HPL.out.2.1 q hq
                    · exact hz8)
                  have HL2 : Hid ((pb.set n z).length = m) := Lib.hid (by rw [List.length_set, HPL.out.2.2])
                  clear hst hz hy hyl hz8 e8 f8 l8
                  go_region
                  all_goals (go_wp2_with fail)
                  all_goals go_meet
                  all_goals exact ⟨pb.set n z, HK2.out, HL2.out, HST.out.2.drew, HST.out.1⟩
                · have t8 : (n : Int).tmod 8 = 7 := e8
                  have t8' : (n : Int) % 8 = 7 := f8
                  have hxor : bits .xor .u8 (y : Int) 128 = ((y ^^^ 128 : Nat) : Int) := u8_xor_nat y 128 hyl (by decide)
                  have hz8 : y ^^^ 128 < 256 := Nat.xor_lt_two_pow (n := 8) hyl (by decide)
                  obtain ⟨z, hz⟩ : ∃ z, y ^^^ 128 = z := ⟨_, rfl⟩
                  rw [hz] at hxor hz8
                  have hst := O7.out.stored n (.int .u8 (z : Int))
                  rw [u8s_put8] at hst
                  have HST := Lib.hid (And.intro hst.1 (F3.out.setCell (p := ⟨g7, n, none⟩) hg7w (.int .u8 (z : Int))))
                  have HK2 : Hid (∀ q ∈ pb.set n z, q < 256) := Lib.hid (by
                    intro q hq
                    rcases List.mem_or_eq_of_mem_set hq with hq | rfl
                    · exact HPL.out.2.1 q hq
                    · exact hz8)
                  have HL2 : Hid ((pb.set n z).length = m) := Lib.hid (by rw [List.length_set, HPL.out.2.2])
                  clear hst hz hy hyl hz8 e8 f8 l8
                  go_region
                  all_goals (go_wp2_with fail)
                  all_goals go_meet
                  all_goals exact ⟨pb.set n z, HK2.out, HL2.out, HST.out.2.drew, HST.out.1⟩
              case rest =>
              obtain ⟨K2, hk2, hl2, hb2, ho2⟩ := hcut
              have HC := Lib.hid (And.intro hk2 (And.intro hl2 (And.intro hb2 ho2)))
              clear hk2 hl2 hb2 ho2 F3 O7
              have hc6 := (HB.out _ HC.out.2.2.1).2.2
              have hcut := run_cut_h (P := Tryz.prog) 33 5 iu Tryz.underlying33 HI.out.1 A6 m c6 n (by omega)
              go_wp2_with fail
              clear hcut
              refine (replyReads_any n c6 _ A6 (pb.take n) wc ((HB.out _ HC.out.2.2.1).1.head (by omega)) (HB.out _ HC.out.2.2.1).2.1).mono ?_
              rintro e x1 ⟨rfl, p1⟩
              have D1 := Lib.hid (And.intro (below_next HC.out.2.2.1 p1) (own_below HC.out.2.2.2 p1))
              clear p1
              go_wp2_with fail
              refine (replyReads_any m c7 _ _ K2 x1 (Bytes.of_own D1.out.2 HC.out.1) (Nat.le_refl _)).mono ?_
              rintro e x2 ⟨rfl, p2⟩
              have D2 := Lib.hid (And.intro (below_next D1.out.1 p2) (own_below D1.out.2 p2))
              clear p2
              go_wp2_with fail
              refine (back_zero8 m c7 _ K2 x2 (Bytes.of_own D2.out.2 HC.out.1) (by omega)).mono ?_
              rintro e x3 ⟨rfl, p3⟩
              have D3 := Lib.hid (below_next D2.out.1 p3)
              clear p3
              go_wp2_with fail
              exact ⟨⟨n + 1, by omega, by go_num, D3.out⟩, by simp [intOf]; omega⟩
            · have i6 : ¬ (n : Int) < m := by omega
              have HU := Lib.hid (below_next (below_next H1.out (below_next B1.out H6.out)) HZ.out)
              go_wp2_with fail
              exact ⟨⟨k + 1, by omega, by go_num, HU.out⟩, by simp [intOf]; omega⟩
    · have i1 : ¬ (k : Int) < 10 := by omega
      obtain ⟨ir, hr, hy0, hy1, hy2⟩ := info_parts Tryz.info49
      have HR := Lib.hid (And.intro hr (And.intro hy0 (And.intro hy1 hy2)))
      clear hr hy0 hy1 hy2
      go_wp2_with fail
      go_loopw [8, 9] (fun mv i wr => ∃ (j : Nat) (A : Option Addr) (c : Nat) (l : List Rw), j ≤ 64 ∧ i = .int .i64 (j : Int) ∧ mv = .slice A j c ∧ Below w.heap.size w wr ∧ wr.ownsRow w.heap.size 49 7 (.slice A j c) j (rcells l) ∧ l.length = j ∧ (∀ q ∈ l, FineRow q)) (fun _ i _ => 64 - (intOf i).toNat)
      case atStart => exact ⟨0, none, 0, [], by omega, rfl, rfl, HX.out, own_nil _ _ _ _, rfl, by simp⟩
      case round =>
        obtain ⟨j, A, c, l, hj, rfl, rfl, hb, ho, hl, hq⟩ := hrel
        have HM := Lib.hid (And.intro hb (And.intro ho (And.intro hl hq)))
        clear hb ho hl hq
        by_cases hj64 : j < 64
        · have i3 : (j : Int) < 64 := by omega
          go_wp2_with fail
          refine (row8_any j _ hj64).mono ?_
          rintro e w1 ⟨rk, rs, rt, rc, ru, rl, rh, rfl, ro, ra, b1⟩
          have HRO := Lib.hid (And.intro ro ra)
          have K1 := Blk.new w1 49 #[.string rk, .int .i64 rs, .int .i64 rt, .int .i64 rc, .int .i64 ru, .int .i64 rl, .int .i64 rh]
          have B1 := below_next b1 ((Below.refl w1.heap.size w1).alloc (Nat.le_refl _) (.cells #[.string rk, .int .i64 rs, .int .i64 rt, .int .i64 rc, .int .i64 ru, .int .i64 rl, .int .i64 rh] 49))
          clear ro ra
          go_upto_region 25 with (fail)
          obtain ⟨W1, hW⟩ : ∃ W, w1.alloc (.cells #[.string rk, .int .i64 rs, .int .i64 rt, .int .i64 rc, .int .i64 ru, .int .i64 rl, .int .i64 rh] 49) = W := ⟨_, rfl⟩
          rw [hW] at K1 B1 ⊢
          obtain ⟨wA, a1, a2, a4⟩ := make8_all W1 32 32 rfl (by omega)
          have a5 := a4 wA (Below.refl _ _)
          obtain ⟨T, hT⟩ : ∃ z, textOf (List.replicate 32 0) = z := ⟨_, rfl⟩
          rw [hT] at a5
          clear hT a4 hW
          have KA := K1.below a2 K1.lt
          have k0 := KA.cell 0
          have kf := KA.frozen 0
          have BA := below_next B1 a2
          have hg1 : wr.heap.size ≤ w1.heap.size := b1.size
          have HK := Lib.hid (And.intro (KA.set_ 0 (.string T)) (BA.setCell (p := ⟨w1.heap.size, 0, none⟩) hg1 (.string T)))
          clear K1 B1 KA BA b1
          go_upto_region 26 with (fail)
          clear a1 a2 a5 k0 kf
          obtain ⟨W2, hW⟩ : ∃ W, wA.setCell ⟨w1.heap.size, 0, none⟩ (.string T) = W := ⟨_, rfl⟩
          rw [hW] at HK ⊢
          clear hW
          have K2 : Blk W2 w1.heap.size 49 #[.string T, .int .i64 rs, .int .i64 rt, .int .i64 rc, .int .i64 ru, .int .i64 rl, .int .i64 rh] := HK.out.1
          have q0 := K2.cell 0
          have q1 := K2.cell 1
          have q2 := K2.cell 2
          have q3 := K2.cell 3
          have q4 := K2.cell 4
          have q5 := K2.cell 5
          have q6 := K2.cell 6
          have hz3 : W2.heap.size ≤ (W2.alloc (.cells #[.string T, .int .i64 rs, .int .i64 rt, .int .i64 rc, .int .i64 ru, .int .i64 rl, .int .i64 rh] 49)).heap.size := by simp
          have BL := Lib.hid (below_next HK.out.2 ((Below.refl W2.heap.size W2).alloc (Nat.le_refl _) (.cells #[.string T, .int .i64 rs, .int .i64 rt, .int .i64 rc, .int .i64 ru, .int .i64 rl, .int .i64 rh] 49)))
          have OL := Lib.hid (own_below HM.out.2.1 BL.out)
          have NL := Lib.hid (blk_at8 (Blk.new W2 49 #[.string T, .int .i64 rs, .int .i64 rt, .int .i64 rc, .int .i64 ru, .int .i64 rl, .int .i64 rh]) (rowL (⟨⟨T, rs, rt⟩, ⟨rc, ru, rl, rh⟩⟩ : Rw)) rfl)
          have hzw : w.heap.size ≤ (W2.alloc (.cells #[.string T, .int .i64 rs, .int .i64 rt, .int .i64 rc, .int .i64 ru, .int .i64 rl, .int .i64 rh] 49)).heap.size := Nat.le_trans HM.out.1.size BL.out.size
          clear K2
          go_wp2_with (at_builtin; refine append_lies_g ?_ _ _ 25 rfl w.heap.size 49 ir (.agg #[.string ⟨#[]⟩, .int .i64 0, .int .i64 0, .int .i64 0, .int .i64 0, .int .i64 0, .int .i64 0]) 7 64 Tryz.underlying25 HR.out.1 HR.out.2.1 HR.out.2.2.1 HR.out.2.2.2 rfl (by decide) _ j (rcells l) rfl OL.out ⟨W2.heap.size, 0, none⟩ 1 1 (rowL (⟨⟨T, rs, rt⟩, ⟨rc, ru, rl, rh⟩⟩ : Rw)) rfl rfl NL.out (rowL_one8 _) (by omega) (by unfold maxLen; omega) (by omega) hzw _ rfl ?_; (first | rfl | decide | simp [Region.wanted, yielded] | skip); intro g20 cap20 w20 hown hgrow _ _; have B20 := Lib.hid ((below_next HM.out.1 BL.out).grown hgrow hzw (fun k hk => (OL.out.lt k hk).1)); have O20 : Hid (w20.ownsRow w.heap.size 49 7 (.slice (some ⟨g20, 0, none⟩) (j + 1) cap20) (j + 1) (rcells (l ++ [(⟨⟨T, rs, rt⟩, ⟨rc, ru, rl, rh⟩⟩ : Rw)]))) := Lib.hid (by rw [show rcells (l ++ [(⟨⟨T, rs, rt⟩, ⟨rc, ru, rl, rh⟩⟩ : Rw)]) = rcells l ++ rowL (⟨⟨T, rs, rt⟩, ⟨rc, ru, rl, rh⟩⟩ : Rw) by simp [rcells]]; exact hown); clear hown hgrow)
          exact ⟨⟨j + 1, _, _, _, by omega, by go_num, rfl, B20.out, O20.out, by rw [List.length_append, HM.out.2.2.1]; rfl, fun q hq => (List.mem_append.1 hq).elim (HM.out.2.2.2 q) (fun h => by rw [List.mem_singleton.1 h]; exact HRO.out)⟩, by simp [intOf]; omega⟩
        · have i3 : ¬ (j : Int) < 64 := by omega
          obtain rfl : j = 64 := by omega
          have hcap : 64 ≤ c := own_cap HM.out.2.1
          have RI : Hid (∀ W, Below wr.heap.size wr W → RowsIn W W.heap.size A 64 l) := Lib.hid fun W hW => ((RowsIn.of_own HM.out.2.1).below hW (Nat.le_refl _)).more hW.size
          have hc60 : ∀ W, (Instr.sliceAt 25 (.slice A 64 c) none (some (.int .i64 60)) none).run Tryz.prog W = .ok (.slice A 60 c) W := run_cut_h (P := Tryz.prog) 25 49 ir Tryz.underlying25 HR.out.1 A 64 c 60 (by omega)
          have hc61 : Hid (∀ W, (Instr.sliceAt 25 (.slice A 64 c) none (some (.int .i64 61)) none).run Tryz.prog W = .ok (.slice A 61 c) W) := Lib.hid (run_cut_h (P := Tryz.prog) 25 49 ir Tryz.underlying25 HR.out.1 A 64 c 61 (by omega))
          go_upto_region 27 with (fail)
          go_cut [11] (fun p wx => ∃ g gp, p = .pointer (some ⟨g, 0, none⟩) ∧ Held wr wx [(g, 28, #[.int .u8 4, .int .u32 0, .int .u16 0, .bool false, .int .u64 0, .int .u64 0, .int .u64 0, .int .u64 0, .int .u64 0, .int .u64 0, .slice A 60 c, .slice (some ⟨gp, 0, none⟩) 4 4]), (gp, 45, #[.string ⟨#[]⟩, .int .i64 0, .int .i64 0, .string ⟨#[]⟩, .int .i64 0, .int .i64 0, .string ⟨#[]⟩, .int .i64 0, .int .i64 0, .string ⟨#[]⟩, .int .i64 0, .int .i64 0])] ∧ wr.heap.size ≤ g ∧ wr.heap.size ≤ gp ∧ g ≠ gp)
          case first =>
            have m1 := make8_pans wr.drew 4 4 rfl (by omega) #[.string ⟨#[]⟩, .int .i64 0, .int .i64 0, .string ⟨#[]⟩, .int .i64 0, .int .i64 0, .string ⟨#[]⟩, .int .i64 0, .int .i64 0, .string ⟨#[]⟩, .int .i64 0, .int .i64 0] (by kernel_rfl)
            have m2 := make8_pans (wr.alloc (.cells #[.int .u8 0, .int .u32 0, .int .u16 0, .bool false, .int .u64 0, .int .u64 0, .int .u64 0, .int .u64 0, .int .u64 0, .int .u64 0, .slice none 0 0, .slice none 0 0] 28)).drew 4 4 rfl (by omega) #[.string ⟨#[]⟩, .int .i64 0, .int .i64 0, .string ⟨#[]⟩, .int .i64 0, .int .i64 0, .string ⟨#[]⟩, .int .i64 0, .int .i64 0, .string ⟨#[]⟩, .int .i64 0, .int .i64 0] (by kernel_rfl)
            go_region
            all_goals (go_wp2_with fail)
            all_goals go_meet
            all_goals (first | exact ⟨_, _, rfl, two_ba8 wr _ _ _ _, by omega, by omega, by omega⟩ | exact ⟨_, _, rfl, two_ab8 wr _ _ _ _, by omega, by omega, by omega⟩)
          case rest =>
          obtain ⟨g, gp, rfl, hh, hgg, hgp, hne⟩ := hcut
          have HH0 := Lib.hid hh
          clear hh
          go_wp2_with fail
          go_loopw [12] (fun i wx => ∃ (j : Nat) (p0 p1 p2 p3 : Pn), j ≤ 4 ∧ i = .int .i64 (j : Int) ∧ Held wr wx [(g, 28, #[.int .u8 4, .int .u32 0, .int .u16 0, .bool false, .int .u64 0, .int .u64 0, .int .u64 0, .int .u64 0, .int .u64 0, .int .u64 0, .slice A 60 c, .slice (some ⟨gp, 0, none⟩) 4 4]), (gp, 45, #[.string p0.k, .int .i64 p0.s, .int .i64 p0.e, .string p1.k, .int .i64 p1.s, .int .i64 p1.e, .string p2.k, .int .i64 p2.s, .int .i64 p2.e, .string p3.k, .int .i64 p3.s, .int .i64 p3.e])] ∧ (∀ q ∈ [p0, p1, p2, p3], i64ok q.s ∧ i64ok q.e)) (fun i _ => 4 - (intOf i).toNat)
          case atStart => exact ⟨0, ⟨⟨#[]⟩, 0, 0⟩, ⟨⟨#[]⟩, 0, 0⟩, ⟨⟨#[]⟩, 0, 0⟩, ⟨⟨#[]⟩, 0, 0⟩, by omega, rfl, HH0.out, by intro q hq; simp only [List.mem_cons, List.not_mem_nil, or_false] at hq; rcases hq with rfl | rfl | rfl | rfl <;> exact ⟨(by unfold i64ok; decide : i64ok 0), (by unfold i64ok; decide : i64ok 0)⟩⟩
          case round =>
            obtain ⟨j, p0, p1, p2, p3, hj, rfl, hh, hfp⟩ := hrel
            have HFP := Lib.hid hfp
            clear hfp
            by_cases hj4 : j < 4
            · have i4 : (j : Int) < 4 := by omega
              have kg := hh.2 _ (List.mem_cons_self ..)
              have kk := hh.2 _ (List.mem_cons_of_mem _ (List.mem_cons_self ..))
              have g11 := kg.cell 11
              clear kg
              go_upto_region 31 with (fail)
              rcases (by omega : j = 0 ∨ j = 1 ∨ j = 2 ∨ j = 3) with rfl | rfl | rfl | rfl
              · have c0 := kk.cell 0
                have c1 := kk.cell 1
                have c2 := kk.cell 2
                have cf := fun o => kk.frozen o
                obtain ⟨b, off, rfl, hbb, hcl⟩ := ((RI.out _ hh.1).at_ (i := 0) (by omega))
                obtain ⟨r0, r1, r2, -⟩ := hcl _ rfl
                obtain ⟨r, hr⟩ : ∃ r, l.getD 0 default = r := ⟨_, rfl⟩
                rw [hr] at r0 r1 r2
                simp at r0 r1 r2
                have HRR : Hid (i64ok r.p.s ∧ i64ok r.p.e) := Lib.hid (by
                  rw [← hr, List.getD_eq_getElem?_getD, List.getElem?_eq_getElem (by rw [HM.out.2.2.1]; omega)]
                  exact (HM.out.2.2.2 _ (List.getElem_mem _)).1)
                clear hr hcl
                have HN := Lib.hid ((hh.swap8).three_at8 hgp (by intro x hx; obtain rfl := List.mem_singleton.1 hx; exact hne) 0 (.string r.p.k) (.int .i64 r.p.s) (.int .i64 r.p.e))
                clear hh kk
                go_region
                all_goals (go_wp2_with fail)
                all_goals (have hn := HN.out; simp only [List.setIfInBounds_toArray, List.set_cons_zero, List.set_cons_succ] at hn)
                all_goals exact ⟨⟨1, r.p, p1, p2, p3, by omega, by go_num, (hn.step (Below.refl _ _).drew).swap8, by have := HFP.out; have := HRR.out; simp_all⟩, by simp [intOf]⟩
              · have c0 := kk.cell 3
                have c1 := kk.cell 4
                have c2 := kk.cell 5
                have cf := fun o => kk.frozen o
                obtain ⟨b, off, rfl, hbb, hcl⟩ := ((RI.out _ hh.1).at_ (i := 1) (by omega))
                obtain ⟨r0, r1, r2, -⟩ := hcl _ rfl
                obtain ⟨r, hr⟩ : ∃ r, l.getD 1 default = r := ⟨_, rfl⟩
                rw [hr] at r0 r1 r2
                simp at r0 r1 r2
                have HRR : Hid (i64ok r.p.s ∧ i64ok r.p.e) := Lib.hid (by
                  rw [← hr, List.getD_eq_getElem?_getD, List.getElem?_eq_getElem (by rw [HM.out.2.2.1]; omega)]
                  exact (HM.out.2.2.2 _ (List.getElem_mem _)).1)
                clear hr hcl
                have HN := Lib.hid ((hh.swap8).three_at8 hgp (by intro x hx; obtain rfl := List.mem_singleton.1 hx; exact hne) 3 (.string r.p.k) (.int .i64 r.p.s) (.int .i64 r.p.e))
                clear hh kk
                go_region
                all_goals (go_wp2_with fail)
                all_goals (have hn := HN.out; simp only [List.setIfInBounds_toArray, List.set_cons_zero, List.set_cons_succ] at hn)
                all_goals exact ⟨⟨2, p0, r.p, p2, p3, by omega, by go_num, (hn.step (Below.refl _ _).drew).swap8, by have := HFP.out; have := HRR.out; simp_all⟩, by simp [intOf]⟩
              · have c0 := kk.cell 6
                have c1 := kk.cell 7
                have c2 := kk.cell 8
                have cf := fun o => kk.frozen o
                obtain ⟨b, off, rfl, hbb, hcl⟩ := ((RI.out _ hh.1).at_ (i := 2) (by omega))
                obtain ⟨r0, r1, r2, -⟩ := hcl _ rfl
                obtain ⟨r, hr⟩ : ∃ r, l.getD 2 default = r := ⟨_, rfl⟩
                rw [hr] at r0 r1 r2
                simp at r0 r1 r2
                have HRR : Hid (i64ok r.p.s ∧ i64ok r.p.e) := Lib.hid (by
                  rw [← hr, List.getD_eq_getElem?_getD, List.getElem?_eq_getElem (by rw [HM.out.2.2.1]; omega)]
                  exact (HM.out.2.2.2 _ (List.getElem_mem _)).1)
                clear hr hcl
                have HN := Lib.hid ((hh.swap8).three_at8 hgp (by intro x hx; obtain rfl := List.mem_singleton.1 hx; exact hne) 6 (.string r.p.k) (.int .i64 r.p.s) (.int .i64 r.p.e))
                clear hh kk
                go_region
                all_goals (go_wp2_with fail)
                all_goals (have hn := HN.out; simp only [List.setIfInBounds_toArray, List.set_cons_zero, List.set_cons_succ] at hn)
                all_goals exact ⟨⟨3, p0, p1, r.p, p3, by omega, by go_num, (hn.step (Below.refl _ _).drew).swap8, by have := HFP.out; have := HRR.out; simp_all⟩, by simp [intOf]⟩
              · have c0 := kk.cell 9
                have c1 := kk.cell 10
                have c2 := kk.cell 11
                have cf := fun o => kk.frozen o
                obtain ⟨b, off, rfl, hbb, hcl⟩ := ((RI.out _ hh.1).at_ (i := 3) (by omega))
                obtain ⟨r0, r1, r2, -⟩ := hcl _ rfl
                obtain ⟨r, hr⟩ : ∃ r, l.getD 3 default = r := ⟨_, rfl⟩
                rw [hr] at r0 r1 r2
                simp at r0 r1 r2
                have HRR : Hid (i64ok r.p.s ∧ i64ok r.p.e) := Lib.hid (by
                  rw [← hr, List.getD_eq_getElem?_getD, List.getElem?_eq_getElem (by rw [HM.out.2.2.1]; omega)]
                  exact (HM.out.2.2.2 _ (List.getElem_mem _)).1)
                clear hr hcl
                have HN := Lib.hid ((hh.swap8).three_at8 hgp (by intro x hx; obtain rfl := List.mem_singleton.1 hx; exact hne) 9 (.string r.p.k) (.int .i64 r.p.s) (.int .i64 r.p.e))
                clear hh kk
                go_region
                all_goals (go_wp2_with fail)
                all_goals (have hn := HN.out; simp only [List.setIfInBounds_toArray, List.set_cons_zero, List.set_cons_succ] at hn)
                all_goals exact ⟨⟨4, p0, p1, p2, r.p, by omega, by go_num, (hn.step (Below.refl _ _).drew).swap8, by have := HFP.out; have := HRR.out; simp_all⟩, by simp [intOf]⟩
            · have i4 : ¬ (j : Int) < 4 := by omega
              have HH := Lib.hid hh
              clear hh
              have hgl : g < wr.heap.size := (HH.out.2 _ (List.mem_cons_self ..)).lt
              have hgpl : gp < wr.heap.size := (HH.out.2 _ (List.mem_cons_of_mem _ (List.mem_cons_self ..))).lt
              have hz0 := HH.out.1.size
              have HZ0 := Lib.hid (And.intro hgl (And.intro hgpl hz0))
              clear hgl hgpl hz0
              have kf := HH.out.2 _ (List.mem_cons_self ..)
              have f0 := kf.cell 0
              have f1 := kf.cell 1
              have f2 := kf.cell 2
              have f3 := kf.cell 3
              have f4 := kf.cell 4
              have f5 := kf.cell 5
              have f6 := kf.cell 6
              have f7 := kf.cell 7
              have f8 := kf.cell 8
              have f9 := kf.cell 9
              have f10 := kf.cell 10
              have f11 := kf.cell 11
              go_upto_region 33 with (fail)
              clear kf f0 f1 f2 f3 f4 f5 f6 f7 f8 f9 f10 f11
              have s1 := HH.out.new #[.int .u8 4, .int .u32 0, .int .u16 0, .bool false, .int .u64 0, .int .u64 0, .int .u64 0, .int .u64 0, .int .u64 0, .int .u64 0, .slice A 60 c, .slice (some ⟨gp, 0, none⟩) 4 4] 28
              obtain ⟨V1, hW⟩ : ∃ W, wr.alloc (.cells #[.int .u8 4, .int .u32 0, .int .u16 0, .bool false, .int .u64 0, .int .u64 0, .int .u64 0, .int .u64 0, .int .u64 0, .int .u64 0, .slice A 60 c, .slice (some ⟨gp, 0, none⟩) 4 4] 28) = W := ⟨_, rfl⟩
              rw [hW] at s1 ⊢
              clear hW
              have kh := s1.2 _ (List.mem_cons_self ..)
              have h10 := kh.cell 10
              have hf10 := kh.frozen 10
              have hc61' := hc61.out
              have HS1 := Lib.hid s1
              clear kh s1
              go_upto_region 34 with (fail)
              clear h10 hf10 hc61'
              have s2 := HS1.out.put8 HZ0.out.2.2 (by intro x hx; have h := HZ0.out; simp only [List.mem_cons, List.not_mem_nil, or_false] at hx; rcases hx with rfl | rfl <;> (dsimp only; omega)) 10 (.slice A 61 c)
              simp only [List.setIfInBounds_toArray, List.set_cons_zero, List.set_cons_succ] at s2
              obtain ⟨V2, hW⟩ : ∃ W, V1.setCell ⟨wr.heap.size, 10, none⟩ (.slice A 61 c) = W := ⟨_, rfl⟩
              rw [hW] at s2 ⊢
              have s3 := s2.new #[.int .i64 0, .int .i64 1, .int .i64 65535, .int .i64 65536, .int .i64 (-3), .int .i64 260] 3
              clear hW s2
              go_upto_region 35 with (fail)
              obtain ⟨V3, hW⟩ : ∃ W, V2.alloc (.cells #[.int .i64 0, .int .i64 1, .int .i64 65535, .int .i64 65536, .int .i64 (-3), .int .i64 260] 3) = W := ⟨_, rfl⟩
              rw [hW] at s3 ⊢
              have HV3 := Lib.hid (And.intro s3.1 (And.intro (s3.2 _ (List.mem_cons_of_mem _ (List.mem_cons_self ..))) (And.intro (s3.2 _ (List.mem_cons_of_mem _ (List.mem_cons_of_mem _ (List.mem_cons_self ..)))) (s3.2 _ (List.mem_cons_of_mem _ (List.mem_cons_of_mem _ (List.mem_cons_of_mem _ (List.mem_cons_self ..))))))))
              have HCC := Lib.hid (s3.2 _ (List.mem_cons_self ..))
              clear s3 hW
              go_loopw [137] (fun i wx => ∃ j : Nat, j ≤ 6 ∧ i = .int .i64 (j : Int) ∧ Below V3.heap.size V3 wx) (fun i _ => 6 - (intOf i).toNat)
              case atStart => exact ⟨0, by omega, rfl, Below.refl _ _⟩
              case round =>
                obtain ⟨j, hj, rfl, hy⟩ := hrel
                have HY := Lib.hid hy
                clear hy
                by_cases hj6 : j < 6
                · have i6 : (j : Int) < 6 := by omega
                  have kk := HCC.out.below HY.out HCC.out.lt
                  rcases (by omega : j = 0 ∨ j = 1 ∨ j = 2 ∨ j = 3 ∨ j = 4 ∨ j = 5) with rfl | rfl | rfl | rfl | rfl | rfl
                  · have c0 := kk.cell 0
                    clear kk
                    go_wp2_with fail
                    refine (replyFails_any 0 0 9223372036854775808 _ (by omega) (by omega)).mono ?_
                    rintro e y1 ⟨rfl, p1⟩
                    have HP1 := Lib.hid (below_next HY.out p1)
                    clear p1
                    go_wp2_with fail
                    exact ⟨⟨1, by omega, by go_num, HP1.out⟩, by simp [intOf]⟩
                  · have c0 := kk.cell 1
                    clear kk
                    go_wp2_with fail
                    refine (replyFails_any 1 1 9223372036854775808 _ (by omega) (by omega)).mono ?_
                    rintro e y1 ⟨rfl, p1⟩
                    have HP1 := Lib.hid (below_next HY.out p1)
                    clear p1
                    go_wp2_with fail
                    exact ⟨⟨2, by omega, by go_num, HP1.out⟩, by simp [intOf]⟩
                  · have c0 := kk.cell 2
                    clear kk
                    go_wp2_with fail
                    refine (replyFails_any 65535 65535 9223372036854775808 _ (by omega) (by omega)).mono ?_
                    rintro e y1 ⟨rfl, p1⟩
                    have HP1 := Lib.hid (below_next HY.out p1)
                    clear p1
                    go_wp2_with fail
                    exact ⟨⟨3, by omega, by go_num, HP1.out⟩, by simp [intOf]⟩
                  · have c0 := kk.cell 3
                    clear kk
                    go_wp2_with fail
                    refine (replyFails_any 65536 65536 9223372036854775808 _ (by omega) (by omega)).mono ?_
                    rintro e y1 ⟨rfl, p1⟩
                    have HP1 := Lib.hid (below_next HY.out p1)
                    clear p1
                    go_wp2_with fail
                    exact ⟨⟨4, by omega, by go_num, HP1.out⟩, by simp [intOf]⟩
                  · have c0 := kk.cell 4
                    clear kk
                    go_wp2_with fail
                    refine (replyFails_any 4294967293 (-3) 9223372036854775808 _ (by omega) (by omega)).mono ?_
                    rintro e y1 ⟨rfl, p1⟩
                    have HP1 := Lib.hid (below_next HY.out p1)
                    clear p1
                    go_wp2_with fail
                    exact ⟨⟨5, by omega, by go_num, HP1.out⟩, by simp [intOf]⟩
                  · have c0 := kk.cell 5
                    clear kk
                    go_wp2_with fail
                    refine (replyFails_any 260 260 9223372036854775808 _ (by omega) (by omega)).mono ?_
                    rintro e y1 ⟨rfl, p1⟩
                    have HP1 := Lib.hid (below_next HY.out p1)
                    clear p1
                    go_wp2_with fail
                    exact ⟨⟨6, by omega, by go_num, HP1.out⟩, by simp [intOf]⟩
                · have i6 : ¬ (j : Int) < 6 := by omega
                  obtain rfl : j = 6 := by omega
                  have CF : Hid (∀ W, Below V3.heap.size V3 W → (⟨4, 0, 0, false, 0, 0, 0, 0, 0, 0, A, 60, c, some ⟨gp, 0, none⟩, 4, 4⟩ : Rp.V).In W W.heap.size (l.take 60) [p0, p1, p2, p3] ∧ FineRep ⟨4, 0, 0, false, 0, 0, 0, 0, 0, 0, A, 60, c, some ⟨gp, 0, none⟩, 4, 4⟩ (l.take 60) [p0, p1, p2, p3]) := Lib.hid fun W hW => ⟨⟨(RI.out W (below_next HV3.out.1 hW)).head8 (i := 60) (by decide), pans_blk8 (n := 4) (l := [p0, p1, p2, p3]) ((HV3.out.2.2.2).below hW HV3.out.2.2.2.lt) (by simp [pncells, panL]) rfl⟩, ⟨⟨(by decide : 4 < 256), (by decide : 0 < 4294967296), (by decide : 0 < 65536), (by decide : 0 < 18446744073709551616), (by decide : 0 < 18446744073709551616), (by decide : 0 < 18446744073709551616), (by decide : 0 < 18446744073709551616), (by decide : 0 < 18446744073709551616), (by decide : 0 < 18446744073709551616)⟩, fun q hq => HM.out.2.2.2 q (List.mem_of_mem_take hq), HFP.out, by show 60 ≤ 64; omega, by show 4 ≤ 64; omega⟩⟩
                  have CO : Hid (∀ W, Below V3.heap.size V3 W → (⟨4, 0, 0, false, 0, 0, 0, 0, 0, 0, A, 61, c, some ⟨gp, 0, none⟩, 4, 4⟩ : Rp.V).In W W.heap.size (l.take 61) [p0, p1, p2, p3] ∧ FineRep ⟨4, 0, 0, false, 0, 0, 0, 0, 0, 0, A, 61, c, some ⟨gp, 0, none⟩, 4, 4⟩ (l.take 61) [p0, p1, p2, p3]) := Lib.hid fun W hW => ⟨⟨(RI.out W (below_next HV3.out.1 hW)).head8 (i := 61) (by decide), pans_blk8 (n := 4) (l := [p0, p1, p2, p3]) ((HV3.out.2.2.2).below hW HV3.out.2.2.2.lt) (by simp [pncells, panL]) rfl⟩, ⟨⟨(by decide : 4 < 256), (by decide : 0 < 4294967296), (by decide : 0 < 65536), (by decide : 0 < 18446744073709551616), (by decide : 0 < 18446744073709551616), (by decide : 0 < 18446744073709551616), (by decide : 0 < 18446744073709551616), (by decide : 0 < 18446744073709551616), (by decide : 0 < 18446744073709551616)⟩, fun q hq => HM.out.2.2.2 q (List.mem_of_mem_take hq), HFP.out, by show 61 ≤ 64; omega, by show 4 ≤ 64; omega⟩⟩
                  have CP : Hid (∀ W, Below V3.heap.size V3 W → (⟨1, 0, 0, false, 0, 0, 0, 0, 0, 0, A, 64, c, none, 0, 0⟩ : Rp.V).In W W.heap.size (l.take 64) [] ∧ FineRep ⟨1, 0, 0, false, 0, 0, 0, 0, 0, 0, A, 64, c, none, 0, 0⟩ (l.take 64) []) := Lib.hid fun W hW => ⟨⟨(RI.out W (below_next HV3.out.1 hW)).head8 (i := 64) (by decide), PansIn.nil⟩, ⟨⟨(by decide : 1 < 256), (by decide : 0 < 4294967296), (by decide : 0 < 65536), (by decide : 0 < 18446744073709551616), (by decide : 0 < 18446744073709551616), (by decide : 0 < 18446744073709551616), (by decide : 0 < 18446744073709551616), (by decide : 0 < 18446744073709551616), (by decide : 0 < 18446744073709551616)⟩, fun q hq => HM.out.2.2.2 q (List.mem_of_mem_take hq), by simp, by show 64 ≤ 64; omega, by show 0 ≤ 64; omega⟩⟩
                  have kf := (HV3.out.2.2.1).below HY.out (HV3.out.2.2.1).lt
                  have f0 := kf.cell 0
                  have f1 := kf.cell 1
                  have f2 := kf.cell 2
                  have f3 := kf.cell 3
                  have f4 := kf.cell 4
                  have f5 := kf.cell 5
                  have f6 := kf.cell 6
                  have f7 := kf.cell 7
                  have f8 := kf.cell 8
                  have f9 := kf.cell 9
                  have f10 := kf.cell 10
                  have f11 := kf.cell 11
                  go_wp2_with fail
                  clear kf f0 f1 f2 f3 f4 f5 f6 f7 f8 f9 f10 f11
                  refine (back_nil8 ⟨4, 0, 0, false, 0, 0, 0, 0, 0, 0, A, 60, c, some ⟨gp, 0, none⟩, 4, 4⟩ _ _ _ (CF.out _ HY.out).1 (CF.out _ HY.out).2).mono ?_
                  rintro e y1 ⟨rfl, p1⟩
                  have E1 := Lib.hid (below_next HY.out p1)
                  clear p1
                  have ko := (HV3.out.2.1).below E1.out (HV3.out.2.1).lt
                  have o0 := ko.cell 0
                  have o1 := ko.cell 1
                  have o2 := ko.cell 2
                  have o3 := ko.cell 3
                  have o4 := ko.cell 4
                  have o5 := ko.cell 5
                  have o6 := ko.cell 6
                  have o7 := ko.cell 7
                  have o8 := ko.cell 8
                  have o9 := ko.cell 9
                  have o10 := ko.cell 10
                  have o11 := ko.cell 11
                  go_wp2_with fail
                  clear ko o0 o1 o2 o3 o4 o5 o6 o7 o8 o9 o10 o11
                  refine (back_nil8 ⟨4, 0, 0, false, 0, 0, 0, 0, 0, 0, A, 61, c, some ⟨gp, 0, none⟩, 4, 4⟩ _ _ _ (CO.out _ E1.out).1 (CO.out _ E1.out).2).mono ?_
                  rintro e y2 ⟨rfl, p2⟩
                  have E2 := Lib.hid (below_next E1.out p2)
                  clear p2
                  go_wp2_with fail
                  refine (back_nil8 ⟨1, 0, 0, false, 0, 0, 0, 0, 0, 0, A, 64, c, none, 0, 0⟩ _ _ _ (CP.out _ E2.out).1 (CP.out _ E2.out).2).mono ?_
                  rintro e y3 ⟨rfl, p3⟩
                  have E3 := Lib.hid (below_next E2.out p3)
                  clear p3
                  have ko := (HV3.out.2.1).below E3.out (HV3.out.2.1).lt
                  have o0 := ko.cell 0
                  have o1 := ko.cell 1
                  have o2 := ko.cell 2
                  have o3 := ko.cell 3
                  have o4 := ko.cell 4
                  have o5 := ko.cell 5
                  have o6 := ko.cell 6
                  have o7 := ko.cell 7
                  have o8 := ko.cell 8
                  have o9 := ko.cell 9
                  have o10 := ko.cell 10
                  have o11 := ko.cell 11
                  have kf := (HV3.out.2.2.1).below E3.out (HV3.out.2.2.1).lt
                  have f0 := kf.cell 0
                  have f1 := kf.cell 1
                  have f2 := kf.cell 2
                  have f3 := kf.cell 3
                  have f4 := kf.cell 4
                  have f5 := kf.cell 5
                  have f6 := kf.cell 6
                  have f7 := kf.cell 7
                  have f8 := kf.cell 8
                  have f9 := kf.cell 9
                  have f10 := kf.cell 10
                  have f11 := kf.cell 11
                  go_wp2_with fail
                  clear ko o0 o1 o2 o3 o4 o5 o6 o7 o8 o9 o10 o11
                  clear kf f0 f1 f2 f3 f4 f5 f6 f7 f8 f9 f10 f11
                  refine (replyPuts_any ⟨4, 0, 0, false, 0, 0, 0, 0, 0, 0, A, 61, c, some ⟨gp, 0, none⟩, 4, 4⟩ ⟨4, 0, 0, false, 0, 0, 0, 0, 0, 0, A, 60, c, some ⟨gp, 0, none⟩, 4, 4⟩ _ _ _ _ _ (CO.out _ E3.out).1 (CF.out _ E3.out).1 (CO.out _ E3.out).2.1 (CF.out _ E3.out).2.1).mono ?_
                  rintro e y4 ⟨rfl, p4⟩
                  have E4 := Lib.hid (below_next E3.out p4)
                  clear p4
                  go_wp2_with fail
                  refine (replyReads_any 0 0 0 none [] _ Bytes.nil (Nat.zero_le _)).mono ?_
                  rintro e y5 ⟨rfl, p5⟩
                  have E5 := Lib.hid (below_next E4.out p5)
                  clear p5
                  go_wp2_with fail
                  refine (works8_any _).mono ?_
                  rintro e y6 ⟨rfl, p6⟩
                  have E6 := Lib.hid (below_next E5.out p6)
                  clear p6
                  go_wp2_with fail
                  go_ret
                  exact ⟨rfl, below_next HM.out.1 (below_next HV3.out.1 E6.out)⟩
end Go.Proofs.YtognlgklepgemaaGreat

namespace Go.Proofs.YtognlgklepgemaaGreat
open Go.ChangeShapes Go.WideShapes Go.ChangeAt Go.RowKit
open Go.ChangeMaps (open_string shut_string)

set_option maxRecDepth 100000 in
theorem replyKnown_lifted (os : Os) (started : os.Started) (H : Type) (enc : TypeId × Value → H) :
    ReturnsInHanded {} Tryz.checked os 3 .any (Rows.replyKnownSpec.pre6 enc Tryz.prog Tryz.f3 Rows.replyKnownRow.domain false) (Rows.replyKnownSpec.post enc Tryz.prog Tryz.f3 false true false false) := by
  refine returnsInHanded_of_change (C := Tryz.checked) Tryz.own started (by kernel_rfl) Tryz.func3
    (ChangeSpec.witness6 (enc := enc) (C := Tryz.checked) false ⟨#[], #[], []⟩ 8 (by kernel_rfl) (by kernel_rfl) (by kernel_rfl) (by kernel_rfl)) ?_
  intro W base args ds gs before hval0 hW hcnd _
  have hW' := hW
  obtain ⟨p, q, hA0, hV, rfl, hfz, hnd⟩ := hW
  have hA : DataW.TrodAll enc Tryz.prog W 0 (fun _ => true) true Tryz.f3.params.toList args.toList ds p := hA0
  rw [Tryz.params3] at hA
  obtain ⟨hargs, rfl, rfl⟩ := trodAll_nil hA
  obtain rfl : args = #[] := by cases args; simp_all
  obtain ⟨rfl, rfl⟩ := trodVars_none hV
  clear hA0 hval0
  refine (replyKnown_any W).mono fun e W' ⟨he, bel⟩ => ?_
  subst he
  exact ⟨_, rfl, _, _, _, [], _, [], hW', trodAll_mk1 (shut_bool Tryz.underlying4 _), trodAll_mk0, rfl, bel.frame _, fun h => by cases h⟩

theorem replyKnown_holds : Rows.ReplyKnownSaid :=
  OpenClaim.holds_of_wide 3 Tryz.f3 rfl rfl rfl rfl rfl rfl rfl ⟨rfl, rfl, rfl, rfl, rfl⟩ rfl rfl rfl rfl rfl (by kernel_rfl) Tryz.func3 (by kernel_rfl)
    (of_decide_eq_true (by kernel_rfl)) (by unfold Func.isWrapper; first | (rw [if_pos (by decide +kernel)]; kernel_rfl) | (rw [if_neg (by decide +kernel)]; exact ⟨rfl, rfl⟩))
    (fun os started H enc _ => replyKnown_lifted os started H enc)
#print axioms replyKnown_holds
end Go.Proofs.YtognlgklepgemaaGreat
