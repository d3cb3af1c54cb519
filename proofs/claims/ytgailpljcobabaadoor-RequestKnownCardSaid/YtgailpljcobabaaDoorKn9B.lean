/- RequestKnown, walked. Made by tools/gen/kn9b.py. -/
import Derived.Test.YtgailpljcobabaaDoorLaw9P
import Derived.Test.YtgailpljcobabaaDoorLaw9B
import Derived.Test.YtgailpljcobabaaDoorLaw9R
import Derived.Test.YtgailpljcobabaaDoorKn9A
import Derived.Test.YtgailpljcobabaaDoorAppZero
import Derived.Laws.MakeOwn
namespace Go.Proofs.YtgailpljcobabaaDoor
open Go.ChangeShapes Go.WideShapes Go.ChangeAt Go.RowKit

theorem make_all (w : World) (N : Nat) (v : Int) (hv : v = N) (hN : N ≤ 65536) : ∃ w', (Instr.makeSlice 29 (.int .i64 v) (.int .i64 v)).run Tryd.prog w = .ok (.slice (some ⟨w.heap.size, 0, none⟩) N N) w' ∧ Below w.heap.size w w' ∧ ∀ W, Below w'.heap.size w' W → (convert 29 9 (.slice (some ⟨w.heap.size, 0, none⟩) N N)).run Tryd.prog W = .ok (.string (textOf (List.replicate N 0))) W := by
  subst hv
  obtain ⟨i0, hi, hz0, hz1, hz2⟩ := info_parts Tryd.info5
  obtain ⟨w', hr, ho, hg⟩ := run_make_full (P := Tryd.prog) (w := w) w.heap.size 29 5 i0 (.int .u8 0) 1 Tryd.underlying29 hi hz0 hz1 .i64 .i64 N (by rw [hz2]; omega) (by unfold maxLen; omega) (Nat.le_refl _)
  have e : (madeCells (Value.int .u8 0).cells (N * 1)).toList = u8s (List.replicate N 0) := by
    show (madeCells #[Value.int .u8 0] (N * 1)).toList = _
    rw [toList_madeCells_one, Nat.mul_one]
    simp [u8s]
  rw [e] at ho
  have hb := Bytes.of_own ho (by intro x hx; have := (List.mem_replicate.1 hx).2; omega)
  exact ⟨w', hr, below_none hg, fun W hW => (conv_bytes (c := N) (hb.below hW (Nat.le_refl _))).2.2⟩
theorem append_lies_g {P : Program} {w : World} {ops : Array Oper} {rest : List Oper} {o : Oper} {a : Act} {Q : Exit → Act → World → Prop} (hgd : Region.wanted o (yielded ops a.tmps) = true) (s x : Operand) (t : TypeId)
    (ho : o.op = .call { callee := .builtin .append, args := #[s, x], argTypes := #[t, t] })
    (base : Nat) (e : TypeId) (i : TypeInfo) (z : Value) (size bytes : Nat) (ht : P.underlying t = some (.slice e)) (hi : P.info? e = some i) (hz : i.zero = some z)
    (hsize : i.size = size) (hby : i.bytes = bytes) (hzs : z.cells.size = size) (hsz : 0 < size)
    (v : Value) (n : Nat) (xs : List Value) (hs : a.eval s = v) (hown : w.ownsRow base e size v n xs)
    (ad : Addr) (m c : Nat) (news : List Value) (hx : a.eval x = .slice (some ad) m c) (hl : news.length = m * size) (hnews : ∀ j u, news[j]? = some u → w.cell? (ad.add j) = some u) (h1 : ∀ u ∈ news, u.oneCell' = true)
    (hm : 0 < m) (h63 : n + m ≤ maxLen) (hbytes : (n + m) * bytes ≤ 140737488355328) (hbase : base ≤ w.heap.size) (H : Nat) (hH : w.heap.size = H)
    (h : ∀ g cap w', w'.ownsRow base e size (.slice (some ⟨g, 0, none⟩) (n + m) cap) (n + m) (xs ++ news) → w.grownBy w' v.ownBlock → (v.ownBlock = some g ∨ g = H) → g < w'.heap.size → wpList P ops Q rest (a.put o.dst (.slice (some ⟨g, 0, none⟩) (n + m) cap)) w') : wpList P ops Q (o :: rest) a w :=
  wpList_step fun K hK => by
    rw [if_pos hgd]
    exact wp_append_lies w s x t ho base e i z size bytes ht hi hz hsize hby hzs hsz v n xs hs hown ad m c news hx hl hnews h1 hm h63 hbytes hbase H hH fun g cap w' h2 h3 h4 h5 => hK _ _ (h g cap w' h2 h3 h4 h5)
theorem own_some9 {w : World} {base n c : Nat} {e : TypeId} {A : Option Addr} {xs : List Value} (h : w.ownsRow base e 1 (.slice A n c) n xs) (h0 : 0 < n) : ∃ g, A = some ⟨g, 0, none⟩ ∧ base ≤ g := by
  obtain ⟨g, cap, hv, hc, hlt⟩ := h.form h0
  have hl := (h.lt g (by rw [hv]; rfl)).1
  injection hv with hv
  subst hv
  exact ⟨g, rfl, hl⟩
theorem u8s_put9 (l : List Nat) (j x : Nat) : (u8s l).set j (.int .u8 (x : Int)) = u8s (l.set j x) := by simp [u8s, List.map_set]
def Kx9 : Rq.V := ⟨5, 2147483648, 0, 300, 0, 0, 3, ⟨#[]⟩, ⟨#[]⟩, -5, 9223372036854775807⟩
theorem kx_ok : Kx9.ok := by
  unfold Rq.V.ok Kx9
  dsimp only
  omega
theorem kx_right : Kx9.right = true := Kx9.right_iff.2 ⟨rfl, by decide, rfl, rfl, rfl⟩
theorem kx_put (W : World) (hV : Vars W) : Calls Tryd.prog 11 #[.agg #[.int .u8 5, .int .u32 2147483648, .int .u8 0, .int .u16 300, .int .u64 0, .int .u64 0, .int .u8 3, .string ⟨#[]⟩, .string ⟨#[]⟩, .int .i64 (-5), .int .i64 9223372036854775807]] W (PutR W Kx9.bytes 0) := putP kx_ok rfl kx_right rfl W hV
theorem pz_any (W : World) (hV : Vars W) : Calls Tryd.prog 3 #[.agg #[.int .u8 0, .int .u32 0, .int .u8 0, .int .u16 0, .int .u64 0, .int .u64 0, .int .u8 0, .string ⟨#[]⟩, .string ⟨#[]⟩, .int .i64 0, .int .i64 0], .int .u8 255] W (LawP W) := requestPuts_any (Rq.only 0 0) 255 W hV (Rq.only_ok (by omega) (by omega)) (by omega)
theorem heldA9 (w : World) (cs ds : Array Value) (t t' : TypeId) : Held w ((w.alloc (.cells cs t)).alloc (.cells ds t')).drew [(w.heap.size, t, cs)] :=
  ((Held.start w).new cs t).step ((Below.refl _ _).alloc (Nat.le_refl _) _).drew
theorem heldB9 (w : World) (cs ds : Array Value) (t t' : TypeId) : Held w ((w.alloc (.cells ds t')).alloc (.cells cs t)).drew [(w.heap.size + 1, t, cs)] := by
  have h := (((Held.start w).step ((Below.refl _ _).alloc (Nat.le_refl _) (.cells ds t'))).new cs t).step (Below.refl _ _).drew
  simpa using h
theorem tm9 (n m : Nat) (z : Int) (hz : z = m) (hm : 0 < m) : ∃ r : Nat, (n : Int).tmod z = r ∧ (n : Int) % z = r ∧ r < m := by
  subst hz
  exact ⟨n % m, by rw [Int.tmod_eq_emod_of_nonneg (by omega)]; rfl, rfl, Nat.mod_lt _ hm⟩
theorem td9 (n m : Nat) (z : Int) (hz : z = m) : ∃ r : Nat, (n : Int).tdiv z = r ∧ (n : Int) / z = r ∧ r ≤ n := by
  subst hz
  exact ⟨n / m, by rw [Int.tdiv_eq_ediv_of_nonneg (by omega)]; rfl, rfl, Nat.div_le_self _ _⟩
theorem four9 {a b c d : Value} {i : Nat} (h : i < 4) (P : Value → Prop) (ha : P a) (hb : P b) (hc : P c) (hd : P d) : ∃ v, (#[a, b, c, d] : Array Value)[i]? = some v ∧ P v := by
  rcases (by omega : i = 0 ∨ i = 1 ∨ i = 2 ∨ i = 3) with rfl | rfl | rfl | rfl
  · exact ⟨_, rfl, ha⟩
  · exact ⟨_, rfl, hb⟩
  · exact ⟨_, rfl, hc⟩
  · exact ⟨_, rfl, hd⟩
set_option maxRecDepth 100000 in
set_option maxHeartbeats 8000000 in
theorem requestKnown_any (w : World) (hV : Vars w) : Calls Tryd.prog 6 #[] w (LawP w) := by
  have HV : Hid (∀ W, Below w.heap.size w W → Vars W) := Lib.hid fun W hW => hV.next hW
  obtain ⟨iu, hi, hz0, hz1, hz2⟩ := info_parts Tryd.info5
  have HI := Lib.hid (And.intro hi (And.intro hz0 (And.intro hz1 hz2)))
  clear hi hz0 hz1 hz2 hV
  go_enter Tryd.func6, Tryd.ntmps6
  go_wp2_with fail
  go_loopw [1] (fun i wr => ∃ j : Nat, j ≤ 11 ∧ i = .int .u8 (j : Int) ∧ Below w.heap.size w wr) (fun i _ => 11 - (intOf i).toNat)
  case atStart => exact ⟨0, by omega, rfl, Below.refl _ _⟩
  case round =>
    obtain ⟨k, hk, rfl, hx⟩ := hrel
    have HX := Lib.hid hx
    clear hx
    by_cases hk11 : k < 11
    · have i1 : (k : Int) < 11 := by omega
      go_wp2_with fail
      go_loopw [2] (fun i wr => ∃ j : Nat, j ≤ 32 ∧ i = .int .i64 (j : Int) ∧ Below w.heap.size w wr) (fun i _ => 32 - (intOf i).toNat)
      case atStart => exact ⟨0, by omega, rfl, HX.out⟩
      case round =>
        obtain ⟨j, hj, rfl, hx⟩ := hrel
        have HY := Lib.hid hx
        clear hx
        by_cases hj32 : j < 32
        · have i3 : (j : Int) < 32 := by omega
          have cj : (j : Int) % 256 = j := Int.emod_eq_of_lt (by omega) (by omega)
          have cw : IntKind.u8.wrap (j : Int) = j := by
            rw [IntKind.wrap_u8]
            exact cj
          have CW := Lib.hid cw
          clear cw
          have OK := Lib.hid (pt_ok (k := k) j (by omega))
          have CP : Hid (∀ W, Calls Tryd.prog 23 #[(Rq.Fl k).val, .int .i64 (j : Int)] W fun e w' => e = .returned (Rq.Pt k j).val ∧ Below W.heap.size W w') := Lib.hid fun W => part9_any k j hj32 W
          obtain ⟨x, hx⟩ : ∃ x, Rq.Pt k j = x := ⟨_, rfl⟩
          rw [hx] at CP OK
          clear hx
          go_wp2_with fail
          refine (full9_any k _).mono ?_
          rintro e w1 ⟨rfl, b1⟩
          have H1 := Lib.hid (below_next HY.out b1)
          clear b1
          go_wp2_with fail
          refine (CP.out _).mono ?_
          rintro e w2 ⟨rfl, b2⟩
          have H2 := Lib.hid (below_next H1.out b2)
          clear b2 H1
          have CPu : Hid (∀ W p, Below w.heap.size w W → p < 256 → Calls Tryd.prog 3 #[Rq.V.val { x with pg := p }, .int .u8 (k : Int)] W (LawP W)) := Lib.hid fun W p hW hp => requestPuts_any _ k W (HV.out W hW) (pg_ok OK.out hp) (by omega)
          have CPu0 : Hid (∀ W, Below w.heap.size w W → Calls Tryd.prog 3 #[x.val, .int .u8 (k : Int)] W (LawP W)) := Lib.hid fun W hW => requestPuts_any _ k W (HV.out W hW) OK.out (by omega)
          have LIT : Hid (∀ W : World, Bytes (W.alloc (.cells #[.int .u8 (k : Int), .int .u8 0, .int .u8 0, .int .u8 0, .int .u8 (IntKind.u8.wrap (j : Int))] 5)) (W.heap.size + 1) (some ⟨W.heap.size, 0, none⟩) 5 [k, 0, 0, 0, j]) := Lib.hid fun W => lit_bytes W [k, 0, 0, 0, j] _ (by rw [CW.out]; rfl) (by intro y hy; simp only [List.mem_cons, List.not_mem_nil, or_false] at hy; omega)
          have CBk : Hid (∀ W B' A', Below w.heap.size w W → Bytes W B' A' 5 [k, 0, 0, 0, j] → B' ≤ W.heap.size → Calls Tryd.prog 5 #[x.val, (Rq.Fl k).val, .slice A' 5 5] W (LawP W)) := Lib.hid fun W B' A' hW hb hB =>
            requestBack_any x (Rq.Fl k) 5 5 B' A' [k, 0, 0, 0, j] W (HV.out _ hW) OK.out (fl_ok (by omega)) hb hB (by omega)
          obtain ⟨fv, hfv⟩ : ∃ v, (Rq.Fl k).val = v := ⟨_, rfl⟩
          have CFl : Hid (∀ W, Calls Tryd.prog 24 #[.int .u8 (k : Int)] W fun e w' => e = .returned fv ∧ Below W.heap.size W w') := Lib.hid fun W => by
            rw [← hfv]
            exact full9_any k W
          rw [hfv] at CBk
          have CPg : Hid (∀ W, Below w.heap.size w W → Calls Tryd.prog 3 #[.agg #[.int .u8 (x.k : Int), .int .u32 (x.id : Int), .int .u8 (60 + (j : Int) % 8), .int .u16 (x.du : Int), .int .u64 (x.at_ : Int), .int .u64 (x.le : Int), .int .u8 (x.so : Int), .string x.ky, .string x.to, .int .i64 x.lo, .int .i64 x.hi], .int .u8 (k : Int)] W (LawP W)) := Lib.hid fun W hW => by
            have h := CPu.out W (60 + j % 8) hW (by omega)
            unfold Rq.V.val Rq.V.cells at h
            dsimp only at h
            rw [show ((60 + j % 8 : Nat) : Int) = 60 + (j : Int) % 8 by omega] at h
            exact h
          clear CP hfv CPu
          obtain ⟨xk, xid, xpg, xdu, xa, xl, xs, xky, xtz, xlo, xhi⟩ := x
          unfold Rq.V.val at CPu0 CBk
          unfold Rq.V.cells at CPu0 CBk
          dsimp only at CPu0 CBk CPg
          unfold Rq.V.val
          unfold Rq.V.cells
          dsimp only
          have K2 := Blk.new w2 26 #[.int .u8 (xk : Int), .int .u32 (xid : Int), .int .u8 (xpg : Int), .int .u16 (xdu : Int), .int .u64 (xa : Int), .int .u64 (xl : Int), .int .u8 (xs : Int), .string xky, .string xtz, .int .i64 xlo, .int .i64 xhi]
          have D2 := H2.out.alloc H2.out.size (.cells #[.int .u8 (xk : Int), .int .u32 (xid : Int), .int .u8 (xpg : Int), .int .u16 (xdu : Int), .int .u64 (xa : Int), .int .u64 (xl : Int), .int .u8 (xs : Int), .string xky, .string xtz, .int .i64 xlo, .int .i64 xhi] 26)
          go_upto_region 8 with (fail)
          obtain ⟨W2, hW⟩ : ∃ W, w2.alloc (.cells #[.int .u8 (xk : Int), .int .u32 (xid : Int), .int .u8 (xpg : Int), .int .u16 (xdu : Int), .int .u64 (xa : Int), .int .u64 (xl : Int), .int .u8 (xs : Int), .string xky, .string xtz, .int .i64 xlo, .int .i64 xhi] 26) = W := ⟨_, rfl⟩
          rw [hW] at K2 D2 ⊢
          have hzz : w2.heap.size < W2.heap.size := K2.lt
          have P : Hid (∀ W, Below W2.heap.size W2 W → W.cell? ⟨w2.heap.size, 0, none⟩ = some (.int .u8 (xk : Int)) ∧ W.cell? ⟨w2.heap.size, 1, none⟩ = some (.int .u32 (xid : Int)) ∧ W.cell? ⟨w2.heap.size, 2, none⟩ = some (.int .u8 (xpg : Int)) ∧ W.cell? ⟨w2.heap.size, 3, none⟩ = some (.int .u16 (xdu : Int)) ∧ W.cell? ⟨w2.heap.size, 4, none⟩ = some (.int .u64 (xa : Int)) ∧ W.cell? ⟨w2.heap.size, 5, none⟩ = some (.int .u64 (xl : Int)) ∧ W.cell? ⟨w2.heap.size, 6, none⟩ = some (.int .u8 (xs : Int)) ∧ W.cell? ⟨w2.heap.size, 7, none⟩ = some (.string xky) ∧ W.cell? ⟨w2.heap.size, 8, none⟩ = some (.string xtz) ∧ W.cell? ⟨w2.heap.size, 9, none⟩ = some (.int .i64 xlo) ∧ W.cell? ⟨w2.heap.size, 10, none⟩ = some (.int .i64 xhi)) := Lib.hid fun W hB => (req_cells (x := ⟨xk, xid, xpg, xdu, xa, xl, xs, xky, xtz, xlo, xhi⟩) (K2.below hB K2.lt)).1
          have U : Hid (∀ W, Below W2.heap.size W2 W → Below w.heap.size w W) := Lib.hid fun W hB => below_next D2 hB
          have D0 : Hid (Below W2.heap.size W2 W2.drew) := Lib.hid (Below.refl _ _).drew
          have KK := Lib.hid (And.intro K2 D2)
          clear hW K2 D2
          go_region_held3 (fun W => W.cell? ⟨w2.heap.size, 0, none⟩ = some (.int .u8 (xk : Int)) ∧ W.cell? ⟨w2.heap.size, 1, none⟩ = some (.int .u32 (xid : Int)) ∧ W.cell? ⟨w2.heap.size, 2, none⟩ = some (.int .u8 (xpg : Int)) ∧ W.cell? ⟨w2.heap.size, 3, none⟩ = some (.int .u16 (xdu : Int)) ∧ W.cell? ⟨w2.heap.size, 4, none⟩ = some (.int .u64 (xa : Int)) ∧ W.cell? ⟨w2.heap.size, 5, none⟩ = some (.int .u64 (xl : Int)) ∧ W.cell? ⟨w2.heap.size, 6, none⟩ = some (.int .u8 (xs : Int)) ∧ W.cell? ⟨w2.heap.size, 7, none⟩ = some (.string xky) ∧ W.cell? ⟨w2.heap.size, 8, none⟩ = some (.string xtz) ∧ W.cell? ⟨w2.heap.size, 9, none⟩ = some (.int .i64 xlo) ∧ W.cell? ⟨w2.heap.size, 10, none⟩ = some (.int .i64 xhi)) (first | with_reducible exact P.out _ D0.out | with_reducible exact P.out _ D1.out | with_reducible exact P.out _ D1a.out | with_reducible exact P.out _ D2.out | with_reducible exact P.out _ D2a.out | with_reducible exact P.out _ D9.out | fail) (first
            | (go_at_call 3; (with_reducible refine (CPu0.out _ (U.out _ D0.out)).mono ?_); rintro e v1 ⟨rfl, p1⟩; have D1 := Lib.hid (below_next D0.out p1); clear p1; have D1a := Lib.hid (D1.out.alloc D1.out.size (.cells #[.int .u8 (k : Int), .int .u8 0, .int .u8 0, .int .u8 0, .int .u8 (IntKind.u8.wrap (j : Int))] 5)))
            | (go_at_call 24; (with_reducible refine (CFl.out v1).mono ?_); rintro e v2 ⟨rfl, p2⟩; have D2 := Lib.hid (below_next D1.out p2); clear p2; have D2a := Lib.hid (D2.out.alloc D2.out.size (.cells #[.int .u8 (k : Int), .int .u8 0, .int .u8 0, .int .u8 0, .int .u8 (IntKind.u8.wrap (j : Int))] 5)))
            | (go_at_call 24; (with_reducible refine (CFl.out (v1.alloc (.cells #[.int .u8 (k : Int), .int .u8 0, .int .u8 0, .int .u8 0, .int .u8 (IntKind.u8.wrap (j : Int))] 5))).mono ?_); rintro e v2 ⟨rfl, p2⟩; have D2 := Lib.hid (below_next D1a.out p2); have Y2 := Lib.hid ((LIT.out v1).below p2 (by simp)); have Y2z : v1.heap.size + 1 ≤ v2.heap.size := (by simpa using p2.size); clear p2)
            | (go_at_call 5; (with_reducible refine (CBk.out _ _ _ (U.out _ D2a.out) (LIT.out v2) (by simp)).mono ?_); rintro e v9 ⟨rfl, p3⟩; have D9 := Lib.hid (below_next D2a.out p3); clear p3)
            | (go_at_call 5; (with_reducible refine (CBk.out _ _ _ (U.out _ D2.out) Y2.out Y2z).mono ?_); rintro e v9 ⟨rfl, p3⟩; have D9 := Lib.hid (below_next D2.out p3); clear p3))
          all_goals (have kk := KK.out.1.below D9.out KK.out.1.lt; obtain ⟨r0, r1, r2, r3, r4, r5, r6, r7, r8, r9, r10⟩ := (req_cells (x := ⟨xk, xid, xpg, xdu, xa, xl, xs, xky, xtz, xlo, xhi⟩) kk).1; have q2 := kk.frozen 2; have HD9 := Lib.hid ((U.out _ D9.out).setCell (p := ⟨w2.heap.size, 2, none⟩) H2.out.size (.int .u8 (60 + (j : Int) % 8))); dsimp only at r0 r1 r2 r3 r4 r5 r6 r7 r8 r9 r10; clear kk P D0 D1 U KK)
          all_goals (go_wp2_with fail)
          all_goals (clear r0 r1 r2 r3 r4 r5 r6 r7 r8 r9 r10 q2)
          all_goals (refine (CPg.out _ HD9.out).mono ?_; rintro e v10 ⟨rfl, b10⟩; have HD10 := Lib.hid (below_next HD9.out b10); clear b10; go_wp2_with fail)
          all_goals (exact ⟨⟨j + 1, by omega, by go_num, HD10.out⟩, by simp [intOf]; omega⟩)
        · have i3 : ¬ (j : Int) < 32 := by omega
          go_wp2_with fail
          exact ⟨⟨k + 1, by omega, by go_num, HY.out⟩, by simp [intOf]; omega⟩
    · have i1 : ¬ (k : Int) < 11 := by omega
      go_upto_region 13 with (fail)
      go_cut [4] (fun v wx => ∃ g, v = .slice (some ⟨g, 0, none⟩) 4 4 ∧ Held w wx [(g, 9, #[.string ⟨#[]⟩, .string ⟨#[97]⟩, .string (textOf (List.replicate 32 0)), .string (textOf (List.replicate 33 0))])])
      case first =>
        obtain ⟨wA, a1, a2, a4⟩ := make_all wr.drew 32 32 rfl (by omega)
        obtain ⟨wC, c1, c2, c4⟩ := make_all wA 33 33 rfl (by omega)
        obtain ⟨wB, b1, b2, b4⟩ := make_all wr.drew 33 33 rfl (by omega)
        obtain ⟨wD, d1, d2, d4⟩ := make_all wB 32 32 rfl (by omega)
        have ha := a4 wA (Below.refl _ _)
        have ha' := a4 wC c2
        have hc := c4 wC (Below.refl _ _)
        have hb := b4 wB (Below.refl _ _)
        have hb' := b4 wD d2
        have hd := d4 wD (Below.refl _ _)
        have GC := Lib.hid (below_next (below_next HX.out.drew a2) c2)
        have GD := Lib.hid (below_next (below_next HX.out.drew b2) d2)
        simp only [World.size_drew] at a1 b1 ha ha' hb hb'
        clear a2 a4 b2 b4 c2 c4 d2 d4
        go_region
        all_goals (go_wp2_with fail)
        all_goals go_meet
        all_goals (first | exact ⟨_, rfl, ((Held.start w).step GC.out).new _ _⟩ | exact ⟨_, rfl, ((Held.start w).step GD.out).new _ _⟩)
      case rest =>
      obtain ⟨gw, rfl, hw⟩ := hcut
      have HW := Lib.hid hw
      clear hw HX
      obtain ⟨Z1, hZ1⟩ : ∃ z, textOf (List.replicate 32 0) = z := ⟨_, rfl⟩
      obtain ⟨Z2, hZ2⟩ : ∃ z, textOf (List.replicate 33 0) = z := ⟨_, rfl⟩
      rw [hZ1, hZ2] at HW
      clear hZ1 hZ2
      go_wp2_with fail
      go_loopw [5] (fun i wr => ∃ n : Nat, n ≤ 320 ∧ i = .int .i64 (n : Int) ∧ Held w wr [(gw, 9, #[.string ⟨#[]⟩, .string ⟨#[97]⟩, .string Z1, .string Z2])]) (fun i _ => 320 - (intOf i).toNat)
      case atStart => exact ⟨0, by omega, rfl, HW.out⟩
      case round =>
        obtain ⟨n, hn, rfl, hx⟩ := hrel
        have HY := Lib.hid hx
        clear hx HW
        by_cases hn320 : n < 320
        · have i1 : (n : Int) < 320 := by omega
          go_upto_region 17 with (fail)
          go_cut [6] (fun p wx => ∃ g x, p = .pointer (some ⟨g, 0, none⟩) ∧ Rq.V.ok x ∧ Held wr wx [(g, 26, x.cells)])
          case first =>
            obtain ⟨r2, e2, f2, l2⟩ := tm9 n 2 2 rfl (by omega)
            obtain ⟨a2, e3, f3, l3⟩ := td9 n 2 2 rfl
            obtain ⟨r5, e4, f4, l4⟩ := tm9 a2 5 5 rfl (by omega)
            obtain ⟨a10, e5, f5, l5⟩ := td9 n 10 10 rfl
            obtain ⟨i10, e6, f6, l6⟩ := tm9 a10 4 4 rfl (by omega)
            obtain ⟨a40, e7, f7, l7⟩ := td9 n 40 40 rfl
            obtain ⟨i40, e8, f8, l8⟩ := tm9 a40 4 4 rfl (by omega)
            obtain ⟨a160, e9, f9, l9⟩ := td9 n 160 160 rfl
            obtain ⟨r3, e10, f10, l10⟩ := tm9 n 3 3 rfl (by omega)
            obtain ⟨a3, e11, f11, l11⟩ := td9 r3 2 2 rfl
            obtain ⟨v10, hv10, s10, rfl⟩ := four9 (a := .string ⟨#[]⟩) (b := .string ⟨#[97]⟩) (c := .string Z1) (d := .string Z2) l6 (fun v => ∃ s, v = .string s) ⟨_, rfl⟩ ⟨_, rfl⟩ ⟨_, rfl⟩ ⟨_, rfl⟩
            obtain ⟨v40, hv40, s40, rfl⟩ := four9 (a := .string ⟨#[]⟩) (b := .string ⟨#[97]⟩) (c := .string Z1) (d := .string Z2) l8 (fun v => ∃ s, v = .string s) ⟨_, rfl⟩ ⟨_, rfl⟩ ⟨_, rfl⟩ ⟨_, rfl⟩
            have p10 : wr.cell? ⟨gw, i10, none⟩ = some (.string s10) := (HY.out.top.cell i10).trans hv10
            have p40 : wr.cell? ⟨gw, i40, none⟩ = some (.string s40) := (HY.out.top.cell i40).trans hv40
            have hgw : gw < wr.heap.size := HY.out.top.lt
            have j10 : (i10 : Int) < 4 := by omega
            have j40 : (i40 : Int) < 4 := by omega
            have m5 : (r5 : Int) % 256 = r5 := Int.emod_eq_of_lt (by omega) (by omega)
            have m5' : IntKind.u8.wrap (r5 : Int) = r5 := by rw [IntKind.wrap_u8]; exact m5
            have okk : ∀ kd, kd < 256 → Rq.V.ok ⟨kd, 0, 0, r2, 0, 0, r5, s10, s40, (a160 : Int), (a3 : Int)⟩ := fun kd hkd => by
              unfold Rq.V.ok
              dsimp only
              omega
            have OKK := Lib.hid okk
            clear hv10 hv40 l3 l5 l7 l9 l11 okk
            rcases (by omega : r2 = 0 ∨ r2 = 1) with rfl | rfl
            · go_wp2_with fail
              go_region
              all_goals (go_wp2_with fail)
              all_goals go_meet
              all_goals (first | exact ⟨_, (⟨1, 0, 0, 0, 0, 0, r5, s10, s40, (a160 : Int), (a3 : Int)⟩ : Rq.V), rfl, OKK.out 1 (by omega), heldA9 wr _ _ _ _⟩ | exact ⟨_, (⟨1, 0, 0, 0, 0, 0, r5, s10, s40, (a160 : Int), (a3 : Int)⟩ : Rq.V), rfl, OKK.out 1 (by omega), heldB9 wr _ _ _ _⟩)
            · go_wp2_with fail
              go_region
              all_goals (go_wp2_with fail)
              all_goals go_meet
              all_goals (first | exact ⟨_, (⟨5, 0, 0, 1, 0, 0, r5, s10, s40, (a160 : Int), (a3 : Int)⟩ : Rq.V), rfl, OKK.out 5 (by omega), heldA9 wr _ _ _ _⟩ | exact ⟨_, (⟨5, 0, 0, 1, 0, 0, r5, s10, s40, (a160 : Int), (a3 : Int)⟩ : Rq.V), rfl, OKK.out 5 (by omega), heldB9 wr _ _ _ _⟩)
          case rest =>
          obtain ⟨g, x, rfl, okx, hx2⟩ := hcut
          have hDW := below_next HY.out.1 hx2.1
          have hpl := x.putB_len
          have hplt := x.putB_lt
          obtain ⟨pb, hpb⟩ : ∃ p, x.putB = p := ⟨_, rfl⟩
          obtain ⟨pe, hpe⟩ : ∃ p, x.putE = p := ⟨_, rfl⟩
          obtain ⟨m, hm⟩ : ∃ m, pb.length = m := ⟨_, rfl⟩
          rw [hpb] at hpl hplt
          rw [hm] at hpl
          have CPt : Hid (∀ W, Below w.heap.size w W → Calls Tryd.prog 11 #[x.val] W fun e w' => ∃ A' c', e = .returned (.tuple #[.slice A' m c', .int .i64 pe]) ∧ w'.ownsRow W.heap.size 5 1 (.slice A' m c') m (u8s pb) ∧ Below W.heap.size W w') := Lib.hid fun W hW => by
            have h := pPut9_any x W (HV.out W hW) okx
            unfold PutR at h
            rw [hpb, hpe, hm] at h
            exact h
          have CPu : Hid (∀ W, Below w.heap.size w W → Calls Tryd.prog 3 #[x.val, .int .u8 1] W (LawP W)) := Lib.hid fun W hW => requestPuts_any x 1 W (HV.out W hW) okx (by omega)
          have CBk : Hid (∀ W B' A' c', Below w.heap.size w W → Bytes W B' A' m pb → B' ≤ W.heap.size → m ≤ c' → Calls Tryd.prog 5 #[x.val, x.val, .slice A' m c'] W (LawP W)) := Lib.hid fun W B' A' c' hW hb hB hc => requestBack_any x x m c' B' A' pb W (HV.out W hW) okx okx hb hB hc
          have P : Hid (∀ W, Below wc.heap.size wc W → ReqCells W g x) := Lib.hid fun W hW => (req_cells (hx2.top.below hW hx2.top.lt)).1
          have U : Hid (∀ W, Below wc.heap.size wc W → Below w.heap.size w W ∧ Below wr.heap.size wr W) := Lib.hid fun W hW => ⟨below_next hDW hW, below_next hx2.1 hW⟩
          have HPL := Lib.hid (And.intro hpl hplt)
          obtain ⟨r7, e7, f7, l7⟩ := tm9 n 7 7 rfl (by omega)
          clear hpb hpe hm okx hpl hplt hx2 hDW
          obtain ⟨xk, xid, xpg, xdu, xa, xl, xs, xky, xtz, xlo, xhi⟩ := x
          unfold Rq.V.val at CPt CPu CBk
          unfold Rq.V.cells at CPt CPu CBk
          unfold ReqCells at P
          dsimp only at CPt CPu CBk P
          obtain ⟨r0, r1, r2, r3, r4, r5, r6, r7', r8, r9, r10⟩ := P.out _ (Below.refl _ _)
          go_wp2_with fail
          clear r0 r1 r2 r3 r4 r5 r6 r7' r8 r9 r10
          refine (CPt.out _ (U.out _ (Below.refl _ _)).1).mono ?_
          rintro e w5 ⟨A5, c5, rfl, o5, b5⟩
          have H5 := Lib.hid (And.intro b5 (And.intro (Bytes.of_own o5 HPL.out.2) (own_cap o5)))
          clear o5 b5 CPt
          go_upto_region 19 with (fail)
          have P5 : Hid (∀ W, Below w5.heap.size w5 W → W.cell? ⟨g, 0, none⟩ = some (.int .u8 (xk : Int)) ∧ W.cell? ⟨g, 1, none⟩ = some (.int .u32 (xid : Int)) ∧ W.cell? ⟨g, 2, none⟩ = some (.int .u8 (xpg : Int)) ∧ W.cell? ⟨g, 3, none⟩ = some (.int .u16 (xdu : Int)) ∧ W.cell? ⟨g, 4, none⟩ = some (.int .u64 (xa : Int)) ∧ W.cell? ⟨g, 5, none⟩ = some (.int .u64 (xl : Int)) ∧ W.cell? ⟨g, 6, none⟩ = some (.int .u8 (xs : Int)) ∧ W.cell? ⟨g, 7, none⟩ = some (.string xky) ∧ W.cell? ⟨g, 8, none⟩ = some (.string xtz) ∧ W.cell? ⟨g, 9, none⟩ = some (.int .i64 xlo) ∧ W.cell? ⟨g, 10, none⟩ = some (.int .i64 xhi)) := Lib.hid fun W hW => P.out W (below_next H5.out.1 hW)
          have U5 : Hid (∀ W, Below w5.heap.size w5 W → Below w.heap.size w W ∧ Below wr.heap.size wr W) := Lib.hid fun W hW => U.out W (below_next H5.out.1 hW)
          have B5 : Hid (∀ W, Below w5.heap.size w5 W → Bytes W w5.heap.size A5 m pb ∧ w5.heap.size ≤ W.heap.size) := Lib.hid fun W hW => ⟨H5.out.2.1.below hW (Nat.le_refl _), hW.size⟩
          have hc5 := H5.out.2.2
          clear P U H5
          obtain ⟨r0, r1, r2, r3, r4, r5, r6, r7', r8, r9, r10⟩ := P5.out _ (Below.refl _ _)
          go_wp2_with fail
          clear r0 r1 r2 r3 r4 r5 r6 r7' r8 r9 r10
          refine (CPu.out _ (U5.out _ (Below.refl _ _)).1).mono ?_
          rintro e v1 ⟨rfl, p1⟩
          have D1 := Lib.hid p1
          clear p1
          by_cases hp0 : pe = 0
          · subst hp0
            by_cases hr7 : r7 = 0
            · subst hr7
              obtain ⟨r0, r1, r2, r3, r4, r5, r6, r7', r8, r9, r10⟩ := P5.out _ D1.out
              go_wp2_with fail
              clear r0 r1 r2 r3 r4 r5 r6 r7' r8 r9 r10
              refine (CBk.out _ w5.heap.size A5 c5 (U5.out _ D1.out).1 (B5.out _ D1.out).1 (B5.out _ D1.out).2 hc5).mono ?_
              rintro e v2 ⟨rfl, p2⟩
              have D2 := Lib.hid (below_next D1.out p2)
              clear p2
              go_wp2_with fail
              exact ⟨⟨n + 1, by omega, by go_num, HY.out.step (U5.out _ D2.out).2⟩, by simp [intOf]; omega⟩
            · have z7 : ((r7 : Int) == 0) = false := beq_eq_false_iff_ne.2 (by omega)
              have z7' : ¬ (r7 : Int) = 0 := by omega
              go_wp2_with fail
              exact ⟨⟨n + 1, by omega, by go_num, HY.out.step (U5.out _ D1.out).2⟩, by simp [intOf]; omega⟩
          · have z8 : (pe == 0) = false := beq_eq_false_iff_ne.2 hp0
            go_wp2_with fail
            exact ⟨⟨n + 1, by omega, by go_num, HY.out.step (U5.out _ D1.out).2⟩, by simp [intOf]; omega⟩
        · have i1 : ¬ (n : Int) < 320 := by omega
          obtain ⟨pb, hpb⟩ : ∃ p, Kx9.bytes = p := ⟨_, rfl⟩
          obtain ⟨m, hm⟩ : ∃ m, pb.length = m := ⟨_, rfl⟩
          have hml := Rq.V.bytes_le kx_right
          have hblt := Kx9.bytes_lt
          rw [hpb] at hml hblt
          rw [hm] at hml
          have CPt : Hid (Calls Tryd.prog 11 #[.agg #[.int .u8 5, .int .u32 2147483648, .int .u8 0, .int .u16 300, .int .u64 0, .int .u64 0, .int .u8 3, .string ⟨#[]⟩, .string ⟨#[]⟩, .int .i64 (-5), .int .i64 9223372036854775807]] wr fun e w' => ∃ A' c', e = .returned (.tuple #[.slice A' m c', .int .i64 0]) ∧ w'.ownsRow wr.heap.size 5 1 (.slice A' m c') m (u8s pb) ∧ Below wr.heap.size wr w') := Lib.hid (by
            have h := kx_put wr (HV.out _ HY.out.1)
            unfold PutR at h
            rw [hpb, hm] at h
            exact h)
          have HLT := Lib.hid hblt
          have hm5 : 5 ≤ m := hml.2
          have hm99 : m ≤ 99 := hml.1
          have i22 : ((m : Int) == 0) = false := beq_eq_false_iff_ne.2 (by omega)
          have HM := Lib.hid hm
          clear hpb hm hml hblt
          go_wp2_with fail
          refine CPt.out.mono ?_
          rintro e w6 ⟨A6, c6, rfl, o6, b6⟩
          have H6 := Lib.hid (And.intro (below_next HY.out.1 b6) (And.intro (Bytes.of_own o6 HLT.out) (own_cap o6)))
          clear o6 b6 CPt
          have hc6 := H6.out.2.2
          have BB : Hid (∀ W, Below w6.heap.size w6 W → Bytes W w6.heap.size A6 m pb ∧ w6.heap.size ≤ W.heap.size ∧ Below w.heap.size w W) := Lib.hid fun W hW => ⟨H6.out.2.1.below hW (Nat.le_refl _), hW.size, below_next H6.out.1 hW⟩
          have hw6 : w.heap.size ≤ w6.heap.size := H6.out.1.size
          clear H6 HY
          have CRd : Hid (∀ W B' A' n' c' l, Below w.heap.size w W → Bytes W B' A' n' l → B' ≤ W.heap.size → n' ≤ c' → Calls Tryd.prog 4 #[.slice A' n' c'] W (LawP W)) := Lib.hid fun W B' A' n' c' l hW hb hB hc => requestReads_any n' c' B' A' l W (HV.out W hW) hb hB hc
          go_wp2_with fail
          go_loopw [11] (fun i wr => ∃ n : Nat, n ≤ m + 1 ∧ i = .int .i64 (n : Int) ∧ Below w6.heap.size w6 wr) (fun i _ => m + 1 - (intOf i).toNat)
          case atStart => exact ⟨0, by omega, rfl, Below.refl _ _⟩
          case round =>
            obtain ⟨n, hn, rfl, hx⟩ := hrel
            have HZ := Lib.hid hx
            clear hx
            by_cases hnm : n ≤ m
            · have i5 : (n : Int) ≤ m := by omega
              have i6 : (0 : Int) ≤ n := by omega
              go_wp2_with fail
              refine (own_any m c6 _ A6 pb wr (BB.out wr HZ.out).1 (by omega)).mono ?_
              rintro e v3 ⟨A7, c7, rfl, o7, b7⟩
              obtain ⟨g7, rfl, hg7⟩ := own_some9 o7 (by omega)
              have F3 := Lib.hid (below_next HZ.out b7)
              have o7' := own_lower o7 HZ.out.size
              have hg7w : w6.heap.size ≤ g7 := Nat.le_trans HZ.out.size hg7
              have O7 := Lib.hid o7'
              have hc7 := own_cap o7
              clear o7 o7' b7
              obtain ⟨bt, hbt⟩ : ∃ bt, decide ((n : Int) < m) = bt := ⟨_, rfl⟩
              go_upto_if 135 with (fail)
              go_cut [] (fun wx => ∃ K2, (∀ y ∈ K2, y < 256) ∧ K2.length = m ∧ Below w6.heap.size w6 wx ∧ wx.ownsRow w6.heap.size 5 1 (.slice (some ⟨g7, 0, none⟩) m c7) m (u8s K2))
              case first =>
                cases bt
                rotate_left
                · have i7 : (n : Int) < m := of_decide_eq_true hbt
                  have hlt : n < m := by omega
                  clear hbt
                  have hcell : v3.cell? ⟨g7, n, none⟩ = some (.int .u8 ((pb.getD n 0 : Nat) : Int)) := by
                    have := O7.out.cellAt n (by omega)
                    rw [this]
                    exact u8s_at (by rw [HM.out]; exact hlt)
                  have hfz := O7.out.frozenAt n
                  have hyl : pb.getD n 0 < 256 := by
                    rw [List.getD_eq_getElem?_getD, List.getElem?_eq_getElem (by rw [HM.out]; exact hlt)]
                    exact HLT.out _ (List.getElem_mem _)
                  obtain ⟨y, hy⟩ : ∃ y, pb.getD n 0 = y := ⟨_, rfl⟩
                  rw [hy] at hcell hyl
                  have hxor : bits .xor .u8 (y : Int) 3 = ((y ^^^ 3 : Nat) : Int) := u8_xor_nat y 3 hyl (by decide)
                  have hz8 : y ^^^ 3 < 256 := Nat.xor_lt_two_pow (n := 8) hyl (by decide)
                  obtain ⟨z, hz⟩ : ∃ z, y ^^^ 3 = z := ⟨_, rfl⟩
                  rw [hz] at hxor hz8
                  have hst := O7.out.stored n (.int .u8 (z : Int))
                  rw [u8s_put9] at hst
                  have HST := Lib.hid (And.intro hst.1 (F3.out.setCell (p := ⟨g7, n, none⟩) hg7w (.int .u8 (z : Int))))
                  have HK2 : Hid (∀ q ∈ pb.set n z, q < 256) := Lib.hid (by
                    intro q hq
                    rcases List.mem_or_eq_of_mem_set hq with hq | rfl
                    · exact HLT.out q hq
                    · exact hz8)
                  have HL2 : Hid ((pb.set n z).length = m) := Lib.hid (by rw [List.length_set, HM.out])
                  clear hst hz hy hyl hz8
                  go_wp2_with fail
                  go_meet
                  exact ⟨pb.set n z, HK2.out, HL2.out, HST.out.2, HST.out.1⟩
                · have i7 : ¬ (n : Int) < m := of_decide_eq_false hbt
                  clear hbt
                  go_wp2_with fail
                  go_meet
                  exact ⟨pb, HLT.out, HM.out, F3.out, O7.out⟩
              case rest =>
              obtain ⟨K2, hk2, hl2, hb2, ho2⟩ := hcut
              have HC := Lib.hid (And.intro hk2 (And.intro hl2 (And.intro hb2 ho2)))
              clear hk2 hl2 hb2 ho2 F3 O7
              have hcut := run_cut_h (P := Tryd.prog) 29 5 iu Tryd.underlying29 HI.out.1 A6 m c6 n (by omega)
              have cn : (n : Int) % 256 = n := Int.emod_eq_of_lt (by omega) (by omega)
              have cnw : IntKind.u8.wrap (n : Int) = n := by rw [IntKind.wrap_u8]; exact cn
              go_wp2_with fail
              clear hcut
              refine (CRd.out wc _ A6 n c6 (pb.take n) (BB.out _ HC.out.2.2.1).2.2 ((BB.out _ HC.out.2.2.1).1.head hnm) (BB.out _ HC.out.2.2.1).2.1 (by omega)).mono ?_
              rintro e x1 ⟨rfl, p1⟩
              have D1 := Lib.hid (And.intro (below_next HC.out.2.2.1 p1) (own_below HC.out.2.2.2 p1))
              clear p1
              go_wp2_with fail
              refine (CRd.out x1 _ _ m c7 K2 (BB.out _ D1.out.1).2.2 (Bytes.of_own D1.out.2 HC.out.1) (Nat.le_refl _) hc7).mono ?_
              rintro e x2 ⟨rfl, p2⟩
              have D2 := Lib.hid (And.intro (below_next D1.out.1 p2) (own_below D1.out.2 p2))
              clear p2
              have D3 := Lib.hid (And.intro (D2.out.1.alloc D2.out.1.size (.cells #[.int .u8 (n : Int)] 5)) (own_below D2.out.2 ((Below.refl _ _).alloc (Nat.le_refl _) (.cells #[.int .u8 (n : Int)] 5))))
              have O3 := Lib.hid (one_cell x2 5 (.int .u8 (n : Int)))
              have hz3 := D3.out.1.size
              go_wp2_with (at_builtin; refine append_lies_g ?_ _ _ 29 rfl w6.heap.size 5 iu (.int .u8 0) 1 1 Tryd.underlying29 HI.out.1 HI.out.2.1 HI.out.2.2.1 HI.out.2.2.2 rfl (by decide) _ m (u8s K2) rfl D3.out.2 ⟨x2.heap.size, 0, none⟩ 1 1 [.int .u8 (n : Int)] rfl rfl O3.out (by simp [Value.oneCell']) (by omega) (by unfold maxLen; omega) (by omega) hz3 _ rfl ?_; (first | rfl | decide | simp [Region.wanted, yielded] | skip); intro g20 cap20 w20 hown hgrow _ _; have B20 := Lib.hid (D3.out.1.grown hgrow hz3 (fun k hk => (D3.out.2.lt k hk).1)); have O20 : Hid (w20.ownsRow w6.heap.size 5 1 (.slice (some ⟨g20, 0, none⟩) (m + 1) cap20) (m + 1) (u8s (K2 ++ [n]))) := Lib.hid (by rw [← u8s_append]; exact hown); clear hown hgrow)
              refine (CRd.out w20 _ _ (m + 1) cap20 (K2 ++ [n]) (BB.out _ B20.out).2.2 (Bytes.of_own O20.out (fun z hz => by
                rcases List.mem_append.1 hz with h | h
                · exact HC.out.1 z h
                · rw [List.mem_singleton.1 h]; omega)) (Nat.le_refl _) (own_cap O20.out)).mono ?_
              rintro e x3 ⟨rfl, p3⟩
              have D4 := Lib.hid (below_next B20.out p3)
              clear p3
              go_wp2_with fail
              exact ⟨⟨n + 1, by omega, by go_num, D4.out⟩, by simp [intOf]; omega⟩
            · have i5 : ¬ (n : Int) ≤ m := by omega
              have U := Lib.hid (BB.out wr HZ.out).2.2
              go_wp2_with fail
              refine (CRd.out wr 0 none 0 0 [] U.out Bytes.nil (by omega) (by omega)).mono ?_
              rintro e y1 ⟨rfl, p1⟩
              have U1 := Lib.hid (below_next U.out p1)
              clear p1
              go_wp2_with fail
              refine (pz_any y1 (HV.out _ U1.out)).mono ?_
              rintro e y2 ⟨rfl, p2⟩
              have U2 := Lib.hid (below_next U1.out p2)
              clear p2
              go_wp2_with fail
              refine (works9_any y2 (HV.out _ U2.out)).mono ?_
              rintro e y3 ⟨rfl, p3⟩
              have U3 := Lib.hid (below_next U2.out p3)
              clear p3
              go_wp2_with fail
              go_ret
              exact ⟨rfl, U3.out⟩
end Go.Proofs.YtgailpljcobabaaDoor
