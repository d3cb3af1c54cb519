/- Layer 8, the program: a reply, parsed. -/
import Derived.Test.YtognlgklepgemaaRpTd
import Derived.Test.YtognlgklepgemaaRpAt
namespace Go.Proofs.Ytognlgklepgemaa
open Go.ChangeShapes Go.WideShapes Go.ChangeAt Go.RowKit

namespace Rp
def s0 (b : List Nat) : Sg := ⟨⟨vl (b, false) 1, vl (nx (b, false) 1) 4, 0, false, 0, 0, 0, 0, 0, 0, none, 0, 0, none, 0, 0⟩, [], [], nx (nx (b, false) 1) 4, false⟩
def fin (b : List Nat) : Sg := (pparts (s0 b).x.k).foldl Sg.step (s0 b)
/-- Is the first byte, if there is one, no kind? -/
def tag (b : List Nat) : Bool := match b with | [] => false | y :: _ => !isK y
def Sg.done (σ : Sg) : Int := doneOf σ.s.2 σ.s.1.length
def Sg.err (σ : Sg) : Int := if σ.done = 0 then (if σ.odd || !σ.x.right σ.rows σ.gone then 81 else 0) else σ.done
def pse (b : List Nat) : Int := if tag b then 80 else (fin b).err
def psx (b : List Nat) : V := if pse b = 0 then (fin b).x else only 0 0
def psr (b : List Nat) : List Rw := if pse b = 0 then (fin b).rows else []
def psg (b : List Nat) : List Pn := if pse b = 0 then (fin b).gone else []
theorem s0_ok {b : List Nat} (h : ∀ y ∈ b, y < 256) : (s0 b).ok := by
  have h0 : St.ok (b, false) := h
  exact ⟨⟨vl_lt h0 1, vl_lt (nx_ok h0 1) 4, by show 0 < 65536; omega, by show 0 < 18446744073709551616; omega, by show 0 < 18446744073709551616; omega, by show 0 < 18446744073709551616; omega, by show 0 < 18446744073709551616; omega, by show 0 < 18446744073709551616; omega, by show 0 < 18446744073709551616; omega⟩, nx_ok (nx_ok h0 1) 4, by show 0 < 256; omega, by show 0 < 256; omega⟩
theorem fin_ok {b : List Nat} (h : ∀ y ∈ b, y < 256) : (fin b).ok := Sg.steps_ok _ (s0_ok h)
end Rp
/-- What Parse answers, in memory of its own. -/
def PsP (w : World) (b : List Nat) (e : Ending) (w' : World) : Prop :=
  ∃ A c G d, e = .returned (.tuple #[((Rp.psx b).at_ A c G d).val, .int .i64 (Rp.pse b)]) ∧ w'.ownsRow w.heap.size 81 7 (.slice A (Rp.psx b).n c) (Rp.psx b).n (rcells (Rp.psr b)) ∧ w'.ownsRow w.heap.size 77 3 (.slice G (Rp.psx b).m d) (Rp.psx b).m (pncells (Rp.psg b)) ∧ Below w.heap.size w w'
theorem psp_bad {w w' : World} {b : List Nat} {er : Int} (h : Rp.pse b = er) (h0 : er ≠ 0) (hb : Below w.heap.size w w') : PsP w b (.returned (.tuple #[.agg #[.int .u8 0, .int .u32 0, .int .u16 0, .bool false, .int .u64 0, .int .u64 0, .int .u64 0, .int .u64 0, .int .u64 0, .int .u64 0, .slice none 0 0, .slice none 0 0], .int .i64 er])) w' := by
  have e1 : Rp.psx b = Rp.only 0 0 := if_neg (by rw [h]; exact h0)
  have e2 : Rp.psr b = [] := if_neg (by rw [h]; exact h0)
  have e3 : Rp.psg b = [] := if_neg (by rw [h]; exact h0)
  unfold PsP
  rw [e1, e2, e3, h]
  exact ⟨none, 0, none, 0, rfl, own_nil _ _ _ _, own_nil _ _ _ _, hb⟩
theorem psp_good {w w' : World} {b : List Nat} {A : Option Addr} {c : Nat} {G : Option Addr} {d : Nat} {v : Value} (h : Rp.pse b = 0) (hv : ((Rp.fin b).x.at_ A c G d).val = v) (h1 : w'.ownsRow w.heap.size 81 7 (.slice A (Rp.fin b).x.n c) (Rp.fin b).x.n (rcells (Rp.fin b).rows)) (h2 : w'.ownsRow w.heap.size 77 3 (.slice G (Rp.fin b).x.m d) (Rp.fin b).x.m (pncells (Rp.fin b).gone)) (hb : Below w.heap.size w w') : PsP w b (.returned (.tuple #[v, .int .i64 0])) w' := by
  have e1 : Rp.psx b = (Rp.fin b).x := if_pos h
  have e2 : Rp.psr b = (Rp.fin b).rows := if_pos h
  have e3 : Rp.psg b = (Rp.fin b).gone := if_pos h
  unfold PsP
  rw [e1, e2, e3, h]
  exact ⟨A, c, G, d, by rw [hv], h1, h2, hb⟩
set_option maxRecDepth 100000 in
set_option maxHeartbeats 8000000 in
theorem pParse8_any (n c B : Nat) (A : Option Addr) (b : List Nat) (w : World) (hb : Bytes w B A n b) (hB : B ≤ w.heap.size) (hn : n ≤ 1000000) : Calls Try.prog 20 #[.slice A n c] w (PsP w b) := by
  obtain ⟨W1, hW1⟩ : ∃ W, w.alloc (.cells #[.int .u8 0, .int .u32 0, .int .u16 0, .bool false, .int .u64 0, .int .u64 0, .int .u64 0, .int .u64 0, .int .u64 0, .int .u64 0, .slice none 0 0, .slice none 0 0] 28) = W := ⟨_, rfl⟩
  have B1 : Below w.heap.size w W1 := by
    rw [← hW1]
    exact (Below.refl _ _).alloc (Nat.le_refl _) _
  have K1 : Blk W1 w.heap.size 28 #[.int .u8 0, .int .u32 0, .int .u16 0, .bool false, .int .u64 0, .int .u64 0, .int .u64 0, .int .u64 0, .int .u64 0, .int .u64 0, .slice none 0 0, .slice none 0 0] := by
    rw [← hW1]
    exact Blk.new w _ _
  have hz1 : w.heap.size < W1.heap.size := K1.lt
  have hlen := hb.1
  have COf : Hid (Calls Try.prog 53 #[.slice A n c] W1 (OfPost W1 b)) := Lib.hid (of_any n c B A b W1 (hb.below B1 hB) (Nat.le_trans hB B1.size) hn)
  have hok := Rp.fin_ok hb.2.1
  have hk256 : (Rp.s0 b).x.k < 256 := (Rp.s0_ok hb.2.1).1.1
  have HB := Lib.hid (And.intro B1 K1)
  by_cases h0 : 0 < n
  rotate_left
  · obtain rfl : n = 0 := by omega
    have htag : Rp.tag b = false := by
      obtain rfl : b = [] := List.eq_nil_of_length_eq_zero hlen
      rfl
    have hpse : Rp.pse b = (Rp.fin b).err := if_neg (by rw [htag]; decide)
    clear h0 hb hB htag hn B1 K1
    go_enter Try.func20, Try.ntmps20
    go_wp2_with fail
    clear hW1
    refine COf.out.mono ?_
    rintro e w3 ⟨g, rfl, hrd, hgl, b3⟩
    have hgw := hrd.here
    have b3' : Below w3.heap.size w3 (w3.alloc (.cells #[.pointer (some ⟨g, 0, none⟩), .bool false] 107)) := (Below.refl _ _).alloc (Nat.le_refl _) _
    have T3 : Tk W1 (w3.alloc (.cells #[.pointer (some ⟨g, 0, none⟩), .bool false] 107)) w3.heap.size g (b, false) false := ⟨Blk.new w3 _ _, hrd.below b3' hgw, below_next b3 b3', hgl, b3.size⟩
    have H3 := Lib.hid T3
    obtain ⟨t0, -⟩ := T3.cell
    obtain ⟨T, hT⟩ : ∃ T, w3.heap.size = T := ⟨_, rfl⟩
    have hgT : g < T := by omega
    clear hrd hgl b3 b3' T3 COf
    go_wp2_with fail
    clear t0
    refine (tk_u8 H3.out).mono ?_
    rintro e w4 ⟨rfl, k4, t4⟩
    obtain ⟨k, hk⟩ : ∃ k, Rp.vl (b, false) 1 = k := ⟨_, rfl⟩
    rw [hk]
    rw [hT] at k4
    have b4 : Below w4.heap.size w4 (w4.alloc (.cells #[.int .u8 (k : Int), .int .u32 0, .int .u16 0, .bool false, .int .u64 0, .int .u64 0, .int .u64 0, .int .u64 0, .int .u64 0, .int .u64 0, .slice none 0 0, .slice none 0 0] 28)) := (Below.refl _ _).alloc (Nat.le_refl _) _
    have H4 := Lib.hid (And.intro (k4.below b4) (Blk.new w4 28 #[.int .u8 (k : Int), .int .u32 0, .int .u16 0, .bool false, .int .u64 0, .int .u64 0, .int .u64 0, .int .u64 0, .int .u64 0, .int .u64 0, .slice none 0 0, .slice none 0 0]))
    have hgR : g < w4.heap.size := k4.here
    have hTR : T < w4.heap.size := k4.top
    obtain ⟨t0, -⟩ := H4.out.1.cell
    clear k4 t4 b4
    go_wp2_with fail
    clear t0
    refine (tk_u32 H4.out.1).mono ?_
    rintro e w5 ⟨rfl, k5, t5⟩
    obtain ⟨id, hid⟩ : ∃ k, Rp.vl (Rp.nx (b, false) 1) 4 = k := ⟨_, rfl⟩
    rw [hid]
    have K5 := t5.1 _ _ _ (by decide) H4.out.2
    have l5 : w5.cell? ⟨w4.heap.size, 1, none⟩ = some (.int .u32 0) := K5.cell 1
    have f5 := K5.frozen 1
    have k6 := k5.set (P := w4.heap.size) (i := 1) hgR (by omega) (.int .u32 (id : Int))
    have es0 : Rp.s0 b = ⟨⟨k, id, 0, false, 0, 0, 0, 0, 0, 0, none, 0, 0, none, 0, 0⟩, [], [], Rp.nx (Rp.nx (b, false) 1) 4, false⟩ := by
      unfold Rp.s0
      rw [hk, hid]
    have T6 : TkR W1 (w5.setCell ⟨w4.heap.size, 1, none⟩ (.int .u32 (id : Int))) T g w4.heap.size (Rp.s0 b) := by
      rw [es0]
      exact ⟨k6, hgT, hgR, by omega, none, 0, none, 0, K5.set_ 1 (.int .u32 (id : Int)), own_nil _ _ _ _, own_nil _ _ _ _⟩
    have H6 := Lib.hid (take_visit W1 _ T g w4.heap.size (Rp.s0 b).x.k (Rp.s0 b) T6 rfl hk256)
    clear k5 t5 K5 k6 es0 T6
    go_wp2_with fail
    clear l5 f5
    refine H6.out.mono ?_
    rintro e w6 ⟨rfl, hfin⟩
    have efin : (Rp.pparts (Rp.s0 b).x.k).foldl Rp.Sg.step (Rp.s0 b) = Rp.fin b := rfl
    rw [efin] at hfin
    clear efin
    obtain ⟨ht6, -, -, -, A5, c5, G5, d5, hbR, ho1, ho2⟩ := hfin
    have hP0 := HB.out.2.below ht6.2.2.1 hz1
    have hb6 : Below w.heap.size w w6 := below_next HB.out.1 ht6.2.2.1
    obtain ⟨t0, t1, -⟩ := ht6.cell
    have CD := Lib.hid (done_any _ g _ _ w6 ht6.2.1)
    obtain ⟨dn, hdn⟩ : ∃ dn, doneOf (Rp.fin b).s.2 (Rp.fin b).s.1.length = dn := ⟨_, rfl⟩
    rw [hdn] at CD
    have herr : Rp.pse b = if dn = 0 then (if (Rp.fin b).odd || !(Rp.fin b).x.right (Rp.fin b).rows (Rp.fin b).gone then 81 else 0) else dn := by
      rw [hpse]
      unfold Rp.Sg.err Rp.Sg.done
      rw [hdn]
    have HE := Lib.hid herr
    have HH := Lib.hid (And.intro hbR (And.intro ho1 (And.intro ho2 (And.intro hb6 hP0))))
    clear hpse herr hdn H6 H3 H4 hk hid
    have p0 := hP0.cell 0
    have q0 := hP0.frozen 0
    have p1 := hP0.cell 1
    have q1 := hP0.frozen 1
    have p2 := hP0.cell 2
    have q2 := hP0.frozen 2
    have p3 := hP0.cell 3
    have q3 := hP0.frozen 3
    have p4 := hP0.cell 4
    have q4 := hP0.frozen 4
    have p5 := hP0.cell 5
    have q5 := hP0.frozen 5
    have p6 := hP0.cell 6
    have q6 := hP0.frozen 6
    have p7 := hP0.cell 7
    have q7 := hP0.frozen 7
    have p8 := hP0.cell 8
    have q8 := hP0.frozen 8
    have p9 := hP0.cell 9
    have q9 := hP0.frozen 9
    have p10 := hP0.cell 10
    have q10 := hP0.frozen 10
    have p11 := hP0.cell 11
    have q11 := hP0.frozen 11
    have CRt : Hid (∀ W, Below w6.heap.size w6 W → Calls Try.prog 14 #[((Rp.fin b).x.at_ A5 c5 G5 d5).val] W fun e w' => e = .returned (.bool ((Rp.fin b).x.right (Rp.fin b).rows (Rp.fin b).gone)) ∧ Below W.heap.size W w') := Lib.hid fun W hW => by
      have h := pRight8_any ((Rp.fin b).x.at_ A5 c5 G5 d5) (Rp.fin b).rows (Rp.fin b).gone w6.heap.size W ⟨(RowsIn.of_own ho1).below hW (Nat.le_refl _), (PansIn.of_own ho2).below hW (Nat.le_refl _)⟩ hW.size hok.1 (Nat.le_of_lt (Nat.lt_of_lt_of_le hok.2.2.1 (by omega))) (Nat.le_of_lt (Nat.lt_of_lt_of_le hok.2.2.2 (by omega)))
      rw [Rp.right_at] at h
      exact h
    have PG : Hid (∀ w', Rp.pse b = 0 → w'.ownsRow w.heap.size 81 7 (.slice A5 (Rp.fin b).x.n c5) (Rp.fin b).x.n (rcells (Rp.fin b).rows) → w'.ownsRow w.heap.size 77 3 (.slice G5 (Rp.fin b).x.m d5) (Rp.fin b).x.m (pncells (Rp.fin b).gone) → Below w.heap.size w w' → PsP w b (.returned (.tuple #[((Rp.fin b).x.at_ A5 c5 G5 d5).val, .int .i64 0])) w') := Lib.hid fun w' h h1 h2 hb => psp_good h rfl h1 h2 hb
    obtain ⟨σ, hσ⟩ : ∃ σ, Rp.fin b = σ := ⟨_, rfl⟩
    rw [hσ] at HE HH CRt PG t1
    clear hok hbR ho1 ho2 hb6 hP0 hσ ht6
    obtain ⟨⟨xk, xid, xcode, xlast, xep, xfl, xun, xle, xst, xti, xA, xn, xc, xG, xm, xd⟩, rows, gone, ss, odd⟩ := σ
    unfold Rp.V.at_ at CRt PG HH
    unfold Rp.V.val at CRt PG
    unfold Rp.V.cells at CRt PG HH
    dsimp only at HE HH CRt PG t1
    obtain ⟨rt, hrt⟩ : ∃ r, Rp.V.right ⟨xk, xid, xcode, xlast, xep, xfl, xun, xle, xst, xti, xA, xn, xc, xG, xm, xd⟩ rows gone = r := ⟨_, rfl⟩
    rw [hrt] at HE CRt
    clear hrt
    obtain ⟨rc0, rc1, rc2, rc3, rc4, rc5, rc6, rc7, rc8, rc9, rc10, rc11⟩ := (rep_cells (Y := ⟨xk, xid, xcode, xlast, xep, xfl, xun, xle, xst, xti, A5, xn, c5, G5, xm, d5⟩) HH.out.1).1
    go_wp2_with fail
    clear t0
    refine CD.out.mono ?_
    rintro e w7 ⟨rfl, rfl⟩
    by_cases hd0 : dn = 0
    rotate_left
    · have i7 : (dn == 0) = false := by rw [beq_eq_false_iff_ne]; exact hd0
      have i8 : (dn != 0) = true := by rw [bne_iff_ne]; exact hd0
      have HP := Lib.hid (show Rp.pse b = dn by rw [HE.out, if_neg hd0])
      have HD := Lib.hid hd0
      go_wp2_with fail
      refine bodyPost_ret (v := .tuple #[.agg #[.int .u8 0, .int .u32 0, .int .u16 0, .bool false, .int .u64 0, .int .u64 0, .int .u64 0, .int .u64 0, .int .u64 0, .int .u64 0, .slice none 0 0, .slice none 0 0], .int .i64 dn]) ?_ rfl (psp_bad HP.out HD.out (below_12 HH.out.2.2.2.1 (Nat.le_refl _) _ _ _ _ _ _ _ _ _ _ _ _))
      simp [results, Try.results20, go_sem, p0, p1, p2, p3, p4, p5, p6, p7, p8, p9, p10, p11]
    subst hd0
    cases odd
    rotate_left
    · have HP := Lib.hid (show Rp.pse b = 81 by rw [HE.out]; rfl)
      go_wp2_with fail
      refine bodyPost_ret (v := .tuple #[.agg #[.int .u8 0, .int .u32 0, .int .u16 0, .bool false, .int .u64 0, .int .u64 0, .int .u64 0, .int .u64 0, .int .u64 0, .int .u64 0, .slice none 0 0, .slice none 0 0], .int .i64 81]) ?_ rfl (psp_bad HP.out (by decide) (below_12 HH.out.2.2.2.1 (Nat.le_refl _) _ _ _ _ _ _ _ _ _ _ _ _))
      simp [results, Try.results20, go_sem, p0, p1, p2, p3, p4, p5, p6, p7, p8, p9, p10, p11]
    go_wp2_with fail
    refine (CRt.out _ (Below.refl _ _)).mono ?_
    rintro e w8 ⟨rfl, b8⟩
    have hP8 := HH.out.2.2.2.2.below b8 HH.out.2.2.2.2.lt
    have hR8 := HH.out.1.below b8 HH.out.1.lt
    have H8 := Lib.hid (And.intro hP8 (And.intro (own_below HH.out.2.1 b8) (And.intro (own_below HH.out.2.2.1 b8) (below_next HH.out.2.2.2.1 b8))))
    clear p0 p1 p2 p3 p4 p5 p6 p7 p8 p9 p10 p11 q0 q1 q2 q3 q4 q5 q6 q7 q8 q9 q10 q11 rc0 rc1 rc2 rc3 rc4 rc5 rc6 rc7 rc8 rc9 rc10 rc11 t1
    have p0 := hP8.cell 0
    have q0 := hP8.frozen 0
    have p1 := hP8.cell 1
    have q1 := hP8.frozen 1
    have p2 := hP8.cell 2
    have q2 := hP8.frozen 2
    have p3 := hP8.cell 3
    have q3 := hP8.frozen 3
    have p4 := hP8.cell 4
    have q4 := hP8.frozen 4
    have p5 := hP8.cell 5
    have q5 := hP8.frozen 5
    have p6 := hP8.cell 6
    have q6 := hP8.frozen 6
    have p7 := hP8.cell 7
    have q7 := hP8.frozen 7
    have p8 := hP8.cell 8
    have q8 := hP8.frozen 8
    have p9 := hP8.cell 9
    have q9 := hP8.frozen 9
    have p10 := hP8.cell 10
    have q10 := hP8.frozen 10
    have p11 := hP8.cell 11
    have q11 := hP8.frozen 11
    obtain ⟨rc0, rc1, rc2, rc3, rc4, rc5, rc6, rc7, rc8, rc9, rc10, rc11⟩ := (rep_cells (Y := ⟨xk, xid, xcode, xlast, xep, xfl, xun, xle, xst, xti, A5, xn, c5, G5, xm, d5⟩) hR8).1
    clear hP8 hR8 b8
    cases rt
    · have HP := Lib.hid (show Rp.pse b = 81 by rw [HE.out]; rfl)
      go_wp2_with fail
      refine bodyPost_ret (v := .tuple #[.agg #[.int .u8 0, .int .u32 0, .int .u16 0, .bool false, .int .u64 0, .int .u64 0, .int .u64 0, .int .u64 0, .int .u64 0, .int .u64 0, .slice none 0 0, .slice none 0 0], .int .i64 81]) ?_ rfl (psp_bad HP.out (by decide) (below_12 H8.out.2.2.2 (Nat.le_refl _) _ _ _ _ _ _ _ _ _ _ _ _))
      simp [results, Try.results20, go_sem, p0, p1, p2, p3, p4, p5, p6, p7, p8, p9, p10, p11]
    · have HP := Lib.hid (show Rp.pse b = 0 by rw [HE.out]; rfl)
      go_wp2_with fail
      refine bodyPost_ret (v := .tuple #[.agg #[.int .u8 (xk : Int), .int .u32 (xid : Int), .int .u16 (xcode : Int), .bool xlast, .int .u64 (xep : Int), .int .u64 (xfl : Int), .int .u64 (xun : Int), .int .u64 (xle : Int), .int .u64 (xst : Int), .int .u64 (xti : Int), .slice A5 xn c5, .slice G5 xm d5], .int .i64 0]) ?_ rfl (PG.out _ HP.out (own_off (own_lower H8.out.2.1 (Nat.le_of_lt hz1)) (grown_12 _ _ _ _ _ _ _ _ _ _ _ _ _ _) H8.out.1 (by decide)) (own_off (own_lower H8.out.2.2.1 (Nat.le_of_lt hz1)) (grown_12 _ _ _ _ _ _ _ _ _ _ _ _ _ _) H8.out.1 (by decide)) (below_12 H8.out.2.2.2 (Nat.le_refl _) _ _ _ _ _ _ _ _ _ _ _ _))
      simp [results, Try.results20, go_sem, p0, p1, p2, p3, p4, p5, p6, p7, p8, p9, p10, p11]
  · obtain ⟨bb, off, rfl, hbb, hc⟩ := hb.2.2 h0
    have hc0 := hc 0 h0
    rw [Nat.add_zero] at hc0
    obtain ⟨y, hy⟩ : ∃ y, b.getD 0 0 = y := ⟨_, rfl⟩
    have hy256 := hb.lt 0
    rw [hy] at hc0 hy256
    have d0 : W1.cell? ⟨bb, off, none⟩ = some (.int .u8 (y : Int)) := (B1.cell (p := ⟨bb, off, none⟩) (by show bb < w.heap.size; omega)).trans hc0
    have i1 : (0 : Int) < n := by omega
    have htag : Rp.tag b = !Rp.isK y := by
      cases b with
      | nil => simp at hlen; omega
      | cons z l =>
        have : z = y := by simpa using hy
        subst this
        rfl
    have CK := Lib.hid (isKind_any y W1 hy256)
    cases hK : Rp.isK y
    · have hpse : Rp.pse b = 80 := if_pos (by rw [htag, hK]; rfl)
      rw [hK] at CK
      clear hb hB hn h0 hc hc0 hy hy256 hlen hok hk256 B1 htag hK
      have p0 := K1.cell 0
      have p1 := K1.cell 1
      have p2 := K1.cell 2
      have p3 := K1.cell 3
      have p4 := K1.cell 4
      have p5 := K1.cell 5
      have p6 := K1.cell 6
      have p7 := K1.cell 7
      have p8 := K1.cell 8
      have p9 := K1.cell 9
      have p10 := K1.cell 10
      have p11 := K1.cell 11
      have q0 := K1.frozen 0
      have q1 := K1.frozen 1
      have q2 := K1.frozen 2
      have q3 := K1.frozen 3
      have q4 := K1.frozen 4
      have q5 := K1.frozen 5
      have q6 := K1.frozen 6
      have q7 := K1.frozen 7
      have q8 := K1.frozen 8
      have q9 := K1.frozen 9
      have q10 := K1.frozen 10
      have q11 := K1.frozen 11
      have HP := Lib.hid hpse
      clear K1 hpse
      go_enter Try.func20, Try.ntmps20
      go_wp2_with fail
      clear hW1
      refine CK.out.mono ?_
      rintro e w2 ⟨rfl, rfl⟩
      go_wp2_with fail
      refine bodyPost_ret (v := .tuple #[.agg #[.int .u8 0, .int .u32 0, .int .u16 0, .bool false, .int .u64 0, .int .u64 0, .int .u64 0, .int .u64 0, .int .u64 0, .int .u64 0, .slice none 0 0, .slice none 0 0], .int .i64 80]) ?_ rfl (psp_bad HP.out (by decide) (below_12 HB.out.1 (Nat.le_refl _) _ _ _ _ _ _ _ _ _ _ _ _))
      simp [results, Try.results20, go_sem, p0, p1, p2, p3, p4, p5, p6, p7, p8, p9, p10, p11]
    · have hpse : Rp.pse b = (Rp.fin b).err := if_neg (by rw [htag, hK]; decide)
      rw [hK] at CK
      clear hb hB hn h0 hc hc0 hy hy256 B1 K1 htag hK
      go_enter Try.func20, Try.ntmps20
      go_wp2_with fail
      clear hW1
      refine CK.out.mono ?_
      rintro e w2 ⟨rfl, rfl⟩
      go_wp2_with fail
      clear d0 i1
      refine COf.out.mono ?_
      rintro e w3 ⟨g, rfl, hrd, hgl, b3⟩
      have hgw := hrd.here
      have b3' : Below w3.heap.size w3 (w3.alloc (.cells #[.pointer (some ⟨g, 0, none⟩), .bool false] 107)) := (Below.refl _ _).alloc (Nat.le_refl _) _
      have T3 : Tk W1 (w3.alloc (.cells #[.pointer (some ⟨g, 0, none⟩), .bool false] 107)) w3.heap.size g (b, false) false := ⟨Blk.new w3 _ _, hrd.below b3' hgw, below_next b3 b3', hgl, b3.size⟩
      have H3 := Lib.hid T3
      obtain ⟨t0, -⟩ := T3.cell
      obtain ⟨T, hT⟩ : ∃ T, w3.heap.size = T := ⟨_, rfl⟩
      have hgT : g < T := by omega
      clear hrd hgl b3 b3' T3 COf
      go_wp2_with fail
      clear t0
      refine (tk_u8 H3.out).mono ?_
      rintro e w4 ⟨rfl, k4, t4⟩
      obtain ⟨k, hk⟩ : ∃ k, Rp.vl (b, false) 1 = k := ⟨_, rfl⟩
      rw [hk]
      rw [hT] at k4
      have b4 : Below w4.heap.size w4 (w4.alloc (.cells #[.int .u8 (k : Int), .int .u32 0, .int .u16 0, .bool false, .int .u64 0, .int .u64 0, .int .u64 0, .int .u64 0, .int .u64 0, .int .u64 0, .slice none 0 0, .slice none 0 0] 28)) := (Below.refl _ _).alloc (Nat.le_refl _) _
      have H4 := Lib.hid (And.intro (k4.below b4) (Blk.new w4 28 #[.int .u8 (k : Int), .int .u32 0, .int .u16 0, .bool false, .int .u64 0, .int .u64 0, .int .u64 0, .int .u64 0, .int .u64 0, .int .u64 0, .slice none 0 0, .slice none 0 0]))
      have hgR : g < w4.heap.size := k4.here
      have hTR : T < w4.heap.size := k4.top
      obtain ⟨t0, -⟩ := H4.out.1.cell
      clear k4 t4 b4
      go_wp2_with fail
      clear t0
      refine (tk_u32 H4.out.1).mono ?_
      rintro e w5 ⟨rfl, k5, t5⟩
      obtain ⟨id, hid⟩ : ∃ k, Rp.vl (Rp.nx (b, false) 1) 4 = k := ⟨_, rfl⟩
      rw [hid]
      have K5 := t5.1 _ _ _ (by decide) H4.out.2
      have l5 : w5.cell? ⟨w4.heap.size, 1, none⟩ = some (.int .u32 0) := K5.cell 1
      have f5 := K5.frozen 1
      have k6 := k5.set (P := w4.heap.size) (i := 1) hgR (by omega) (.int .u32 (id : Int))
      have es0 : Rp.s0 b = ⟨⟨k, id, 0, false, 0, 0, 0, 0, 0, 0, none, 0, 0, none, 0, 0⟩, [], [], Rp.nx (Rp.nx (b, false) 1) 4, false⟩ := by
        unfold Rp.s0
        rw [hk, hid]
      have T6 : TkR W1 (w5.setCell ⟨w4.heap.size, 1, none⟩ (.int .u32 (id : Int))) T g w4.heap.size (Rp.s0 b) := by
        rw [es0]
        exact ⟨k6, hgT, hgR, by omega, none, 0, none, 0, K5.set_ 1 (.int .u32 (id : Int)), own_nil _ _ _ _, own_nil _ _ _ _⟩
      have H6 := Lib.hid (take_visit W1 _ T g w4.heap.size (Rp.s0 b).x.k (Rp.s0 b) T6 rfl hk256)
      clear k5 t5 K5 k6 es0 T6
      go_wp2_with fail
      clear l5 f5
      refine H6.out.mono ?_
      rintro e w6 ⟨rfl, hfin⟩
      have efin : (Rp.pparts (Rp.s0 b).x.k).foldl Rp.Sg.step (Rp.s0 b) = Rp.fin b := rfl
      rw [efin] at hfin
      clear efin
      obtain ⟨ht6, -, -, -, A5, c5, G5, d5, hbR, ho1, ho2⟩ := hfin
      have hP0 := HB.out.2.below ht6.2.2.1 hz1
      have hb6 : Below w.heap.size w w6 := below_next HB.out.1 ht6.2.2.1
      obtain ⟨t0, t1, -⟩ := ht6.cell
      have CD := Lib.hid (done_any _ g _ _ w6 ht6.2.1)
      obtain ⟨dn, hdn⟩ : ∃ dn, doneOf (Rp.fin b).s.2 (Rp.fin b).s.1.length = dn := ⟨_, rfl⟩
      rw [hdn] at CD
      have herr : Rp.pse b = if dn = 0 then (if (Rp.fin b).odd || !(Rp.fin b).x.right (Rp.fin b).rows (Rp.fin b).gone then 81 else 0) else dn := by
        rw [hpse]
        unfold Rp.Sg.err Rp.Sg.done
        rw [hdn]
      have HE := Lib.hid herr
      have HH := Lib.hid (And.intro hbR (And.intro ho1 (And.intro ho2 (And.intro hb6 hP0))))
      clear hpse herr hdn H6 H3 H4 hk hid
      have p0 := hP0.cell 0
      have q0 := hP0.frozen 0
      have p1 := hP0.cell 1
      have q1 := hP0.frozen 1
      have p2 := hP0.cell 2
      have q2 := hP0.frozen 2
      have p3 := hP0.cell 3
      have q3 := hP0.frozen 3
      have p4 := hP0.cell 4
      have q4 := hP0.frozen 4
      have p5 := hP0.cell 5
      have q5 := hP0.frozen 5
      have p6 := hP0.cell 6
      have q6 := hP0.frozen 6
      have p7 := hP0.cell 7
      have q7 := hP0.frozen 7
      have p8 := hP0.cell 8
      have q8 := hP0.frozen 8
      have p9 := hP0.cell 9
      have q9 := hP0.frozen 9
      have p10 := hP0.cell 10
      have q10 := hP0.frozen 10
      have p11 := hP0.cell 11
      have q11 := hP0.frozen 11
      have CRt : Hid (∀ W, Below w6.heap.size w6 W → Calls Try.prog 14 #[((Rp.fin b).x.at_ A5 c5 G5 d5).val] W fun e w' => e = .returned (.bool ((Rp.fin b).x.right (Rp.fin b).rows (Rp.fin b).gone)) ∧ Below W.heap.size W w') := Lib.hid fun W hW => by
        have h := pRight8_any ((Rp.fin b).x.at_ A5 c5 G5 d5) (Rp.fin b).rows (Rp.fin b).gone w6.heap.size W ⟨(RowsIn.of_own ho1).below hW (Nat.le_refl _), (PansIn.of_own ho2).below hW (Nat.le_refl _)⟩ hW.size hok.1 (Nat.le_of_lt (Nat.lt_of_lt_of_le hok.2.2.1 (by omega))) (Nat.le_of_lt (Nat.lt_of_lt_of_le hok.2.2.2 (by omega)))
        rw [Rp.right_at] at h
        exact h
      have PG : Hid (∀ w', Rp.pse b = 0 → w'.ownsRow w.heap.size 81 7 (.slice A5 (Rp.fin b).x.n c5) (Rp.fin b).x.n (rcells (Rp.fin b).rows) → w'.ownsRow w.heap.size 77 3 (.slice G5 (Rp.fin b).x.m d5) (Rp.fin b).x.m (pncells (Rp.fin b).gone) → Below w.heap.size w w' → PsP w b (.returned (.tuple #[((Rp.fin b).x.at_ A5 c5 G5 d5).val, .int .i64 0])) w') := Lib.hid fun w' h h1 h2 hb => psp_good h rfl h1 h2 hb
      obtain ⟨σ, hσ⟩ : ∃ σ, Rp.fin b = σ := ⟨_, rfl⟩
      rw [hσ] at HE HH CRt PG t1
      clear hok hbR ho1 ho2 hb6 hP0 hσ ht6
      obtain ⟨⟨xk, xid, xcode, xlast, xep, xfl, xun, xle, xst, xti, xA, xn, xc, xG, xm, xd⟩, rows, gone, ss, odd⟩ := σ
      unfold Rp.V.at_ at CRt PG HH
      unfold Rp.V.val at CRt PG
      unfold Rp.V.cells at CRt PG HH
      dsimp only at HE HH CRt PG t1
      obtain ⟨rt, hrt⟩ : ∃ r, Rp.V.right ⟨xk, xid, xcode, xlast, xep, xfl, xun, xle, xst, xti, xA, xn, xc, xG, xm, xd⟩ rows gone = r := ⟨_, rfl⟩
      rw [hrt] at HE CRt
      clear hrt
      obtain ⟨rc0, rc1, rc2, rc3, rc4, rc5, rc6, rc7, rc8, rc9, rc10, rc11⟩ := (rep_cells (Y := ⟨xk, xid, xcode, xlast, xep, xfl, xun, xle, xst, xti, A5, xn, c5, G5, xm, d5⟩) HH.out.1).1
      go_wp2_with fail
      clear t0
      refine CD.out.mono ?_
      rintro e w7 ⟨rfl, rfl⟩
      by_cases hd0 : dn = 0
      rotate_left
      · have i7 : (dn == 0) = false := by rw [beq_eq_false_iff_ne]; exact hd0
        have i8 : (dn != 0) = true := by rw [bne_iff_ne]; exact hd0
        have HP := Lib.hid (show Rp.pse b = dn by rw [HE.out, if_neg hd0])
        have HD := Lib.hid hd0
        go_wp2_with fail
        refine bodyPost_ret (v := .tuple #[.agg #[.int .u8 0, .int .u32 0, .int .u16 0, .bool false, .int .u64 0, .int .u64 0, .int .u64 0, .int .u64 0, .int .u64 0, .int .u64 0, .slice none 0 0, .slice none 0 0], .int .i64 dn]) ?_ rfl (psp_bad HP.out HD.out (below_12 HH.out.2.2.2.1 (Nat.le_refl _) _ _ _ _ _ _ _ _ _ _ _ _))
        simp [results, Try.results20, go_sem, p0, p1, p2, p3, p4, p5, p6, p7, p8, p9, p10, p11]
      subst hd0
      cases odd
      rotate_left
      · have HP := Lib.hid (show Rp.pse b = 81 by rw [HE.out]; rfl)
        go_wp2_with fail
        refine bodyPost_ret (v := .tuple #[.agg #[.int .u8 0, .int .u32 0, .int .u16 0, .bool false, .int .u64 0, .int .u64 0, .int .u64 0, .int .u64 0, .int .u64 0, .int .u64 0, .slice none 0 0, .slice none 0 0], .int .i64 81]) ?_ rfl (psp_bad HP.out (by decide) (below_12 HH.out.2.2.2.1 (Nat.le_refl _) _ _ _ _ _ _ _ _ _ _ _ _))
        simp [results, Try.results20, go_sem, p0, p1, p2, p3, p4, p5, p6, p7, p8, p9, p10, p11]
      go_wp2_with fail
      refine (CRt.out _ (Below.refl _ _)).mono ?_
      rintro e w8 ⟨rfl, b8⟩
      have hP8 := HH.out.2.2.2.2.below b8 HH.out.2.2.2.2.lt
      have hR8 := HH.out.1.below b8 HH.out.1.lt
      have H8 := Lib.hid (And.intro hP8 (And.intro (own_below HH.out.2.1 b8) (And.intro (own_below HH.out.2.2.1 b8) (below_next HH.out.2.2.2.1 b8))))
      clear p0 p1 p2 p3 p4 p5 p6 p7 p8 p9 p10 p11 q0 q1 q2 q3 q4 q5 q6 q7 q8 q9 q10 q11 rc0 rc1 rc2 rc3 rc4 rc5 rc6 rc7 rc8 rc9 rc10 rc11 t1
      have p0 := hP8.cell 0
      have q0 := hP8.frozen 0
      have p1 := hP8.cell 1
      have q1 := hP8.frozen 1
      have p2 := hP8.cell 2
      have q2 := hP8.frozen 2
      have p3 := hP8.cell 3
      have q3 := hP8.frozen 3
      have p4 := hP8.cell 4
      have q4 := hP8.frozen 4
      have p5 := hP8.cell 5
      have q5 := hP8.frozen 5
      have p6 := hP8.cell 6
      have q6 := hP8.frozen 6
      have p7 := hP8.cell 7
      have q7 := hP8.frozen 7
      have p8 := hP8.cell 8
      have q8 := hP8.frozen 8
      have p9 := hP8.cell 9
      have q9 := hP8.frozen 9
      have p10 := hP8.cell 10
      have q10 := hP8.frozen 10
      have p11 := hP8.cell 11
      have q11 := hP8.frozen 11
      obtain ⟨rc0, rc1, rc2, rc3, rc4, rc5, rc6, rc7, rc8, rc9, rc10, rc11⟩ := (rep_cells (Y := ⟨xk, xid, xcode, xlast, xep, xfl, xun, xle, xst, xti, A5, xn, c5, G5, xm, d5⟩) hR8).1
      clear hP8 hR8 b8
      cases rt
      · have HP := Lib.hid (show Rp.pse b = 81 by rw [HE.out]; rfl)
        go_wp2_with fail
        refine bodyPost_ret (v := .tuple #[.agg #[.int .u8 0, .int .u32 0, .int .u16 0, .bool false, .int .u64 0, .int .u64 0, .int .u64 0, .int .u64 0, .int .u64 0, .int .u64 0, .slice none 0 0, .slice none 0 0], .int .i64 81]) ?_ rfl (psp_bad HP.out (by decide) (below_12 H8.out.2.2.2 (Nat.le_refl _) _ _ _ _ _ _ _ _ _ _ _ _))
        simp [results, Try.results20, go_sem, p0, p1, p2, p3, p4, p5, p6, p7, p8, p9, p10, p11]
      · have HP := Lib.hid (show Rp.pse b = 0 by rw [HE.out]; rfl)
        go_wp2_with fail
        refine bodyPost_ret (v := .tuple #[.agg #[.int .u8 (xk : Int), .int .u32 (xid : Int), .int .u16 (xcode : Int), .bool xlast, .int .u64 (xep : Int), .int .u64 (xfl : Int), .int .u64 (xun : Int), .int .u64 (xle : Int), .int .u64 (xst : Int), .int .u64 (xti : Int), .slice A5 xn c5, .slice G5 xm d5], .int .i64 0]) ?_ rfl (PG.out _ HP.out (own_off (own_lower H8.out.2.1 (Nat.le_of_lt hz1)) (grown_12 _ _ _ _ _ _ _ _ _ _ _ _ _ _) H8.out.1 (by decide)) (own_off (own_lower H8.out.2.2.1 (Nat.le_of_lt hz1)) (grown_12 _ _ _ _ _ _ _ _ _ _ _ _ _ _) H8.out.1 (by decide)) (below_12 H8.out.2.2.2 (Nat.le_refl _) _ _ _ _ _ _ _ _ _ _ _ _))
        simp [results, Try.results20, go_sem, p0, p1, p2, p3, p4, p5, p6, p7, p8, p9, p10, p11]
end Go.Proofs.Ytognlgklepgemaa
